/- ShareCombines: the call. -/
import Derived.Test.YtineieoghlbchaaDoorRComb
namespace Go.Proofs.YtineieoghlbchaaDoor
open Go.RowKit

theorem tk_long {L M : List Sh} (h : tkey M = tkey L) : anyLong M = anyLong L := by
  have e : ∀ L, anyLong L = (tkey L).any (fun p => decide ((1024 : Int) < p.2.1)) := fun L => by unfold anyLong tkey; rw [List.any_map]; rfl
  rw [e, e, h]
theorem tk_same {L M : List Sh} (m : Nat) (h : tkey M = tkey L) : sameB m M = sameB m L := by
  have e : ∀ L, sameB m L = (tkey L).all (fun p => decide (p.2.1 = m)) := fun L => by unfold sameB tkey; rw [List.all_map]; rfl
  rw [e, e, h]
theorem tk_x {L M : List Sh} (h : tkey M = tkey L) : M.map Sh.x = L.map Sh.x := by
  have e : ∀ L, L.map Sh.x = (tkey L).map (·.1) := fun L => by unfold tkey; rw [List.map_map]; rfl
  rw [e, e, h]
theorem tk_at {L M : List Sh} (h : tkey M = tkey L) : atJ M = atJ L := by
  funext j
  have e : ∀ L : List Sh, L.map (fun s => s.ys.getD j 0#8) = (tkey L).map (fun p => p.2.2.getD j 0#8) := fun L => by unfold tkey; rw [List.map_map]; rfl
  unfold atJ
  rw [tk_x h, e, e, h]
theorem tk_cE {L M : List Sh} (h : tkey M = tkey L) : cE M = cE L := by
  have hl := tkey_len h
  by_cases h1 : L.length = 0 ∨ 16 < L.length
  · rw [cE_arg h1, cE_arg (by omega)]
  · have h0 := List.getElem?_eq_getElem (l := L) (i := 0) (by omega)
    have m0 := List.getElem?_eq_getElem (l := M) (i := 0) (by omega)
    obtain ⟨_, e, _⟩ := tkey_at h m0 h0
    rw [cE_of h0 (by omega), cE_of m0 (by omega), tk_long h, e]
    unfold goodAll
    rw [tk_same _ h, tk_x h]
theorem cL_bad {L : List Sh} (h : cE L ≠ 0) : cL L = [] := by
  cases L with
  | nil => rfl
  | cons s r => unfold cL; exact if_neg h
theorem tk_cL {L M : List Sh} (h : tkey M = tkey L) : cL M = cL L := by
  have hl := tkey_len h
  by_cases hc : cE L = 0
  · have hn : L.length ≠ 0 := fun e => by rw [cE_arg (.inl e)] at hc; cases hc
    have h0 := List.getElem?_eq_getElem (l := L) (i := 0) (by omega)
    have m0 := List.getElem?_eq_getElem (l := M) (i := 0) (by omega)
    obtain ⟨_, e, _⟩ := tkey_at h m0 h0
    rw [cL_of h0 hc, cL_of m0 (by rw [tk_cE h]; exact hc), tk_at h, e]
  · rw [cL_bad hc, cL_bad (by rw [tk_cE h]; exact hc)]

theorem cL_le (L : List Sh) (h : ∀ s ∈ L, s.n ≤ 65536) : (cL L).length ≤ 65536 := by
  cases L with
  | nil => simp [cL]
  | cons s r =>
    by_cases hc : cE (s :: r) = 0
    · rw [cL_of (s0 := s) rfl hc, List.length_map, List.length_range]; exact h s (by simp)
    · rw [cL_bad hc]; simp

set_option maxRecDepth 100000 in
set_option maxHeartbeats 2000000 in
theorem combs_walk (ao : Option Addr) (n c : Nat) (k : Int) (L : List Sh) (w : World) (hs : Shs w ao n L) (hn : (n : Int) ≤ 9223372036854775807) (hk : k ≤ 9223372036854775807) (ht : Tab w) (h0 : 0 < w.heap.size) :
    Calls Tryd.prog 4 #[.slice ao n c, .int .i64 k] w fun e w' => e = .returned (.bool true) ∧ Below w.heap.size w w' := by
  have hva := vast_any ao n c L w hs hn
  have hw0 := works_any w ht h0
  go_enter Tryd.func4, Tryd.ntmps4
  go_wp2_with fail
  refine hva.mono ?_
  rintro e w' ⟨b, rfl, hvb, rfl⟩
  cases b
  · obtain ⟨_, hln⟩ := hvb rfl
    by_cases h3 : (300 : Int) < n
    · go_wp2_with fail
      refine hw0.mono ?_
      rintro e w1 ⟨rfl, hb⟩
      go_wp2
      go_ret
      exact ⟨rfl, hb⟩
    · have htw := twin_any ao n c L w hs (by omega) (fun s h => by have := hln s h; omega)
      go_wp2_with fail
      refine htw.mono ?_
      rintro e w1 ⟨tv, M, rfl, hT, hK, hb1⟩
      obtain ⟨mo, mc, rfl, hM, -⟩ := hT.owns.shs
      have hcm := combine_any mo n mc M w1 hM
      unfold Combd at hcm
      rw [tk_cE hK, tk_cL hK] at hcm
      have hrm := fun W (hb : Below w.heap.size w W) => rcombine_any ao n c L W (hs.later hb)
      unfold Combd at hrm
      obtain ⟨E, hE⟩ : ∃ E, E = cE L := ⟨_, rfl⟩
      have hq6 : (cL L).length ≤ 65536 := cL_le L hln
      obtain ⟨cs, hcs⟩ : ∃ cs, cs = cL L := ⟨_, rfl⟩
      rw [← hcs] at hq6
      rw [← hE, ← hcs] at hcm
      rw [← hE] at hrm
      simp only [← hcs] at hrm
      obtain ⟨q, HQ⟩ : ∃ q, Hid (q = cs.length) := ⟨_, rfl⟩
      rw [← HQ.out] at hcm hrm hq6
      clear hE hcs hva htw
      go_wp2_with fail
      refine hcm.mono ?_
      rintro e w2 ⟨v, rfl, hv2, hb2⟩
      obtain ⟨bo, bc, rfl, hbs, -⟩ := own_shape hv2.own (v8s_rng _)
      have B2 : Below w.heap.size w w2 := hb1.trans (hb2.mono hb1.size)
      go_wp2_with fail
      refine (hrm w2 B2).mono ?_
      rintro e w3 ⟨v', rfl, hv3, hb3⟩
      obtain ⟨co, cc, rfl, hcs3, -⟩ := own_shape hv3.own (v8s_rng _)
      have B3 : Below w.heap.size w w3 := B2.trans (hb3.mono B2.size)
      have heq := eqB_same bo co q q bc cc (cs.map v8) (cs.map v8) w3 (hbs.later hb3) hcs3
      simp only [decide_true] at heq
      have hT3 := (hT.later hb2).later hb3
      have hkp := fun W (hb : Below w3.heap.size w3 W) => keptS_any w.heap.size ao mo n c mc L M W (hs.later (B3.trans (hb.mono B3.size))) (hT3.later hb) hK (by omega) (fun s h => by have := hln s h; omega)
      clear hcm hrm
      go_wp2_with fail
      refine heq.mono ?_
      rintro e w' ⟨rfl, rfl⟩
      go_wp2_with fail
      refine (hkp w' (Below.refl _ _)).mono ?_
      rintro e w4 ⟨rfl, hb4⟩
      have B4 : Below w.heap.size w w4 := B3.trans (hb4.mono B3.size)
      have hM3 := (hM.later hb2).later hb3
      have hnd := need_any mo n mc k M w4 (hM3.later hb4) (by omega) hk
      rw [tk_x hK] at hnd
      have hrn := fun W (hb : Below w.heap.size w W) => rneed_any ao n c k L W (hs.later hb) (by omega) hk
      obtain ⟨Z, hZ⟩ : ∃ Z, Z = nd (ded (L.map Sh.x)).length k := ⟨_, rfl⟩
      rw [← hZ] at hnd hrn
      clear hZ heq
      go_wp2_with fail
      refine hnd.mono ?_
      rintro e w5 ⟨rfl, hb5⟩
      have B5 : Below w.heap.size w w5 := B4.trans (hb5.mono B4.size)
      go_wp2_with fail
      refine (hrn w5 B5).mono ?_
      rintro e w6 ⟨rfl, hb6⟩
      have B6 : Below w.heap.size w w6 := B5.trans (hb6.mono B5.size)
      have hb46 : Below w'.heap.size w' w6 := (hb4.trans (hb5.mono hb4.size)).trans (hb6.mono (Nat.le_trans hb4.size hb5.size))
      clear hnd hrn
      go_wp2_with fail
      refine (hkp w6 hb46).mono ?_
      rintro e w7 ⟨rfl, hb7⟩
      have B7 : Below w.heap.size w w7 := B6.trans (hb7.mono B6.size)
      have hb37 : Below w'.heap.size w' w7 := hb46.trans (hb7.mono hb46.size)
      have hys := ys_any mo n mc M w7 (hM3.later hb37) (by omega)
      clear hkp
      go_wp2_with fail
      refine hys.mono ?_
      rintro e w8 ⟨av, rfl, hav, hb8⟩
      have B8 : Below w.heap.size w w8 := B7.trans (hb8.mono B7.size)
      have hz7 := B7.size
      have hz8 := B8.size
      have hz87 := hb8.size
      clear hys
      go_wp2_with (at_builtin; go_must (refine law_push rfl _ _ rfl w7.heap.size _ _ _ rfl (hav.alloc _) _ _ rfl (one_new w8 _ 22) rfl (by omega) (by simp; omega) ?_))
      intro v' w9 hall hg
      obtain ⟨G, C, rfl, -⟩ := hall.form (by omega)
      have B9 : Below w.heap.size w w9 := (B8.alloc hz8 _).grown hg (by simp; omega) (fun b hb => by have := (hav.lt b hb).1; omega)
      have hz9 := B9.size
      have z1 := hb1.size
      have lift : ∀ {b n' : Nat} {v : Value} {xs : List Value}, w8.ownsRow b 5 1 v n' xs → w9.ownsRow b 5 1 v n' xs := fun h => (h.alloc _).kept hg (type_ne (by decide) h hav)
      have ob := lift (own_below (own_below (own_below hv2.own hb3) hb37) hb8)
      have hT8 := (hT3.later hb37).later hb8
      have hr : ∀ s ∈ M, w9.ownsRow w.heap.size 5 1 (.slice s.ao s.n s.c) s.n (u8s (s.ys.map v8)) := fun s hs => lift (hT8.row hs)
      have HL : Hid (M.length = n) := hM.len
      have hapt := apart_list w.heap.size w7.heap.size G C (M.map (fun s => (s.y, s.ys.map v8)) ++ [(.slice bo q bc, cs.map v8)]) w9
        (by
          rw [List.map_append, List.map_map, List.length_append, List.length_map, HL.out]
          exact hall)
        (by
          intro p hp
          rcases List.mem_append.1 hp with hp | hp
          · obtain ⟨s, hs', rfl⟩ := List.mem_map.1 hp
            have h1 := hr s hs'
            have h2 := own_len5 h1
            show w9.ownsRow w.heap.size 5 1 s.y (s.ys.map v8).length (u8s (s.ys.map v8))
            rw [h2]
            exact h1
          · rw [List.mem_singleton] at hp
            subst hp
            show w9.ownsRow w.heap.size 5 1 _ (cs.map v8).length _
            rw [List.length_map, ← HQ.out]
            exact own_base' ob z1)
        (by
          intro p hp
          rcases List.mem_append.1 hp with hp | hp
          · obtain ⟨s, hs', rfl⟩ := List.mem_map.1 hp
            exact v8s_rng _
          · rw [List.mem_singleton] at hp
            subst hp
            exact v8s_rng _)
        (by
          intro p hp
          rcases List.mem_append.1 hp with hp | hp
          · obtain ⟨s, hs', rfl⟩ := List.mem_map.1 hp
            have h2 := own_len5 (hr s hs')
            have h3 : s.n ≤ 65536 := by
              obtain ⟨i, hi⟩ := List.mem_iff_getElem?.1 hs'
              have hil := (List.getElem?_eq_some_iff.1 hi).1
              have hl := tkey_len hK
              have h4 := List.getElem?_eq_getElem (l := L) (i := i) (by omega)
              rw [(tkey_at hK hi h4).2.1]
              exact hln _ (List.mem_of_getElem? h4)
            show (s.ys.map v8).length ≤ 1000000
            omega
          · rw [List.mem_singleton] at hp
            subst hp
            show (cs.map v8).length ≤ 1000000
            rw [List.length_map, ← HQ.out]
            omega)
        (by
          rw [List.pairwise_append]
          refine ⟨List.pairwise_map.2 hT.pw, List.Pairwise.cons (fun p hp => (by simp at hp)) List.Pairwise.nil, ?_⟩
          intro p hp r hr
          obtain ⟨s, hs', rfl⟩ := List.mem_map.1 hp
          rw [List.mem_singleton] at hr
          subst hr
          exact ne_iv (fun x hx => (hT.row hs').lt x hx) (fun x hx => hv2.own.lt x hx) (.inl (Nat.le_refl _)))
        (by rw [List.length_append, List.length_map, HL.out]; simp; omega) hz9
      rw [List.length_append, List.length_map, HL.out] at hapt
      clear lift hall hg ob hr
      go_wp2_with fail
      refine hapt.mono ?_
      rintro e w10 ⟨rfl, hb10⟩
      have B10 : Below w.heap.size w w10 := B9.trans hb10
      have z10 := B10.size
      have hwk := works_any w10 (ht.later B10) (by omega)
      go_wp2_with fail
      refine hwk.mono ?_
      rintro e w11 ⟨rfl, hb11⟩
      go_wp2
      go_ret
      exact ⟨rfl, B10.trans (hb11.mono z10)⟩
  · go_wp2_with fail
    refine hw0.mono ?_
    rintro e w1 ⟨rfl, hb⟩
    go_wp2
    go_ret
    exact ⟨rfl, hb⟩
end Go.Proofs.YtineieoghlbchaaDoor
