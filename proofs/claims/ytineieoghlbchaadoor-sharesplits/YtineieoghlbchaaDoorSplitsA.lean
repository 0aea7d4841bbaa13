/- ShareSplits: the call, where the arguments are not too long. -/
import Derived.Test.YtineieoghlbchaaDoorSplitAll
namespace Go.Proofs.YtineieoghlbchaaDoor
open Go.RowKit

theorem splits_big (so ro : Option Addr) (m sc dn rc : Nat) (n k : Int) (w : World) (ht : Tab w) (hbig : (4096 : Int) < m ∨ (65536 : Int) < dn) :
    Calls Tryd.prog 3 #[.agg #[.slice so m sc, .int .i64 n, .int .i64 k, .slice ro dn rc]] w fun e w' => e = .returned (.bool true) ∧ Below w.heap.size w w' := by
  have hbA : Below w.heap.size w (w.alloc (.cells #[.slice so m sc, .int .i64 n, .int .i64 k, .slice ro dn rc] 24)) := (Below.refl _ w).alloc (Nat.le_refl _) _
  have hw := works_any (w.alloc (.cells #[.slice so m sc, .int .i64 n, .int .i64 k, .slice ro dn rc] 24)) (ht.later hbA) (by simp)
  by_cases h1 : (4096 : Int) < m
  · go_enter Tryd.func3, Tryd.ntmps3
    go_wp2_with (go_at_call 8; refine hw.mono ?_; rintro e w1 ⟨rfl, hb⟩)
    go_ret
    exact ⟨rfl, hbA.trans (hb.mono (by simp))⟩
  · have h2 : (65536 : Int) < dn := by omega
    go_enter Tryd.func3, Tryd.ntmps3
    go_wp2_with (go_at_call 8; refine hw.mono ?_; rintro e w1 ⟨rfl, hb⟩)
    go_ret
    exact ⟨rfl, hbA.trans (hb.mono (by simp))⟩

/-- What lies in a block of four cells. -/
theorem four_cells {w : World} {g : Nat} {a b c d : Value} (h : Blk w g 24 [a, b, c, d]) : w.cell? ⟨g, 0, none⟩ = some a ∧ w.cell? ⟨g, 1, none⟩ = some b ∧ w.cell? ⟨g, 2, none⟩ = some c ∧ w.cell? ⟨g, 3, none⟩ = some d :=
  ⟨h.cell 0 _ rfl, h.cell 1 _ rfl, h.cell 2 _ rfl, h.cell 3 _ rfl⟩

set_option maxRecDepth 100000 in
set_option maxHeartbeats 2000000 in
theorem splits_walk (so ro : Option Addr) (m sc dn rc : Nat) (n k : Int) (S D : List B) (w : World) (hs : Shows w so m (S.map v8)) (hsc : so = none → sc = 0) (hd : Shows w ro dn (D.map v8)) (hdc : ro = none → rc = 0) (hrc : dn ≤ rc) (ht : Tab w) (h0 : 0 < w.heap.size) (hm : (m : Int) ≤ 4096) (hdn : (dn : Int) ≤ 65536) :
    Calls Tryd.prog 3 #[.agg #[.slice so m sc, .int .i64 n, .int .i64 k, .slice ro dn rc]] w fun e w' => e = .returned (.bool true) ∧ Below w.heap.size w w' := by
  have hbA : Below w.heap.size w (w.alloc (.cells #[.slice so m sc, .int .i64 n, .int .i64 k, .slice ro dn rc] 24)) := (Below.refl _ w).alloc (Nat.le_refl _) _
  have hS : Blk (w.alloc (.cells #[.slice so m sc, .int .i64 n, .int .i64 k, .slice ro dn rc] 24)) w.heap.size 24 [.slice so m sc, .int .i64 n, .int .i64 k, .slice ro dn rc] := Blk.new w 24 [_, _, _, _]
  have hsA := hs.later hbA
  have hdA := hd.later hbA
  have hro := roomy_any so m sc (S.map v8) _ hsA hsc (by omega)
  obtain ⟨A, HA⟩ : ∃ A, Hid (A = w.alloc (.cells #[.slice so m sc, .int .i64 n, .int .i64 k, .slice ro dn rc] 24)) := ⟨_, rfl⟩
  rw [← HA.out] at hbA hS hsA hdA hro
  go_enter Tryd.func3, Tryd.ntmps3
  go_wp2_with fail
  rw [← HA.out]
  refine hro.mono ?_
  rintro e w1 ⟨g, cap, rfl, hown, hb1⟩
  have B1 : Below w.heap.size w w1 := hbA.trans (hb1.mono hbA.size)
  have S1 := hS.next hb1
  obtain ⟨-, -, -, k3⟩ := four_cells S1
  have hro2 := roomy_any ro dn rc (D.map v8) w1 (hdA.later hb1) hdc (by omega)
  go_wp2_with fail
  refine hro2.mono ?_
  rintro e w2 ⟨g', cap', rfl, hown', hb2⟩
  have B2 : Below w.heap.size w w2 := B1.trans (hb2.mono B1.size)
  have S2 := S1.next hb2
  obtain ⟨-, l1, l2, -⟩ := four_cells S2
  have o2 := own_below hown hb2
  have r1 : Shows w2 (some ⟨g, 0, none⟩) m (S.map v8) := shows_first o2 hs.len (by omega) hs.rng
  have r2 : Shows w2 (some ⟨g', 0, none⟩) dn (D.map v8) := shows_first hown' hd.len (by omega) hd.rng
  have hcap' : dn ≤ cap' := by
    rcases hown'.2 with ⟨h3, _⟩ | ⟨g1, cap1, cur, h3, _, _, hn, _⟩
    · cases h3
    · cases h3; omega
  have hsp := split_all (some ⟨g, 0, none⟩) (some ⟨g', 0, none⟩) m cap dn cap' n k S D w2 r1 r2 hcap'
  obtain ⟨E, HE⟩ : ∃ E, Hid (E = spE m dn n k) := ⟨_, rfl⟩
  rw [← HE.out] at hsp
  go_wp2_with fail
  refine hsp.mono ?_
  rintro e w3 ⟨lv, L, rfl, hL, hK, hap, hl16, hln, hb3⟩
  have B3 : Below w.heap.size w w3 := B2.trans (hb3.mono B2.size)
  have S3 := S2.next hb3
  obtain ⟨m0, m1, m2, m3⟩ := four_cells S3
  have hsp' := rsplit_all so ro m sc dn rc n k S D w3 (hs.later B3) (hd.later B3) hrc hdc
  rw [← HE.out] at hsp'
  obtain ⟨lo, lc, rfl, -⟩ := hL.shs
  go_wp2_with fail
  refine hsp'.mono ?_
  rintro e w4 ⟨mv, M, rfl, hM, hK', hb4⟩
  have B4 : Below w.heap.size w w4 := B3.trans (hb4.mono B3.size)
  have S4 := S3.next hb4
  have hL4 := hL.later hb4
  obtain ⟨lo', lc', e1, hLs, -⟩ := hL4.shs
  cases e1
  obtain ⟨mo, mc, rfl, hMs, -⟩ := hM.shs
  have hlen : L.length = M.length := by
    have : (key L).length = (key M).length := by rw [hK, hK']
    simpa [key] using this
  have hsm := same_any lo mo L.length lc mc L M w4 hLs (by rw [hlen]; exact hMs) (hK.trans hK'.symm) (by omega)
  obtain ⟨q, hq⟩ : ∃ q, q = L.length := ⟨_, rfl⟩
  have hqM : q = M.length := hq.trans hlen
  rw [← hq] at hsm hLs hl16 ⊢
  rw [← hqM]
  have HQ : Hid (q = L.length) := hq
  clear hro hro2 hsp hsp' k3 l1 l2 m0 m1 m2 m3 hq hqM hlen
  go_wp2_with fail
  refine hsm.mono ?_
  rintro e w5 ⟨rfl, hb5⟩
  have B5 : Below w.heap.size w w5 := B4.trans (hb5.mono B4.size)
  have S5 := S4.next hb5
  obtain ⟨m0, -, -, m3⟩ := four_cells S5
  have o5 := own_below (own_below (own_below o2 hb3) hb4) hb5
  have o5' := own_below (own_below (own_below hown' hb3) hb4) hb5
  have hkp := kept_any g m cap _ sc so (S.map v8) w5 o5 (hs.later B5) (by omega)
  have hkp' := kept_any g' dn cap' _ rc ro (D.map v8) w5 o5' (hd.later B5) (by omega)
  go_wp2_with fail
  refine hkp.mono ?_
  rintro e w' ⟨rfl, rfl⟩
  go_wp2_with fail
  refine hkp'.mono ?_
  rintro e w' ⟨rfl, rfl⟩
  have hys := ys_any lo q lc L w5 (hLs.later hb5) (by omega)
  go_wp2_with fail
  refine hys.mono ?_
  rintro e w6 ⟨av, rfl, hav, hb6⟩
  have B6 : Below w.heap.size w w6 := B5.trans (hb6.mono B5.size)
  have hz6 := B6.size
  have hz5 := B5.size
  have hz65 := hb6.size
  clear hkp hkp' hys hsm
  go_wp2_with (at_builtin; go_must (refine law_push2 rfl _ _ rfl w5.heap.size _ _ _ rfl (hav.alloc _) w6.heap.size _ _ rfl (new_at rfl) rfl rfl (by omega) (by simp; omega) ?_))
  intro G C w7 hall hg
  have hb7 : Below w.heap.size w w7 := (B6.alloc hz6 _).grown hg (by simp; omega) (fun b hb => by have := (hav.lt b hb).1; omega)
  have hz7 := hb7.size
  have lift : ∀ {b n' : Nat} {v : Value} {xs : List Value}, w6.ownsRow b 5 1 v n' xs → w7.ownsRow b 5 1 v n' xs := fun h => (h.alloc _).kept hg (type_ne (by decide) h hav)
  have os := lift (own_below (own_first o5 hs.len (by omega)) hb6)
  have od := lift (own_below (own_first o5' hd.len (by omega)) hb6)
  have hLr : ∀ s ∈ L, w7.ownsRow w2.heap.size 5 1 (.slice s.ao s.n s.c) s.n (u8s (s.ys.map v8)) := fun s hs => lift (own_below (own_below (hL4.rows s hs) hb5) hb6)
  have zA := hbA.size
  have z1 := B1.size
  have z2 := hb2.size
  have z1' := hb1.size
  have ivs : ∀ x, (Value.slice (some ⟨g, 0, none⟩) m cap).ownBlock = some x → A.heap.size ≤ x ∧ x < w1.heap.size := fun x hx => (own_first hown hs.len (by omega)).lt x hx
  have ivd : ∀ x, (Value.slice (some ⟨g', 0, none⟩) dn cap').ownBlock = some x → w1.heap.size ≤ x ∧ x < w2.heap.size := fun x hx => (own_first hown' hd.len (by omega)).lt x hx
  have hapt := apart_list w.heap.size w5.heap.size G C (L.map (fun s => (s.y, s.ys.map v8)) ++ [(.slice (some ⟨g, 0, none⟩) m cap, S.map v8), (.slice (some ⟨g', 0, none⟩) dn cap', D.map v8)]) w7
    (by
      rw [List.map_append, List.map_map, List.length_append, List.length_map, ← HQ.out]
      exact hall)
    (by
      intro p hp
      rcases List.mem_append.1 hp with hp | hp
      · obtain ⟨s, hs', rfl⟩ := List.mem_map.1 hp
        have h1 := own_base' (base := w.heap.size) (hLr s hs') (by omega)
        have h2 := own_len5 h1
        show w7.ownsRow w.heap.size 5 1 s.y (s.ys.map v8).length (u8s (s.ys.map v8))
        rw [h2]
        exact h1
      · simp only [List.mem_cons, List.not_mem_nil, or_false] at hp
        rcases hp with rfl | rfl
        · show w7.ownsRow w.heap.size 5 1 _ (S.map v8).length _
          rw [hs.len]
          exact own_base' os (by omega)
        · show w7.ownsRow w.heap.size 5 1 _ (D.map v8).length _
          rw [hd.len]
          exact own_base' od (by omega))
    (by
      intro p hp
      rcases List.mem_append.1 hp with hp | hp
      · obtain ⟨s, hs', rfl⟩ := List.mem_map.1 hp
        exact v8s_rng _
      · simp only [List.mem_cons, List.not_mem_nil, or_false] at hp
        rcases hp with rfl | rfl
        · exact v8s_rng _
        · exact v8s_rng _)
    (by
      intro p hp
      rcases List.mem_append.1 hp with hp | hp
      · obtain ⟨s, hs', rfl⟩ := List.mem_map.1 hp
        have h2 := own_len5 (hLr s hs')
        have h3 := hln s hs'
        show (s.ys.map v8).length ≤ 1000000
        omega
      · simp only [List.mem_cons, List.not_mem_nil, or_false] at hp
        rcases hp with rfl | rfl
        · show (S.map v8).length ≤ 1000000
          rw [hs.len]; omega
        · show (D.map v8).length ≤ 1000000
          rw [hd.len]; omega)
    (by
      rw [List.pairwise_append]
      refine ⟨List.pairwise_map.2 hap, ?_, ?_⟩
      · refine List.Pairwise.cons ?_ (List.Pairwise.cons (fun p hp => (by simp at hp)) List.Pairwise.nil)
        intro p hp
        rw [List.mem_singleton] at hp
        subst hp
        exact ne_iv ivs ivd (.inl (Nat.le_refl _))
      · intro p hp r hr
        obtain ⟨s, hs', rfl⟩ := List.mem_map.1 hp
        have ivl : ∀ x, (Value.slice s.ao s.n s.c).ownBlock = some x → w2.heap.size ≤ x ∧ x < w3.heap.size := fun x hx => (hL.rows s hs').lt x hx
        simp only [List.mem_cons, List.not_mem_nil, or_false] at hr
        rcases hr with rfl | rfl
        · exact ne_iv ivl ivs (.inr z2)
        · exact ne_iv ivl ivd (.inr (Nat.le_refl _)))
    (by rw [List.length_append, List.length_map, ← HQ.out]; simp; omega) hz7
  rw [List.length_append, List.length_map, ← HQ.out] at hapt
  clear lift hall hg os od hLr ivs ivd
  go_wp2_with fail
  refine hapt.mono ?_
  rintro e w8 ⟨rfl, hb8⟩
  have B8 : Below w.heap.size w w8 := hb7.trans hb8
  have z8 := B8.size
  have hwk := works_any w8 (ht.later B8) (by omega)
  go_wp2_with fail
  refine hwk.mono ?_
  rintro e w9 ⟨rfl, hb9⟩
  go_wp2
  go_ret
  exact ⟨rfl, B8.trans (hb9.mono z8)⟩
end Go.Proofs.YtineieoghlbchaaDoor
