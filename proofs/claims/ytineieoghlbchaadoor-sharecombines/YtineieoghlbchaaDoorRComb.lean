/- Shares put together, whatever they are: by the program and by the document's answer. -/
import Derived.Test.YtineieoghlbchaaDoorTwin
namespace Go.Proofs.YtineieoghlbchaaDoor
open Go.RowKit

def goodAll (m : Nat) (L : List Sh) : Bool := goodB (L.map Sh.x) && sameB m L
theorem goodAll_iff (m : Nat) (L : List Sh) : goodAll m L = true ↔ Good (L.map Sh.x) ∧ sameB m L = true := by
  unfold goodAll
  rw [Bool.and_eq_true, goodB_iff]
/-- The error of a Combine. -/
def cE (L : List Sh) : Int := match L with
  | [] => 2
  | s :: r => if 16 < (s :: r).length then 2 else if anyLong (s :: r) then 3 else if goodAll s.n (s :: r) then 0 else 40
/-- What shares come to. -/
def cL (L : List Sh) : List B := match L with
  | [] => []
  | s :: r => if cE (s :: r) = 0 then (List.range s.n).map (atJ (s :: r)) else []
/-- What a Combine answers. -/
def Combd (L : List Sh) (w : World) (e : Ending) (w' : World) : Prop := ∃ v, e = .returned (.tuple #[v, .int .i64 (cE L)]) ∧ Own5 w.heap.size w' v (cL L).length ((cL L).map v8) ∧ Below w.heap.size w w'
theorem Combd.bad {L : List Sh} {w w' : World} {e : Ending} {E : Int} (hE : cE L = E) (h0 : E ≠ 0) (he : e = .returned (.tuple #[.slice none 0 0, .int .i64 E])) (hb : Below w.heap.size w w') : Combd L w e w' := by
  refine ⟨_, by rw [hE]; exact he, ?_, hb⟩
  have : cL L = [] := by
    cases L with
    | nil => rfl
    | cons s r => unfold cL; exact if_neg (by rw [hE]; exact h0)
  rw [this]
  exact ⟨World.ownsRow_nil _ _ _ _⟩
theorem cE_arg {L : List Sh} (h : L.length = 0 ∨ 16 < L.length) : cE L = 2 := by
  cases L with
  | nil => rfl
  | cons s r =>
    have h1 : 16 < (s :: r).length := by
      rcases h with h | h
      · simp at h
      · exact h
    unfold cE
    exact if_pos h1
theorem cE_of {L : List Sh} {s0 : Sh} (h0 : L[0]? = some s0) (h : L.length ≤ 16) : cE L = if anyLong L then 3 else if goodAll s0.n L then 0 else 40 := by
  cases L with
  | nil => simp at h0
  | cons s r =>
    simp at h0
    subst h0
    unfold cE
    exact if_neg (by omega)
theorem cL_of {L : List Sh} {s0 : Sh} (h0 : L[0]? = some s0) (h : cE L = 0) : cL L = (List.range s0.n).map (atJ L) := by
  cases L with
  | nil => simp at h0
  | cons s r =>
    simp at h0
    subst h0
    unfold cL
    exact if_pos h

theorem combine_any (ao : Option Addr) (n c : Nat) (L : List Sh) (w : World) (hs : Shs w ao n L) :
    Calls Tryd.prog 18 #[.slice ao n c] w fun e w' => Combd L w e w' := by
  have hl := hs.len
  by_cases h1 : n = 0 ∨ (16 : Int) < n
  · refine (comb_arg ao n c w h1).mono ?_
    rintro e w' ⟨he, hb⟩
    exact Combd.bad (cE_arg (by omega)) (by decide) he hb
  · obtain ⟨s0, h0⟩ := hs.get 0 (by omega)
    obtain ⟨ad, rfl⟩ := hs.adr (by omega)
    have hc := cE_of h0 (by omega)
    cases hlg : anyLong L
    · rw [hlg] at hc
      simp only [Bool.false_eq_true, if_false] at hc
      by_cases hg : Good (L.map Sh.x) ∧ sameB s0.n L = true
      · rw [if_pos ((goodAll_iff _ _).2 hg)] at hc
        refine (comb_good ad n c L s0 w hs h0 (by omega) hlg hg.1 hg.2).mono ?_
        rintro e w' ⟨v, he, ho, hb⟩
        refine ⟨v, by rw [hc]; exact he, ?_, hb⟩
        rw [cL_of h0 hc]
        rw [List.length_map, List.length_range]
        exact ho
      · rw [if_neg (fun h => hg ((goodAll_iff _ _).1 h))] at hc
        refine (comb_bad ad n c L s0 w hs h0 (by omega) hlg hg).mono ?_
        rintro e w' ⟨he, hb⟩
        exact Combd.bad hc (by decide) he hb
    · rw [hlg] at hc
      simp only [if_true] at hc
      refine (comb_long (some ad) n c L w hs (by omega) (by omega) hlg).mono ?_
      rintro e w' ⟨he, hb⟩
      exact Combd.bad hc (by decide) he hb

theorem anyLong_next {L : List Sh} {i : Nat} {s : Sh} (h : L[i]? = some s) (h1 : anyLong (L.take i) = false) (h2 : ¬ (1024 : Int) < s.n) : anyLong (L.take (i + 1)) = false := by
  rw [take_next' h]
  unfold anyLong at *
  rw [List.any_append, h1]
  simpa using h2
theorem sameB_next {m : Nat} {L : List Sh} {i : Nat} {s : Sh} (h : L[i]? = some s) (h1 : sameB m (L.take i) = true) (h2 : s.n = m) : sameB m (L.take (i + 1)) = true := by
  rw [take_next' h]
  unfold sameB at *
  rw [List.all_append, h1]
  simpa using h2

set_option maxRecDepth 100000 in
theorem rcomb_arg (ao : Option Addr) (n c : Nat) (w : World) (hn : n = 0 ∨ (16 : Int) < n) :
    Calls Tryd.prog 19 #[.slice ao n c] w fun e w' => e = .returned (.tuple #[.slice none 0 0, .int .i64 2]) ∧ Below w.heap.size w w' := by
  rcases hn with rfl | hn
  · go_enter Tryd.func19, Tryd.ntmps19
    go_wp2
    go_ret2
    exact ⟨rfl, Below.refl _ _⟩
  · have h0 : ((n : Int) == 0) = false := by simp; omega
    have h1 : ¬ (n : Int) = 0 := by omega
    go_enter Tryd.func19, Tryd.ntmps19
    go_wp2
    go_ret2
    exact ⟨rfl, Below.refl _ _⟩

set_option maxRecDepth 100000 in
set_option maxHeartbeats 4000000 in
theorem rcomb_walk (ad : Addr) (n c : Nat) (L : List Sh) (s0 : Sh) (w : World) (hs : Shs w (some ad) n L) (h0 : L[0]? = some s0) (hn : (n : Int) ≤ 16) :
    Calls Tryd.prog 19 #[.slice (some ad) n c] w fun e w' => Combd L w e w' := by
  have hn0 : 0 < n := by
    have := (List.getElem?_eq_some_iff.1 h0).1
    have := hs.len
    omega
  have h1 : ((n : Int) == 0) = false := by simp; omega
  have h2 : ¬ (n : Int) = 0 := by omega
  have hd16 : decide ((16 : Int) < (n : Int)) = false := by simp; omega
  have HL : Hid (L.length = n) := hs.len
  have HC : Hid (cE L = if anyLong L then 3 else if goodAll s0.n L then 0 else 40) := cE_of h0 (by rw [hs.len]; omega)
  have H0 : Hid (L[0]? = some s0) := h0
  have c0 : ∀ W, Below w.heap.size w W → W.cell? ⟨ad.block, ad.off + 1, none⟩ = some (.slice s0.ao s0.n s0.c) := fun W hb => by
    have h := (hs.later hb).cy ad rfl 0 s0 h0
    simpa [Addr.add] using h
  clear h0
  go_enter Tryd.func19, Tryd.ntmps19
  go_wp2
  go_loop [4] (fun x => ∃ i : Nat, i ≤ n ∧ x = .int .i64 i ∧ anyLong (L.take i) = false) (fun x => n - (intOf x).toNat)
  case atStart => exact ⟨0, Nat.zero_le _, rfl, rfl⟩
  case round =>
    obtain ⟨i, hi, rfl, hal⟩ := hrel
    have HAL : Hid (anyLong (L.take i) = false) := hal
    clear hal
    by_cases hlt : i < n
    · have hin : (i : Int) < (n : Int) := by omega
      obtain ⟨s, hsk⟩ := hs.get i hlt
      have cy := hs.cy ad rfl i s hsk
      have HSK : Hid (L[i]? = some s) := hsk
      clear hsk
      by_cases hlg : (1024 : Int) < s.n
      · have hE : cE L = 3 := by rw [HC.out, anyLong_of HSK.out (decide_eq_true hlg)]; rfl
        have HE : Hid (cE L = 3) := hE
        clear hE
        go_wp2
        go_ret2
        exact Combd.bad HE.out (by decide) rfl (Below.refl _ _)
      · go_wp2
        go_round
        case rel => exact ⟨i + 1, by omega, by go_num, anyLong_next HSK.out HAL.out hlg⟩
        case measure => simp [intOf]; omega
    · have hin : n = i := by omega
      subst hin
      have HA : Hid (anyLong L = false) := by have := HAL.out; rwa [List.take_of_length_le (by rw [HL.out]; exact Nat.le_refl _)] at this
      have HC2 : Hid (cE L = if goodAll s0.n L then 0 else 40) := by show _ = _; rw [HC.out, HA.out]; rfl
      clear HAL HC
      have Hbad : Hid (¬ (Good (L.map Sh.x) ∧ sameB s0.n L = true) → cE L = 40) := by
        intro h
        rw [HC2.out, if_neg (fun h' => h ((goodAll_iff _ _).1 h'))]
      go_wp2
      go_loopw [5, 6] (fun v x wr => ∃ i : Nat, i ≤ n ∧ x = .int .i64 i ∧ Own5 w.heap.size wr v i (((L.map Sh.x).take i).map v8) ∧ Good ((L.map Sh.x).take i) ∧ sameB s0.n (L.take i) = true ∧ Below w.heap.size w wr) (fun _ x _ => n - (intOf x).toNat)
      case atStart => exact ⟨0, Nat.zero_le _, rfl, ⟨World.ownsRow_nil _ _ _ _⟩, ⟨List.nodup_nil, by simp⟩, rfl, Below.refl _ _⟩
      case round =>
        obtain ⟨i, hi, rfl, hv, hG, hsB, hb⟩ := hrel
        have HG : Hid (Good ((L.map Sh.x).take i)) := hG
        have HSB : Hid (sameB s0.n (L.take i) = true) := hsB
        clear hG hsB
        have hsz := hb.size
        by_cases hlt : i < n
        · have hin : (i : Int) < (n : Int) := by omega
          obtain ⟨s, hsk⟩ := hs.get i hlt
          have cxi := fun W (hW : Below w.heap.size w W) => (hs.later hW).cx ad rfl i s hsk
          have cyi := fun W (hW : Below w.heap.size w W) => (hs.later hW).cy ad rfl i s hsk
          have HT : Hid ((L.map Sh.x).take (i + 1) = (L.map Sh.x).take i ++ [s.x]) := take_map_next Sh.x L i s hsk
          have HSK : Hid (L[i]? = some s) := hsk
          have Hb1 : Hid (s.x = 0#8 ∨ s.x ∈ (L.map Sh.x).take i → cE L = 40) := by
            intro h
            apply Hbad.out
            rintro ⟨hg, _⟩
            have h1 := good_take _ hg (i + 1)
            rw [HT.out, good_snoc] at h1
            rcases h with h | h
            · exact h1.2.2 h
            · exact h1.2.1 h
          have Hb2 : Hid (¬ s.n = s0.n → cE L = 40) := fun h => Hbad.out (fun hg => by rw [sameB_false HSK.out h] at hg; exact absurd hg.2 (by decide))
          have HSN : Hid (s.n = s0.n → sameB s0.n (L.take (i + 1)) = true) := fun h => sameB_next HSK.out HSB.out h
          obtain ⟨x, hx⟩ : ∃ x, x = s.x := ⟨_, rfl⟩
          rw [← hx] at cxi HT Hb1
          obtain ⟨so, hso⟩ : ∃ x, x = s.ao := ⟨_, rfl⟩
          obtain ⟨sn, hsn⟩ : ∃ x, x = s.n := ⟨_, rfl⟩
          obtain ⟨sc, hsc⟩ : ∃ x, x = s.c := ⟨_, rfl⟩
          rw [← hso, ← hsn, ← hsc] at cyi
          rw [← hsn] at Hb2 HSN
          clear hsk hx hso hsn hsc
          obtain ⟨wB, h⟩ : ∃ x, x = wr := ⟨_, rfl⟩; subst h
          obtain ⟨xl, HXL⟩ : ∃ xl, Hid (xl = ((L.map Sh.x).take i).map v8) := ⟨_, rfl⟩
          rw [← HXL.out] at hv
          go_wp2
          go_loopw [7] (fun q wr => ∃ k : Nat, k ≤ i ∧ q = .int .i64 k ∧ x ∉ (L.map Sh.x).take k ∧ Own5 w.heap.size wr u5 i xl ∧ Below w.heap.size w wr) (fun q _ => i - (intOf q).toNat)
          case atStart => exact ⟨0, Nat.zero_le _, rfl, by simp, hv, hb⟩
          case round =>
            clear hv hb
            obtain ⟨k, hk, rfl, hno, hv, hb⟩ := hrel
            have HN : Hid (x ∉ (L.map Sh.x).take k) := hno
            clear hno
            have hszr := hb.size
            by_cases hki : k < i
            · have hki' : (k : Int) < (i : Int) := by omega
              have hkn : (k : Int) < (n : Int) := by omega
              obtain ⟨t, htk⟩ := hs.get k (by omega)
              have cxk := (hs.later hb).cx ad rfl k t htk
              have cx2 := cxi wr hb
              have HTK : Hid ((L.map Sh.x).take (k + 1) = (L.map Sh.x).take k ++ [t.x]) := take_map_next Sh.x L k t htk
              have HMK : Hid (t.x ∈ (L.map Sh.x).take i) := mem_takeX htk hki
              obtain ⟨y, hy⟩ : ∃ y, y = t.x := ⟨_, rfl⟩
              rw [← hy] at cxk HTK HMK
              clear htk hy
              by_cases hyx : y = x
              · subst hyx
                have HE : Hid (cE L = 40) := Hb1.out (.inr HMK.out)
                clear Hb1 Hb2 cxi cyi
                go_wp2_with fail
                go_quiet (fail)
                go_wp2
                go_ret2
                exact Combd.bad HE.out (by decide) rfl (below_drewN hb _)
              · have hvv := v8_ne hyx
                have hv' : (v8 y == v8 x) = false := by simp [hvv]
                clear cxi cyi
                go_wp2_with fail
                go_quiet (fail)
                go_wp2
                refine ⟨⟨k + 1, by omega, by go_num, ?_, ⟨own_heap hv.own (drewN_heap _ _)⟩, below_drewN hb _⟩, by simp [intOf]; omega⟩
                rw [HTK.out]
                intro hm
                rcases List.mem_append.1 hm with hm | hm
                · exact HN.out hm
                · rw [List.mem_singleton] at hm; exact hyx hm.symm
            · have hki' : k = i := by omega
              subst hki'
              have cx2 := cxi wr hb
              have cy2 := cyi wr hb
              have c02 := c0 wr hb
              by_cases hx0 : x = 0#8
              · have HE : Hid (cE L = 40) := Hb1.out (.inl hx0)
                rw [hx0, v8_zero] at cx2
                clear Hb1 Hb2 cxi cyi
                go_wp2_with fail
                go_quiet (fail)
                go_wp2
                go_ret2
                exact Combd.bad HE.out (by decide) rfl (below_drewN hb _)
              · have hxp : (v8 x == 0) = false := by have := v8_pos hx0; simp; omega
                have hxp2 : ¬ v8 x = 0 := by have := v8_pos hx0; omega
                by_cases hnn : sn = s0.n
                · have HSB2 := HSN.out hnn
                  have HG2 : Hid (Good ((L.map Sh.x).take (k + 1))) := by
                    show Good _
                    rw [HT.out, good_snoc]
                    exact ⟨HG.out, HN.out, hx0⟩
                  have HSB3 : Hid (sameB s0.n (L.take (k + 1)) = true) := HSB2
                  rw [hnn] at cy2
                  clear Hb1 Hb2 cyi HSB2 hnn
                  have cx3 := fun N => cxi (wr.drewN N) (below_drewN hb N)
                  have hbN := fun N => below_drewN hb N
                  have hvN : ∀ N, Own5 w.heap.size (wr.drewN N) u5 k xl := fun N => ⟨own_heap hv.own (drewN_heap _ _)⟩
                  have hsn := fun N => shows_new (wr.drewN N) [v8 x] (by intro z hz; rw [List.mem_singleton] at hz; rw [hz]; exact ⟨v8_nn _, v8_le _⟩)
                  have hszN : ∀ N, (wr.drewN N).heap.size = wr.heap.size := fun N => by rw [drewN_heap]
                  go_wp2_with fail
                  go_quiet (fail)
                  go_wp2_with (at_builtin; go_must (refine law_append rfl _ _ rfl w.heap.size _ _ _ rfl ((hvN _).own.alloc _) _ 1 1 [v8 x] rfl (hsn _) (fun e => (by cases e)) (by omega) (by simp; omega) ?_))
                  intro v' w5 hv5 hg5 _
                  have hb5 : Below w.heap.size w w5 := ((hbN _).alloc (by rw [hszN]; omega) _).grown hg5 (by simp; omega) (fun b hb => (hv.own.lt b hb).1)
                  clear hsn hvN cx3 hbN hszN
                  go_wp2
                  go_roundw
                  case rel =>
                    refine ⟨k + 1, by omega, by go_num, ⟨?_⟩, HG2.out, HSB3.out, hb5⟩
                    rw [HT.out, List.map_append, ← HXL.out]
                    exact hv5
                  case measure => simp [intOf]; omega
                · have HE : Hid (cE L = 40) := Hb2.out hnn
                  have hnn1 : ((sn : Int) == (s0.n : Int)) = false := by simp; omega
                  have hnn2 : ¬ (sn : Int) = (s0.n : Int) := by omega
                  clear Hb1 Hb2 cxi cyi
                  go_wp2_with fail
                  go_quiet (fail)
                  go_wp2
                  go_ret2
                  exact Combd.bad HE.out (by decide) rfl (below_drewN hb _)
        · have hin : n = i := by omega
          subst hin
          rw [List.take_of_length_le (by rw [List.length_map, HL.out]; exact Nat.le_refl _)] at hv
          have HGG : Hid (Good (L.map Sh.x)) := by have := HG.out; rwa [List.take_of_length_le (by rw [List.length_map, HL.out]; exact Nat.le_refl _)] at this
          have HSS : Hid (sameB s0.n L = true) := by have := HSB.out; rwa [List.take_of_length_le (by rw [HL.out]; exact Nat.le_refl _)] at this
          have HE0 : Hid (cE L = 0) := by show _ = _; rw [HC2.out, if_pos ((goodAll_iff _ _).2 ⟨HGG.out, HSS.out⟩)]
          have HCL : Hid (cL L = (List.range s0.n).map (atJ L)) := cL_of H0.out HE0.out
          have hall : ∀ s ∈ L, s.n = s0.n := fun s hm => by
            have := List.all_eq_true.1 HSS.out s hm
            simpa using this
          have hm24 : (s0.n : Int) ≤ 1024 := by
            have := List.any_eq_false.1 HA.out s0 (List.mem_of_getElem? H0.out)
            simpa using this
          clear HG HSB HC2 Hbad HA
          obtain ⟨m, hm⟩ : ∃ m, m = s0.n := ⟨_, rfl⟩
          obtain ⟨sao, hsao⟩ : ∃ m, m = s0.ao := ⟨_, rfl⟩
          obtain ⟨scc, hscc⟩ : ∃ m, m = s0.c := ⟨_, rfl⟩
          rw [← hm] at hall hm24 HCL c0
          rw [← hsao, ← hscc] at c0
          clear hm hsao hscc
          obtain ⟨xo, xc, rfl, hxs, -⟩ := own_shape hv.own (v8s_rng _)
          obtain ⟨wX, h⟩ : ∃ x, x = wr := ⟨_, rfl⟩; subst h
          go_wp2
          go_loopw [8, 9] (fun v x wr => ∃ j : Nat, j ≤ m ∧ x = .int .i64 j ∧ Own5 wX.heap.size wr v j (((List.range j).map (atJ L)).map v8) ∧ Below wX.heap.size wX wr) (fun _ x _ => m - (intOf x).toNat)
          case atStart => exact ⟨0, Nat.zero_le _, rfl, ⟨World.ownsRow_nil _ _ _ _⟩, Below.refl _ _⟩
          case round =>
            obtain ⟨j, hj, rfl, hov, hbX⟩ := hrel
            have hbw : Below w.heap.size w wr := hb.trans (hbX.mono hsz)
            have hszX := hbX.size
            have c02 := c0 wr hbw
            obtain ⟨ol, HOL⟩ : ∃ ol, Hid (ol = ((List.range j).map (atJ L)).map v8) := ⟨_, rfl⟩
            rw [← HOL.out] at hov
            by_cases hlt : j < m
            · have hjm : (j : Int) < (m : Int) := by omega
              obtain ⟨wY, h⟩ : ∃ x, x = wr := ⟨_, rfl⟩; subst h
              go_wp2
              go_loopw [10, 11] (fun v x wr => ∃ i : Nat, i ≤ n ∧ x = .int .i64 i ∧ Own5 wY.heap.size wr v i (((L.map (fun s => s.ys.getD j 0#8)).take i).map v8) ∧ Below wY.heap.size wY wr) (fun _ x _ => n - (intOf x).toNat)
              case atStart => exact ⟨0, Nat.zero_le _, rfl, ⟨World.ownsRow_nil _ _ _ _⟩, Below.refl _ _⟩
              case round =>
                obtain ⟨i, hi, rfl, hyv, hbY⟩ := hrel
                have hbw2 : Below w.heap.size w wr := hbw.trans (hbY.mono hbw.size)
                have hszY := hbY.size
                obtain ⟨yl, HYL⟩ : ∃ yl, Hid (yl = ((L.map (fun s => s.ys.getD j 0#8)).take i).map v8) := ⟨_, rfl⟩
                rw [← HYL.out] at hyv
                by_cases hlti : i < n
                · have hin : (i : Int) < (n : Int) := by omega
                  obtain ⟨s, hsk⟩ := hs.get i hlti
                  have hmem := List.mem_of_getElem? hsk
                  have cy := (hs.later hbw2).cy ad rfl i s hsk
                  have hok := (hs.later hbw2).ok s hmem
                  have hsn := hall s hmem
                  rw [hsn] at cy
                  obtain ⟨yd, hyd⟩ := hok.sh.some (by omega)
                  have cz : wr.cell? (yd.add j) = some (.int .u8 (v8 (s.ys.getD j 0#8))) := by
                    have := hok.sh
                    rw [hyd] at this
                    exact this.elem j (by omega)
                  rw [hyd] at cy
                  have HTI : Hid ((L.map (fun s => s.ys.getD j 0#8)).take (i + 1) = (L.map (fun s => s.ys.getD j 0#8)).take i ++ [s.ys.getD j 0#8]) := take_map_next (fun s : Sh => s.ys.getD j 0#8) L i s hsk
                  obtain ⟨y, hy⟩ : ∃ y, y = s.ys.getD j 0#8 := ⟨_, rfl⟩
                  rw [← hy] at cz HTI
                  have hsn' := shows_new wr [v8 y] (by intro z hz; rw [List.mem_singleton] at hz; rw [hz]; exact ⟨v8_nn _, v8_le _⟩)
                  clear hsk hok hsn hyd hy
                  go_wp2_with (at_builtin; go_must (refine law_append rfl _ _ rfl wY.heap.size _ _ _ rfl (hyv.own.alloc _) _ 1 1 [v8 y] rfl hsn' (fun e => (by cases e)) (by omega) (by simp; omega) ?_))
                  intro v' w6 hv6 hg6 _
                  have hb6 : Below wY.heap.size wY w6 := (hbY.alloc hszY _).grown hg6 (by simp; omega) (fun b hb => (hyv.own.lt b hb).1)
                  clear hsn' cz cy
                  go_wp2
                  go_roundw
                  case rel =>
                    refine ⟨i + 1, by omega, by go_num, ⟨?_⟩, hb6⟩
                    rw [HTI.out, List.map_append, ← HYL.out]
                    exact hv6
                  case measure => simp [intOf]; omega
                · have hin : i = n := by omega
                  subst hin
                  have hyl : yl = (L.map (fun s => s.ys.getD j 0#8)).map v8 := by rw [HYL.out, List.take_of_length_le (by rw [List.length_map, HL.out]; exact Nat.le_refl _)]
                  rw [hyl] at hyv
                  obtain ⟨yo, yc, rfl, hys, -⟩ := own_shape hyv.own (v8s_rng _)
                  have hxs2 := (hxs.later hbX).later hbY
                  obtain ⟨xd, rfl⟩ := hxs2.some hn0
                  obtain ⟨yd, rfl⟩ := hys.some hn0
                  have hz := refz_walk xd yd i xc yc (L.map Sh.x) (L.map (fun s => s.ys.getD j 0#8)) wr hxs2 hys (by omega) hn0
                  rw [zOf_good _ _ HGG.out, eOf_good _ HGG.out] at hz
                  have hoy := hov.later hbY
                  clear hyl HYL hxs2 hys
                  go_wp2_with fail
                  refine hz.mono ?_
                  rintro e w7 ⟨rfl, hb7⟩
                  have hb7X : Below wX.heap.size wX w7 := (hbX.trans (hbY.mono hszX)).trans (hb7.mono (by omega))
                  have ho7 := hoy.later hb7
                  have hz7 := hb7X.size
                  have hsn7 := shows_new w7 [v8 (atZ (L.map Sh.x) (L.map (fun s => s.ys.getD j 0#8)))] (by intro z hz; rw [List.mem_singleton] at hz; rw [hz]; exact ⟨v8_nn _, v8_le _⟩)
                  obtain ⟨bz, hbz⟩ : ∃ bz, bz = atZ (L.map Sh.x) (L.map (fun s => s.ys.getD j 0#8)) := ⟨_, rfl⟩
                  rw [← hbz] at hsn7 ⊢
                  have HBZ : Hid (bz = atJ L j) := hbz
                  clear hz hbz hoy
                  go_wp2_with (at_builtin; go_must (refine law_append rfl _ _ rfl wX.heap.size _ _ _ rfl (ho7.own.alloc _) _ 1 1 [v8 bz] rfl hsn7 (fun e => (by cases e)) (by omega) (by simp; omega) ?_))
                  intro v' w8 hv8 hg8 _
                  have hb8 : Below wX.heap.size wX w8 := (hb7X.alloc hz7 _).grown hg8 (by simp; omega) (fun b hb => (ho7.own.lt b hb).1)
                  clear hsn7 ho7
                  go_wp2
                  go_roundw
                  case rel =>
                    refine ⟨j + 1, by omega, by go_num, ⟨?_⟩, hb8⟩
                    have e1 : ((List.range (j + 1)).map (atJ L)).map v8 = ol ++ [v8 bz] := by rw [List.range_succ, List.map_append, List.map_append, HOL.out, HBZ.out]; rfl
                    rw [e1]
                    exact hv8
                  case measure => simp [intOf]; omega
            · have hjm : m = j := by omega
              subst hjm
              go_wp2
              go_ret2
              refine ⟨_, by rw [HE0.out]; rfl, ?_, hbw⟩
              rw [HCL.out, List.length_map, List.length_range, ← HOL.out]
              exact ⟨own_base' hov.own hsz⟩

theorem rcombine_any (ao : Option Addr) (n c : Nat) (L : List Sh) (w : World) (hs : Shs w ao n L) :
    Calls Tryd.prog 19 #[.slice ao n c] w fun e w' => Combd L w e w' := by
  have hl := hs.len
  by_cases h1 : n = 0 ∨ (16 : Int) < n
  · refine (rcomb_arg ao n c w h1).mono ?_
    rintro e w' ⟨he, hb⟩
    exact Combd.bad (cE_arg (by omega)) (by decide) he hb
  · obtain ⟨s0, h0⟩ := hs.get 0 (by omega)
    obtain ⟨ad, rfl⟩ := hs.adr (by omega)
    exact rcomb_walk ad n c L s0 w hs h0 (by omega)
end Go.Proofs.YtineieoghlbchaaDoor
