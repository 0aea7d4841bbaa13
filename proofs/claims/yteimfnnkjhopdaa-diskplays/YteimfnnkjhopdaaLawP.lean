/- DiskPlays: a disk answers every call of every script as the document says. -/
import Derived.Test.YteimfnnkjhopdaaDoesB
import Derived.Test.YteimfnnkjhopdaaLast2
import Derived.Deep.DeepCutAuto
namespace Go.Proofs.Yteimfnnkjhopdaa
open Go.RowKit

theorem pair_start {w w1 w2 : World} {k r f m cap q x y z : Nat} {d e : St} (hr : w.heap.size ≤ r) (hf : w.heap.size ≤ f) (hm : w.heap.size ≤ m) (hL : Lay w1 r f m cap d) (hB : Below w.heap.size w w1) (h1 : w1.heap.size ≤ q) (h2 : w1.heap.size ≤ x) (h3 : w1.heap.size ≤ y) (h4 : w1.heap.size ≤ z) (hR : RLay w2 q x y z e) (hB2 : Below w1.heap.size w1 w2) (_ : k = k) : Pair w.heap.size w2 r f m cap d q x y z e := by
  have hs := hB.size
  have hlt := fp_lt hL
  refine ⟨hL.next hB2, hR, fun j hj hj2 => ?_, fp_ge hr hf hm, fun j hj => ?_⟩
  · have := hlt j hj
    rcases hj2 with rfl | rfl | rfl | rfl <;> omega
  · rcases hj with rfl | rfl | rfl | rfl <;> omega
set_option maxRecDepth 100000 in
set_option maxHeartbeats 8000000 in
theorem plays_walk (w : World) (k : Nat) (hk1 : 1 ≤ k) (hk : k ≤ 16384) (xo : Option Addr) (xn xc : Nat) (X : Nat → OpD) (hxn : xn ≤ maxLen) (hX : Ops w xo xn X) (hZ : ∀ i, i < xn → (X i).kn ≤ 17592186043904) :
    Calls Try.prog 3 #[.int .i64 (k : Int), .slice xo xn xc] w fun e w' => e = .returned (.bool true) ∧ Below w.heap.size w w' := by
  have hxI : (xn : Int) ≤ 9223372036854775807 := by unfold maxLen at hxn; omega
  go_enter Try.func3, Try.ntmps3
  go_wp2_with fail
  go_at_call 10; refine (new_any k w hk1 hk).mono ?_; rintro e w1 ⟨r, f, m, cap, rfl, hr, hf, hm, hL, hB⟩
  go_wp2_with fail
  go_at_call 11; refine (rnew_any k w1 hk1 hk).mono ?_; rintro e w2 ⟨q, rfl, h1, x, y, z, h2, h3, h4, hR, hB2⟩
  have hP := pair_start (k := k) hr hf hm hL hB h1 h2 h3 h4 hR hB2 rfl
  have hBB := hB.trans (hB2.mono hB.size)
  clear hr hf hm hL h1 h2 h3 h4 hR hB2 hB
  go_wp2_with fail
  go_loopw [9] (fun v wr => ∃ (j : Nat) (d : St) (m : Nat), j ≤ xn ∧ j ≤ 300 ∧ v = .int .i64 (j : Int) ∧ Pair w.heap.size wr r f m cap d q x y z d ∧ Below w.heap.size w wr ∧ d.writes ≤ j ∧ d.flushes ≤ j) (fun v _ => xn - (intOf v).toNat)
  case atStart => exact ⟨0, _, m, by omega, by omega, rfl, hP, hBB, Nat.le_refl _, Nat.le_refl _⟩
  case round =>
    clear hP hBB
    obtain ⟨j, d, m, hj, hj3, rfl, hP, hB, hw, hfl⟩ := hrel
    go_upto_region 8 with (fail)
    go_cut [40] from 33 to 50 (fun b wc => b = .bool (decide (j < xn ∧ j < 300)) ∧ wc = wr)
    case first =>
      rcases two_ways j xn with ⟨h1, h2⟩ | ⟨h1, h2⟩ | h1
      · have y1 : (j : Int) < xn := by omega
        have y2 : (j : Int) < 300 := by omega
        go_wp2_with fail
        go_meet
        case rel => exact ⟨by simp [h1, h2], rfl⟩
      · have y1 : (j : Int) < xn := by omega
        have y2 : ¬ (j : Int) < 300 := by omega
        go_wp2_with fail
        go_meet
        case rel => exact ⟨by simp [h1, h2], rfl⟩
      · have y1 : ¬ (j : Int) < xn := by omega
        go_wp2_with fail
        go_meet
        case rel => exact ⟨by simp [h1], rfl⟩
    case rest =>
      obtain ⟨rfl, rfl⟩ := hcut
      by_cases hgo : j < xn ∧ j < 300
      · rw [decide_eq_true hgo]
        obtain ⟨h1, h2⟩ := hgo
        cases xo with
        | none => have := hX.bare rfl; omega
        | some ad =>
          have y1 : (j : Int) < xn := by omega
          have hg := hX.good j h1
          have hkn := hZ j h1
          obtain ⟨p0, p1, p2, p3⟩ := (hX.next hB).cell ad rfl j h1
          obtain ⟨o, eo⟩ : ∃ o, o = X j := ⟨_, rfl⟩
          rw [← eo] at hg p0 p1 p2 p3 hkn
          clear eo
          obtain ⟨oa, oi, ot, ko, kn, kc, ks⟩ := o
          have hac := act_counts d oa oi ot ks
          go_wp2_with (go_at_call 13; refine (does_any w.heap.size _ r f m cap q x y z d hP hB.size oa oi ot ko kn kc ks hg.text (wf_lt hg.wf).2 (hg.ints.next hB) (fun ad e h0 => by subst e; exact hg.ints.lt h0) hg.bare hkn (by omega) (by omega)).mono ?_; rintro e v1 ⟨rfl, m1, hP1, hF1⟩)
          go_roundw
          case rel => exact ⟨j + 1, _, m1, by omega, by omega, by go_num, hP1, hB.trans hF1, by omega, by omega⟩
          case measure => simp [intOf]; omega
      · rw [decide_eq_false hgo]
        clear hgo
        have n0 : ∀ W : World, Ints W none 0 [] := fun W => ⟨rfl, fun _ => rfl, fun _ h => (by cases h), fun _ h => (by cases h)⟩
        go_wp2_with fail
        go_at_call 13; refine (does_any w.heap.size _ r f m cap q x y z d hP hB.size 7 0 ⟨#[]⟩ none 0 0 [] (by decide) (by decide) (n0 _) (fun ad e => by cases e) (fun _ => rfl) (by decide) (by omega) (by omega)).mono ?_; rintro e v1 ⟨rfl, m1, hP1, hF1⟩
        have hP1 : Pair w.heap.size v1 r f m1 cap d q x y z d := hP1
        have hB1 := hB.trans hF1
        go_wp2_with fail
        go_at_call 13; refine (does_any w.heap.size _ r f m1 cap q x y z d hP1 hB1.size 8 0 ⟨#[]⟩ none 0 0 [] (by decide) (by decide) (n0 _) (fun ad e => by cases e) (fun _ => rfl) (by decide) (by omega) (by omega)).mono ?_; rintro e v2 ⟨rfl, m2, hP2, hF2⟩
        have hB2 := hB1.trans hF2
        go_wp2_with fail
        go_at_call 12; refine (works_any _).mono ?_; rintro e x4 ⟨rfl, k4⟩
        go_wp2_with fail
        go_ret
        exact ⟨rfl, hB2.trans (k4.mono hB2.size)⟩
set_option maxRecDepth 100000 in
set_option maxHeartbeats 2000000 in
theorem plays_all (w : World) (k : Int) (xo : Option Addr) (xn xc : Nat) (X : Nat → OpD) (hk : (Lit.int .i64 k).wf = true) (hxn : xn ≤ maxLen) (hX : Ops w xo xn X) (hZ : ∀ i, i < xn → (X i).kn ≤ 17592186043904) :
    Calls Try.prog 3 #[.int .i64 k, .slice xo xn xc] w fun e w' => e = .returned (.bool true) ∧ Below w.heap.size w w' := by
  by_cases h1 : 1 ≤ k ∧ k ≤ 16384
  · obtain ⟨m, rfl⟩ := Int.eq_ofNat_of_zero_le (show 0 ≤ k by omega)
    exact plays_walk w m (by omega) (by omega) xo xn xc X hxn hX hZ
  · have := wf_lt hk
    go_enter Try.func3, Try.ntmps3
    go_wp2_with fail
    go_at_call 10; refine (new_bad k _ h1).mono ?_; rintro e w' ⟨rfl, rfl⟩
    go_wp2_with fail
    go_at_call 11; refine (rnew_bad k _ h1).mono ?_; rintro e w' ⟨rfl, rfl⟩
    go_wp2_with fail
    go_at_call 12; refine (works_any _).mono ?_; rintro e x4 ⟨rfl, k4⟩
    go_wp2_with fail
    go_ret
    exact ⟨rfl, k4⟩
end Go.Proofs.Yteimfnnkjhopdaa
