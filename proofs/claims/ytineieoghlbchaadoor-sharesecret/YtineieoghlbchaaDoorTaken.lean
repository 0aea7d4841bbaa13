/- Numbers brought round, bytes gone round, places taken. -/
import Derived.Test.YtineieoghlbchaaDoorOwnS
namespace Go.Proofs.YtineieoghlbchaaDoor
open Go.RowKit

theorem tmod_round (x : Int) (n : Nat) (hn : 0 < n) : (0 ≤ x.tmod n ∧ x.tmod n = x % n) ∨ (x.tmod n < 0 ∧ x.tmod n + n = x % n) := by
  rcases Int.lt_or_le x 0 with h | h
  · have e : x.tmod n = -((-x) % n) := by
      have := Int.tmod_eq_emod_of_nonneg (a := -x) (b := n) (by omega)
      rw [Int.neg_tmod] at this
      omega
    have h1 := Int.emod_nonneg x (show (n : Int) ≠ 0 by omega)
    have h2 := Int.emod_lt_of_pos x (show (0 : Int) < n by omega)
    have h3 := Int.emod_nonneg (-x) (show (n : Int) ≠ 0 by omega)
    have h4 := Int.emod_lt_of_pos (-x) (show (0 : Int) < n by omega)
    rw [e]
    have hx := Int.mul_ediv_add_emod x n
    have hy := Int.mul_ediv_add_emod (-x) n
    by_cases hz : (-x) % n = 0
    · left
      have hd : (n : Int) ∣ -x := Int.dvd_of_emod_eq_zero hz
      have hd2 : (n : Int) ∣ x := (Int.dvd_neg).1 hd
      have := Int.emod_eq_zero_of_dvd hd2
      omega
    · right
      refine ⟨by omega, ?_⟩
      have e3 : (x + (-x) % n) % n = 0 := by
        have : x + (-x) % n = n * (-((-x) / n)) := by rw [Int.mul_neg]; omega
        rw [this]
        exact Int.mul_emod_right _ _
      have e5 : x % n = (-((-x) % n) + n) % n := by
        rw [Int.add_emod_right]
        have e6 : (-((-x) % n)) % n = (x - (x + (-x) % n)) % n := by congr 1; omega
        rw [e6, Int.sub_emod, e3, Int.sub_zero, Int.emod_emod_of_dvd _ (Int.dvd_refl _)]
      exact (e5.trans (Int.emod_eq_of_lt (by omega) (by omega))).symm
  · left
    have := Int.emod_nonneg x (show (n : Int) ≠ 0 by omega)
    rw [Int.tmod_eq_emod_of_nonneg h]
    exact ⟨this, rfl⟩

theorem mod_any (x : Int) (n : Nat) (w : World) (hn : 0 < n) (hn2 : (n : Int) ≤ 1000) :
    Calls Tryd.prog 28 #[.int .i64 x, .int .i64 n] w fun e w' => e = .returned (.int .i64 (x % n)) ∧ w = w' := by
  have hn0 : ¬ (n : Int) = 0 := by omega
  have hn0' : ¬ n = 0 := by omega
  have h2 := Int.emod_lt_of_pos x (show (0 : Int) < n by omega)
  have h1 := Int.emod_nonneg x (show (n : Int) ≠ 0 by omega)
  rcases tmod_round x n hn with ⟨h, e⟩ | ⟨h, e⟩
  · rw [← e]
    rw [← e] at h2
    obtain ⟨t, et⟩ : ∃ t, t = x.tmod n := ⟨_, rfl⟩
    rw [← et] at h h2
    rw [← et]
    have het : x.tmod n = t := et.symm
    clear et e h1
    go_enter Tryd.func28, Tryd.ntmps28
    go_wp2
    go_ret
    exact ⟨rfl, rfl⟩
  · rw [← e]
    rw [← e] at h1
    obtain ⟨t, et⟩ : ∃ t, t = x.tmod n := ⟨_, rfl⟩
    rw [← et] at h h1
    rw [← et]
    have het : x.tmod n = t := et.symm
    clear et e h2
    go_enter Tryd.func28, Tryd.ntmps28
    go_wp2
    go_ret
    exact ⟨rfl, rfl⟩

set_option maxRecDepth 100000 in
set_option maxHeartbeats 1000000 in
theorem filled_any (ao : Option Addr) (m c n : Nat) (S : List B) (w : World) (hs : Shows w ao m (S.map v8)) (hm : (m : Int) ≤ 9223372036854775807) (hn : (n : Int) ≤ 100000) :
    Calls Tryd.prog 30 #[.slice ao m c, .int .i64 n] w fun e w' => ∃ v, ∃ F : List B, e = .returned v ∧ w'.ownsRow w.heap.size 5 1 v n (u8s (F.map v8)) ∧ Below w.heap.size w w' := by
  go_enter Tryd.func30, Tryd.ntmps30
  go_wp2
  go_loopw [5, 6] (fun v i wr => ∃ (j : Nat) (F : List B), j ≤ n ∧ i = .int .i64 j ∧ wr.ownsRow w.heap.size 5 1 v j (u8s (F.map v8)) ∧ Below w.heap.size w wr) (fun _ i _ => n - (intOf i).toNat)
  case atStart => exact ⟨0, [], Nat.zero_le _, rfl, World.ownsRow_nil _ _ _ _, Below.refl _ _⟩
  case round =>
    obtain ⟨j, F, hj, rfl, hv, hb⟩ := hrel
    have hsz := hb.size
    by_cases hlt : j < n
    · have hjn : (j : Int) < (n : Int) := by omega
      obtain ⟨fs, HF⟩ : ∃ fs, Hid (fs = F.map v8) := ⟨_, rfl⟩
      rw [← HF.out] at hv
      by_cases hm0 : m = 0
      · subst hm0
        have hsn := shows_new wr [0] (by simp)
        go_wp2_with (at_builtin; go_must (refine law_append rfl _ _ rfl w.heap.size _ _ _ rfl (hv.alloc _) _ 1 1 [0] rfl hsn (fun e => (by cases e)) (by omega) (by simp; omega) ?_))
        intro v' w2 hv2 hg _
        go_wp2
        go_roundw
        case rel =>
          refine ⟨j + 1, F ++ [0#8], by omega, by go_num, ?_, (hb.alloc hsz _).grown hg (by simp; omega) (fun b hb => (hv.lt b hb).1)⟩
          rw [List.map_append, ← HF.out]
          exact hv2
        case measure => simp [intOf]; omega
      · have hm0' : ((m : Int) == 0) = false := by simp; omega
        have hmz : ¬ (m : Int) = 0 := by omega
        obtain ⟨ad, rfl⟩ := hs.some (by omega)
        have het : (j : Int).tmod m = ((j % m : Nat) : Int) := by rw [Int.tmod_eq_emod_of_nonneg (by omega)]; omega
        have hlm : j % m < m := Nat.mod_lt _ (by omega)
        have hc := (hs.later hb).elem (j % m) hlm
        obtain ⟨r, hr⟩ : ∃ r, r = j % m := ⟨_, rfl⟩
        rw [← hr] at het hlm hc
        have hlm' : (r : Int) < (m : Int) := by omega
        obtain ⟨x, hx⟩ : ∃ x, x = S.getD r 0#8 := ⟨_, rfl⟩
        rw [← hx] at hc
        clear hr hx
        have hsn := shows_new wr [v8 x] (by intro z hz; rw [List.mem_singleton] at hz; rw [hz]; exact ⟨v8_nn _, v8_le _⟩)
        go_wp2_with (at_builtin; go_must (refine law_append rfl _ _ rfl w.heap.size _ _ _ rfl (hv.alloc _) _ 1 1 [v8 x] rfl hsn (fun e => (by cases e)) (by omega) (by simp; omega) ?_))
        intro v' w2 hv2 hg _
        go_wp2
        go_roundw
        case rel =>
          refine ⟨j + 1, F ++ [x], by omega, by go_num, ?_, (hb.alloc hsz _).grown hg (by simp; omega) (fun b hb => (hv.lt b hb).1)⟩
          rw [List.map_append, ← HF.out]
          exact hv2
        case measure => simp [intOf]; omega
    · have hjn : n = j := by omega
      subst hjn
      go_wp2
      go_ret
      exact ⟨_, F, rfl, hv, hb⟩
end Go.Proofs.YtineieoghlbchaaDoor
