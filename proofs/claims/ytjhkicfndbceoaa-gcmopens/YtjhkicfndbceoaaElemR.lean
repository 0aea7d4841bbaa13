/- Inverses, quotients and powers by the document's answer; the anchor of all statements of this layer. -/
import Derived.Test.YtjhkicfndbceoaaElem
namespace Go.Proofs.Ytjhkicfndbceoaa
open Go.RowKit

theorem ne_one {z : B} (h : z ≠ 1#8) : (v8 z == 1) = false := by
  have := v8_eq z 1#8
  rw [v8_one] at this
  rw [this]
  simp [h]

set_option maxRecDepth 100000 in
set_option maxHeartbeats 1000000 in
theorem refInv_any (x : B) (a : Int) (w : World) (ha : a = v8 x) :
    Calls Try.prog 44 #[.int .u8 a] w fun e w' => e = .returned (.int .u8 (v8 (inv x))) ∧ w = w' := by
  subst ha
  go_enter Try.func44, Try.ntmps44
  go_wp2
  go_loop [3] (fun i => ∃ k : Nat, k ≤ 256 ∧ i = .int .i64 k ∧ ∀ j, j < k → mul x (BitVec.ofNat 8 j) ≠ 1#8) (fun i => 256 - (intOf i).toNat)
  case atStart => exact ⟨0, by omega, rfl, fun j h => by omega⟩
  case round =>
    obtain ⟨k, hk, rfl, hno⟩ := hrel
    have HN : Hid (∀ j, j < k → mul x (BitVec.ofNat 8 j) ≠ 1#8) := hno
    clear hno
    by_cases hlt : k < 256
    · have hv : (k : Int) = v8 (BitVec.ofNat 8 k) := v8_of k (by omega) (by omega)
      have HV : Hid ((k : Int) = v8 (BitVec.ofNat 8 k)) := hv
      clear hv
      by_cases h1 : mul x (BitVec.ofNat 8 k) = 1#8
      · have hi : Hid ((k : Int) = v8 (inv x)) := by rw [HV.out, inv_unique h1]; exact rfl
        have hc := refMul_any x (BitVec.ofNat 8 k) (v8 x) k w rfl HV.out
        rw [h1, v8_one] at hc
        clear h1 HN HV
        go_wp2_with (go_at_call 45; refine hc.mono ?_; rintro e w' ⟨rfl, rfl⟩)
        go_ret
        exact ⟨by rw [← hi.out]; rfl, rfl⟩
      · have hne := ne_one h1
        have hc := refMul_any x (BitVec.ofNat 8 k) (v8 x) k w rfl HV.out
        clear HV
        go_wp2_with (go_at_call 45; refine hc.mono ?_; rintro e w' ⟨rfl, rfl⟩)
        go_round
        case rel =>
          refine ⟨k + 1, by omega, by go_num, fun j hj => ?_⟩
          by_cases e : j = k
          · subst e; exact h1
          · exact HN.out j (by omega)
        case measure => simp [intOf]; omega
    · have hk6 : k = 256 := by omega
      subst hk6
      have hx : Hid (v8 (inv x) = 0) := by
        by_cases h : x = 0#8
        · rw [h, inv_zero]; exact v8_zero
        · have := HN.out (inv x).toNat (inv x).isLt
          rw [BitVec.ofNat_toNat, BitVec.setWidth_eq, mul_inv x h] at this
          exact absurd rfl this
      rw [show ((256 : Nat) : Int) = 256 from rfl]
      go_wp2
      go_ret
      exact ⟨by rw [hx.out]; rfl, rfl⟩

set_option maxRecDepth 100000 in
set_option maxHeartbeats 1000000 in
theorem refPow_any (x : B) (a n : Int) (w : World) (ha : a = v8 x) :
    Calls Try.prog 32 #[.int .u8 a, .int .i64 n] w fun e w' => e = .returned (.int .u8 (v8 (powI x n))) ∧ w = w' := by
  subst ha
  unfold powI
  by_cases hn : n = 0
  · subst hn
    rw [if_pos rfl, v8_one]
    go_enter Try.func32, Try.ntmps32
    go_wp2
    go_ret
    exact ⟨rfl, rfl⟩
  · rw [if_neg hn]
    by_cases hx : x = 0#8
    · subst hx
      rw [if_pos rfl, v8_zero]
      go_enter Try.func32, Try.ntmps32
      go_wp2
      go_ret
      exact ⟨rfl, rfl⟩
    · rw [if_neg hx]
      have hp := v8_pos hx
      have m0 : 0 ≤ n % 255 := by omega
      have m1 : n % 255 < 255 := by omega
      have htm := tmod_of n
      obtain ⟨m, hm⟩ : ∃ m : Nat, n % 255 = m := ⟨(n % 255).toNat, by omega⟩
      rw [hm] at m0 m1 htm ⊢
      rw [Int.toNat_natCast, ← pow_E, E_lg x hx]
      clear hm hx
      have hr : n.tmod 255 = (m : Int) ∨ n.tmod 255 = (m : Int) - 255 := by omega
      have hn' : (n == 0) = false := by simp [hn]
      have hx' : (v8 x == 0) = false := by simp; omega
      have hd1 : decide ((m : Int) < 0) = false := by simp
      have hd2 : decide ((m : Int) - 255 < 0) = true := by simp; omega
      rcases hr with hr | hr
      all_goals
        go_enter Try.func32, Try.ntmps32
        go_wp2
        go_loop [6, 7] (fun p i => ∃ k : Nat, k ≤ m ∧ i = .int .i64 k ∧ p = .int .u8 (v8 (pow x k))) (fun _ i => m - (intOf i).toNat)
        case atStart => exact ⟨0, by omega, rfl, rfl⟩
        case round =>
          obtain ⟨k, hk, rfl, rfl⟩ := hrel
          by_cases hlt : k < m
          · go_wp2_with (go_at_call 45; refine (refMul_any _ _ _ _ _ rfl rfl).mono ?_; rintro e w' ⟨rfl, rfl⟩)
            go_round
            case rel => exact ⟨k + 1, by omega, by go_num, rfl⟩
            case measure => simp [intOf]; omega
          · have hkm : k = m := by omega
            subst hkm
            go_wp2
            go_ret
            exact ⟨rfl, rfl⟩
end Go.Proofs.Ytjhkicfndbceoaa
