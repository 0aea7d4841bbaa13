/- Inverses, quotients and powers by the document's answer; the anchor of all statements of this layer. -/
import Derived.Test.YtineieoghlbchaaDoorElem
namespace Go.Proofs.YtineieoghlbchaaDoor
open Go.RowKit

theorem ne_one {z : B} (h : z ≠ 1#8) : (v8 z == 1) = false := by
  have := v8_eq z 1#8
  rw [v8_one] at this
  rw [this]
  simp [h]

set_option maxRecDepth 100000 in
set_option maxHeartbeats 1000000 in
theorem refInv_any (x : B) (a : Int) (w : World) (ha : a = v8 x) :
    Calls Tryd.prog 60 #[.int .u8 a] w fun e w' => e = .returned (.int .u8 (v8 (inv x))) ∧ w = w' := by
  subst ha
  go_enter Tryd.func60, Tryd.ntmps60
  go_wp2
  go_loop [3] (fun i => ∃ k : Nat, k ≤ 256 ∧ i = .int .i64 k ∧ ∀ j, j < k → mul x (BitVec.ofNat 8 j) ≠ 1#8) (fun i => 256 - (intOf i).toNat)
  case atStart => exact ⟨0, by omega, rfl, fun j h => by omega⟩
  case round =>
    obtain ⟨k, hk, rfl, hno⟩ := hrel
    have HN : Hid (∀ j, j < k → mul x (BitVec.ofNat 8 j) ≠ 1#8) := hno
    clear hno
    by_cases hlt : k < 256
    · have hv : (k : Int) = v8 (BitVec.ofNat 8 k) := v8_of k (by omega) (by omega)
      have HV : Hid ((k : Int) = v8 (BitVec.ofNat 8 k)) := hv
      clear hv
      by_cases h1 : mul x (BitVec.ofNat 8 k) = 1#8
      · have hi : Hid ((k : Int) = v8 (inv x)) := by rw [HV.out, inv_unique h1]; exact rfl
        have hc := refMul_any x (BitVec.ofNat 8 k) (v8 x) k w rfl HV.out
        rw [h1, v8_one] at hc
        clear h1 HN HV
        go_wp2_with (go_at_call 49; refine hc.mono ?_; rintro e w' ⟨rfl, rfl⟩)
        go_ret
        exact ⟨by rw [← hi.out]; rfl, rfl⟩
      · have hne := ne_one h1
        have hc := refMul_any x (BitVec.ofNat 8 k) (v8 x) k w rfl HV.out
        clear HV
        go_wp2_with (go_at_call 49; refine hc.mono ?_; rintro e w' ⟨rfl, rfl⟩)
        go_round
        case rel =>
          refine ⟨k + 1, by omega, by go_num, fun j hj => ?_⟩
          by_cases e : j = k
          · subst e; exact h1
          · exact HN.out j (by omega)
        case measure => simp [intOf]; omega
    · have hk6 : k = 256 := by omega
      subst hk6
      have hx : Hid (v8 (inv x) = 0) := by
        by_cases h : x = 0#8
        · rw [h, inv_zero]; exact v8_zero
        · have := HN.out (inv x).toNat (inv x).isLt
          rw [BitVec.ofNat_toNat, BitVec.setWidth_eq, mul_inv x h] at this
          exact absurd rfl this
      rw [show ((256 : Nat) : Int) = 256 from rfl]
      go_wp2
      go_ret
      exact ⟨by rw [hx.out]; rfl, rfl⟩

set_option maxRecDepth 100000 in
theorem refDiv_any (x y : B) (a b : Int) (w : World) (ha : a = v8 x) (hb : b = v8 y) :
    Calls Tryd.prog 48 #[.int .u8 a, .int .u8 b] w fun e w' => e = .returned (.tuple #[.int .u8 (v8 (quo x y)), .int .i64 (if y = 0#8 then 30 else 0)]) ∧ w = w' := by
  subst ha hb
  by_cases hy : y = 0#8
  · subst hy
    rw [if_pos rfl, show quo x 0#8 = 0#8 by unfold quo; rw [inv_zero, mul_zero], v8_zero]
    go_enter Tryd.func48, Tryd.ntmps48
    go_wp2
    go_ret2
    exact ⟨rfl, rfl⟩
  · rw [if_neg hy]
    have hp := v8_pos hy
    go_enter Tryd.func48, Tryd.ntmps48
    go_wp2_with (first
      | (go_at_call 60; refine (refInv_any y _ _ rfl).mono ?_; rintro e w1 ⟨rfl, rfl⟩)
      | (go_at_call 49; refine (refMul_any x _ _ _ _ rfl rfl).mono ?_; rintro e w2 ⟨rfl, rfl⟩))
    go_ret2
    exact ⟨rfl, rfl⟩

end Go.Proofs.YtineieoghlbchaaDoor
