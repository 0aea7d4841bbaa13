/- Sums and products of elements, by the program. -/
import Derived.Test.YtjhkicfndbceoaaRows
import Derived.Test.YtjhkicfndbceoaaMath
import Derived.WalkKit
import Derived.WalkSpells
import Derived.WalkLawsBesides
import Derived.Laws.BitsAll
import Derived.Laws.ShiftsVar
import Derived.Outline
namespace Go.Proofs.Ytjhkicfndbceoaa
open Go.RowKit

/-- An element as the program's number. -/
def v8 (x : B) : Int := (x.toNat : Int)
theorem v8_nn (x : B) : 0 ≤ v8 x := by unfold v8; omega
theorem v8_le (x : B) : v8 x ≤ 255 := by unfold v8; have := x.isLt; omega
theorem v8_inj {x y : B} (h : v8 x = v8 y) : x = y := by
  apply BitVec.eq_of_toNat_eq
  unfold v8 at h
  omega
theorem v8_eq (x y : B) : (v8 x == v8 y) = decide (x = y) := by
  by_cases h : x = y
  · subst h; simp
  · have : v8 x ≠ v8 y := fun e => h (v8_inj e)
    simp [h, this]
theorem v8_of (n : Int) (h0 : 0 ≤ n) (h1 : n ≤ 255) : n = v8 (BitVec.ofNat 8 n.toNat) := by
  unfold v8
  rw [BitVec.toNat_ofNat]
  omega
theorem v8_xor (x y : B) : bits .xor .u8 (v8 x) (v8 y) = v8 (x ^^^ y) := by
  have e : ∀ z : B, BitVec.ofInt 8 (v8 z) = z := by
    intro z
    unfold v8
    rw [BitVec.ofInt_natCast, BitVec.ofNat_toNat, BitVec.setWidth_eq]
  show IntKind.u8.wrap ((BitVec.ofInt 8 (v8 x) ^^^ BitVec.ofInt 8 (v8 y)).toNat : Int) = v8 (x ^^^ y)
  rw [e, e]
  obtain ⟨z, hz⟩ : ∃ z, z = x ^^^ y := ⟨_, rfl⟩
  rw [← hz]
  have := z.isLt
  simp only [IntKind.wrap, IntKind.bits, IntKind.signed]
  unfold v8
  simp
  omega

theorem add_any (x y : B) (a b : Int) (w : World) (ha : a = v8 x) (hb : b = v8 y) :
    Calls Try.prog 46 #[.int .u8 a, .int .u8 b] w fun e w' => e = .returned (.int .u8 (v8 (x ^^^ y))) ∧ w = w' := by
  subst ha hb
  rw [← v8_xor]
  go_enter Try.func46, Try.ntmps46
  go_wp2
  go_ret
  exact ⟨rfl, rfl⟩

theorem tt_top (a : B) (h : a.getLsbD 7 = true) : bits .and .u8 (v8 a) 128 = 128 ∧ bits .xor .u8 (v8 a * 2 % 256) 27 = v8 (tt a) :=
  all_of (P := fun a => a.getLsbD 7 = true → bits .and .u8 (v8 a) 128 = 128 ∧ bits .xor .u8 (v8 a * 2 % 256) 27 = v8 (tt a)) (by decide +kernel) a h
theorem tt_low (a : B) (h : a.getLsbD 7 = false) : bits .and .u8 (v8 a) 128 = 0 ∧ v8 a * 2 % 256 = v8 (tt a) :=
  all_of (P := fun a => a.getLsbD 7 = false → bits .and .u8 (v8 a) 128 = 0 ∧ v8 a * 2 % 256 = v8 (tt a)) (by decide +kernel) a h

theorem times_any (x : B) (a : Int) (w : World) (ha : a = v8 x) :
    Calls Try.prog 70 #[.int .u8 a] w fun e w' => e = .returned (.int .u8 (v8 (tt x))) ∧ w = w' := by
  subst ha
  have h0 := v8_nn x
  have h1 := v8_le x
  cases h : x.getLsbD 7
  · obtain ⟨k1, k2⟩ := tt_low x h
    have K2 : Hid (v8 x * 2 % 256 = v8 (tt x)) := k2
    clear k2
    go_enter Try.func70, Try.ntmps70
    go_wp2
    go_ret
    exact ⟨by rw [← K2.out]; rfl, rfl⟩
  · obtain ⟨k1, k2⟩ := tt_top x h
    have K2 : Hid (bits .xor .u8 (v8 x * 2 % 256) 27 = v8 (tt x)) := k2
    clear k2
    go_enter Try.func70, Try.ntmps70
    go_wp2
    go_ret
    exact ⟨by rw [← K2.out]; rfl, rfl⟩

theorem mulTo_stop (k d : Nat) (x y : B) (h : y >>> k = 0#8) : mulTo (k + d) x y = mulTo k x y := by
  induction d with
  | zero => rfl
  | succ d ih =>
    rw [← Nat.add_assoc]
    simp only [mulTo]
    have : y.getLsbD (k + d) = false := by
      rw [← BitVec.getLsbD_ushiftRight, h]
      simp
    rw [this, ih]
    simp
theorem low_bit (z : B) : bits .and .u8 (v8 z) 1 = (if z.getLsbD 0 then 1 else 0) :=
  all_of (P := fun z => bits .and .u8 (v8 z) 1 = (if z.getLsbD 0 then 1 else 0)) (by decide +kernel) z
theorem half (z : B) : v8 z / (2 : Int) = v8 (z >>> 1) := all_of (P := fun z => v8 z / (2 : Int) = v8 (z >>> 1)) (by decide +kernel) z
theorem v8_pos {z : B} (h : z ≠ 0#8) : 0 < v8 z := by
  have := v8_nn z
  have : v8 z ≠ 0 := fun e => h (v8_inj (e.trans (show (0 : Int) = v8 0#8 by decide)))
  omega

theorem mul_any (x y : B) (a b : Int) (w : World) (ha : a = v8 x) (hb : b = v8 y) :
    Calls Try.prog 65 #[.int .u8 a, .int .u8 b] w fun e w' => e = .returned (.int .u8 (v8 (mul x y))) ∧ w = w' := by
  subst ha hb
  go_enter Try.func65, Try.ntmps65
  go_wp2
  go_loop [0, 1, 5] (fun a b p => ∃ k : Nat, k ≤ 8 ∧ a = .int .u8 (v8 (tp k x)) ∧ b = .int .u8 (v8 (y >>> k)) ∧ p = .int .u8 (v8 (mulTo k x y))) (fun _ b _ => (intOf b).toNat)
  case atStart => exact ⟨0, by omega, rfl, by simp, rfl⟩
  case round =>
    obtain ⟨k, hk, rfl, rfl, rfl⟩ := hrel
    by_cases hz : y >>> k = 0#8
    · have HM : Hid (mul x y = mulTo k x y) := by
        have := mulTo_stop k (8 - k) x y hz
        rwa [show k + (8 - k) = 8 by omega] at this
      rw [hz, show v8 0#8 = 0 by decide]
      clear hz
      go_wp2
      go_ret
      exact ⟨by rw [HM.out]; rfl, rfl⟩
    · have hk8 : k < 8 := by
        rcases Nat.lt_or_ge k 8 with h | h
        · exact h
        · exact absurd (by rw [show k = 8 by omega]; exact BitVec.ushiftRight_eq_zero (Nat.le_refl _)) hz
      have hp := v8_pos hz
      have hl := low_bit (y >>> k)
      have hh : Hid (v8 (y >>> k) / (2 : Int) = v8 (y >>> (k + 1))) := by have := half (y >>> k); rw [← BitVec.shiftRight_add] at this; exact this
      have hlt : v8 (y >>> k) / 2 < v8 (y >>> k) := by omega
      have hle := v8_le (y >>> k)
      rw [BitVec.getLsbD_ushiftRight, Nat.add_zero] at hl
      have HS : Hid (mulTo (k + 1) x y = mulTo k x y ^^^ (if y.getLsbD k then tp k x else 0#8)) := rfl
      obtain ⟨z, ez⟩ : ∃ z, z = v8 (y >>> k) := ⟨_, rfl⟩
      rw [← ez] at hl hh hp hlt hle ⊢
      clear ez hz
      cases hb : y.getLsbD k
      · rw [hb] at hl HS
        go_wp2_with (go_at_call 70; refine (times_any _ _ _ rfl).mono ?_; rintro e w' ⟨rfl, rfl⟩)
        go_round
        case rel => exact ⟨k + 1, by omega, rfl, by rw [hh.out], by rw [HS.out]; simp⟩
        case measure => simp [intOf]; omega
      · rw [hb] at hl HS
        go_wp2_with (first | (go_at_call 70; refine (times_any _ _ _ rfl).mono ?_; rintro e w' ⟨rfl, rfl⟩) | (go_at_call 46; refine (add_any _ _ _ _ _ rfl rfl).mono ?_; rintro e w' ⟨rfl, rfl⟩))
        go_round
        case rel => exact ⟨k + 1, by omega, rfl, by rw [hh.out], by rw [HS.out]; simp⟩
        case measure => simp [intOf]; omega
end Go.Proofs.Ytjhkicfndbceoaa
