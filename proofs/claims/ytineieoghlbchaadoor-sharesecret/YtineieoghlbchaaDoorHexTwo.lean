/- The digits' values, the document's digits, and what is equal. -/
import Derived.Test.YtineieoghlbchaaDoorHex
import Derived.Deep.QuietTactic
import Derived.BigQuiet
namespace Go.Proofs.YtineieoghlbchaaDoor
open Go.RowKit

def hvB (c : Int) : Bool := decide ((48 ≤ c ∧ c ≤ 57) ∨ (97 ≤ c ∧ c ≤ 102))
def hvN (c : Int) : Int := if 48 ≤ c ∧ c ≤ 57 then c - 48 else if 97 ≤ c ∧ c ≤ 102 then c - 87 else 0

theorem hvN_rng (c : Int) : 0 ≤ hvN c ∧ hvN c ≤ 15 := by unfold hvN; split <;> (try split) <;> omega

theorem ret2 {a a' : Int} {b b' : Bool} (h1 : a = a') (h2 : b = b') : Ending.returned (.tuple #[.int .u8 a, .bool b]) = .returned (.tuple #[.int .u8 a', .bool b']) := by rw [h1, h2]

set_option maxHeartbeats 400000 in
theorem hexValue_any (c : Int) (w : World) (h0 : 0 ≤ c) (h1 : c ≤ 255) :
    Calls Tryd.prog 58 #[.int .u8 c] w fun e w' => e = .returned (.tuple #[.int .u8 (hvN c), .bool (hvB c)]) ∧ w = w' := by
  rcases (show (48 ≤ c ∧ c ≤ 57) ∨ (97 ≤ c ∧ c ≤ 102) ∨ c < 48 ∨ (57 < c ∧ c < 97) ∨ 102 < c by omega) with h | h | h | h | h
  · obtain ⟨ha, hb⟩ := h
    go_enter Tryd.func58, Tryd.ntmps58
    go_wp2
    go_ret2
    exact ⟨ret2 (by unfold hvN; rw [if_pos ⟨ha, hb⟩]) (by unfold hvB; simp; omega), rfl⟩
  · obtain ⟨ha, hb⟩ := h
    have hc : ¬ c ≤ 57 := by omega
    have hd : 48 ≤ c := by omega
    have HN : Hid (hvN c = c - 87) := by show _ = _; unfold hvN; rw [if_neg (by omega), if_pos ⟨ha, hb⟩]
    go_enter Tryd.func58, Tryd.ntmps58
    go_wp2
    go_ret2
    exact ⟨ret2 (by rw [HN.out]; omega) (by unfold hvB; simp; omega), rfl⟩
  · have hc : ¬ 48 ≤ c := by omega
    have hd : ¬ 97 ≤ c := by omega
    have HN : Hid (hvN c = 0) := by show _ = _; unfold hvN; rw [if_neg (by omega), if_neg (by omega)]
    go_enter Tryd.func58, Tryd.ntmps58
    go_wp2
    go_ret2
    exact ⟨ret2 HN.out.symm (by unfold hvB; simp; omega), rfl⟩
  · have hc : 48 ≤ c := by omega
    have he : ¬ c ≤ 57 := by omega
    have hd : ¬ 97 ≤ c := by omega
    have HN : Hid (hvN c = 0) := by show _ = _; unfold hvN; rw [if_neg (by omega), if_neg (by omega)]
    go_enter Tryd.func58, Tryd.ntmps58
    go_wp2
    go_ret2
    exact ⟨ret2 HN.out.symm (by unfold hvB; simp; omega), rfl⟩
  · have hc : 48 ≤ c := by omega
    have he : ¬ c ≤ 57 := by omega
    have hd : 97 ≤ c := by omega
    have hf : ¬ c ≤ 102 := by omega
    have HN : Hid (hvN c = 0) := by show _ = _; unfold hvN; rw [if_neg (by omega), if_neg (by omega)]
    go_enter Tryd.func58, Tryd.ntmps58
    go_wp2
    go_ret2
    exact ⟨ret2 HN.out.symm (by unfold hvB; simp; omega), rfl⟩

set_option maxHeartbeats 400000 in
theorem value_any (c : Int) (w : World) (h0 : 0 ≤ c) (h1 : c ≤ 255) :
    Calls Tryd.prog 59 #[.int .u8 c] w fun e w' => e = .returned (.tuple #[.int .u8 (hvN c), .bool (hvB c)]) ∧ w = w' := by
  rcases (show (48 ≤ c ∧ c ≤ 57) ∨ (97 ≤ c ∧ c ≤ 102) ∨ c < 48 ∨ (57 < c ∧ c < 97) ∨ 102 < c by omega) with h | h | h | h | h
  · obtain ⟨ha, hb⟩ := h
    go_enter Tryd.func59, Tryd.ntmps59
    go_wp2
    go_ret2
    exact ⟨ret2 (by unfold hvN; rw [if_pos ⟨ha, hb⟩]) (by unfold hvB; simp; omega), rfl⟩
  · obtain ⟨ha, hb⟩ := h
    have hc : ¬ c ≤ 57 := by omega
    have hd : 48 ≤ c := by omega
    have HN : Hid (hvN c = c - 87) := by show _ = _; unfold hvN; rw [if_neg (by omega), if_pos ⟨ha, hb⟩]
    go_enter Tryd.func59, Tryd.ntmps59
    go_wp2
    go_ret2
    exact ⟨ret2 (by rw [HN.out]; omega) (by unfold hvB; simp; omega), rfl⟩
  · have hc : ¬ 48 ≤ c := by omega
    have hd : ¬ 97 ≤ c := by omega
    have HN : Hid (hvN c = 0) := by show _ = _; unfold hvN; rw [if_neg (by omega), if_neg (by omega)]
    go_enter Tryd.func59, Tryd.ntmps59
    go_wp2
    go_ret2
    exact ⟨ret2 HN.out.symm (by unfold hvB; simp; omega), rfl⟩
  · have hc : 48 ≤ c := by omega
    have he : ¬ c ≤ 57 := by omega
    have hd : ¬ 97 ≤ c := by omega
    have HN : Hid (hvN c = 0) := by show _ = _; unfold hvN; rw [if_neg (by omega), if_neg (by omega)]
    go_enter Tryd.func59, Tryd.ntmps59
    go_wp2
    go_ret2
    exact ⟨ret2 HN.out.symm (by unfold hvB; simp; omega), rfl⟩
  · have hc : 48 ≤ c := by omega
    have he : ¬ c ≤ 57 := by omega
    have hd : 97 ≤ c := by omega
    have hf : ¬ c ≤ 102 := by omega
    have HN : Hid (hvN c = 0) := by show _ = _; unfold hvN; rw [if_neg (by omega), if_neg (by omega)]
    go_enter Tryd.func59, Tryd.ntmps59
    go_wp2
    go_ret2
    exact ⟨ret2 HN.out.symm (by unfold hvB; simp; omega), rfl⟩

theorem ret_u8 {a b : Int} (h : a = b) : Ending.returned (.int .u8 a) = .returned (.int .u8 b) := by rw [h]

set_option maxHeartbeats 400000 in
theorem half_any (c : Int) (w : World) (h0 : 0 ≤ c) (h1 : c ≤ 15) :
    Calls Tryd.prog 57 #[.int .u8 c] w fun e w' => e = .returned (.int .u8 (dig c)) ∧ w = w' := by
  have HD : Hid (dig c = if c < 10 then 48 + c else 87 + c) := by
    show _ = _
    obtain ⟨k, rfl⟩ : ∃ k : Nat, c = k := ⟨c.toNat, by omega⟩
    have : ∀ k : Nat, k < 16 → dig (k : Int) = if (k : Int) < 10 then 48 + (k : Int) else 87 + (k : Int) := by decide
    exact this k (by omega)
  by_cases h : c < 10
  · go_enter Tryd.func57, Tryd.ntmps57
    go_wp2
    go_ret
    exact ⟨ret_u8 (by rw [HD.out, if_pos h]), rfl⟩
  · go_enter Tryd.func57, Tryd.ntmps57
    go_wp2
    go_ret
    exact ⟨ret_u8 (by rw [HD.out, if_neg (by omega)]; omega), rfl⟩

theorem orxor (d x y : Int) (hd0 : 0 ≤ d) (hd1 : d ≤ 255) (hx0 : 0 ≤ x) (hx1 : x ≤ 255) (hy0 : 0 ≤ y) (hy1 : y ≤ 255) :
    0 ≤ bits .or .u8 d (bits .xor .u8 x y) ∧ bits .or .u8 d (bits .xor .u8 x y) ≤ 255 ∧ (bits .or .u8 d (bits .xor .u8 x y) = 0 ↔ d = 0 ∧ x = y) := by
  obtain ⟨a, rfl⟩ : ∃ k : Nat, d = k := ⟨d.toNat, by omega⟩
  obtain ⟨b, rfl⟩ : ∃ k : Nat, x = k := ⟨x.toNat, by omega⟩
  obtain ⟨c, rfl⟩ : ∃ k : Nat, y = k := ⟨y.toNat, by omega⟩
  have h1 : b ^^^ c < 2 ^ 8 := Nat.xor_lt_two_pow (by omega) (by omega)
  have h2 : a ||| (b ^^^ c) < 2 ^ 8 := Nat.or_lt_two_pow (by omega) h1
  rw [u8_xor_nat b c (by omega) (by omega), u8_or_nat a _ (by omega) (by omega)]
  refine ⟨by omega, by omega, ?_⟩
  constructor
  · intro h
    have h3 : a ||| (b ^^^ c) = 0 := by omega
    rw [Nat.or_eq_zero_iff] at h3
    have h4 : b = c := by
      have := h3.2
      have e : b ^^^ c ^^^ c = c := by rw [this]; simp
      simpa [Nat.xor_assoc] using e
    omega
  · rintro ⟨h3, h4⟩
    have h5 : a = 0 := by omega
    have h6 : b = c := by omega
    subst h5 h6
    simp

end Go.Proofs.YtineieoghlbchaaDoor
