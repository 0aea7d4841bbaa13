/- Inverses, quotients and powers, by the program and by the document's answer. -/
import Derived.Test.YtokjlgafidcahaaRef
import Derived.Test.YtokjlgafidcahaaTabs
namespace Go.Proofs.Ytokjlgafidcahaa
open Go.RowKit

theorem log_any (x : B) (a : Int) (g : Nat) (w : World) (ha : a = v8 x) (hx : x ≠ 0#8) (hT : Tabs w g) :
    Calls Try.prog 28 #[.pointer (some ⟨g, 0, none⟩), .int .u8 a] w fun e w' => e = .returned (.int .i64 (lg x)) ∧ w = w' := by
  subst ha
  have h0 := v8_nn x
  have h1 := v8_le x
  have hc := hT.log x hx
  rw [← v8_toNat] at hc
  have l0 : (0 : Int) ≤ (lg x : Int) := by omega
  have l1 : (lg x : Int) < 255 := by have := lg_lt x; omega
  clear hT hx
  go_enter Try.func28, Try.ntmps28
  go_wp2
  go_ret
  exact ⟨rfl, rfl⟩

theorem power_any (k : Nat) (n : Int) (g : Nat) (w : World) (hn : n = k) (h1 : n ≤ 9223372036854775807) (hT : Tabs w g) :
    Calls Try.prog 27 #[.pointer (some ⟨g, 0, none⟩), .int .i64 n] w fun e w' => e = .returned (.int .u8 (v8 (E k))) ∧ w = w' := by
  have hc := hT.pow (n % 255).toNat (by omega)
  have he : (n % 255).toNat = k % 255 := by omega
  rw [show E (n % 255).toNat = E k by rw [he, E_mod]] at hc
  have h0 : 0 ≤ n := by omega
  have hb0 : 0 ≤ n % 255 := by omega
  have hb1 : n % 255 < 255 := by omega
  clear hT he hn
  go_enter Try.func27, Try.ntmps27
  go_wp2
  go_ret
  exact ⟨rfl, rfl⟩

theorem v8_zero : v8 0#8 = 0 := by decide
theorem v8_one : v8 1#8 = 1 := by decide

set_option maxRecDepth 100000 in
theorem inv_any (x : B) (a : Int) (w : World) (ha : a = v8 x) :
    Calls Try.prog 14 #[.int .u8 a] w fun e w' => e = .returned (.int .u8 (v8 (inv x))) ∧ Below w.heap.size w w' := by
  subst ha
  by_cases hx : x = 0#8
  · subst hx
    rw [inv_zero, v8_zero]
    go_enter Try.func14, Try.ntmps14
    go_wp2
    go_ret
    exact ⟨rfl, Below.refl _ _⟩
  · have hp := v8_pos hx
    have hi : Hid (inv x = E (255 - lg x)) := by
      unfold inv
      rw [if_neg hx]
      rfl
    have hl : (lg x : Int) < 255 := by have := lg_lt x; omega
    go_enter Try.func14, Try.ntmps14
    go_wp2_with (first
      | (go_at_call 26; refine (newTables_any _).mono ?_; rintro e w1 ⟨rfl, hT, hb⟩)
      | (go_at_call 28; refine (log_any x _ _ _ rfl hx hT).mono ?_; rintro e w2 ⟨rfl, rfl⟩)
      | (go_at_call 27; refine (power_any (255 - lg x) _ _ _ (by omega) (by omega) hT).mono ?_; rintro e w2 ⟨rfl, rfl⟩))
    go_ret
    exact ⟨by rw [hi.out]; rfl, hb⟩

set_option maxRecDepth 100000 in
theorem div_any (x y : B) (a b : Int) (w : World) (ha : a = v8 x) (hb : b = v8 y) :
    Calls Try.prog 9 #[.int .u8 a, .int .u8 b] w fun e w' => e = .returned (.tuple #[.int .u8 (v8 (quo x y)), .int .i64 (if y = 0#8 then 30 else 0)]) ∧ Below w.heap.size w w' := by
  subst ha hb
  by_cases hy : y = 0#8
  · subst hy
    rw [if_pos rfl, show quo x 0#8 = 0#8 by unfold quo; rw [inv_zero, mul_zero], v8_zero]
    go_enter Try.func9, Try.ntmps9
    go_wp2
    go_ret2
    exact ⟨rfl, Below.refl _ _⟩
  · rw [if_neg hy]
    have hp := v8_pos hy
    go_enter Try.func9, Try.ntmps9
    go_wp2_with (first
      | (go_at_call 14; refine (inv_any y _ _ rfl).mono ?_; rintro e w1 ⟨rfl, hb⟩)
      | (go_at_call 12; refine (mul_any x _ _ _ _ rfl rfl).mono ?_; rintro e w2 ⟨rfl, rfl⟩))
    go_ret2
    exact ⟨rfl, hb⟩

/-- The product of n elements x, or of as many inverses. -/
def powI (x : B) (n : Int) : B := if n = 0 then 1#8 else if x = 0#8 then 0#8 else E (lg x * (n % 255).toNat)

theorem small_mul (l m : Int) (h0 : 0 ≤ l) (h1 : l < 255) (h2 : 0 ≤ m) (h3 : m < 255) : 0 ≤ l * m ∧ l * m ≤ 65025 := by
  constructor
  · exact Int.mul_nonneg h0 h2
  · have : l * m ≤ 255 * 255 := Int.mul_le_mul (by omega) (by omega) h2 (by omega)
    omega
theorem tmod_of (n : Int) : (0 ≤ n.tmod 255 ∧ n.tmod 255 = n % 255) ∨ (n.tmod 255 < 0 ∧ n.tmod 255 + 255 = n % 255) := by
  rcases Int.lt_or_le n 0 with h | h
  · have e : n.tmod 255 = -((-n) % 255) := by
      have := Int.tmod_eq_emod_of_nonneg (a := -n) (b := 255) (by omega)
      rw [Int.neg_tmod] at this
      omega
    omega
  · have e := Int.tmod_eq_emod_of_nonneg (a := n) (b := 255) h
    omega

set_option maxRecDepth 100000 in
set_option maxHeartbeats 1000000 in
theorem pow_any (x : B) (a n : Int) (w : World) (ha : a = v8 x) :
    Calls Try.prog 16 #[.int .u8 a, .int .i64 n] w fun e w' => e = .returned (.int .u8 (v8 (powI x n))) ∧ Below w.heap.size w w' := by
  subst ha
  unfold powI
  by_cases hn : n = 0
  · subst hn
    rw [if_pos rfl, v8_one]
    go_enter Try.func16, Try.ntmps16
    go_wp2
    go_ret
    exact ⟨rfl, Below.refl _ _⟩
  · rw [if_neg hn]
    by_cases hx : x = 0#8
    · subst hx
      rw [if_pos rfl, v8_zero]
      go_enter Try.func16, Try.ntmps16
      go_wp2
      go_ret
      exact ⟨rfl, Below.refl _ _⟩
    · rw [if_neg hx]
      have hp := v8_pos hx
      have l0 : (0 : Int) ≤ (lg x : Int) := by omega
      have l1 : (lg x : Int) < 255 := by have := lg_lt x; omega
      have m0 : 0 ≤ n % 255 := by omega
      have m1 : n % 255 < 255 := by omega
      have htm := tmod_of n
      obtain ⟨m, hm⟩ : ∃ m : Nat, n % 255 = m := ⟨(n % 255).toNat, by omega⟩
      rw [hm] at m0 m1 htm ⊢
      obtain ⟨p0, p1⟩ := small_mul _ _ l0 l1 m0 m1
      rw [Int.toNat_natCast]
      clear hm
      rcases htm with ⟨hr0, hr⟩ | ⟨hr0, hr⟩
      · rw [hr] at hr0
        go_enter Try.func16, Try.ntmps16
        go_wp2_with (first
          | (go_at_call 26; refine (newTables_any _).mono ?_; rintro e w1 ⟨rfl, hT, hb⟩)
          | (go_at_call 28; refine (log_any x _ _ _ rfl hx hT).mono ?_; rintro e w2 ⟨rfl, rfl⟩)
          | (go_at_call 27; refine (power_any (lg x * m) _ _ _ (by rw [Int.natCast_mul]) (by omega) hT).mono ?_; rintro e w2 ⟨rfl, rfl⟩))
        go_ret
        exact ⟨rfl, hb⟩
      · have hr2 : n.tmod 255 = (m : Int) - 255 := by omega
        rw [hr2] at hr0
        clear hr
        go_enter Try.func16, Try.ntmps16
        go_wp2_with (first
          | (go_at_call 26; refine (newTables_any _).mono ?_; rintro e w1 ⟨rfl, hT, hb⟩)
          | (go_at_call 28; refine (log_any x _ _ _ rfl hx hT).mono ?_; rintro e w2 ⟨rfl, rfl⟩)
          | (go_at_call 27; refine (power_any (lg x * m) _ _ _ (by rw [Int.natCast_mul]) (by omega) hT).mono ?_; rintro e w2 ⟨rfl, rfl⟩))
        go_ret
        exact ⟨rfl, hb⟩
end Go.Proofs.Ytokjlgafidcahaa
