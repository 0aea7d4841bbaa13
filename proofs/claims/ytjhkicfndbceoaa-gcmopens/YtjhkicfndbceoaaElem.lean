/- Inverses, quotients and powers, by the program and by the document's answer. -/
import Derived.Test.YtjhkicfndbceoaaRef
import Derived.Test.YtjhkicfndbceoaaTabs
namespace Go.Proofs.Ytjhkicfndbceoaa
open Go.RowKit

theorem log_any (x : B) (a : Int) (g : Nat) (w : World) (ha : a = v8 x) (hx : x ≠ 0#8) (hT : Tabs w g) :
    Calls Try.prog 62 #[.pointer (some ⟨g, 0, none⟩), .int .u8 a] w fun e w' => e = .returned (.int .i64 (lg x)) ∧ w = w' := by
  subst ha
  have h0 := v8_nn x
  have h1 := v8_le x
  have hc := hT.log x hx
  rw [← v8_toNat] at hc
  have l0 : (0 : Int) ≤ (lg x : Int) := by omega
  have l1 : (lg x : Int) < 255 := by have := lg_lt x; omega
  clear hT hx
  go_enter Try.func62, Try.ntmps62
  go_wp2
  go_ret
  exact ⟨rfl, rfl⟩

theorem power_any (k : Nat) (n : Int) (g : Nat) (w : World) (hn : n = k) (h1 : n ≤ 9223372036854775807) (hT : Tabs w g) :
    Calls Try.prog 61 #[.pointer (some ⟨g, 0, none⟩), .int .i64 n] w fun e w' => e = .returned (.int .u8 (v8 (E k))) ∧ w = w' := by
  have hc := hT.pow (n % 255).toNat (by omega)
  have he : (n % 255).toNat = k % 255 := by omega
  rw [show E (n % 255).toNat = E k by rw [he, E_mod]] at hc
  have h0 : 0 ≤ n := by omega
  have hb0 : 0 ≤ n % 255 := by omega
  have hb1 : n % 255 < 255 := by omega
  clear hT he hn
  go_enter Try.func61, Try.ntmps61
  go_wp2
  go_ret
  exact ⟨rfl, rfl⟩

theorem v8_zero : v8 0#8 = 0 := by decide
theorem v8_one : v8 1#8 = 1 := by decide

/-- The product of n elements x, or of as many inverses. -/
def powI (x : B) (n : Int) : B := if n = 0 then 1#8 else if x = 0#8 then 0#8 else E (lg x * (n % 255).toNat)

theorem small_mul (l m : Int) (h0 : 0 ≤ l) (h1 : l < 255) (h2 : 0 ≤ m) (h3 : m < 255) : 0 ≤ l * m ∧ l * m ≤ 65025 := by
  constructor
  · exact Int.mul_nonneg h0 h2
  · have : l * m ≤ 255 * 255 := Int.mul_le_mul (by omega) (by omega) h2 (by omega)
    omega
theorem tmod_of (n : Int) : (0 ≤ n.tmod 255 ∧ n.tmod 255 = n % 255) ∨ (n.tmod 255 < 0 ∧ n.tmod 255 + 255 = n % 255) := by
  rcases Int.lt_or_le n 0 with h | h
  · have e : n.tmod 255 = -((-n) % 255) := by
      have := Int.tmod_eq_emod_of_nonneg (a := -n) (b := 255) (by omega)
      rw [Int.neg_tmod] at this
      omega
    omega
  · have e := Int.tmod_eq_emod_of_nonneg (a := n) (b := 255) h
    omega

set_option maxRecDepth 100000 in
set_option maxHeartbeats 1000000 in
theorem pow_any (x : B) (a n : Int) (w : World) (ha : a = v8 x) :
    Calls Try.prog 48 #[.int .u8 a, .int .i64 n] w fun e w' => e = .returned (.int .u8 (v8 (powI x n))) ∧ Below w.heap.size w w' := by
  subst ha
  unfold powI
  by_cases hn : n = 0
  · subst hn
    rw [if_pos rfl, v8_one]
    go_enter Try.func48, Try.ntmps48
    go_wp2
    go_ret
    exact ⟨rfl, Below.refl _ _⟩
  · rw [if_neg hn]
    by_cases hx : x = 0#8
    · subst hx
      rw [if_pos rfl, v8_zero]
      go_enter Try.func48, Try.ntmps48
      go_wp2
      go_ret
      exact ⟨rfl, Below.refl _ _⟩
    · rw [if_neg hx]
      have hp := v8_pos hx
      have l0 : (0 : Int) ≤ (lg x : Int) := by omega
      have l1 : (lg x : Int) < 255 := by have := lg_lt x; omega
      have m0 : 0 ≤ n % 255 := by omega
      have m1 : n % 255 < 255 := by omega
      have htm := tmod_of n
      obtain ⟨m, hm⟩ : ∃ m : Nat, n % 255 = m := ⟨(n % 255).toNat, by omega⟩
      rw [hm] at m0 m1 htm ⊢
      obtain ⟨p0, p1⟩ := small_mul _ _ l0 l1 m0 m1
      rw [Int.toNat_natCast]
      clear hm
      rcases htm with ⟨hr0, hr⟩ | ⟨hr0, hr⟩
      · rw [hr] at hr0
        go_enter Try.func48, Try.ntmps48
        go_wp2_with (first
          | (go_at_call 60; refine (newTables_any _).mono ?_; rintro e w1 ⟨rfl, hT, hb⟩)
          | (go_at_call 62; refine (log_any x _ _ _ rfl hx hT).mono ?_; rintro e w2 ⟨rfl, rfl⟩)
          | (go_at_call 61; refine (power_any (lg x * m) _ _ _ (by rw [Int.natCast_mul]) (by omega) hT).mono ?_; rintro e w2 ⟨rfl, rfl⟩))
        go_ret
        exact ⟨rfl, hb⟩
      · have hr2 : n.tmod 255 = (m : Int) - 255 := by omega
        rw [hr2] at hr0
        clear hr
        go_enter Try.func48, Try.ntmps48
        go_wp2_with (first
          | (go_at_call 60; refine (newTables_any _).mono ?_; rintro e w1 ⟨rfl, hT, hb⟩)
          | (go_at_call 62; refine (log_any x _ _ _ rfl hx hT).mono ?_; rintro e w2 ⟨rfl, rfl⟩)
          | (go_at_call 61; refine (power_any (lg x * m) _ _ _ (by rw [Int.natCast_mul]) (by omega) hT).mono ?_; rintro e w2 ⟨rfl, rfl⟩))
        go_ret
        exact ⟨rfl, hb⟩
end Go.Proofs.Ytjhkicfndbceoaa
