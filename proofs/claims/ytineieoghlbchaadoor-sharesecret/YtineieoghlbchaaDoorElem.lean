/- Inverses, quotients and powers, by the program and by the document's answer. -/
import Derived.Test.YtineieoghlbchaaDoorRef
import Derived.Test.YtineieoghlbchaaDoorTabs
namespace Go.Proofs.YtineieoghlbchaaDoor
open Go.RowKit

theorem log_any (x : B) (a : Int) (g : Nat) (w : World) (ha : a = v8 x) (hx : x ≠ 0#8) (hT : Tabs w g) :
    Calls Tryd.prog 65 #[.pointer (some ⟨g, 0, none⟩), .int .u8 a] w fun e w' => e = .returned (.int .i64 (lg x)) ∧ w = w' := by
  subst ha
  have h0 := v8_nn x
  have h1 := v8_le x
  have hc := hT.log x hx
  rw [← v8_toNat] at hc
  have l0 : (0 : Int) ≤ (lg x : Int) := by omega
  have l1 : (lg x : Int) < 255 := by have := lg_lt x; omega
  clear hT hx
  go_enter Tryd.func65, Tryd.ntmps65
  go_wp2
  go_ret
  exact ⟨rfl, rfl⟩

theorem power_any (k : Nat) (n : Int) (g : Nat) (w : World) (hn : n = k) (h1 : n ≤ 9223372036854775807) (hT : Tabs w g) :
    Calls Tryd.prog 66 #[.pointer (some ⟨g, 0, none⟩), .int .i64 n] w fun e w' => e = .returned (.int .u8 (v8 (E k))) ∧ w = w' := by
  have hc := hT.pow (n % 255).toNat (by omega)
  have he : (n % 255).toNat = k % 255 := by omega
  rw [show E (n % 255).toNat = E k by rw [he, E_mod]] at hc
  have h0 : 0 ≤ n := by omega
  have hb0 : 0 ≤ n % 255 := by omega
  have hb1 : n % 255 < 255 := by omega
  clear hT he hn
  go_enter Tryd.func66, Tryd.ntmps66
  go_wp2
  go_ret
  exact ⟨rfl, rfl⟩

theorem v8_zero : v8 0#8 = 0 := by decide
theorem v8_one : v8 1#8 = 1 := by decide

/-- The product of n elements x, or of as many inverses. -/
def powI (x : B) (n : Int) : B := if n = 0 then 1#8 else if x = 0#8 then 0#8 else E (lg x * (n % 255).toNat)

theorem small_mul (l m : Int) (h0 : 0 ≤ l) (h1 : l < 255) (h2 : 0 ≤ m) (h3 : m < 255) : 0 ≤ l * m ∧ l * m ≤ 65025 := by
  constructor
  · exact Int.mul_nonneg h0 h2
  · have : l * m ≤ 255 * 255 := Int.mul_le_mul (by omega) (by omega) h2 (by omega)
    omega
theorem tmod_of (n : Int) : (0 ≤ n.tmod 255 ∧ n.tmod 255 = n % 255) ∨ (n.tmod 255 < 0 ∧ n.tmod 255 + 255 = n % 255) := by
  rcases Int.lt_or_le n 0 with h | h
  · have e : n.tmod 255 = -((-n) % 255) := by
      have := Int.tmod_eq_emod_of_nonneg (a := -n) (b := 255) (by omega)
      rw [Int.neg_tmod] at this
      omega
    omega
  · have e := Int.tmod_eq_emod_of_nonneg (a := n) (b := 255) h
    omega

end Go.Proofs.YtineieoghlbchaaDoor
