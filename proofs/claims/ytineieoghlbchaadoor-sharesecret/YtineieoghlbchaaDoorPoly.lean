/- A polynomial's values. -/
import Derived.Test.YtineieoghlbchaaDoorMath
namespace Go.Proofs.YtineieoghlbchaaDoor

/-- The value at x of the polynomial with these coefficients, that of x^0 first. -/
def ev : List B → B → B
  | [], _ => 0#8
  | c :: cs, x => mul (ev cs x) x ^^^ c
theorem ev_drop (cs : List B) (k : Nat) (h : k < cs.length) (x : B) : ev (cs.drop k) x = mul (ev (cs.drop (k + 1)) x) x ^^^ cs.getD k 0#8 := by
  rw [List.drop_eq_getElem_cons h]
  simp only [ev]
  simp [List.getD, List.getElem?_eq_getElem h]
theorem ev_none (cs : List B) (n : Nat) (h : cs.length ≤ n) (x : B) : ev (cs.drop n) x = 0#8 := by
  rw [List.drop_of_length_le h]
  rfl
/-- The same, summed up from the first on, with p for x^0. -/
theorem ev_snoc (cs : List B) (c : B) (x : B) : ev (cs ++ [c]) x = ev cs x ^^^ mul c (pow x cs.length) := by
  induction cs with
  | nil => simp [ev, pow, mul_one, zero_mul]
  | cons d cs ih =>
    simp only [List.cons_append, ev, List.length_cons, pow]
    rw [ih, mul_xor_left, mul_assoc]
    ac_rfl
end Go.Proofs.YtineieoghlbchaaDoor
