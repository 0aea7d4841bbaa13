/- The document's mixing is the program's, there and back. -/
import Derived.Test.YtjhkicfndbceoaaRMix
namespace Go.Proofs.Ytjhkicfndbceoaa
open Go.RowKit

/-- Four bytes times four factors. -/
def rcol (f0 f1 f2 f3 : B) (c : B × B × B × B) : B × B × B × B :=
  (0#8 ^^^ mul f0 c.1 ^^^ mul f1 c.2.1 ^^^ mul f2 c.2.2.1 ^^^ mul f3 c.2.2.2, 0#8 ^^^ mul f3 c.1 ^^^ mul f0 c.2.1 ^^^ mul f1 c.2.2.1 ^^^ mul f2 c.2.2.2,
   0#8 ^^^ mul f2 c.1 ^^^ mul f3 c.2.1 ^^^ mul f0 c.2.2.1 ^^^ mul f1 c.2.2.2, 0#8 ^^^ mul f1 c.1 ^^^ mul f2 c.2.1 ^^^ mul f3 c.2.2.1 ^^^ mul f0 c.2.2.2)
theorem rmix_of (f0 f1 f2 f3 : B) (p q r s : B × B × B × B) : rmix [f0, f1, f2, f3] (ofC p q r s) = ofC (rcol f0 f1 f2 f3 p) (rcol f0 f1 f2 f3 q) (rcol f0 f1 f2 f3 r) (rcol f0 f1 f2 f3 s) := by rfl
theorem four_add (a b c d a' b' c' d' : B) : 0#8 ^^^ (a ^^^ a') ^^^ (b ^^^ b') ^^^ (c ^^^ c') ^^^ (d ^^^ d') = (0#8 ^^^ a ^^^ b ^^^ c ^^^ d) ^^^ (0#8 ^^^ a' ^^^ b' ^^^ c' ^^^ d') := by
  simp only [BitVec.zero_xor]
  ac_rfl
theorem rcol_add (f0 f1 f2 f3 : B) (c d : B × B × B × B) : rcol f0 f1 f2 f3 (cadd c d) = cadd (rcol f0 f1 f2 f3 c) (rcol f0 f1 f2 f3 d) := by
  simp only [rcol, cadd, mul_xor, four_add]
theorem there0 (a : B) : rcol 2#8 3#8 1#8 1#8 (a, 0#8, 0#8, 0#8) = col (a, 0#8, 0#8, 0#8) := all_of (P := fun a => rcol 2#8 3#8 1#8 1#8 (a, 0#8, 0#8, 0#8) = col (a, 0#8, 0#8, 0#8)) (by decide +kernel) a
theorem there1 (a : B) : rcol 2#8 3#8 1#8 1#8 (0#8, a, 0#8, 0#8) = col (0#8, a, 0#8, 0#8) := all_of (P := fun a => rcol 2#8 3#8 1#8 1#8 (0#8, a, 0#8, 0#8) = col (0#8, a, 0#8, 0#8)) (by decide +kernel) a
theorem there2 (a : B) : rcol 2#8 3#8 1#8 1#8 (0#8, 0#8, a, 0#8) = col (0#8, 0#8, a, 0#8) := all_of (P := fun a => rcol 2#8 3#8 1#8 1#8 (0#8, 0#8, a, 0#8) = col (0#8, 0#8, a, 0#8)) (by decide +kernel) a
theorem there3 (a : B) : rcol 2#8 3#8 1#8 1#8 (0#8, 0#8, 0#8, a) = col (0#8, 0#8, 0#8, a) := all_of (P := fun a => rcol 2#8 3#8 1#8 1#8 (0#8, 0#8, 0#8, a) = col (0#8, 0#8, 0#8, a)) (by decide +kernel) a
theorem rcol_there (c : B × B × B × B) : rcol 2#8 3#8 1#8 1#8 c = col c := by
  obtain ⟨a, b, c, d⟩ := c
  rw [parts a b c d]
  simp only [col_add, rcol_add, there0, there1, there2, there3]
theorem back0 (a : B) : rcol 14#8 11#8 13#8 9#8 (a, 0#8, 0#8, 0#8) = col (col (col (a, 0#8, 0#8, 0#8))) := all_of (P := fun a => rcol 14#8 11#8 13#8 9#8 (a, 0#8, 0#8, 0#8) = col (col (col (a, 0#8, 0#8, 0#8)))) (by decide +kernel) a
theorem back1 (a : B) : rcol 14#8 11#8 13#8 9#8 (0#8, a, 0#8, 0#8) = col (col (col (0#8, a, 0#8, 0#8))) := all_of (P := fun a => rcol 14#8 11#8 13#8 9#8 (0#8, a, 0#8, 0#8) = col (col (col (0#8, a, 0#8, 0#8)))) (by decide +kernel) a
theorem back2 (a : B) : rcol 14#8 11#8 13#8 9#8 (0#8, 0#8, a, 0#8) = col (col (col (0#8, 0#8, a, 0#8))) := all_of (P := fun a => rcol 14#8 11#8 13#8 9#8 (0#8, 0#8, a, 0#8) = col (col (col (0#8, 0#8, a, 0#8)))) (by decide +kernel) a
theorem back3 (a : B) : rcol 14#8 11#8 13#8 9#8 (0#8, 0#8, 0#8, a) = col (col (col (0#8, 0#8, 0#8, a))) := all_of (P := fun a => rcol 14#8 11#8 13#8 9#8 (0#8, 0#8, 0#8, a) = col (col (col (0#8, 0#8, 0#8, a)))) (by decide +kernel) a
theorem rcol_back (c : B × B × B × B) : rcol 14#8 11#8 13#8 9#8 c = col (col (col c)) := by
  obtain ⟨a, b, c, d⟩ := c
  rw [parts a b c d]
  simp only [col_add, rcol_add, back0, back1, back2, back3]
theorem rmix_there (b : List B) (h : b.length = 16) : rmix [2#8, 3#8, 1#8, 1#8] b = mixL b := by
  obtain ⟨p, q, r, s, rfl⟩ := ofC_ex b h
  simp only [mixL_of, rmix_of, rcol_there]
theorem rmix_back (b : List B) (h : b.length = 16) : rmix [14#8, 11#8, 13#8, 9#8] b = mixL (mixL (mixL b)) := by
  obtain ⟨p, q, r, s, rfl⟩ := ofC_ex b h
  simp only [mixL_of, rmix_of, rcol_back]
end Go.Proofs.Ytjhkicfndbceoaa
