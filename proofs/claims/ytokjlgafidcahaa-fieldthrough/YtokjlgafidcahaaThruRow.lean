/- FieldThrough: of every polynomial with no more coefficients than there are points, AtZero of its values at these is its first coefficient, and with one value turned it is another one (of more than 255 coefficients or 1024 places only the anchor is asked). -/
import Derived.Test.YtokjlgafidcahaaThruA
import Derived.Test.YtokjlgafidcahaaFrame
namespace Go.Proofs.Ytokjlgafidcahaa
open Go.ChangeShapes Go.WideShapes Go.ChangeAt Go.RowKit

namespace FieldThrough

set_option maxRecDepth 100000 in
theorem lifted (os : Os) (started : os.Started) (H : Type) (enc : TypeId × Value → H) :
    ReturnsInHanded {} Try.checked os 8 .any (Rows.fieldThroughSpec.pre6 enc Try.prog Try.f8 Rows.fieldThroughRow.domain false) (Rows.fieldThroughSpec.post enc Try.prog Try.f8 false true false false) := by
  refine returnsInHanded_of_change (C := Try.checked) own started (by kernel_rfl) Try.func8
    (ChangeSpec.witness6 (enc := enc) (C := Try.checked) false ⟨#[], #[.slice none 0 0, .slice none 0 0, .int .u8 0], []⟩ 8 (by kernel_rfl) (by kernel_rfl) (by kernel_rfl) (by kernel_rfl)) ?_
  intro W base args ds gs before hval0 hW hcnd _
  have hval : ∀ (j : Nat) t v, Try.f8.params[j]? = some t → args[j]? = some v → Value.okWide Try.prog W .any base t v := hval0
  have hW' := hW
  obtain ⟨p, q, hA0, hV, rfl, hfz, hnd⟩ := hW
  have hA : DataW.TrodAll enc Try.prog W 0 (fun _ => true) true Try.f8.params.toList args.toList ds p := hA0
  rw [Try.params8] at hA hval
  obtain ⟨v0, vs0, d0, ds0, p0, q0, hargs, rfl, rfl, h0, r0⟩ := trodAll_cons hA
  obtain ⟨v1, vs1, d1, ds1, p1, q1, rfl, rfl, rfl, h1, r1⟩ := trodAll_cons r0
  obtain ⟨v2, vs2, d2, ds2, p2, q2, rfl, rfl, rfl, h2, r2⟩ := trodAll_cons r1
  obtain ⟨rfl, rfl, rfl⟩ := trodAll_nil r2
  obtain rfl : args = #[v0, v1, v2] := by cases args; simp_all
  obtain ⟨rfl, rfl⟩ := trodVars_none hV
  clear hA0 hval0
  simp only [List.append_nil] at hW'
  obtain ⟨ao, n, c, xs, rfl, hs, hc, hnc, hmax⟩ := open_bytes (hval 0 30 v0 rfl rfl) h0
  obtain ⟨bo, m, d, ys, rfl, ht, hd, hmd, hmax2⟩ := open_bytes (hval 1 30 v1 rfl rfl) h1
  obtain ⟨t, rfl⟩ := open_byte (hval 2 5 v2 rfl rfl) h2
  obtain ⟨cs, rfl⟩ := elems_of xs hs.rng
  obtain ⟨ps, rfl⟩ := elems_of ys ht.rng
  have walk : Calls Try.prog 8 #[.slice ao n c, .slice bo m d, .int .u8 (v8 t)] W fun e w' => e = .returned (.bool true) ∧ Below W.heap.size W w' := by
    by_cases hn : (n : Int) ≤ 255
    · by_cases hm : (m : Int) ≤ 1024
      · exact thru_walk ao bo n c m d cs ps t W hs ht hn hm
      · exact thru_big2 ao bo n c m d t W hn (by omega)
    · exact thru_big1 ao bo n c m d t W (by omega)
  refine walk.mono fun e W' ⟨he, hb⟩ => ?_
  subst he
  refine ⟨_, rfl, _, _, _, [], p0 ++ (p1 ++ p2), [], hW', ?_, ?_, ?_, hb.frame _, fun h => by cases h⟩
  · exact trodAll_cons_mk (shut_bool Try.underlying4 _) trodAll_mk0
  · have ha := trodAll_cons_mk (Below.trod laidOut (by kernel_rfl) (of_decide_eq_true (by kernel_rfl)) h0 hb (fun x hx => by simpa using hW'.lt x (by simp [hx]))) (trodAll_cons_mk (Below.trod laidOut (by kernel_rfl) (of_decide_eq_true (by kernel_rfl)) h1 hb (fun x hx => by simpa using hW'.lt x (by simp [hx]))) (trodAll_cons_mk (Below.trod laidOut (by kernel_rfl) (of_decide_eq_true (by kernel_rfl)) h2 hb (fun x hx => by simpa using hW'.lt x (by simp [hx]))) trodAll_mk0))
    simp only [List.append_nil] at ha
    exact ha
  · rfl

end FieldThrough

/-- FieldThrough: for every input the call returns true, and each argument reads as it did. -/
theorem fieldThrough_holds : Rows.FieldThroughSaid :=
  OpenClaim.holds_of_wide 8 Try.f8 rfl rfl rfl rfl rfl rfl rfl ⟨rfl, rfl, rfl, rfl, rfl⟩ rfl rfl rfl rfl rfl (by kernel_rfl) Try.func8 (by kernel_rfl)
    (of_decide_eq_true (by kernel_rfl)) (by unfold Func.isWrapper; first | (rw [if_pos (by decide +kernel)]; kernel_rfl) | (rw [if_neg (by decide +kernel)]; exact ⟨rfl, rfl⟩))
    (fun os started H enc _ => FieldThrough.lifted os started H enc)

end Go.Proofs.Ytokjlgafidcahaa
