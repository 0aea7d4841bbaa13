/- FieldPoints: for all points the value at 0, or the error, is the document's; xs and ys stay as they are, the room behind them too (of more than 300 points only the anchor is asked). -/
import Derived.Test.YtokjlgafidcahaaPointA
import Derived.Test.YtokjlgafidcahaaFrame
namespace Go.Proofs.Ytokjlgafidcahaa
open Go.ChangeShapes Go.WideShapes Go.ChangeAt Go.RowKit

namespace FieldPoints

set_option maxRecDepth 100000 in
theorem lifted (os : Os) (started : os.Started) (H : Type) (enc : TypeId × Value → H) :
    ReturnsInHanded {} Try.checked os 5 .any (Rows.fieldPointsSpec.pre6 enc Try.prog Try.f5 Rows.fieldPointsRow.domain false) (Rows.fieldPointsSpec.post enc Try.prog Try.f5 false true false false) := by
  refine returnsInHanded_of_change (C := Try.checked) own started (by kernel_rfl) Try.func5
    (ChangeSpec.witness6 (enc := enc) (C := Try.checked) false ⟨#[], #[.slice none 0 0, .slice none 0 0], []⟩ 8 (by kernel_rfl) (by kernel_rfl) (by kernel_rfl) (by kernel_rfl)) ?_
  intro W base args ds gs before hval0 hW hcnd _
  have hval : ∀ (j : Nat) t v, Try.f5.params[j]? = some t → args[j]? = some v → Value.okWide Try.prog W .any base t v := hval0
  have hW' := hW
  obtain ⟨p, q, hA0, hV, rfl, hfz, hnd⟩ := hW
  have hA : DataW.TrodAll enc Try.prog W 0 (fun _ => true) true Try.f5.params.toList args.toList ds p := hA0
  rw [Try.params5] at hA hval
  obtain ⟨v0, vs0, d0, ds0, p0, q0, hargs, rfl, rfl, h0, r0⟩ := trodAll_cons hA
  obtain ⟨v1, vs1, d1, ds1, p1, q1, rfl, rfl, rfl, h1, r1⟩ := trodAll_cons r0
  obtain ⟨rfl, rfl, rfl⟩ := trodAll_nil r1
  obtain rfl : args = #[v0, v1] := by cases args; simp_all
  obtain ⟨rfl, rfl⟩ := trodVars_none hV
  clear hA0 hval0
  simp only [List.append_nil] at hW'
  obtain ⟨ao, n, c, xs, rfl, hs, hc, hnc, hmax⟩ := open_bytes (hval 0 30 v0 rfl rfl) h0
  obtain ⟨bo, m, d, ys, rfl, ht, hd, hmd, hmax2⟩ := open_bytes (hval 1 30 v1 rfl rfl) h1
  obtain ⟨cs, rfl⟩ := elems_of xs hs.rng
  obtain ⟨ds, rfl⟩ := elems_of ys ht.rng
  have walk : Calls Try.prog 5 #[.slice ao n c, .slice bo m d] W fun e w' => e = .returned (.bool true) ∧ Below W.heap.size W w' := by
    by_cases hn : (n : Int) ≤ 300
    · by_cases hm : (m : Int) ≤ 300
      · exact points_walk ao bo n c m d cs ds W hs hc ht hd hn hm
      · exact points_big2 ao bo n c m d W hn (by omega)
    · exact points_big1 ao bo n c m d W (by omega)
  refine walk.mono fun e W' ⟨he, hb⟩ => ?_
  subst he
  refine ⟨_, rfl, _, _, _, [], p0 ++ p1, [], hW', ?_, ?_, ?_, hb.frame _, fun h => by cases h⟩
  · exact trodAll_cons_mk (shut_bool Try.underlying4 _) trodAll_mk0
  · have ha := trodAll_cons_mk (Below.trod laidOut (by kernel_rfl) (of_decide_eq_true (by kernel_rfl)) h0 hb (fun x hx => by simpa using hW'.lt x (by simp [hx]))) (trodAll_cons_mk (Below.trod laidOut (by kernel_rfl) (of_decide_eq_true (by kernel_rfl)) h1 hb (fun x hx => by simpa using hW'.lt x (by simp [hx]))) trodAll_mk0)
    simp only [List.append_nil] at ha
    exact ha
  · rfl

end FieldPoints

/-- FieldPoints: for every input the call returns true, and each argument reads as it did. -/
theorem fieldPoints_holds : Rows.FieldPointsSaid :=
  OpenClaim.holds_of_wide 5 Try.f5 rfl rfl rfl rfl rfl rfl rfl ⟨rfl, rfl, rfl, rfl, rfl⟩ rfl rfl rfl rfl rfl (by kernel_rfl) Try.func5 (by kernel_rfl)
    (of_decide_eq_true (by kernel_rfl)) (by unfold Func.isWrapper; first | (rw [if_pos (by decide +kernel)]; kernel_rfl) | (rw [if_neg (by decide +kernel)]; exact ⟨rfl, rfl⟩))
    (fun os started H enc _ => FieldPoints.lifted os started H enc)

end Go.Proofs.Ytokjlgafidcahaa
