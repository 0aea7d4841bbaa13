/- DiskChoice: for every size, script and choice: behind a failure of the power each sector has what was flushed or what was pending, whole, just as it was chosen. -/
import Derived.Test.YteimfnnkjhopdaaLawC
import Derived.Test.YteimfnnkjhopdaaFrame
namespace Go.Proofs.Yteimfnnkjhopdaa
open Go.ChangeShapes Go.WideShapes Go.ChangeAt Go.RowKit

namespace DiskChoice

set_option maxRecDepth 100000 in
theorem lifted (os : Os) (started : os.Started) (H : Type) (enc : TypeId × Value → H) :
    ReturnsInHanded {} Try.checked os 6 .any (Rows.diskChoiceSpec.pre6 enc Try.prog Try.f6 Rows.diskChoiceRow.domain false) (Rows.diskChoiceSpec.post enc Try.prog Try.f6 false true false false) := by
  refine returnsInHanded_of_change (C := Try.checked) own started (by kernel_rfl) Try.func6
    (ChangeSpec.witness6 (enc := enc) (C := Try.checked) false ⟨#[], #[.int .i64 0, .slice none 0 0, .slice none 0 0], []⟩ 8 (by kernel_rfl) (by kernel_rfl) (by kernel_rfl) (by kernel_rfl)) ?_
  intro W base args ds gs before hval0 hW hcnd _
  have hval : ∀ (j : Nat) t v, Try.f6.params[j]? = some t → args[j]? = some v → Value.okWide Try.prog W .any base t v := hval0
  have hW' := hW
  obtain ⟨p, q, hA0, hV, rfl, hfz, hnd⟩ := hW
  have hA : DataW.TrodAll enc Try.prog W 0 (fun _ => true) true Try.f6.params.toList args.toList ds p := hA0
  rw [Try.params6] at hA hval
  obtain ⟨v0, vs0, d0, ds0, p0, q0, hargs, rfl, rfl, h0, r0⟩ := trodAll_cons hA
  obtain ⟨v1, vs1, d1, ds1, p1, q1, rfl, rfl, rfl, h1, r1⟩ := trodAll_cons r0
  obtain ⟨v2, vs2, d2, ds2, p2, q2, rfl, rfl, rfl, h2, r2⟩ := trodAll_cons r1
  obtain ⟨rfl, rfl, rfl⟩ := trodAll_nil r2
  obtain rfl : args = #[v0, v1, v2] := by cases args; simp_all
  obtain ⟨rfl, rfl⟩ := trodVars_none hV
  clear hA0 hval0
  simp only [List.append_nil] at hW'
  obtain ⟨k, rfl, kw⟩ := open_num (hval 0 3 v0 rfl rfl) h0
  obtain ⟨xa, xn, xc, xO, rfl, xm, xh⟩ := open_ops (hval 1 22 v1 rfl rfl) h1
  obtain ⟨za, zn, zc, zs, rfl, zh, zm, zb⟩ := open_numrow (hval 2 32 v2 rfl rfl) h2
  have walk : Calls Try.prog 6 #[.int .i64 k, .slice xa xn xc, .slice za zn zc] W fun e w' => e = .returned (.bool true) ∧ Below W.heap.size W w' := by
    exact choice_all W k xa xn xc xO za zn zc zs kw xm xh zh zm
  refine walk.mono fun e W' ⟨he, hb⟩ => ?_
  subst he
  refine ⟨_, rfl, _, _, _, [], p0 ++ (p1 ++ p2), [], hW', ?_, ?_, ?_, hb.frame _, fun h => by cases h⟩
  · exact trodAll_cons_mk (shut_bool Try.underlying4 _) trodAll_mk0
  · have ha := trodAll_cons_mk (Below.trod laidOut (by kernel_rfl) (of_decide_eq_true (by kernel_rfl)) h0 hb (fun x hx => by simpa using hW'.lt x (by simp [hx]))) (trodAll_cons_mk (Below.trod laidOut (by kernel_rfl) (of_decide_eq_true (by kernel_rfl)) h1 hb (fun x hx => by simpa using hW'.lt x (by simp [hx]))) (trodAll_cons_mk (Below.trod laidOut (by kernel_rfl) (of_decide_eq_true (by kernel_rfl)) h2 hb (fun x hx => by simpa using hW'.lt x (by simp [hx]))) trodAll_mk0))
    simp only [List.append_nil] at ha
    exact ha
  · rfl

end DiskChoice

/-- DiskChoice: for every input the call returns true, and each argument reads as it did. -/
theorem diskChoice_holds : Rows.DiskChoiceSaid :=
  OpenClaim.holds_of_wide 6 Try.f6 rfl rfl rfl rfl rfl rfl rfl ⟨rfl, rfl, rfl, rfl, rfl⟩ rfl rfl rfl rfl rfl (by kernel_rfl) Try.func6 (by kernel_rfl)
    (of_decide_eq_true (by kernel_rfl)) (by unfold Func.isWrapper; first | (rw [if_pos (by decide +kernel)]; kernel_rfl) | (rw [if_neg (by decide +kernel)]; exact ⟨rfl, rfl⟩))
    (fun os started H enc _ => DiskChoice.lifted os started H enc)

end Go.Proofs.Yteimfnnkjhopdaa
