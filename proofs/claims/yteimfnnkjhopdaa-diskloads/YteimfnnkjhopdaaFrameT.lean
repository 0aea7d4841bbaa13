/- Texts that came in. -/
import Derived.Test.YteimfnnkjhopdaaFrameZ
import Derived.Test.YteimfnnkjhopdaaLawD
import Derived.SliceStrings
namespace Go.Proofs.Yteimfnnkjhopdaa
open Go.ChangeShapes Go.WideShapes Go.ChangeAt Go.RowKit

section
variable {H : Type} {enc : TypeId × Value → H} {W : World}
theorem open_txts {base : Nat} {v : Value} {d : DataW H} {ps : List MemPlace} (hval : Value.okWide Try.prog W .any base 36 v) (h : DataW.Trod enc Try.prog W 0 (fun _ => true) true 36 v d ps) :
    ∃ ao n c X, v = .slice ao n c ∧ n ≤ maxLen ∧ Txts W ao n c X := by
  obtain ⟨a0, len, cap, rfl⟩ := okWide_slice Try.underlying36 hval
  obtain ⟨fuel, hf⟩ := h
  rcases open_strings Try.underlying36 Try.underlying9 cells9 hf with ⟨hcs, hx⟩ | ⟨a, len', cap', ss, hcs, _, hl, hm, hz, hx, hcell, hsz⟩
  · simp [Value.cells] at hcs
    obtain ⟨rfl, rfl, rfl⟩ := hcs
    exact ⟨none, 0, 0, fun _ => ByteArray.empty, rfl, Nat.zero_le _, ⟨fun _ => ⟨rfl, rfl⟩, fun ad h => (by cases h), fun j hj => absurd hj (by omega)⟩⟩
  · simp [Value.cells] at hcs
    obtain ⟨rfl, rfl, rfl⟩ := hcs
    rw [if_pos rfl] at hz
    refine ⟨some a, len, cap, fun j => ss.getD j ByteArray.empty, rfl, Nat.le_trans hl hm, ⟨fun h => (by cases h), fun ad had j hj => ?_, fun j hj => ?_⟩⟩
    · cases had
      exact hcell j (by omega)
    · rw [List.getD, List.getElem?_eq_getElem (by omega)]
      exact hsz _ (List.getElem_mem _)
end
end Go.Proofs.Yteimfnnkjhopdaa
