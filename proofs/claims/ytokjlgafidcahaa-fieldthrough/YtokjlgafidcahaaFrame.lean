/- What the rows of all statements need: how the arguments are opened. -/
import Derived.Test.YtokjlgafidcahaaBase
import Derived.Test.YtokjlgafidcahaaScal
import Derived.ProofKit
import Derived.OpenShut
import Derived.Deep.DeepHandedRow
namespace Go.Proofs.Ytokjlgafidcahaa
open Go.ChangeShapes Go.WideShapes Go.ChangeAt Go.RowKit

theorem own : ownKnob Try.prog.godebug = none := by kernel_rfl
theorem laidOut : laidOutB Try.prog = true := by kernel_rfl
theorem cells5 : Try.prog.cellsOf 5 = 1 := by kernel_rfl

set_option maxRecDepth 100000 in
theorem open_bytes {H : Type} {enc : TypeId × Value → H} {W : World} {base : Nat} {v : Value} {d : DataW H} {ps : List MemPlace} (hval : Value.okWide Try.prog W .any base 30 v) (h : DataW.Trod enc Try.prog W 0 (fun _ => true) true 30 v d ps) :
    ∃ ao n c xs, v = .slice ao n c ∧ Shows W ao n xs ∧ (ao = none → c = 0) ∧ n ≤ c ∧ c ≤ maxLen := by
  obtain ⟨a0, len, cap, rfl⟩ := okWide_slice Try.underlying30 hval
  obtain ⟨fuel, hf⟩ := h
  rcases open_ints Try.underlying30 Try.underlying5 cells5 hf with ⟨hcs, hx⟩ | ⟨a, len', cap', zs, hcs, _, hl, hm, hz, hx, hcell, hwz⟩
  · simp [Value.cells] at hcs
    obtain ⟨rfl, rfl, rfl⟩ := hcs
    exact ⟨none, 0, 0, [], rfl, ⟨rfl, fun _ => rfl, fun ad h => (by cases h), fun x hx => (by simp at hx)⟩, fun _ => rfl, Nat.le_refl _, Nat.zero_le _⟩
  · simp [Value.cells] at hcs
    obtain ⟨rfl, rfl, rfl⟩ := hcs
    rw [if_pos rfl] at hz
    refine ⟨some a, len, cap, zs.take len, rfl, ⟨by simp; omega, fun h => (by cases h), fun ad had j hj => ?_, fun x hx => ?_⟩, fun h => (by cases h), hl, hm⟩
    · cases had
      rw [hcell j (by omega)]
      simp [List.getD, hj]
    · have := hwz x (List.mem_of_mem_take hx)
      have := bounds_u8 this
      omega

/-- A byte that is handed in is an element. -/
theorem open_byte {H : Type} {enc : TypeId × Value → H} {W : World} {base : Nat} {v : Value} {d : DataW H} {ps : List MemPlace} (hval : Value.okWide Try.prog W .any base 5 v) (h : DataW.Trod enc Try.prog W 0 (fun _ => true) true 5 v d ps) :
    ∃ x : B, v = .int .u8 (v8 x) := by
  obtain ⟨a, rfl, _, _, hw⟩ := open_int Try.underlying5 hval h
  have := bounds_u8 hw
  exact ⟨BitVec.ofNat 8 a.toNat, by rw [← v8_of a (by omega) (by omega)]⟩
theorem open_num {H : Type} {enc : TypeId × Value → H} {W : World} {base : Nat} {v : Value} {d : DataW H} {ps : List MemPlace} (hval : Value.okWide Try.prog W .any base 3 v) (h : DataW.Trod enc Try.prog W 0 (fun _ => true) true 3 v d ps) :
    ∃ n : Int, v = .int .i64 n ∧ -9223372036854775808 ≤ n ∧ n ≤ 9223372036854775807 := by
  obtain ⟨a, rfl, _, _, hw⟩ := open_int Try.underlying3 hval h
  have := bounds_i64 hw
  exact ⟨a, rfl, by omega, by omega⟩
end Go.Proofs.Ytokjlgafidcahaa
