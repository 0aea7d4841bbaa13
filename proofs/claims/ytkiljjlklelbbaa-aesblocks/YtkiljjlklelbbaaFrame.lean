/- What the rows of all statements need: how the arguments are opened. -/
import Derived.Test.YtkiljjlklelbbaaWorks
import Derived.ProofKit
import Derived.OpenShut
import Derived.Deep.DeepHandedRow
namespace Go.Proofs.Ytkiljjlklelbbaa
open Go.ChangeShapes Go.WideShapes Go.ChangeAt Go.RowKit

theorem own : ownKnob Try.prog.godebug = none := by kernel_rfl
theorem laidOut : laidOutB Try.prog = true := by kernel_rfl
theorem cells5 : Try.prog.cellsOf 5 = 1 := by kernel_rfl

theorem cells22 : Try.prog.cellsOf 22 = 32 := by kernel_rfl
theorem cells23 : Try.prog.cellsOf 23 = 16 := by kernel_rfl
/-- Cells that are bytes. -/
theorem bys_of (cs : List Value) (h : ∀ i, i < cs.length → ∃ x : B, cs[i]? = some (.int .u8 (v8 x))) : ∃ l : List B, l.length = cs.length ∧ cs = bys l := by
  induction cs with
  | nil => exact ⟨[], rfl, rfl⟩
  | cons c cs ih =>
    obtain ⟨x, hx⟩ := h 0 (by simp)
    obtain ⟨l, hl, e⟩ := ih (fun i hi => by have := h (i + 1) (by simp; omega); simpa using this)
    refine ⟨x :: l, by simp [hl], ?_⟩
    simp at hx
    rw [hx, e]
    rfl

/-- An array of bytes that is handed in. -/
theorem open_arr {H : Type} {enc : TypeId × Value → H} {W : World} {base : Nat} {t n : Nat} {v : Value} {d : DataW H} {ps : List MemPlace} (hu : Try.prog.underlying t = some (.array n 5)) (hc : Try.prog.cellsOf t = n) (hval : Value.okWide Try.prog W .any base t v) (h : DataW.Trod enc Try.prog W 0 (fun _ => true) true t v d ps) :
    ∃ l : List B, l.length = n ∧ v = .agg (bys l).toArray := by
  simp only [Value.okWide, hu] at hval
  obtain ⟨cs, rfl, _, _⟩ := hval
  obtain ⟨fuel, hf⟩ := h
  obtain ⟨xs, m, rfl, hx, hlen, hxl, hall⟩ := DataW.trod_array hu hf
  simp only [Value.cells] at hlen hall
  have hcs : cs.toList.length = n := by rw [hlen, hc]
  obtain ⟨l, hl, e⟩ := bys_of cs.toList (fun i hi => by
    have h1 := hall i (by omega)
    rw [cells5, Nat.mul_one] at h1
    have hi2 : i < xs.length := by omega
    rw [List.getElem?_eq_getElem hi2] at h1
    obtain ⟨a, ea, _, wa⟩ := DataW.trod_int Try.underlying5 h1
    have hb := bounds_u8 wa
    refine ⟨BitVec.ofNat 8 a.toNat, ?_⟩
    rw [← v8_of a (by omega) (by omega)]
    have h2 : (List.take 1 (List.drop i cs.toList))[0]? = some (Value.int .u8 a) := by rw [ea]; rfl
    rw [List.getElem?_take, if_pos (by omega), List.getElem?_drop, Nat.add_zero] at h2
    exact h2)
  exact ⟨l, by rw [hl, hcs], by rw [← e]⟩
end Go.Proofs.Ytkiljjlklelbbaa
