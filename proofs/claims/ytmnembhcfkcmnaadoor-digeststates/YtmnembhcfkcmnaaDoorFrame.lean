/- What the rows of all statements need: the two tables, the witness's world, and how the arguments are opened. -/
import Derived.Test.YtmnembhcfkcmnaaDoorWorks
import Derived.Test.YtmnembhcfkcmnaaDoorCards
import Derived.Test.YtmnembhcfkcmnaaDoorTie
import Derived.ProofKit
import Derived.OpenShut
import Derived.Deep.DeepHandedRow
import Derived.Lib.LaidTab
import Derived.Stop.LaidErr
namespace Go.Proofs.YtmnembhcfkcmnaaDoor
open Go.ChangeShapes Go.WideShapes Go.ChangeAt Go.RowKit

theorem own : ownKnob Tryd.prog.godebug = none := by kernel_rfl
theorem laidOut : laidOutB Tryd.prog = true := by kernel_rfl
theorem gBeg : Tryd.prog.globalNamed "ciborium/digest.beginning" = some 0 := by kernel_rfl
theorem gBegType : (Tryd.prog.globals[0]?).map (·.type) = some 45 := by kernel_rfl
theorem gCon : Tryd.prog.globalNamed "ciborium/digest.constants" = some 1 := by kernel_rfl
theorem gConType : (Tryd.prog.globals[1]?).map (·.type) = some 57 := by kernel_rfl
theorem cells45 : Tryd.prog.cellsOf 45 = 8 := by kernel_rfl
theorem cells57 : Tryd.prog.cellsOf 57 = 64 := by kernel_rfl
theorem cells44 : Tryd.prog.cellsOf 44 = 1 := by kernel_rfl
theorem cells5 : Tryd.prog.cellsOf 5 = 1 := by kernel_rfl

theorem tab_of {W : World} (h : laidMetH Tryd.prog [("ciborium/digest.beginning", Rows.laid_ciborium_digest_beginning), ("ciborium/digest.constants", Rows.laid_ciborium_digest_constants)] W) : Tabs W ∧ 0 < W.heap.size := by
  have h0 : laidMet Tryd.prog [("ciborium/digest.beginning", Rows.laid_ciborium_digest_beginning), ("ciborium/digest.constants", Rows.laid_ciborium_digest_constants)] W := h
  have h1 : Lib.TabIs Tryd.prog W "ciborium/digest.beginning" .u32 hTab :=
    Lib.tabIs_of_head gBeg gBegType Tryd.underlying45 Tryd.underlying44 cells44 cells45 h0
  have h2 : Lib.TabIs Tryd.prog W "ciborium/digest.constants" .u32 kTab :=
    Lib.tabIs_of_head (rest := []) gCon gConType Tryd.underlying57 Tryd.underlying44 cells44 cells57 h0.tail
  have hk : ∀ i, i < 64 → W.cell? ⟨1, i, none⟩ = some (.int .u32 (kTab.getD i 0)) := fun i hi => h2.cell gCon i (by rw [kTab_length]; exact hi)
  have hh : ∀ i, i < 8 → W.cell? ⟨0, i, none⟩ = some (.int .u32 (hTab.getD i 0)) := fun i hi => h1.cell gBeg i hi
  have h1lt : 1 < W.heap.size := World.block_lt_of_cell? _ _ (hk 0 (by decide))
  exact ⟨⟨hk, hh, h1lt⟩, by omega⟩

def cellsOfLaid : DataW Unit → Array Value
  | .agg ds => (ds.map fun
      | .lit (.int k n) => Value.int k n
      | _ => undef).toArray
  | _ => #[]

/-- A world for the witness: the settled one, the two tables holding what their initialisers lay. -/
noncomputable def laidWorld (os : Os) : World :=
  let w0 := World.holding Tryd.prog os ⟨#[], #[], []⟩
  let put (h : Array Obj) (g : Nat) (cs : Array Value) : Array Obj := h.modify g fun
    | .cells _ t frozen => .cells cs t frozen
    | o => o
  { w0 with heap := put (put w0.heap 0 (cellsOfLaid Rows.laid_ciborium_digest_beginning)) 1 (cellsOfLaid Rows.laid_ciborium_digest_constants) }

set_option maxRecDepth 100000 in
theorem open_bytes {H : Type} {enc : TypeId × Value → H} {W : World} {base : Nat} {v : Value} {d : DataW H} {ps : List MemPlace} (hval : Value.okWide Tryd.prog W .any base 22 v) (h : DataW.Trod enc Tryd.prog W 0 (fun _ => true) true 22 v d ps) :
    ∃ ao n c xs, v = .slice ao n c ∧ Shows W ao n xs ∧ (ao = none → c = 0) ∧ n ≤ c ∧ c ≤ maxLen := by
  obtain ⟨a0, len, cap, rfl⟩ := okWide_slice Tryd.underlying22 hval
  obtain ⟨fuel, hf⟩ := h
  rcases open_ints Tryd.underlying22 Tryd.underlying5 cells5 hf with ⟨hcs, hx⟩ | ⟨a, len', cap', zs, hcs, _, hl, hm, hz, hx, hcell, hwz⟩
  · simp [Value.cells] at hcs
    obtain ⟨rfl, rfl, rfl⟩ := hcs
    exact ⟨none, 0, 0, [], rfl, ⟨rfl, fun _ => rfl, fun ad h => (by cases h), fun x hx => (by simp at hx)⟩, fun _ => rfl, Nat.le_refl _, Nat.zero_le _⟩
  · simp [Value.cells] at hcs
    obtain ⟨rfl, rfl, rfl⟩ := hcs
    rw [if_pos rfl] at hz
    refine ⟨some a, len, cap, zs.take len, rfl, ⟨by simp; omega, fun h => (by cases h), fun ad had j hj => ?_, fun x hx => ?_⟩, fun h => (by cases h), hl, hm⟩
    · cases had
      rw [hcell j (by omega)]
      simp [List.getD, hj]
    · have := hwz x (List.mem_of_mem_take hx)
      have := bounds_u8 this
      omega


end Go.Proofs.YtmnembhcfkcmnaaDoor
