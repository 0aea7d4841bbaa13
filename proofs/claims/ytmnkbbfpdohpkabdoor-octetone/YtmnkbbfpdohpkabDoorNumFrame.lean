/- What the row of OctetNumbers needs: the six variables, and the witness's world. -/
import Derived.Test.YtmnkbbfpdohpkabDoorNumbersA
import Derived.Test.YtmnkbbfpdohpkabDoorFrame
import Derived.Stop.LaidErr
namespace Go.Proofs.YtmnkbbfpdohpkabDoor
open Go.ChangeShapes Go.WideShapes Go.ChangeAt Go.RowKit

theorem gPow : Tryd.prog.globalNamed "internal/strconv.uint64pow10" = some 3 := by kernel_rfl
theorem gPowType : (Tryd.prog.globals[3]?).map (·.type) = some 76 := by kernel_rfl
theorem cells104 : Tryd.prog.cellsOf 76 = 20 := by kernel_rfl
theorem cells23 : Tryd.prog.cellsOf 23 = 1 := by kernel_rfl
theorem gER : Tryd.prog.globalNamed "strconv.ErrRange" = some 2 := by kernel_rfl
theorem gERType : (Tryd.prog.globals[2]?).map (·.type) = some 49 := by kernel_rfl
theorem cells110 : Tryd.prog.cellsOf 84 = 1 := by kernel_rfl
theorem cells9 : Tryd.prog.cellsOf 9 = 1 := by kernel_rfl
theorem starE : "*" ++ "errors.errorString" = "*errors.errorString" := by decide
theorem row108 (u : TypeId) (h : Tryd.prog.typeName? 3 u = some "*errors.errorString") : u = 82 :=
  typeName_ptr_named (nm := "errors.errorString") (by rw [starE]; kernel_rfl) (by kernel_rfl) (by decide) u (by rw [starE]; exact h)

theorem six_of {W : World} (h : laidMetH Tryd.prog Rows.octetOneRow.laid W) : Tab W ∧ 0 < W.heap.size ∧ Pow W ∧ ∃ te pe, W.cell? ⟨2, 0, none⟩ = some (.iface te pe) := by
  have h0 : laidMet Tryd.prog Rows.octetOneRow.laid W := h
  have h2 := h0.tail.tail
  have h3 := h2.tail
  have h5 := h3.tail.tail
  obtain ⟨hT, hz⟩ := tab_of h5
  refine ⟨hT, hz, ?_, ?_⟩
  · exact Lib.tabIs_of_head gPow gPowType Tryd.underlying76 Tryd.underlying23 cells23 cells104 h2
  · obtain ⟨a1, s1, hv1, -, -, -⟩ := laid_sentinel h3 gER gERType Tryd.underlying49 row108 Tryd.underlying82 Tryd.underlying84 rfl rfl Tryd.underlying9 cells110 cells9
    exact ⟨_, _, by have h0 := World.var?_cell gER hv1 0; simpa using h0⟩

abbrev synS : ByteArray := { data := #[105, 110, 118, 97, 108, 105, 100, 32, 115, 121, 110, 116, 97, 120] }
abbrev rngS : ByteArray := { data := #[118, 97, 108, 117, 101, 32, 111, 117, 116, 32, 111, 102, 32, 114, 97, 110, 103, 101] }
/-- So many blocks has the settled world. -/
noncomputable def low : Nat := (World.holding Tryd.prog default ⟨#[], #[], []⟩).heap.size

def cellsOfLaid : DataW Unit → Array Value
  | .agg ds => (ds.map fun
      | .lit (.int k n) => Value.int k n
      | _ => undef).toArray
  | _ => #[]

/-- A world for the witness: the settled one with two blocks more, each an error's struct; the six variables hold what their initialisers lay. -/
noncomputable def laidWorld5 (os : Os) : World :=
  let w0 := World.holding Tryd.prog os ⟨#[.cells #[.string synS] 84, .cells #[.string rngS] 84], #[], []⟩
  let put (h : Array Obj) (g : Nat) (cs : Array Value) : Array Obj := h.modify g fun
    | .cells _ t frozen => .cells cs t frozen
    | o => o
  let h1 := put (put w0.heap 1 #[.iface 82 (.pointer (some ⟨low, 0, none⟩))]) 2 #[.iface 82 (.pointer (some ⟨low + 1, 0, none⟩))]
  let h2 := put (put h1 0 (cellsOfLaid Rows.laid_ciborium_octet_hexDigits)) 3 (cellsOfLaid Rows.laid_internal_strconv_uint64pow10)
  let h3 := put (put h2 4 (cellsOfLaid Rows.laid_math_bits_deBruijn32tab)) 5 (cellsOfLaid Rows.laid_math_bits_deBruijn64tab)
  { w0 with heap := h3 }

set_option maxRecDepth 100000 in
theorem laid_met5 (os : Os) : laidMet Tryd.prog Rows.octetOneRow.laid ((laidWorld5 os).forCall (fun _ _ => 0) ⟨#[], #[.int .u64 0, .string ⟨#[]⟩], []⟩).memory :=
  laidMet_of_run' 8 (by kernel_rfl) (by kernel_rfl)
end Go.Proofs.YtmnkbbfpdohpkabDoor
