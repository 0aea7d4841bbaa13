/- What the rows of all statements need: the table of digits, the witness's world, and how the arguments are opened. -/
import Derived.Test.YtineieoghlbchaaDoorWorks
import Derived.Test.YtineieoghlbchaaDoorCards
import Derived.Test.YtineieoghlbchaaDoorTie
import Derived.ProofKit
import Derived.OpenShut
import Derived.Deep.DeepHandedRow
import Derived.Lib.LaidTab
import Derived.Lib.SmallJoins
namespace Go.Proofs.YtineieoghlbchaaDoor
open Go.ChangeShapes Go.WideShapes Go.ChangeAt Go.RowKit

theorem own : ownKnob Tryd.prog.godebug = none := by kernel_rfl
theorem laidOut : laidOutB Tryd.prog = true := by kernel_rfl
theorem gTab : Tryd.prog.globalNamed "ciborium/octet.hexDigits" = some 0 := by kernel_rfl
theorem gTabType : (Tryd.prog.globals[0]?).map (·.type) = some 77 := by kernel_rfl
theorem cells77 : Tryd.prog.cellsOf 77 = 16 := by kernel_rfl
theorem cells5 : Tryd.prog.cellsOf 5 = 1 := by kernel_rfl
theorem cells44 : Tryd.prog.cellsOf 44 = 2 := by kernel_rfl
theorem cells22 : Tryd.prog.cellsOf 22 = 1 := by kernel_rfl

theorem tab_of {W : World} (h : laidMetH Tryd.prog [("ciborium/octet.hexDigits", Rows.laid_ciborium_octet_hexDigits)] W) : Tab W ∧ 0 < W.heap.size := by
  have ht : Lib.TabIs Tryd.prog W "ciborium/octet.hexDigits" .u8 digitsTab :=
    Lib.tabIs_of_head (rest := []) gTab gTabType Tryd.underlying77 Tryd.underlying5 cells5 cells77 h
  have hT : Tab W := fun i hi => ht.cell gTab i (by simpa [digitsTab] using hi)
  exact ⟨hT, block_lt_of_cell (hT 0 (by decide))⟩

/-- A world for the witness: the settled one, the table (block 0) holding what its initialiser lays. -/
noncomputable def laidWorld (os : Os) : World :=
  { World.holding Tryd.prog os ⟨#[], #[], []⟩ with heap := (World.holding Tryd.prog os ⟨#[], #[], []⟩).heap.modify 0 fun
      | .cells _ t frozen => .cells #[.int .u8 48, .int .u8 49, .int .u8 50, .int .u8 51, .int .u8 52, .int .u8 53, .int .u8 54, .int .u8 55, .int .u8 56, .int .u8 57, .int .u8 97, .int .u8 98, .int .u8 99, .int .u8 100, .int .u8 101, .int .u8 102] t frozen
      | o => o }

/-- Bytes that came in. -/
theorem open_row {H : Type} {enc : TypeId × Value → H} {W : World} {fuel : Nat} {v : Value} {y : DataW H × List MemPlace} (hf : DataW.trod enc Tryd.prog W 0 (fun _ => true) true fuel 22 [v] = some y) :
    ∃ ao n c xs, v = .slice ao n c ∧ Shows W ao n xs ∧ (ao = none → c = 0) ∧ n ≤ c ∧ c ≤ maxLen := by
  rcases open_ints Tryd.underlying22 Tryd.underlying5 cells5 hf with ⟨hcs, hx⟩ | ⟨a, len, cap, zs, hcs, _, hl, hm, hz, hx, hcell, hwz⟩
  · have := List.cons.inj hcs
    exact ⟨none, 0, 0, [], this.1, ⟨rfl, fun _ => rfl, fun ad h => (by cases h), fun x hx => (by simp at hx)⟩, fun _ => rfl, Nat.le_refl _, Nat.zero_le _⟩
  · have he := List.cons.inj hcs
    rw [if_pos rfl] at hz
    refine ⟨some a, len, cap, zs.take len, he.1, ⟨by simp; omega, fun h => (by cases h), fun ad had j hj => ?_, fun x hx => ?_⟩, fun h => (by cases h), hl, hm⟩
    · cases had
      rw [hcell j (by omega)]
      simp [List.getD, hj]
    · have := hwz x (List.mem_of_mem_take hx)
      have := bounds_u8 this
      omega
theorem open_elems {H : Type} {enc : TypeId × Value → H} {W : World} {fuel : Nat} {v : Value} {y : DataW H × List MemPlace} (hf : DataW.trod enc Tryd.prog W 0 (fun _ => true) true fuel 22 [v] = some y) :
    ∃ ao n c, ∃ S : List B, v = .slice ao n c ∧ Shows W ao n (S.map v8) ∧ (ao = none → c = 0) ∧ n ≤ c ∧ c ≤ maxLen := by
  obtain ⟨ao, n, c, xs, hv, hs, r⟩ := open_row hf
  obtain ⟨S, rfl⟩ := elems_of xs hs.rng
  exact ⟨ao, n, c, S, hv, hs, r⟩
theorem open_num1 {H : Type} {enc : TypeId × Value → H} {W : World} {fuel : Nat} {v : Value} {y : DataW H × List MemPlace} (hf : DataW.trod enc Tryd.prog W 0 (fun _ => true) true fuel 3 [v] = some y) :
    ∃ n : Int, v = .int .i64 n ∧ -9223372036854775808 ≤ n ∧ n ≤ 9223372036854775807 := by
  obtain ⟨x, e, _, wx⟩ := DataW.trod_int Tryd.underlying3 hf
  simp at e
  have := bounds_i64 wx
  exact ⟨x, e, by omega, by omega⟩
theorem open_byte1 {H : Type} {enc : TypeId × Value → H} {W : World} {fuel : Nat} {v : Value} {y : DataW H × List MemPlace} (hf : DataW.trod enc Tryd.prog W 0 (fun _ => true) true fuel 5 [v] = some y) :
    ∃ x : B, v = .int .u8 (v8 x) := by
  obtain ⟨a, e, _, hw⟩ := DataW.trod_int Tryd.underlying5 hf
  simp at e
  have := bounds_u8 hw
  exact ⟨BitVec.ofNat 8 a.toNat, by rw [e, ← v8_of a (by omega) (by omega)]⟩

set_option maxRecDepth 100000 in
theorem open_share {H : Type} {enc : TypeId × Value → H} {W : World} {base : Nat} {v : Value} {d : DataW H} {ps : List MemPlace} (hval : Value.okWide Tryd.prog W .any base 44 v) (h : DataW.Trod enc Tryd.prog W 0 (fun _ => true) true 44 v d ps) :
    ∃ (x : B) (ao : Option Addr) (n c : Nat) (S : List B), v = .agg #[.int .u8 (v8 x), .slice ao n c] ∧ Shows W ao n (S.map v8) ∧ (ao = none → c = 0) ∧ n ≤ c ∧ c ≤ maxLen := by
  obtain ⟨v0, v1, y0, y1, k, rfl, _, _, g0, g1⟩ := Go.Joins.open_agg2 Tryd.underlying44 (by kernel_rfl) cells44 hval h
  obtain ⟨x, rfl⟩ := open_byte1 g0
  obtain ⟨ao, n, c, S, rfl, r⟩ := open_elems g1
  exact ⟨x, ao, n, c, S, rfl, r⟩
end Go.Proofs.YtineieoghlbchaaDoor
