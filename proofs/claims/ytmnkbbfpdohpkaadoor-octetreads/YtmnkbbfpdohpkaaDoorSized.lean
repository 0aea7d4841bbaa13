/- How long a list of bytes that came in can be. -/
import Derived.Test.YtmnkbbfpdohpkaaDoorFrame
import Derived.SizedLaws
namespace Go.Proofs.YtmnkbbfpdohpkaaDoor
open Go.ChangeShapes Go.WideShapes Go.ChangeAt Go.RowKit

theorem bytes5 : Tryd.prog.bytesOf 5 = 1 := by kernel_rfl

set_option maxRecDepth 100000 in
theorem bytes_len {H : Type} {enc : TypeId × Value → H} {W : World} {base : Nat} {ao : Option Addr} {n c : Nat} {d : DataW H} {ps : List MemPlace} (hval : Value.okWide Tryd.prog W .any base 22 (.slice ao n c)) (h : DataW.Trod enc Tryd.prog W 0 (fun _ => true) true 22 (.slice ao n c) d ps)
    {ts : List TypeId} {ds : List (DataW H)} (hsz : (DataW.weightsEach Tryd.prog ts ds).all (· ≤ reachBytes) = true) {j : Nat} (ht : ts[j]? = some 22) (hd : ds[j]? = some d) : n ≤ 140737488351232 := by
  obtain ⟨fuel, hf⟩ := h
  rcases open_ints Tryd.underlying22 Tryd.underlying5 cells5 hf with ⟨hcs, hx⟩ | ⟨a, len', cap', zs, hcs, _, hl, hm, hz, hx, hcell, hwz⟩
  · simp [Value.cells] at hcs
    omega
  · simp [Value.cells] at hcs
    obtain ⟨rfl, rfl, rfl⟩ := hcs
    simp only [Prod.mk.injEq] at hx
    obtain ⟨rfl, _⟩ := hx
    have := sized_slice hsz ht hd Tryd.underlying22
    rw [bytes5] at this
    rw [if_pos rfl] at hz
    simp only [lits, List.length_map, List.length_take, List.length_drop, reachBytes] at this
    omega

end Go.Proofs.YtmnkbbfpdohpkaaDoor
