/- Blocks of cells that a call owns: read, written, carried along. -/
import Derived.Test.YtjhkicfndbceoaaScal
namespace Go.Proofs.Ytjhkicfndbceoaa
open Go.RowKit

/-- The block g holds the values vs, none of them frozen. -/
def Blk (w : World) (g : Nat) (t : TypeId) (vs : List Value) : Prop := w.heap[g]? = some (.cells vs.toArray t (0, 0))
section
variable {w w' : World} {g : Nat} {t : TypeId} {vs : List Value}
theorem Blk.lt (h : Blk w g t vs) : g < w.heap.size := lt_of_block h
theorem Blk.cell (h : Blk w g t vs) (i : Nat) (v : Value) (hv : vs[i]? = some v) : w.cell? ⟨g, i, none⟩ = some v := by
  rw [cell_of_row w g i _ t _ h]
  simpa using hv
theorem Blk.fz (h : Blk w g t vs) (i : Nat) : w.frozen? ⟨g, i, none⟩ = false := frozen_of_row w g i _ t h
theorem Blk.set (h : Blk w g t vs) (i : Nat) (v : Value) : Blk (w.setCell ⟨g, i, none⟩ v) g t (vs.set i v) := by
  unfold Blk
  rw [heap_setCell_same w g i _ t _ h]
  simp
theorem Blk.beside (h : Blk w g t vs) {a : Addr} (u : Value) (hn : g ≠ a.block) : Blk (w.setCell a u) g t vs := (heap_setCell_other w a g u hn).trans h
theorem Blk.later (h : Blk w g t vs) {n : Nat} (hb : Below n w w') (hB : g < n) : Blk w' g t vs := (hb.block g hB).trans h
theorem Blk.next (h : Blk w g t vs) (hb : Below w.heap.size w w') : Blk w' g t vs := h.later hb h.lt
theorem Blk.alloc (h : Blk w g t vs) (o : Obj) : Blk (w.alloc o) g t vs := (heap_alloc_old w o h.lt).trans h
theorem Blk.drew (h : Blk w g t vs) : Blk w.drew g t vs := h
theorem Blk.new (w : World) (t : TypeId) (vs : List Value) : Blk (w.alloc (.cells vs.toArray t)) w.heap.size t vs := heap_alloc_new w _
end
end Go.Proofs.Ytjhkicfndbceoaa
