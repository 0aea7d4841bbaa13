/- Arrays of bytes as values, and the blocks in which they lie: read, written, loaded and stored whole. -/
import Derived.Test.YtjhkicfndbceoaaElemR
import Derived.Deep.MidRow
namespace Go.Proofs.Ytjhkicfndbceoaa
open Go.RowKit

/-- Elements as the cells of an array. -/
def bys (l : List B) : List Value := l.map fun x => .int .u8 (v8 x)
theorem bys_length (l : List B) : (bys l).length = l.length := by simp [bys]
theorem bys_get (l : List B) (i : Nat) (h : i < l.length) : (bys l)[i]? = some (.int .u8 (v8 (l.getD i 0#8))) := by
  simp [bys, List.getD, List.getElem?_eq_getElem h]
theorem bys_set (l : List B) (i : Nat) (x : B) : (bys l).set i (.int .u8 (v8 x)) = bys (l.set i x) := by simp [bys, List.map_set]
theorem bys_append (l m : List B) : bys (l ++ m) = bys l ++ bys m := by simp [bys]
theorem bys_one (l : List B) : (bys l).toArray.all (·.oneCell') = true := by simp [bys, Value.oneCell']
theorem bys_one' (l : List B) : ∀ v ∈ bys l, v.oneCell' = true := by
  intro v hv
  obtain ⟨x, _, rfl⟩ := List.mem_map.1 hv
  rfl
theorem bys_zeros (n : Nat) : bys (List.replicate n 0#8) = List.replicate n (Value.int .u8 0) := by simp [bys, v8_zero]

/-- All but the block g is as it was. -/
structure On (w w' : World) (g : Nat) : Prop where
  os : w'.os = w.os
  tape : w'.tape = w.tape
  output : w'.output = w.output
  size : w'.heap.size = w.heap.size
  block : ∀ k, k ≠ g → w'.heap[k]? = w.heap[k]?
theorem On.setRow (w : World) (g : Nat) (cs : Array Value) : On w (w.setRow g cs) g := ⟨rfl, rfl, rfl, setRow_size _ _ _, fun _ hk => setRow_other _ _ _ _ hk⟩
theorem On.setCell (w : World) (a : Addr) (u : Value) : On w (w.setCell a u) a.block := ⟨rfl, rfl, rfl, by simp, fun _ hk => heap_setCell_other _ _ _ _ hk⟩
theorem On.below {B : Nat} {w0 w w' : World} {g : Nat} (h : On w w' g) (hb : Below B w0 w) (hg : B ≤ g) : Below B w0 w' :=
  hb.trans ⟨h.os, h.tape, h.output, by rw [h.size]; exact Nat.le_refl _, fun _ hk => h.block _ (by omega)⟩
theorem Blk.on {w w' : World} {g g' : Nat} {t : TypeId} {vs : List Value} (h : Blk w g t vs) (ho : On w w' g') (hn : g ≠ g') : Blk w' g t vs := (ho.block g hn).trans h
theorem On.setCells (w : World) (r o : Nat) (vs : List Value) : On w (w.setCells r o vs) r := by
  induction vs generalizing w o with
  | nil => exact ⟨rfl, rfl, rfl, rfl, fun _ _ => rfl⟩
  | cons v vs ih =>
    have h1 := On.setCell w ⟨r, o, none⟩ v
    have h2 := ih (w.setCell ⟨r, o, none⟩ v) (o + 1)
    exact ⟨h2.os.trans h1.os, h2.tape.trans h1.tape, h2.output.trans h1.output, h2.size.trans h1.size, fun k hk => (h2.block k hk).trans (h1.block k hk)⟩
theorem Blk.byte {w : World} {g : Nat} {t : TypeId} {l : List B} (h : Blk w g t (bys l)) (i : Nat) (hi : i < l.length) : w.cell? ⟨g, i, none⟩ = some (.int .u8 (v8 (l.getD i 0#8))) :=
  h.cell i _ (bys_get l i hi)
theorem Blk.put {w : World} {g : Nat} {t : TypeId} {l : List B} (h : Blk w g t (bys l)) (i : Nat) (x : B) : Blk (w.setCell ⟨g, i, none⟩ (.int .u8 (v8 x))) g t (bys (l.set i x)) := by
  have := h.set i (.int .u8 (v8 x))
  rwa [bys_set] at this
theorem Blk.range {w : World} {g : Nat} {t : TypeId} {vs : List Value} (h : Blk w g t vs) (o n : Nat) : w.rangeAt g o ((vs.drop o).take n) := by
  intro j v hv
  refine h.cell (o + j) v ?_
  by_cases hj : j < n
  · rw [List.getElem?_take, if_pos hj, List.getElem?_drop] at hv
    exact hv
  · rw [List.getElem?_take, if_neg hj] at hv
    cases hv
theorem Blk.whole {w : World} {g : Nat} {t : TypeId} {vs : List Value} (h : Blk w g t vs) : w.rangeAt g 0 vs := by
  intro j v hv
  rw [Nat.zero_add]
  exact h.cell j v hv
theorem Blk.there {w : World} {g : Nat} {t : TypeId} {vs : List Value} (h : Blk w g t vs) (o n : Nat) (hn : o + n ≤ vs.length) : w.there g o n := by
  intro j hj
  refine ⟨?_, h.fz _⟩
  rw [h.cell (o + j) _ (List.getElem?_eq_getElem (by omega))]
  rfl

section
variable {w : World} {ops : Array Oper} {rest : List Oper} {o : Oper} {a : Act} {Q : Exit → Act → World → Prop}
/-- A whole block is loaded. -/
theorem law_load (hgd : o.guard = none) (ty : TypeId) (x : Operand) (ho : o.op = .load ty x) (g : Nat) (hx : a.eval x = .pointer (some ⟨g, 0, none⟩)) (t : TypeId) (vs : List Value) (hA : Blk w g t vs)
    (d : TypeDesc) (hu : Try.prog.underlying ty = some d) (hd : d.isRow = true) (hi : (Try.prog.info? ty).map (·.size) = some vs.length)
    (h : wpList Try.prog ops Q rest (a.put o.dst (.agg vs.toArray)) w) : wpList Try.prog ops Q (o :: rest) a w :=
  wpList_load_mid hgd ty x ho g 0 hx vs d hA.whole hu hd hi h
/-- A whole block is stored. -/
theorem law_store (hgd : o.guard = none) (ty : TypeId) (x y : Operand) (ho : o.op = .store ty x y) (g : Nat) (ys : List Value) (hx : a.eval x = .pointer (some ⟨g, 0, none⟩)) (hy : a.eval y = .agg ys.toArray)
    (t : TypeId) (vs : List Value) (hA : Blk w g t vs) (hl : vs.length = ys.length) (hi : (Try.prog.info? ty).map (·.size) = some ys.length) (h1 : ys.toArray.all (·.oneCell') = true)
    (h : ∀ w', On w w' g → Blk w' g t ys → wpList Try.prog ops Q rest (a.put o.dst undef) w') : wpList Try.prog ops Q (o :: rest) a w :=
  wpList_store_row hgd ty x y ho g ys.toArray hx hy t vs.toArray hA (by simpa using hi) (by simp [hl]) h1
    (h _ (On.setRow w g _) (setRow_heap w g _ _ t _ hA))
end

theorem isAgg5 (w : World) : (isAgg 5).run Try.prog w = .ok false w := by kernel_rfl
theorem sizeOf5 (w : World) : (sizeOf 5).run Try.prog w = .ok 1 w := by kernel_rfl
theorem part5 (l : List B) (i : Nat) (hi : i < l.length) (w : World) : (Go.part 5 (bys l).toArray i).run Try.prog w = .ok (.int .u8 (v8 (l.getD i 0#8))) w := by
  unfold Go.part
  rw [Sem.run_bind, isAgg5]
  simp only [Result.andThen_ok, List.getElem?_toArray, bys_get l i hi]
  simp
/-- An array of bytes is read at a place. -/
theorem index_at (t n : Nat) (hu : Try.prog.underlying t = some (.array n 5)) (l : List B) (hl : l.length = n) (i : Nat) (hi : i < n) (w : World) :
    (Instr.index t (.agg (bys l).toArray) (.int .i64 (i : Int))).run Try.prog w = .ok (.int .u8 (v8 (l.getD i 0#8))) w := by
  unfold Instr.index
  simp only [asIntOf, Sem.run_bind, Sem.run_pure, Result.andThen_ok, run_underlying hu]
  rw [if_pos (by omega)]
  simp only [Sem.run_bind, sizeOf5, Result.andThen_ok, Int.toNat_natCast, Nat.mul_one]
  exact part5 l i (by omega) w
end Go.Proofs.Ytjhkicfndbceoaa
