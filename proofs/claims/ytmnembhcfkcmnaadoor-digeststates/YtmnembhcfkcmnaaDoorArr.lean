/- Arrays of numbers that lie in blocks of their own: read, written, loaded and stored whole. -/
import Derived.Test.YtmnembhcfkcmnaaDoorScal
import Derived.Test.YtmnembhcfkcmnaaDoorRoom
namespace Go.Proofs.YtmnembhcfkcmnaaDoor
open Go.RowKit

def nums (k : IntKind) (xs : List Int) : Array Value := (xs.map (Value.int k)).toArray
theorem nums_size (k : IntKind) (xs : List Int) : (nums k xs).size = xs.length := by simp [nums]
theorem nums_get (k : IntKind) (xs : List Int) (i : Nat) (h : i < xs.length) : (nums k xs)[i]? = some (.int k (xs.getD i 0)) := by
  simp [nums, List.getD, List.getElem?_eq_getElem h]
theorem nums_one (k : IntKind) (xs : List Int) : (nums k xs).all (·.oneCell') = true := by
  simp [nums, Value.oneCell']
theorem nums_set (k : IntKind) (xs : List Int) (i : Nat) (v : Int) : (nums k xs).setIfInBounds i (.int k v) = nums k (xs.set i v) := by
  simp [nums, List.map_set]

/-- The block g is an array of type t that holds the numbers xs. -/
def Arr (w : World) (g : Nat) (k : IntKind) (t : TypeId) (xs : List Int) : Prop := w.heap[g]? = some (.cells (nums k xs) t (0, 0))

/-- All but the block g is as it was. -/
structure On (w w' : World) (g : Nat) : Prop where
  os : w'.os = w.os
  tape : w'.tape = w.tape
  output : w'.output = w.output
  size : w'.heap.size = w.heap.size
  block : ∀ k, k ≠ g → w'.heap[k]? = w.heap[k]?

theorem On.setRow (w : World) (g : Nat) (cs : Array Value) : On w (w.setRow g cs) g := ⟨rfl, rfl, rfl, setRow_size _ _ _, fun _ hk => setRow_other _ _ _ _ hk⟩
theorem On.setCell (w : World) (a : Addr) (u : Value) : On w (w.setCell a u) a.block := ⟨rfl, rfl, rfl, by simp, fun _ hk => heap_setCell_other _ _ _ _ hk⟩
theorem On.below {B : Nat} {w0 w w' : World} {g : Nat} (h : On w w' g) (hb : Below B w0 w) (hg : B ≤ g) : Below B w0 w' :=
  hb.trans ⟨h.os, h.tape, h.output, by rw [h.size]; exact Nat.le_refl _, fun _ hk => h.block _ (by omega)⟩
theorem Arr.on {w w' : World} {g g' : Nat} {k : IntKind} {t : TypeId} {xs : List Int} (h : Arr w g k t xs) (ho : On w w' g') (hn : g ≠ g') : Arr w' g k t xs := (ho.block g hn).trans h
theorem Arr.lt {w : World} {g : Nat} {k : IntKind} {t : TypeId} {xs : List Int} (h : Arr w g k t xs) : g < w.heap.size := lt_of_block h
theorem Arr.later {w w' : World} {g : Nat} {k : IntKind} {t : TypeId} {xs : List Int} (h : Arr w g k t xs) {B : Nat} (hb : Below B w w') (hB : g < B) : Arr w' g k t xs := (hb.block g hB).trans h
theorem Arr.next {w w' : World} {g : Nat} {k : IntKind} {t : TypeId} {xs : List Int} (h : Arr w g k t xs) (hb : Below w.heap.size w w') : Arr w' g k t xs := h.later hb h.lt
theorem Arr.alloc {w : World} {g : Nat} {k : IntKind} {t : TypeId} {xs : List Int} (h : Arr w g k t xs) (o : Obj) : Arr (w.alloc o) g k t xs := (heap_alloc_old w o h.lt).trans h
theorem Arr.drew {w : World} {g : Nat} {k : IntKind} {t : TypeId} {xs : List Int} (h : Arr w g k t xs) : Arr w.drew g k t xs := h
theorem Arr.new (w : World) (k : IntKind) (t : TypeId) (xs : List Int) : Arr (w.alloc (.cells (nums k xs) t)) w.heap.size k t xs := heap_alloc_new w _
theorem Arr.cell {w : World} {g : Nat} {k : IntKind} {t : TypeId} {xs : List Int} (h : Arr w g k t xs) (i : Nat) (hi : i < xs.length) : w.cell? ⟨g, i, none⟩ = some (.int k (xs.getD i 0)) := by
  rw [cell_of_row w g i _ t _ h, nums_get k xs i hi]
theorem Arr.fz {w : World} {g : Nat} {k : IntKind} {t : TypeId} {xs : List Int} (h : Arr w g k t xs) (i : Nat) : w.frozen? ⟨g, i, none⟩ = false := frozen_of_row w g i _ t h
theorem Arr.set {w : World} {g : Nat} {k : IntKind} {t : TypeId} {xs : List Int} (h : Arr w g k t xs) (i : Nat) (v : Int) : Arr (w.setCell ⟨g, i, none⟩ (.int k v)) g k t (xs.set i v) := by
  unfold Arr
  rw [heap_setCell_same w g i _ t _ h, nums_set]
theorem Arr.beside {w : World} {g : Nat} {k : IntKind} {t : TypeId} {xs : List Int} (h : Arr w g k t xs) {a : Addr} (u : Value) (hn : g ≠ a.block) : Arr (w.setCell a u) g k t xs := h.on (On.setCell w a u) hn

section
variable {w : World} {ops : Array Oper} {rest : List Oper} {o : Oper} {a : Act} {Q : Exit → Act → World → Prop}

/-- A whole array is loaded. -/
theorem law_load (hgd : o.guard = none) (ty : TypeId) (x : Operand) (ho : o.op = .load ty x) (g : Nat) (hx : a.eval x = .pointer (some ⟨g, 0, none⟩)) (k : IntKind) (t : TypeId) (xs : List Int) (hA : Arr w g k t xs)
    (n : Nat) (e : TypeId) (hu : Tryd.prog.underlying ty = some (.array n e)) (hi : (Tryd.prog.info? ty).map (·.size) = some xs.length)
    (h : wpList Tryd.prog ops Q rest (a.put o.dst (.agg (nums k xs))) w) : wpList Tryd.prog ops Q (o :: rest) a w :=
  wpList_load_row hgd ty x ho g hx t (nums k xs) (0, 0) _ hA hu rfl (by rw [nums_size]; exact hi) h

/-- A whole array is stored. -/
theorem law_store (hgd : o.guard = none) (ty : TypeId) (x y : Operand) (ho : o.op = .store ty x y) (g : Nat) (k : IntKind) (ys : List Int) (hx : a.eval x = .pointer (some ⟨g, 0, none⟩)) (hy : a.eval y = .agg (nums k ys))
    (t : TypeId) (xs : List Int) (hA : Arr w g k t xs) (hl : xs.length = ys.length) (hi : (Tryd.prog.info? ty).map (·.size) = some ys.length)
    (h : ∀ w', On w w' g → Arr w' g k t ys → wpList Tryd.prog ops Q rest (a.put o.dst undef) w') : wpList Tryd.prog ops Q (o :: rest) a w :=
  wpList_store_row hgd ty x y ho g (nums k ys) hx hy t (nums k xs) hA (by rw [nums_size]; exact hi) (by rw [nums_size, nums_size, hl]) (nums_one k ys)
    (h _ (On.setRow w g _) (setRow_heap w g _ _ t _ hA))
end

theorem zeros57 : nums .u32 (List.replicate 64 0) = (List.replicate 64 (Value.int .u32 0)).toArray := by simp [nums]

/-- The first j of L, zeros behind them up to n. -/
def fill (L : List Int) (n j : Nat) : List Int := L.take j ++ List.replicate (n - j) 0
theorem fill_length (L : List Int) (n j : Nat) (hj : j ≤ n) (hL : j ≤ L.length) : (fill L n j).length = n := by simp [fill]; omega
theorem fill_zero (L : List Int) (n : Nat) : fill L n 0 = List.replicate n 0 := by simp [fill]
theorem fill_full (L : List Int) (n : Nat) (h : L.length = n) : fill L n n = L := by simp [fill, ← h]
theorem fill_step (L : List Int) (n j : Nat) (hj : j < n) (hL : j < L.length) : (fill L n j).set j (L.getD j 0) = fill L n (j + 1) := by
  unfold fill
  rw [List.set_append_right _ _ (by simp; omega)]
  have : j - (L.take j).length = 0 := by simp; omega
  have e : L.take (j + 1) = L.take j ++ [L.getD j 0] := by
    rw [List.take_add_one, List.getElem?_eq_getElem hL]
    simp [List.getD, List.getElem?_eq_getElem hL]
  rw [this, show n - j = (n - (j + 1)) + 1 by omega, List.replicate_succ, List.set_cons_zero, e]
  simp only [List.append_assoc, List.cons_append, List.nil_append]
theorem fill_get (L : List Int) (n j i : Nat) (hi : i < j) (hL : j ≤ L.length) : (fill L n j).getD i 0 = L.getD i 0 := by
  unfold fill
  simp only [List.getD]
  rw [List.getElem?_append_left (by simp; omega), List.getElem?_take, if_pos hi]

theorem arr47 : Tryd.prog.underlying 47 = some (.array (Tryd.prog.arrayLen 47) (Tryd.prog.elem 47)) := by kernel_rfl
theorem arr25 : Tryd.prog.underlying 25 = some (.array (Tryd.prog.arrayLen 25) (Tryd.prog.elem 25)) := by kernel_rfl
theorem len47 : Tryd.prog.arrayLen 47 = 64 := by kernel_rfl
theorem len25 : Tryd.prog.arrayLen 25 = 32 := by kernel_rfl
theorem size47 (W : World) : (sizeOf (Tryd.prog.elem 47)).run Tryd.prog W = .ok 1 W := by kernel_rfl
theorem size25 (W : World) : (sizeOf (Tryd.prog.elem 25)).run Tryd.prog W = .ok 1 W := by kernel_rfl

theorem addz (g o j : Nat) : (⟨g, o, none⟩ : Addr).add j = ⟨g, o + j, none⟩ := by unfold Addr.add; split <;> simp_all

/-- 'b[l:h]' of an array of 64 bytes. -/
theorem slice_lh (W : World) (g off : Nat) (l h : Nat) (L H : Int) (hL : L = l) (hH : H = h) (h1 : l ≤ h) (h2 : h ≤ 64) (h3 : l < 64) :
    (Instr.sliceAt 47 (.pointer (some ⟨g, off, none⟩)) (some (.int .i64 L)) (some (.int .i64 H)) none).run Tryd.prog W = .ok (.slice (some ⟨g, off + l, none⟩) (h - l) (64 - l)) W := by
  subst hL hH
  rw [run_sliceAt_array_lh W 47 _ arr47 .i64 .i64 l h (by omega) (by omega) (by rw [len47]; omega), size47, len47]
  simp only [Result.andThen_ok, slicedAt, Int.toNat_natCast, Nat.mul_one, addz]
  rw [if_neg (by omega)]
/-- 'b[l:]' of an array of 64 bytes. -/
theorem slice_l (W : World) (g off : Nat) (l : Nat) (L : Int) (hL : L = l) (h3 : l < 64) :
    (Instr.sliceAt 47 (.pointer (some ⟨g, off, none⟩)) (some (.int .i64 L)) none none).run Tryd.prog W = .ok (.slice (some ⟨g, off + l, none⟩) (64 - l) (64 - l)) W := by
  subst hL
  rw [run_sliceAt_array_l W 47 _ arr47 .i64 l (by omega) (by rw [len47]; omega), size47, len47]
  simp only [Result.andThen_ok, slicedAt, Int.toNat_natCast, Nat.mul_one, addz]
  rw [if_neg (by omega)]
/-- 'b[:h]' of an array of 64 bytes. -/
theorem slice_h (W : World) (g off : Nat) (h : Nat) (H : Int) (hH : H = h) (h2 : h ≤ 64) :
    (Instr.sliceAt 47 (.pointer (some ⟨g, off, none⟩)) none (some (.int .i64 H)) none).run Tryd.prog W = .ok (.slice (some ⟨g, off, none⟩) h 64) W := by
  subst hH
  rw [run_sliceAt_array_h W 47 _ arr47 .i64 h (by omega) (by rw [len47]; omega), size47, len47]
  simp [slicedAt, Addr.add]
/-- 'b[:]' of an array of 64 bytes. -/
theorem slice_all (W : World) (g off : Nat) :
    (Instr.sliceAt 47 (.pointer (some ⟨g, off, none⟩)) none none none).run Tryd.prog W = .ok (.slice (some ⟨g, off, none⟩) 64 64) W := by
  rw [run_sliceAt_array_all W 47 _ arr47, size47, len47]
  simp [slicedAt, Addr.add]
/-- 'b[:]' of an array of 32 bytes. -/
theorem slice_all32 (W : World) (g off : Nat) :
    (Instr.sliceAt 25 (.pointer (some ⟨g, off, none⟩)) none none none).run Tryd.prog W = .ok (.slice (some ⟨g, off, none⟩) 32 32) W := by
  rw [run_sliceAt_array_all W 25 _ arr25, size25, len25]
  simp [slicedAt, Addr.add]
end Go.Proofs.YtmnembhcfkcmnaaDoor
