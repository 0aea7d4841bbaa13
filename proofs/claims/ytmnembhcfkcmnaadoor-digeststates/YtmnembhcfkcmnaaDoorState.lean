/- A state: its eight words, its block and its count lie in one block of memory. New, filled and Copy. -/
import Derived.Test.YtmnembhcfkcmnaaDoorBytes
import Derived.Deep.MidRow
namespace Go.Proofs.YtmnembhcfkcmnaaDoor
open Go.RowKit

def H0 : St := ⟨1779033703, 3144134277, 1013904242, 2773480762, 1359893119, 2600822924, 528734635, 1541459225⟩

def stl (s : St) (b : List Int) (n : Nat) : List Value := s.l.map (Value.int .u32) ++ (b.map (Value.int .u8) ++ [.int .u64 (n : Int)])
theorem stl_length (s : St) (b : List Int) (n : Nat) (h : b.length = 64) : (stl s b n).length = 73 := by simp [stl, St.l, h]

/-- A state of the words s, the block b and the count n. -/
structure Sta (w : World) (r : Nat) (s : St) (b : List Int) (n : Nat) : Prop where
  blk : w.heap[r]? = some (.cells (stl s b n).toArray 52 (0, 0))
  len : b.length = 64
  rng : ∀ x ∈ b, 0 ≤ x ∧ x ≤ 255

theorem Sta.lt {w : World} {r : Nat} {s : St} {b : List Int} {n : Nat} (h : Sta w r s b n) : r < w.heap.size := lt_of_block h.blk
theorem Sta.on {w w' : World} {r g : Nat} {s : St} {b : List Int} {n : Nat} (h : Sta w r s b n) (ho : On w w' g) (hn : r ≠ g) : Sta w' r s b n := ⟨(ho.block r hn).trans h.blk, h.len, h.rng⟩
theorem Sta.later {w w' : World} {r : Nat} {s : St} {b : List Int} {n : Nat} (h : Sta w r s b n) {B : Nat} (hb : Below B w w') (hB : r < B) : Sta w' r s b n := ⟨(hb.block r hB).trans h.blk, h.len, h.rng⟩
theorem Sta.next {w w' : World} {r : Nat} {s : St} {b : List Int} {n : Nat} (h : Sta w r s b n) (hb : Below w.heap.size w w') : Sta w' r s b n := h.later hb h.lt
theorem Sta.count {w : World} {r : Nat} {s : St} {b : List Int} {n : Nat} (h : Sta w r s b n) : w.cell? ⟨r, 72, none⟩ = some (.int .u64 (n : Int)) := by
  rw [cell_of_row w r 72 _ 52 _ h.blk]
  have := h.len
  simp only [stl, List.getElem?_toArray]
  rw [List.getElem?_append_right (by simp [St.l]), List.getElem?_append_right (by simp [St.l]; omega)]
  simp [St.l, this]
theorem Sta.fz {w : World} {r : Nat} {s : St} {b : List Int} {n : Nat} (h : Sta w r s b n) (j : Nat) : w.frozen? ⟨r, j, none⟩ = false := frozen_of_row w r j _ 52 h.blk
theorem Sta.words {w : World} {r : Nat} {s : St} {b : List Int} {n : Nat} (h : Sta w r s b n) : w.rangeAt r 0 (s.l.map (Value.int .u32)) := fun j v hv => by
  have hj := (List.getElem?_eq_some_iff.1 hv).1
  rw [Nat.zero_add, cell_of_row w r j _ 52 _ h.blk]
  simp only [stl, List.getElem?_toArray]
  rw [List.getElem?_append_left hj]
  exact hv
theorem Sta.block {w : World} {r : Nat} {s : St} {b : List Int} {n : Nat} (h : Sta w r s b n) : w.rangeAt r 8 (b.map (Value.int .u8)) := fun j v hv => by
  have hj := (List.getElem?_eq_some_iff.1 hv).1
  rw [cell_of_row w r (8 + j) _ 52 _ h.blk]
  simp only [stl, List.getElem?_toArray]
  rw [List.getElem?_append_right (by simp [St.l]), List.getElem?_append_left (by simpa [St.l] using hj)]
  simpa [St.l] using hv

theorem load45 (w : World) (r : Nat) (s : St) (b : List Int) (n : Nat) (h : Sta w r s b n) : (Instr.loadAt 45 (.pointer (some ⟨r, 0, none⟩))).run Tryd.prog w = .ok (.agg (nums .u32 s.l)) w :=
  run_loadAt_mid w r 0 45 _ _ h.words Tryd.underlying45 rfl (by rw [List.length_map]; kernel_rfl)
theorem load47 (w : World) (r : Nat) (s : St) (b : List Int) (n : Nat) (h : Sta w r s b n) : (Instr.loadAt 47 (.pointer (some ⟨r, 8, none⟩))).run Tryd.prog w = .ok (.agg (nums .u8 b)) w :=
  run_loadAt_mid w r 8 47 _ _ h.block Tryd.underlying47 rfl (by rw [List.length_map, h.len]; kernel_rfl)

set_option maxHeartbeats 400000 in
set_option maxRecDepth 100000 in
theorem filled_any (r : Nat) (s : St) (b : List Int) (n : Nat) (w : World) (h : Sta w r s b n) :
    Calls Tryd.prog 26 #[.pointer (some ⟨r, 0, none⟩)] w fun e w' => e = .returned (.int .i64 ((n % 64 : Nat) : Int)) ∧ w = w' := by
  have c := h.count
  go_enter Tryd.func26, Tryd.ntmps26
  go_wp2
  go_ret
  exact ⟨by simp, rfl⟩

theorem built52 : Tryd.prog.built 52 [(0, .agg (H0.l.map (Value.int .u32)).toArray)] = some (stl H0 (List.replicate 64 0) 0).toArray := by kernel_rfl
theorem law_new {w : World} {ops : Array Oper} {rest : List Oper} {o : Oper} {a : Act} {Q : Exit → Act → World → Prop} (hgd : o.guard = none) (x : Operand) (ho : o.op = .build 52 #[(0, x)]) (hx : a.eval x = .agg (H0.l.map (Value.int .u32)).toArray)
    (h : wpList Tryd.prog ops Q rest (a.put o.dst (.agg (stl H0 (List.replicate 64 0) 0).toArray)) w) : wpList Tryd.prog ops Q (o :: rest) a w := by
  have hb : Tryd.prog.built 52 ((#[(0, x)] : Array (Nat × Operand)).map fun (i, x) => (i, a.eval x)).toList = some (stl H0 (List.replicate 64 0) 0).toArray := by
    rw [← built52, ← hx]
    simp
  exact wpList_build hgd 52 _ ho (by rw [hb]; rfl) (by rw [hb]; exact h)

set_option maxHeartbeats 400000 in
set_option maxRecDepth 100000 in
theorem new_any (w : World) (hT : Tabs w) :
    Calls Tryd.prog 15 #[] w fun e w' => ∃ r, e = .returned (.pointer (some ⟨r, 0, none⟩)) ∧ w.heap.size ≤ r ∧ Sta w' r H0 (List.replicate 64 0) 0 ∧ Below w.heap.size w w' := by
  have hr : w.rangeAt 0 0 (H0.l.map (Value.int .u32)) := fun j v hv => by
    have hj := (List.getElem?_eq_some_iff.1 hv).1
    have hj8 : j < 8 := by simpa [St.l] using hj
    rw [Nat.zero_add, hT.h j hj8, ← hv]
    have : j = 0 ∨ j = 1 ∨ j = 2 ∨ j = 3 ∨ j = 4 ∨ j = 5 ∨ j = 6 ∨ j = 7 := by omega
    rcases this with rfl | rfl | rfl | rfl | rfl | rfl | rfl | rfl <;> rfl
  go_enter Tryd.func15, Tryd.ntmps15
  go_wp2_with (first | (refine wpList_load_mid rfl 45 _ rfl 0 0 rfl _ _ hr Tryd.underlying45 rfl (by rw [List.length_map]; kernel_rfl) ?_) | (refine law_new rfl _ rfl rfl ?_))
  go_ret
  refine ⟨w.heap.size, rfl, Nat.le_refl _, ⟨heap_alloc_new w _, by simp, by decide⟩, (Below.refl _ w).alloc (Nat.le_refl _) _⟩

set_option maxHeartbeats 400000 in
set_option maxRecDepth 100000 in
theorem copy_any (r : Nat) (s : St) (b : List Int) (n : Nat) (w : World) (h : Sta w r s b n) :
    Calls Tryd.prog 19 #[.pointer (some ⟨r, 0, none⟩)] w fun e w' => ∃ r', e = .returned (.pointer (some ⟨r', 0, none⟩)) ∧ w.heap.size ≤ r' ∧ Sta w' r' s b n ∧ Below w.heap.size w w' := by
  have hz : ∀ W, (zeroValue 52).run Tryd.prog W = .ok (.agg (stl ⟨0, 0, 0, 0, 0, 0, 0, 0⟩ (List.replicate 64 0) 0).toArray) W := fun W => by kernel_rfl
  have hB := heap_alloc_new w (.cells (stl ⟨0, 0, 0, 0, 0, 0, 0, 0⟩ (List.replicate 64 0) 0).toArray 52)
  have hone : (stl s b n).toArray.all (·.oneCell') = true := all_oneCell_toArray (fun v hv => by
    simp only [stl, List.mem_append, List.mem_map, List.mem_singleton] at hv
    rcases hv with ⟨x, _, rfl⟩ | ⟨x, _, rfl⟩ | rfl <;> rfl)
  go_enter Tryd.func19, Tryd.ntmps19
  go_wp2_with (first | (refine wpList_store_row rfl 52 _ _ rfl w.heap.size _ rfl rfl 52 _ hB (by rw [List.size_toArray, stl_length _ _ _ h.len]; kernel_rfl) (by rw [List.size_toArray, List.size_toArray, stl_length _ _ _ h.len, stl_length _ _ _ (by simp)]) hone ?_) | (refine wpList_load_row rfl 52 _ rfl r rfl 52 _ _ _ h.blk Tryd.underlying52 rfl (by rw [List.size_toArray, stl_length _ _ _ h.len]; kernel_rfl) ?_))
  go_ret
  refine ⟨w.heap.size, rfl, Nat.le_refl _, ⟨setRow_heap _ _ _ _ 52 _ hB, h.len, h.rng⟩, ?_⟩
  exact (On.setRow _ _ _).below ((Below.refl _ w).alloc (Nat.le_refl _) _) (Nat.le_refl _)
theorem copy_nil (w : World) : Calls Tryd.prog 19 #[.pointer none] w fun e w' => e = .returned (.pointer none) ∧ w = w' := by
  go_enter Tryd.func19, Tryd.ntmps19
  go_wp2
  go_ret
  exact ⟨rfl, rfl⟩
end Go.Proofs.YtmnembhcfkcmnaaDoor
