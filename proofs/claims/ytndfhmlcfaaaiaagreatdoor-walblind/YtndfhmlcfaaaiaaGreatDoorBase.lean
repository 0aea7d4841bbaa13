/- Bytes, sectors as values, and the blocks in which they lie. -/
import Derived.Test.YtndfhmlcfaaaiaaGreatDoorRows
import Derived.WalkKit
import Derived.WalkSpells
import Derived.WalkLawsBesides
import Derived.Outline
import Derived.Deep.MidRow
import Derived.Laws.StructEq
namespace Go.Proofs.YtndfhmlcfaaaiaaGreatDoor
open Go.RowKit

abbrev B := BitVec 8
/-- A byte as the program's number. -/
def v8 (x : B) : Int := (x.toNat : Int)
theorem v8_nn (x : B) : 0 ≤ v8 x := by unfold v8; omega
theorem v8_le (x : B) : v8 x ≤ 255 := by unfold v8; have := x.isLt; omega
theorem v8_inj {x y : B} (h : v8 x = v8 y) : x = y := by
  apply BitVec.eq_of_toNat_eq
  unfold v8 at h
  omega
theorem v8_eq (x y : B) : (v8 x == v8 y) = decide (x = y) := by
  by_cases h : x = y
  · subst h; simp
  · have : v8 x ≠ v8 y := fun e => h (v8_inj e)
    simp [h, this]
theorem v8_of (n : Int) (h0 : 0 ≤ n) (h1 : n ≤ 255) : n = v8 (BitVec.ofNat 8 n.toNat) := by
  unfold v8
  rw [BitVec.toNat_ofNat]
  omega

/-- The block g holds the values vs, none of them frozen. -/
def Blk (w : World) (g : Nat) (t : TypeId) (vs : List Value) : Prop := w.heap[g]? = some (.cells vs.toArray t (0, 0))
section
variable {w w' : World} {g : Nat} {t : TypeId} {vs : List Value}
theorem Blk.lt (h : Blk w g t vs) : g < w.heap.size := lt_of_block h
theorem Blk.cell (h : Blk w g t vs) (i : Nat) (v : Value) (hv : vs[i]? = some v) : w.cell? ⟨g, i, none⟩ = some v := by
  rw [cell_of_row w g i _ t _ h]
  simpa using hv
theorem Blk.fz (h : Blk w g t vs) (i : Nat) : w.frozen? ⟨g, i, none⟩ = false := frozen_of_row w g i _ t h
theorem Blk.set (h : Blk w g t vs) (i : Nat) (v : Value) : Blk (w.setCell ⟨g, i, none⟩ v) g t (vs.set i v) := by
  unfold Blk
  rw [heap_setCell_same w g i _ t _ h]
  simp
theorem Blk.beside (h : Blk w g t vs) {a : Addr} (u : Value) (hn : g ≠ a.block) : Blk (w.setCell a u) g t vs := (heap_setCell_other w a g u hn).trans h
theorem Blk.later (h : Blk w g t vs) {n : Nat} (hb : Below n w w') (hB : g < n) : Blk w' g t vs := (hb.block g hB).trans h
theorem Blk.next (h : Blk w g t vs) (hb : Below w.heap.size w w') : Blk w' g t vs := h.later hb h.lt
theorem Blk.alloc (h : Blk w g t vs) (o : Obj) : Blk (w.alloc o) g t vs := (heap_alloc_old w o h.lt).trans h
theorem Blk.drew (h : Blk w g t vs) : Blk w.drew g t vs := h
theorem Blk.new (w : World) (t : TypeId) (vs : List Value) : Blk (w.alloc (.cells vs.toArray t)) w.heap.size t vs := heap_alloc_new w _
end

/-- Bytes as the cells of an array. -/
def bys (l : List B) : List Value := l.map fun x => .int .u8 (v8 x)
theorem bys_length (l : List B) : (bys l).length = l.length := by simp [bys]
theorem bys_get (l : List B) (i : Nat) (h : i < l.length) : (bys l)[i]? = some (.int .u8 (v8 (l.getD i 0#8))) := by
  simp [bys, List.getD, List.getElem?_eq_getElem h]
theorem bys_set (l : List B) (i : Nat) (x : B) : (bys l).set i (.int .u8 (v8 x)) = bys (l.set i x) := by simp [bys, List.map_set]
theorem bys_append (l m : List B) : bys (l ++ m) = bys l ++ bys m := by simp [bys]
theorem bys_one (l : List B) : (bys l).toArray.all (·.oneCell') = true := by simp [bys, Value.oneCell']
theorem bys_one' (l : List B) : ∀ v ∈ bys l, v.oneCell' = true := by
  intro v hv
  obtain ⟨x, _, rfl⟩ := List.mem_map.1 hv
  rfl
theorem bys_inj {l m : List B} (h : bys l = bys m) : l = m := by
  unfold bys at h
  refine (List.map_inj_right (fun x y e => ?_)).1 h
  injection e with _ e
  exact v8_inj e

/-- A sector's bytes. -/
structure Sec where
  l : List B
  h : l.length = 512
theorem sec_ext {s t : Sec} (h : s.l = t.l) : s = t := by cases s; cases t; cases h; rfl
instance : DecidableEq Sec := fun s t => if h : s.l = t.l then isTrue (sec_ext h) else isFalse (fun e => h (by rw [e]))
/-- A sector as its cells, and as the program's value. -/
def sb (s : Sec) : List Value := bys s.1
theorem sb_length (s : Sec) : (sb s).length = 512 := by rw [sb, bys_length, s.2]
theorem sb_one (s : Sec) : (sb s).toArray.all (·.oneCell') = true := bys_one s.1
theorem sb_one' (s : Sec) : ∀ v ∈ sb s, v.oneCell' = true := bys_one' s.1
theorem sb_inj {s t : Sec} (h : sb s = sb t) : s = t := sec_ext (bys_inj h)
abbrev sv (s : Sec) : Value := .agg (sb s).toArray
theorem sv_inj {s t : Sec} (h : sv s = sv t) : s = t := by
  unfold sv at h
  injection h with h
  exact sb_inj (by simpa using congrArg Array.toList h)
def zs : Sec := ⟨List.replicate 512 0#8, List.length_replicate⟩

/-- All but the blocks in X is as it was, but that there may be new blocks. -/
structure Fr (X : Nat → Prop) (w w' : World) : Prop where
  os : w'.os = w.os
  tape : w'.tape = w.tape
  output : w'.output = w.output
  size : w.heap.size ≤ w'.heap.size
  block : ∀ k, k < w.heap.size → ¬ X k → w'.heap[k]? = w.heap[k]?
section
variable {X Y : Nat → Prop} {w w1 w2 : World}
theorem Fr.refl (X : Nat → Prop) (w : World) : Fr X w w := ⟨rfl, rfl, rfl, Nat.le_refl _, fun _ _ _ => rfl⟩
theorem Fr.trans (h : Fr X w w1) (k : Fr Y w1 w2) (hY : ∀ j, j < w.heap.size → Y j → X j) : Fr X w w2 :=
  ⟨k.os.trans h.os, k.tape.trans h.tape, k.output.trans h.output, Nat.le_trans h.size k.size, fun j hj hn => (k.block j (Nat.lt_of_lt_of_le hj h.size) (fun hy => hn (hY j hj hy))).trans (h.block j hj hn)⟩
theorem Fr.mono (h : Fr X w w1) (hY : ∀ j, j < w.heap.size → X j → Y j) : Fr Y w w1 := ⟨h.os, h.tape, h.output, h.size, fun j hj hn => h.block j hj (fun hx => hn (hY j hj hx))⟩
theorem Fr.below {b : Nat} (h : Fr X w w1) (hX : ∀ j, X j → b ≤ j) (hb : b ≤ w.heap.size) : Below b w w1 :=
  ⟨h.os, h.tape, h.output, h.size, fun j hj => h.block j (by omega) (fun hx => by have := hX j hx; omega)⟩
theorem Fr.of_below {b : Nat} (h : Below b w w1) (hb : w.heap.size ≤ b) : Fr X w w1 := ⟨h.os, h.tape, h.output, h.size, fun j hj _ => h.block j (by omega)⟩
theorem Fr.alloc (h : Fr X w w1) (o : Obj) : Fr X w (w1.alloc o) :=
  h.trans (Y := X) (Fr.of_below ((Below.refl _ w1).alloc (Nat.le_refl _) o) (Nat.le_refl _)) (fun _ _ hx => hx)
theorem Fr.drew (h : Fr X w w1) : Fr X w w1.drew := ⟨h.os, h.tape, h.output, h.size, h.block⟩
theorem Fr.setCell (h : Fr X w w1) (a : Addr) (u : Value) (ha : X a.block ∨ w.heap.size ≤ a.block) : Fr X w (w1.setCell a u) :=
  ⟨h.os, h.tape, h.output, by simpa using h.size, fun k hk hn => (heap_setCell_other _ _ _ _ (fun e => by subst e; rcases ha with ha | ha; exact hn ha; omega)).trans (h.block k hk hn)⟩
theorem Fr.setRow (h : Fr X w w1) (g : Nat) (cs : Array Value) (ha : X g ∨ w.heap.size ≤ g) : Fr X w (w1.setRow g cs) :=
  ⟨h.os, h.tape, h.output, by rw [setRow_size]; exact h.size, fun k hk hn => (setRow_other _ _ _ _ (fun e => by subst e; rcases ha with ha | ha; exact hn ha; omega)).trans (h.block k hk hn)⟩
theorem Fr.setCells (r o : Nat) (vs : List Value) (h : Fr X w w1) (ha : X r ∨ w.heap.size ≤ r) : Fr X w (w1.setCells r o vs) := by
  induction vs generalizing w1 o with
  | nil => exact h
  | cons v vs ih => exact ih (o + 1) (h.setCell ⟨r, o, none⟩ v ha)
theorem Fr.grown {row : Option Nat} (h : Fr X w w1) (hg : w1.grownBy w2 row) (ha : ∀ j, row = some j → X j ∨ w.heap.size ≤ j) : Fr X w w2 :=
  ⟨hg.os.trans h.os, hg.tape.trans h.tape, hg.output.trans h.output, Nat.le_trans h.size hg.size, fun k hk hn => (hg.block k (Nat.lt_of_lt_of_le hk h.size) (fun e => by rcases ha k e.symm with hx | hx; exact hn hx; omega)).trans (h.block k hk hn)⟩
theorem Blk.fr {g : Nat} {t : TypeId} {vs : List Value} (h : Blk w g t vs) (hf : Fr X w w1) (hn : ¬ X g) : Blk w1 g t vs := (hf.block g h.lt hn).trans h
end

section
variable {w : World} {ops : Array Oper} {rest : List Oper} {o : Oper} {a : Act} {Q : Exit → Act → World → Prop}
theorem Blk.whole {g : Nat} {t : TypeId} {vs : List Value} (h : Blk w g t vs) : w.rangeAt g 0 vs := by
  intro j v hv
  rw [Nat.zero_add]
  exact h.cell j v hv
/-- A whole sector is loaded from a block of its own. -/
theorem load_sec (hgd : o.guard = none) (x : Operand) (ho : o.op = .load 26 x) (g : Nat) (s : Sec) (hA : Blk w g 26 (sb s)) (hx : a.eval x = .pointer (some ⟨g, 0, none⟩))
    (h : wpList Tryz.prog ops Q rest (a.put o.dst (sv s)) w) : wpList Tryz.prog ops Q (o :: rest) a w :=
  wpList_load_mid hgd 26 x ho g 0 hx (sb s) _ hA.whole Tryz.underlying26 rfl (by rw [sb_length]; kernel_rfl) h
/-- A whole sector is stored into a block of its own. -/
theorem store_sec (hgd : o.guard = none) (x y : Operand) (ho : o.op = .store 26 x y) (g : Nat) (s0 s : Sec) (hA : Blk w g 26 (sb s0)) (hx : a.eval x = .pointer (some ⟨g, 0, none⟩)) (hy : a.eval y = sv s)
    (h : Blk (w.setRow g (sb s).toArray) g 26 (sb s) → wpList Tryz.prog ops Q rest (a.put o.dst undef) (w.setRow g (sb s).toArray)) : wpList Tryz.prog ops Q (o :: rest) a w :=
  wpList_store_row hgd 26 x y ho g (sb s).toArray hx hy 26 (sb s0).toArray hA (by rw [List.size_toArray, sb_length]; kernel_rfl) (by simp [sb_length]) (sb_one s)
    (h (setRow_heap w g _ _ 26 _ hA))
end
theorem zero39 (w : World) : (zeroValue 26).run Tryz.prog w = .ok (sv zs) w := by
  unfold sv sb zs
  kernel_rfl

theorem isAgg5 (w : World) : (isAgg 5).run Tryz.prog w = .ok false w := by kernel_rfl
theorem sizeOf5 (w : World) : (sizeOf 5).run Tryz.prog w = .ok 1 w := by kernel_rfl
theorem part5 (l : List B) (i : Nat) (hi : i < l.length) (w : World) : (Go.part 5 (bys l).toArray i).run Tryz.prog w = .ok (.int .u8 (v8 (l.getD i 0#8))) w := by
  unfold Go.part
  rw [Sem.run_bind, isAgg5]
  simp only [Result.andThen_ok, List.getElem?_toArray, bys_get l i hi]
  simp
theorem eq_loop (l m : List B) (w : World) : ∀ is : List Nat, (∀ i ∈ is, i < l.length ∧ i < m.length) →
    Sem.run Tryz.prog (forIn is ((none : Option Bool), ()) fun i __s => do
              let __do_lift ← Go.part 5 (bys l).toArray (i * 1)
              let __do_lift_1 ← Go.part 5 (bys m).toArray (i * 1)
              let __do_lift ← Op.equalIn 9999 5 __do_lift __do_lift_1
              if (!__do_lift) = true then pure (ForInStep.done (some false, ())) else pure (ForInStep.yield (none, ()))) w = .ok (if (∀ i ∈ is, l.getD i 0#8 = m.getD i 0#8) then none else some false, ()) w
  | [], _ => by simp
  | i :: is, h => by
    have ih := eq_loop l m w is (fun j hj => h j (by simp [hj]))
    obtain ⟨h1, h2⟩ := h i (by simp)
    rw [List.forIn_cons]
    simp only [Nat.mul_one] at ih ⊢
    simp only [Sem.run_bind, part5 l i h1 w, part5 m i h2 w, Result.andThen_ok, run_equalIn_int w 9998 5 .u8 .u8 _ _ Tryz.underlying5, v8_eq]
    by_cases e : l.getD i 0#8 = m.getD i 0#8
    · simp only [e, decide_true, Bool.not_true, Bool.false_eq_true, if_false, Sem.run_pure, Result.andThen_ok]
      rw [ih]
      have e2 : (∀ j ∈ i :: is, l.getD j 0#8 = m.getD j 0#8) ↔ (∀ j ∈ is, l.getD j 0#8 = m.getD j 0#8) := by
        simp only [List.mem_cons, forall_eq_or_imp]
        exact ⟨fun h => h.2, fun h => ⟨e, h⟩⟩
      simp only [e2]
    · simp only [e, decide_false, Bool.not_false, if_true, Sem.run_pure, Result.andThen_ok]
      rw [if_neg]
      intro h
      exact e (h i (by simp))
theorem same_of (l m : List B) (n : Nat) (hl : l.length = n) (hm : m.length = n) (h : ∀ i, i < n → l.getD i 0#8 = m.getD i 0#8) : l = m := by
  refine List.ext_getElem (by rw [hl, hm]) fun i h1 h2 => ?_
  have := h i (by omega)
  simpa [List.getD, List.getElem?_eq_getElem h1, List.getElem?_eq_getElem h2] using this
set_option maxRecDepth 100000 in
theorem eq39 (s t : Sec) (w : World) : (Op.equalIn 10000 26 (sv s) (sv t)).run Tryz.prog w = .ok (decide (s = t)) w := by
  obtain ⟨l, hl⟩ := s
  obtain ⟨m, hm⟩ := t
  show (Op.equalIn 10000 26 (.agg (bys l).toArray) (.agg (bys m).toArray)).run Tryz.prog w = _
  rw [show (10000 : Nat) = 9999 + 1 from rfl, Op.equalIn]
  simp only [Sem.run_bind, run_underlying Tryz.underlying26, Result.andThen_ok]
  simp only [Std.Legacy.Range.forIn_eq_forIn_range', Std.Legacy.Range.size, Nat.sub_zero, Nat.add_sub_cancel, Nat.div_one]
  rw [sizeOf5]
  simp only [Result.andThen_ok]
  rw [eq_loop l m w (List.range' 0 512) (fun i hi => by simp at hi; omega)]
  by_cases e : l = m
  · subst e
    simp
  · have hn : ¬ ∀ i ∈ List.range' 0 512, l.getD i 0#8 = m.getD i 0#8 := fun h => e (same_of l m 512 hl hm fun i hi => h i (by simp; omega))
    rw [if_neg hn]
    simp [e]
theorem guard39 : Tryz.prog.eqGuardType Tryz.prog.depth 26 = false := by kernel_rfl
end Go.Proofs.YtndfhmlcfaaaiaaGreatDoor

