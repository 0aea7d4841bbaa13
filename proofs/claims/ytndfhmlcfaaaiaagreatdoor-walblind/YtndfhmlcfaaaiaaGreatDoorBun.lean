import Derived.Test.YtndfhmlcfaaaiaaGreatDoorCalls8
import Derived.Test.YtndfhmlcfaaaiaaGreatDoorText8
/- Pages held against pages; images built. -/
namespace Go.Proofs.YtndfhmlcfaaaiaaGreatDoor
open Go.RowKit

set_option maxRecDepth 100000 in
theorem eq31 (s t : Pg) (w : World) : (Op.equalIn 10000 66 (.agg (pb s).toArray) (.agg (pb t).toArray)).run Tryz.prog w = .ok (decide (s = t)) w := by
  obtain ⟨l, hl⟩ := s
  obtain ⟨m, hm⟩ := t
  show (Op.equalIn 10000 66 (.agg (bys l).toArray) (.agg (bys m).toArray)).run Tryz.prog w = _
  rw [show (10000 : Nat) = 9999 + 1 from rfl, Op.equalIn]
  simp only [Sem.run_bind, run_underlying Tryz.underlying66, Result.andThen_ok]
  simp only [Std.Legacy.Range.forIn_eq_forIn_range', Std.Legacy.Range.size, Nat.sub_zero, Nat.add_sub_cancel, Nat.div_one]
  rw [sizeOf5]
  simp only [Result.andThen_ok]
  rw [eq_loop l m w (List.range' 0 480) (fun i hi => by simp at hi; omega)]
  by_cases e : l = m
  · subst e
    simp
  · have hn : ¬ ∀ i ∈ List.range' 0 480, l.getD i 0#8 = m.getD i 0#8 := fun h => e (same_of l m 480 hl hm fun i hi => h i (by simp; omega))
    rw [if_neg hn]
    simp [e]
theorem guard31 : Tryz.prog.eqGuardType Tryz.prog.depth 66 = false := by kernel_rfl
section
variable {w : World} {ops : Array Oper} {rest : List Oper} {o : Oper} {a : Act} {Q : Exit → Act → World → Prop}
/-- An image is made. -/
theorem make74 (hg : o.guard = none) {x y : Operand} (ho : o.op = .build 82 #[(0, x), (1, y)]) (n : Int) (pk : Pg) (hx : a.eval x = .int .i64 n) (hy : a.eval y = .agg (pb pk).toArray)
    (h : wpList Tryz.prog ops Q rest (a.put o.dst (.agg (ic (n, pk)).toArray)) w) : wpList Tryz.prog ops Q (o :: rest) a w := by
  refine wpList_plain hg fun K hK => ?_
  unfold Oper.wp execOp
  have hb := bd74 n pk w
  simp only [ho, List.map_toArray, List.map_cons, List.map_nil, hx, hy, Sem.run_bind, hb, Result.andThen_ok, Sem.run_pure]
  exact hK _ _ h
theorem cells_im (y : Int × Pg) : (Value.agg (ic y).toArray).cells = (ic y).toArray := rfl
/-- '[]api.Image{..}'. -/
theorem build_ims (hg : o.guard = none) (l : List (Int × Pg)) (parts : Array (Nat × Operand)) (ho : o.op = .buildSlice 73 l.length parts) (h0 : 0 < l.length) (h1 : l.length ≤ 100)
    (hp : (parts.map fun (i, x) => (i, a.eval x)).toList = ((l.map fun y => Value.agg (ic y).toArray).zipIdx 0).map fun x => (x.2, x.1))
    (h : ImR (w.alloc (.cells (l.flatMap ic).toArray 82)) w.heap.size l → wpList Tryz.prog ops Q rest (a.put o.dst (.slice (some ⟨w.heap.size, 0, none⟩) l.length l.length)) (w.alloc (.cells (l.flatMap ic).toArray 82))) : wpList Tryz.prog ops Q (o :: rest) a w := by
  obtain ⟨i0, hi, hz0, hz1, hz2⟩ := info_parts info74
  refine wpList_buildSlice hg 73 82 l.length _ ho (l.flatMap ic).toArray i0 (.agg (ic (0, zp)).toArray) Tryz.underlying73 hi hz0 (by rw [hz1]; omega) (by rw [hz1]; omega) ?_ (h ?_)
  · rw [hp, hz1]
    have hf := Great.fill_whole (s := 481) (by omega) (l.map fun y => Value.agg (ic y).toArray) ((Array.range (l.length * 481)).map ((Value.agg (ic (0, zp)).toArray).cells[· % (Value.agg (ic (0, zp)).toArray).cells.size]!)) (by
      intro v hv
      obtain ⟨y, hy, rfl⟩ := List.mem_map.1 hv
      rw [cells_im, List.size_toArray, ic_length]) (by simp)
    rw [hf, List.flatMap_map]
    rfl
  · refine ⟨(l.flatMap ic).toArray, heap_alloc_new w _, fun k x hk j u hu => ?_⟩
    have e : l.flatMap ic = flatI l.length (fun i => l.getD i (0, zp)) := by
      unfold flatI
      have hl : l = (List.range l.length).map (fun i => l.getD i (0, zp)) := by
        refine List.ext_getElem (by simp) fun i h1 h2 => ?_
        simp [List.getD, List.getElem?_eq_getElem h1]
      conv => lhs; rw [hl]
      rw [List.flatMap_map]
    have hkl : k < l.length := (List.getElem?_eq_some_iff.1 hk).1
    have hj : j < 481 := by have := (List.getElem?_eq_some_iff.1 hu).1; rwa [ic_length] at this
    rw [List.getElem?_toArray, e, flatI_at _ k j hj _ hkl, List.getD, hk]
    exact hu
/-- A load of cells under a guard that lets it be. -/
theorem load_want (hw : Region.wanted o (yielded ops a.tmps) = true) (ty : TypeId) (x : Operand) (ho : o.op = .load ty x) (b p : Nat) (hx : a.eval x = .pointer (some ⟨b, p, none⟩)) (cs : List Value) (d : TypeDesc) (hc : w.rangeAt b p cs)
    (hu : Tryz.prog.underlying ty = some d) (hd : d.isRow = true) (hi : (Tryz.prog.info? ty).map (·.size) = some cs.length)
    (h : wpList Tryz.prog ops Q rest (a.put o.dst (.agg cs.toArray)) w) : wpList Tryz.prog ops Q (o :: rest) a w :=
  wpList_step fun K hK => by
    rw [if_pos hw]
    exact wp_load_mid ty x ho b p hx cs d hc hu hd hi (hK _ _ h)
/-- One image, two images. -/
theorem build_im1 (hg : o.guard = none) {x : Operand} (y : Int × Pg) (ho : o.op = .buildSlice 73 1 #[(0, x)]) (hx : a.eval x = .agg (ic y).toArray)
    (h : ImR (w.alloc (.cells (ic y).toArray 82)) w.heap.size [y] → wpList Tryz.prog ops Q rest (a.put o.dst (.slice (some ⟨w.heap.size, 0, none⟩) 1 1)) (w.alloc (.cells (ic y).toArray 82))) : wpList Tryz.prog ops Q (o :: rest) a w := by
  refine build_ims hg [y] _ ho (by simp) (by simp) (by simp [hx]) ?_
  rw [show [y].flatMap ic = ic y by simp]
  exact h
theorem build_im2 (hg : o.guard = none) {x1 x2 : Operand} (y1 y2 : Int × Pg) (ho : o.op = .buildSlice 73 2 #[(0, x1), (1, x2)]) (hx1 : a.eval x1 = .agg (ic y1).toArray) (hx2 : a.eval x2 = .agg (ic y2).toArray)
    (h : ImR (w.alloc (.cells (ic y1 ++ ic y2).toArray 82)) w.heap.size [y1, y2] → wpList Tryz.prog ops Q rest (a.put o.dst (.slice (some ⟨w.heap.size, 0, none⟩) 2 2)) (w.alloc (.cells (ic y1 ++ ic y2).toArray 82))) : wpList Tryz.prog ops Q (o :: rest) a w := by
  refine build_ims hg [y1, y2] _ ho (by simp) (by simp) (by simp [hx1, hx2]) ?_
  rw [show [y1, y2].flatMap ic = ic y1 ++ ic y2 by simp]
  exact h
end
end Go.Proofs.YtndfhmlcfaaaiaaGreatDoor

/- A disk, and a log on it, that are a call's own: all that lies ahead of them stays. -/
namespace Go.Proofs.YtndfhmlcfaaaiaaGreatDoor
open Go.RowKit

/-- A disk in v that came up behind w: all its blocks are from B on. -/
structure DB (B : Nat) (w v : World) (r f m cap : Nat) (d : St) : Prop where
  k : Lay v r f m cap d
  t : Tabs v
  fpB : ∀ j, fp r f m j → B ≤ j
  below : Below B w v
  two : 2 ≤ B
/-- A log on such a disk. -/
structure LB (B : Nat) (w v : World) (q r mm f m cap : Nat) (x : Lg) (d : St) : Prop where
  dl : DL v q r mm f m cap x d
  fpB : ∀ j, fp r f m j → B ≤ j
  lpB : ∀ j, lp q mm j → B ≤ j
  below : Below B w v
  two : 2 ≤ B
/-- A block beside them. -/
structure Asd (v : World) (g : Nat) (t : TypeId) (vs : List Value) (r f m : Nat) : Prop where
  b : Blk v g t vs
  a : ¬ fp r f m g
section
variable {B : Nat} {w v v' : World} {q r mm f m cap : Nat} {x : Lg} {d : St}
theorem DB.fp2 (h : DB B w v r f m cap d) : ∀ j, fp r f m j → 2 ≤ j := fun j hj => Nat.le_trans h.two (h.fpB j hj)
theorem DB.size (h : DB B w v r f m cap d) : B ≤ v.heap.size := by
  have h1 := h.fpB r (.inl rfl)
  have h2 := h.k.blk.lt
  omega
theorem LB.size (h : LB B w v q r mm f m cap x d) : B ≤ v.heap.size := by
  have h1 := h.fpB r (.inl rfl)
  have h2 := h.dl.k.blk.lt
  omega
theorem LB.db (h : LB B w v q r mm f m cap x d) : DB B w v r f m cap d := ⟨h.dl.k, h.dl.t, h.fpB, h.below, h.two⟩
theorem DB.next (h : DB B w v r f m cap d) (hb : Below v.heap.size v v') : DB B w v' r f m cap d := ⟨h.k.next hb, h.t.next hb, h.fpB, h.below.trans (hb.mono h.size), h.two⟩
theorem LB.next (h : LB B w v q r mm f m cap x d) (hb : Below v.heap.size v v') : LB B w v' q r mm f m cap x d := ⟨h.dl.next hb, h.fpB, h.lpB, h.below.trans (hb.mono h.size), h.two⟩
theorem DB.turn {m' : Nat} {d' : St} (h : DB B w v r f m cap d) (hl : Lay v' r f m' cap d') (hm : m' = m ∨ v.heap.size ≤ m') (hF : Fr (fp r f m) v v') : DB B w v' r f m' cap d' := by
  have hs := h.size
  refine ⟨hl, h.t.fr hF h.fp2, ?_, h.below.trans (hF.below h.fpB hs), h.two⟩
  rintro j (e | e | e)
  · exact h.fpB j (.inl e)
  · exact h.fpB j (.inr (.inl e))
  · rcases hm with e2 | e2
    · exact h.fpB j (.inr (.inr (e.trans e2)))
    · omega
theorem LB.turn {m' mm' : Nat} {d' : St} {x' : Lg} (h : LB B w v q r mm f m cap x d) (hl : DL v' q r mm' f m' cap x' d') (hmm : mm' = mm ∨ v.heap.size ≤ mm') (hm : m' = m ∨ v.heap.size ≤ m') (hF : Fr (fun k => fp r f m k ∨ lp q mm k) v v') : LB B w v' q r mm' f m' cap x' d' := by
  have hs := h.size
  refine ⟨hl, ?_, ?_, h.below.trans (hF.below (fun j hj => hj.elim (h.fpB j) (h.lpB j)) hs), h.two⟩
  · rintro j (e | e | e)
    · exact h.fpB j (.inl e)
    · exact h.fpB j (.inr (.inl e))
    · rcases hm with e2 | e2
      · exact h.fpB j (.inr (.inr (e.trans e2)))
      · omega
  · rintro j (e | e)
    · exact h.lpB j (.inl e)
    · rcases hmm with e2 | e2
      · exact h.lpB j (.inr (e.trans e2))
      · omega
/-- A log is opened on such a disk. -/
theorem DB.open {m' q mm : Nat} {d' : St} {x : Lg} (h : DB B w v r f m cap d) (hl : DL v' q r mm f m' cap x d') (hq : v.heap.size ≤ q) (hmm : v.heap.size ≤ mm) (hm : m' = m ∨ v.heap.size ≤ m') (hF : Fr (fp r f m) v v') : LB B w v' q r mm f m' cap x d' := by
  have hs := h.size
  have h2 := h.turn hl.k hm hF
  refine ⟨hl, h2.fpB, ?_, h2.below, h.two⟩
  rintro j (e | e) <;> omega
variable {g : Nat} {t : TypeId} {vs : List Value}
theorem Asd.next (h : Asd v g t vs r f m) (hb : Below v.heap.size v v') : Asd v' g t vs r f m := ⟨h.b.next hb, h.a⟩
theorem Asd.turn {m' : Nat} (h : Asd v g t vs r f m) (hm : m' = m ∨ v.heap.size ≤ m') (hF : Fr (fp r f m) v v') : Asd v' g t vs r f m' := by
  have hlt := h.b.lt
  refine ⟨h.b.fr hF h.a, ?_⟩
  rintro (e | e | e)
  · exact h.a (.inl e)
  · exact h.a (.inr (.inl e))
  · rcases hm with e2 | e2
    · exact h.a (.inr (.inr (e.trans e2)))
    · omega
theorem Asd.move {m' : Nat} (h : Asd v g t vs r f m) (hl : ¬ lp q mm g) (hm : m' = m ∨ v.heap.size ≤ m') (hF : Fr (fun k => fp r f m k ∨ lp q mm k) v v') : Asd v' g t vs r f m' := by
  have hlt := h.b.lt
  refine ⟨h.b.fr hF (fun hx => hx.elim h.a hl), ?_⟩
  rintro (e | e | e)
  · exact h.a (.inl e)
  · exact h.a (.inr (.inl e))
  · rcases hm with e2 | e2
    · exact h.a (.inr (.inr (e.trans e2)))
    · omega
theorem lp_move {mm' : Nat} (hl : ¬ lp q mm g) (hlt : g < v.heap.size) (hm : mm' = mm ∨ v.heap.size ≤ mm') : ¬ lp q mm' g := by
  rintro (e | e)
  · exact hl (.inl e)
  · rcases hm with e2 | e2
    · exact hl (.inr (e.trans e2))
    · omega
theorem LB.apart_new (h : LB B w v q r mm f m cap x d) {g : Nat} (hg : v.heap.size ≤ g) : ¬ fp r f m g ∧ ¬ lp q mm g := by
  refine ⟨fun hf => ?_, fun hl => ?_⟩
  · have := Lay.fp2 h.dl.k g hf; omega
  · have := h.dl.l.lt g hl; omega
end
end Go.Proofs.YtndfhmlcfaaaiaaGreatDoor
