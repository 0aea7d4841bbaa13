/- Rows of bytes that share no memory: what is kept while one of them grows. -/
import Derived.Test.YtjhkicfndbceoaaRoom
import Derived.OwnWalk
import Derived.ArgAppend
namespace Go.Proofs.Ytjhkicfndbceoaa
open Go.RowKit

theorem own_type_ne {w : World} {b b' : Nat} {v u : Value} {n m : Nat} {xs ys : List Value} (h : w.ownsRow b 5 1 v n xs) (k : w.ownsRow b' 24 1 u m ys) : v.ownBlock = none ∨ v.ownBlock ≠ u.ownBlock := by
  rcases h.2 with ⟨rfl, _⟩ | ⟨g, cap, cur, rfl, _, hg, _⟩
  · exact Or.inl rfl
  · right
    rcases k.2 with ⟨rfl, _⟩ | ⟨g', cap', cur', rfl, _, hg', _⟩
    · simp [Value.ownBlock]
    · simp only [Value.ownBlock]
      intro e
      cases e
      rw [hg] at hg'
      simp at hg'

theorem own_type_ne' {w : World} {b b' : Nat} {v u : Value} {n m : Nat} {xs ys : List Value} (h : w.ownsRow b 5 1 v n xs) (k : w.ownsRow b' 24 1 u m ys) : u.ownBlock = none ∨ u.ownBlock ≠ v.ownBlock := by
  rcases own_type_ne h k with e | e
  · rw [e]
    cases hu : u.ownBlock with
    | none => exact Or.inl rfl
    | some b => exact Or.inr (by simp)
  · exact Or.inr (fun h => e h.symm)

theorem own_base' {w : World} {base base' : Nat} {e : TypeId} {sz : Nat} {v : Value} {n : Nat} {xs : List Value} (h : w.ownsRow base' e sz v n xs) (hb : base ≤ base') : w.ownsRow base e sz v n xs := by
  obtain ⟨h1, h2⟩ := h
  refine ⟨h1, ?_⟩
  rcases h2 with h2 | ⟨g, cap, cur, hv, hg, r⟩
  · exact Or.inl h2
  · exact Or.inr ⟨g, cap, cur, hv, Nat.le_trans hb hg, r⟩

/-- What does not change in the list of rows. -/
structure Fix (B H0 A N : Nat) (V : Nat → Value) (X : Nat → List Int) : Prop where
  apart : ∀ i j, i < N → j < N → i ≠ j → (V i).ownBlock = none ∨ (V i).ownBlock ≠ (V j).ownBlock
  lt : ∀ j b, j < N → (V j).ownBlock = some b → b < H0
  low : B ≤ H0
  rng : ∀ j, ∀ x ∈ X j, 0 ≤ x ∧ x ≤ 255
  len : ∀ j, (X j).length ≤ 1000000
  few : N ≤ 400

/-- The list itself. -/
def AllIs (w : World) (A N : Nat) (V : Nat → Value) : Prop := ∃ cur, w.heap[A]? = some (.cells cur 24 (0, 0)) ∧ ∀ j, j < N → cur[j]? = some (V j)

theorem AllIs.cell {w : World} {A N : Nat} {V : Nat → Value} (h : AllIs w A N V) (j : Nat) (hj : j < N) : w.cell? ⟨A, j, none⟩ = some (V j) := by
  obtain ⟨cur, h1, h2⟩ := h
  rw [cell_of_row w A j cur 24 (0, 0) h1]
  exact h2 j hj

theorem AllIs.kept {w w' : World} {A N : Nat} {V : Nat → Value} (h : AllIs w A N V) (hk : w'.heap[A]? = w.heap[A]?) : AllIs w' A N V := by
  obtain ⟨cur, h1, h2⟩ := h
  exact ⟨cur, hk.trans h1, h2⟩

theorem AllIs.lt {w : World} {A N : Nat} {V : Nat → Value} (h : AllIs w A N V) : A < w.heap.size := by
  obtain ⟨cur, h1, h2⟩ := h
  exact lt_of_block h1

theorem AllIs.ne {w : World} {A N : Nat} {V : Nat → Value} (h : AllIs w A N V) {b : Nat} {v : Value} {n : Nat} {xs : List Value} (k : w.ownsRow b 5 1 v n xs) : some A ≠ v.ownBlock := by
  obtain ⟨cur, h1, h2⟩ := h
  rcases k.2 with ⟨rfl, _⟩ | ⟨g, cap, cur', rfl, _, hg, _⟩
  · simp [Value.ownBlock]
  · simp only [Value.ownBlock]
    intro e
    cases e
    rw [h1] at hg
    simp at hg

structure St (B H0 H1 A N : Nat) (V : Nat → Value) (X : Nat → List Int) (sv : Value) (was : List Value) (w : World) (mv : Value) (ms : List Value) : Prop where
  all : AllIs w A N V
  svr : w.ownsRow H0 24 1 sv was.length was
  svlt : ∀ b, sv.ownBlock = some b → b < H1
  wasr : ∀ j u, was[j]? = some u → w.ownsRow H0 5 1 u (X j).length (u8s (X j))
  rows : ∀ j, j < N → w.ownsRow B 5 1 (V j) (X j).length (u8s (X j))
  mvr : w.ownsRow H1 24 1 mv ms.length ms
  msr : ∀ j u, ms[j]? = some u → w.ownsRow B 5 1 u ((X j).length + 40) (u8s (X j ++ List.replicate 40 (((j : Int) + 1) % 256))) ∧ (u.ownBlock = (V j).ownBlock ∨ ∀ b, u.ownBlock = some b → H0 ≤ b)
  size : H1 ≤ w.heap.size

section
variable {B H0 H1 A N : Nat} {V : Nat → Value} {X : Nat → List Int} {sv : Value} {was : List Value} {w w' : World} {mv : Value} {ms : List Value}

/-- One row grows, in its place or elsewhere. -/
theorem St.grow (h : St B H0 H1 A N V X sv was w mv ms) (f : Fix B H0 A N V X) (i : Nat) (hi : i < N) (hm : ms.length ≤ i) (hg : w.grownBy w' (V i).ownBlock) (hr : w'.ownsRow B 5 1 (V i) (X i).length (u8s (X i))) :
    St B H0 H1 A N V X sv was w' mv ms where
  all := h.all.kept (hg.block A h.all.lt (h.all.ne (h.rows i hi)))
  svr := h.svr.kept hg (own_type_ne' (h.rows i hi) h.svr)
  svlt := h.svlt
  wasr := fun j u hj => (h.wasr j u hj).kept hg (by
    have h1 := (h.wasr j u hj).lt
    cases hu : u.ownBlock with
    | none => exact Or.inl rfl
    | some b =>
      right
      intro e
      have := f.lt i b hi e.symm
      have := (h1 b hu).1
      omega)
  rows := fun j hj => by
    by_cases e : j = i
    · subst e; exact hr
    · exact (h.rows j hj).kept hg (f.apart j i hj hi e)
  mvr := h.mvr.kept hg (own_type_ne' (h.rows i hi) h.mvr)
  msr := fun j u hj => by
    obtain ⟨h1, h2⟩ := h.msr j u hj
    have hjl : j < ms.length := (List.getElem?_eq_some_iff.1 hj).1
    refine ⟨h1.kept hg ?_, h2⟩
    rcases h2 with h2 | h2
    · rw [h2]; exact f.apart j i (by omega) hi (by omega)
    · cases hu : u.ownBlock with
      | none => exact Or.inl rfl
      | some b =>
        right
        intro e
        have := f.lt i b hi e.symm
        have := h2 b hu
        omega
  size := Nat.le_trans h.size hg.size

theorem St.alloc (h : St B H0 H1 A N V X sv was w mv ms) (o : Obj) : St B H0 H1 A N V X sv was (w.alloc o) mv ms where
  all := h.all.kept ((World.grownBy_alloc w o none).block A h.all.lt (by simp))
  svr := h.svr.alloc o
  svlt := h.svlt
  wasr := fun j u hj => (h.wasr j u hj).alloc o
  rows := fun j hj => (h.rows j hj).alloc o
  mvr := h.mvr.alloc o
  msr := fun j u hj => ⟨(h.msr j u hj).1.alloc o, (h.msr j u hj).2⟩
  size := by have := h.size; simp; omega

/-- The grown row is put into the list of the grown ones. -/
theorem St.push (h : St B H0 H1 A N V X sv was w mv ms) (hA : A < H1) (hg : w.grownBy w' mv.ownBlock) (g mv' : Value) (hmv : w'.ownsRow H1 24 1 mv' (ms.length + 1) (ms ++ [g]))
    (hr : w.ownsRow B 5 1 g ((X ms.length).length + 40) (u8s (X ms.length ++ List.replicate 40 (((ms.length : Int) + 1) % 256))))
    (hb : g.ownBlock = (V ms.length).ownBlock ∨ ∀ b, g.ownBlock = some b → H0 ≤ b) : St B H0 H1 A N V X sv was w' mv' (ms ++ [g]) where
  all := h.all.kept (hg.block A h.all.lt (fun e => by have := (h.mvr.lt A e.symm).1; omega))
  svr := h.svr.kept hg (by
    cases hu : sv.ownBlock with
    | none => exact Or.inl rfl
    | some b =>
      right
      intro e
      have := h.svlt b hu
      have := (h.mvr.lt b e.symm).1
      omega)
  svlt := h.svlt
  wasr := fun j u hj => (h.wasr j u hj).kept hg (own_type_ne (h.wasr j u hj) h.mvr)
  rows := fun j hj => (h.rows j hj).kept hg (own_type_ne (h.rows j hj) h.mvr)
  mvr := by simpa using hmv
  msr := fun j u hj => by
    by_cases e : j < ms.length
    · rw [List.getElem?_append_left e] at hj
      exact ⟨(h.msr j u hj).1.kept hg (own_type_ne (h.msr j u hj).1 h.mvr), (h.msr j u hj).2⟩
    · have e2 : j = ms.length := by
        have := (List.getElem?_eq_some_iff.1 hj).1
        simp at this
        omega
      subst e2
      simp at hj
      subst hj
      exact ⟨hr.kept hg (own_type_ne hr h.mvr), hb⟩
  size := Nat.le_trans h.size hg.size
end

theorem own_heap {w w' : World} {b e sz : Nat} {v : Value} {n : Nat} {xs : List Value} (h : w.ownsRow b e sz v n xs) (he : w'.heap = w.heap) : w'.ownsRow b e sz v n xs := by
  unfold World.ownsRow at *
  rw [he]
  exact h

theorem St.heap {B H0 H1 A N : Nat} {V : Nat → Value} {X : Nat → List Int} {sv : Value} {was : List Value} {w w' : World} {mv : Value} {ms : List Value} (h : St B H0 H1 A N V X sv was w mv ms) (he : w'.heap = w.heap) : St B H0 H1 A N V X sv was w' mv ms where
  all := h.all.kept (by rw [he])
  svr := own_heap h.svr he
  svlt := h.svlt
  wasr := fun j u hj => own_heap (h.wasr j u hj) he
  rows := fun j hj => own_heap (h.rows j hj) he
  mvr := own_heap h.mvr he
  msr := fun j u hj => ⟨own_heap (h.msr j u hj).1 he, (h.msr j u hj).2⟩
  size := by rw [he]; exact h.size

theorem shows_heap {w w' : World} {ao : Option Addr} {n : Nat} {xs : List Int} (h : Shows w ao n xs) (he : w'.heap = w.heap) : Shows w' ao n xs :=
  ⟨h.len, h.bare, fun ad had j hj => (World.cell?_of_block (by rw [he])).trans (h.cell ad had j hj), h.rng⟩

/-- The rows from i on are as they were. -/
structure Wr (B H0 A N : Nat) (V : Nat → Value) (X : Nat → List Int) (sv : Value) (was : List Value) (w : World) (i : Nat) : Prop where
  all : AllIs w A N V
  svr : w.ownsRow H0 24 1 sv was.length was
  wasr : ∀ j u, was[j]? = some u → w.ownsRow H0 5 1 u (X j).length (u8s (X j))
  rows : ∀ j, i ≤ j → j < N → w.ownsRow B 5 1 (V j) (X j).length (u8s (X j))

theorem Wr.heap {B H0 A N : Nat} {V : Nat → Value} {X : Nat → List Int} {sv : Value} {was : List Value} {w w' : World} {i : Nat} (h : Wr B H0 A N V X sv was w i) (he : w'.heap = w.heap) : Wr B H0 A N V X sv was w' i :=
  ⟨h.all.kept (by rw [he]), own_heap h.svr he, fun j u hj => own_heap (h.wasr j u hj) he, fun j hi hj => own_heap (h.rows j hi hj) he⟩

theorem Wr.next {B H0 A N : Nat} {V : Nat → Value} {X : Nat → List Int} {sv : Value} {was : List Value} {w : World} {i : Nat} (h : Wr B H0 A N V X sv was w i) : Wr B H0 A N V X sv was w (i + 1) :=
  ⟨h.all, h.svr, h.wasr, fun j hi hj => h.rows j (by omega) hj⟩

theorem grown_set (w : World) (b k : Nat) (u : Value) : w.grownBy (w.setCell ⟨b, k, none⟩ u) (some b) :=
  ⟨rfl, rfl, rfl, by simp [World.setCell], fun j _ hj => heap_setCell_other w _ j u (by intro e; exact hj (by rw [e]))⟩

/-- Row i, the others as they were, is written to. -/
theorem Wr.set {B H0 A N : Nat} {V : Nat → Value} {X : Nat → List Int} {sv : Value} {was : List Value} {w w' : World} {i : Nat} (h : Wr B H0 A N V X sv was w (i + 1)) (f : Fix B H0 A N V X) (hi : i < N) {n : Nat} {xs : List Value} (hr : w.ownsRow B 5 1 (V i) n xs) (hg : w.grownBy w' (V i).ownBlock) : Wr B H0 A N V X sv was w' (i + 1) where
  all := h.all.kept (hg.block A h.all.lt (h.all.ne hr))
  svr := h.svr.kept hg (own_type_ne' hr h.svr)
  wasr := fun j u hj => (h.wasr j u hj).kept hg (by
    have h1 := (h.wasr j u hj).lt
    cases hu : u.ownBlock with
    | none => exact Or.inl rfl
    | some b =>
      right
      intro e
      have := f.lt i b hi e.symm
      have := (h1 b hu).1
      omega)
  rows := fun j hij hj => (h.rows j hij hj).kept hg (f.apart j i hj hi (by omega))

theorem own_set {w : World} {B b n cap k : Nat} {ys : List Int} (h : w.ownsRow B 5 1 (.slice (some ⟨b, 0, none⟩) n cap) n (u8s ys)) (y : Int) : (w.setCell ⟨b, k, none⟩ (.int .u8 y)).ownsRow B 5 1 (.slice (some ⟨b, 0, none⟩) n cap) n (u8s (ys.set k y)) := by
  have hl := h.1
  rw [u8s_length] at hl
  refine ⟨by rw [u8s_length, List.length_set]; exact hl, Or.inr ?_⟩
  rcases h.2 with ⟨h3, _⟩ | ⟨g, cap', cur, h3, hb, hg, hn, hmx, hsz, ht⟩
  · cases h3
  · cases h3
    refine ⟨b, cap, _, rfl, hb, heap_setCell_same w b k cur 5 _ hg, hn, hmx, by simpa using hsz, ?_⟩
    have e : u8s (ys.set k y) = (u8s ys).set k (.int .u8 y) := by simp [u8s, List.map_set]
    rw [e, ← ht]
    simp [List.take_set]

/-- A row and what it has grown to. -/
structure Gr (B : Nat) (wS wr : World) (vi : Value) (n : Nat) (xs zs : List Int) (g : Value) : Prop where
  grown : wS.grownBy wr vi.ownBlock
  lt : ∀ b, vi.ownBlock = some b → b < wS.heap.size
  row : wr.ownsRow B 5 1 vi n (u8s xs)
  more : wr.ownsRow B 5 1 g (n + zs.length) (u8s (xs ++ zs))
  place : (∃ b cap, vi = .slice (some ⟨b, 0, none⟩) n cap ∧ g = .slice (some ⟨b, 0, none⟩) (n + zs.length) cap) ∨ (∀ b, g.ownBlock = some b → wS.heap.size ≤ b)

theorem grown_trans {a b c : World} {r : Option Nat} (h : a.grownBy b r) (k : b.grownBy c r) : a.grownBy c r :=
  ⟨k.os.trans h.os, k.tape.trans h.tape, k.output.trans h.output, Nat.le_trans h.size k.size, fun i hi hr => (k.block i (Nat.lt_of_lt_of_le hi h.size) hr).trans (h.block i hi hr)⟩

theorem Gr.start {B : Nat} {w : World} {vi : Value} {n : Nat} {xs : List Int} (h : w.ownsRow B 5 1 vi n (u8s xs)) : Gr B w w vi n xs [] vi := by
  refine ⟨World.grownBy.refl _ _, fun b hb => (h.lt b hb).2, h, by simpa using h, ?_⟩
  rcases h.2 with ⟨rfl, _⟩ | ⟨g, cap, cur, rfl, _⟩
  · exact Or.inr (fun b hb => by simp [Value.ownBlock] at hb)
  · exact Or.inl ⟨g, cap, rfl, rfl⟩

theorem Gr.alloc {B : Nat} {wS wr : World} {vi g : Value} {n : Nat} {xs zs : List Int} (h : Gr B wS wr vi n xs zs g) (o : Obj) : Gr B wS (wr.alloc o) vi n xs zs g :=
  ⟨grown_trans h.grown (World.grownBy_alloc _ o _), h.lt, h.row.alloc o, h.more.alloc o, h.place⟩

/-- A row shows its first bytes also as a shorter row. -/
theorem own_first {w : World} {B b n m cap : Nat} {xs zs : List Int} (h : w.ownsRow B 5 1 (.slice (some ⟨b, 0, none⟩) m cap) m (u8s (xs ++ zs))) (hl : xs.length = n) (hm : n ≤ m) : w.ownsRow B 5 1 (.slice (some ⟨b, 0, none⟩) n cap) n (u8s xs) := by
  refine ⟨by simp [u8s_length, hl], Or.inr ?_⟩
  rcases h.2 with ⟨h3, _⟩ | ⟨g, cap', cur, h3, hb, hg, hn, hmx, hsz, ht⟩
  · cases h3
  · cases h3
    refine ⟨b, cap, cur, rfl, hb, hg, by omega, hmx, hsz, ?_⟩
    have := congrArg (List.take n) ht
    rw [List.take_take, u8s_append, List.take_append_of_le_length (by rw [u8s_length]; omega)] at this
    rw [Nat.min_eq_left (by omega)] at this
    rw [Nat.mul_one, this, List.take_of_length_le (by rw [u8s_length]; omega)]

/-- One byte more. -/
theorem law_more {B : Nat} {wS w : World} {vi g : Value} {n : Nat} {xs zs : List Int} (hG : Gr B wS w vi n xs zs g) (hB : B ≤ wS.heap.size) {ops : Array Oper} {rest : List Oper} {o : Oper} {a : Act} {Q : Exit → Act → World → Prop} (hgd : o.guard = none) (s x : Operand)
    (ho : o.op = .call { callee := .builtin .append, args := #[s, x], argTypes := #[24, 24] }) (hv : a.eval s = g)
    (ad : Addr) (y : Int) (hx : a.eval x = .slice (some ad) 1 1) (hs : Shows w (some ad) 1 [y]) (hbig : n + zs.length ≤ 140737488355000)
    (h : ∀ v' w', Gr B wS w' vi n xs (zs ++ [y]) v' → wpList Try.prog ops Q rest (a.put o.dst v') w') : wpList Try.prog ops Q (o :: rest) a w := by
  obtain ⟨i0, hi, hz0, hz1, hz2⟩ := info_parts Try.info5
  have hxl : xs.length = n := by simpa [u8s_length] using hG.row.1
  have hsz := hG.grown.size
  have hlz : (zs ++ [y]).length = zs.length + 1 := by simp
  rcases hG.place with ⟨b, cap, rfl, rfl⟩ | hp
  · by_cases hfit : n + zs.length + 1 ≤ cap
    · refine wpList_append_fits w hgd s x 24 ho B 5 i0 1 Try.underlying24 hi hz1 b _ cap _ hv hG.more ad 1 1 (u8s [y]) hx rfl hs.cells (u8s_one _) hfit ?_
      intro w' h1 h2
      rw [← u8s_append, List.append_assoc] at h1
      refine h _ w' ⟨grown_trans hG.grown h2, hG.lt, own_first h1 hxl (by omega), by rw [hlz]; exact h1, Or.inl ⟨b, cap, rfl, by rw [hlz]; rfl⟩⟩
    · refine wpList_append_grows w hgd s x 24 ho 5 i0 (.int .u8 0) 1 1 Try.underlying24 hi hz0 hz1 hz2 rfl (by decide) (some ⟨b, 0, none⟩) (n + zs.length) cap (u8s (xs ++ zs)) hv (fun e => (by cases e)) hG.more.1 (fun b' hb' => by cases hb'; exact hG.more.cells rfl) ad 1 1 (u8s [y]) hx rfl hs.cells (u8s_one _) (by omega) (by unfold maxLen; omega) (by omega) ?_
      intro v' w' h1 h2
      rw [← u8s_append, List.append_assoc] at h1
      have h2' : w.grownBy w' (Value.ownBlock (.slice (some ⟨b, 0, none⟩) n cap)) := ⟨h2.os, h2.tape, h2.output, h2.size, fun k hk _ => h2.block k hk (by simp)⟩
      refine h _ w' ⟨grown_trans hG.grown h2', hG.lt, hG.row.kept h2 (Or.inr (by simp [Value.ownBlock])), by rw [hlz]; exact own_base' h1 (by omega), Or.inr (fun k hk => by have := (h1.lt k hk).1; omega)⟩
  · have hm2 : w.ownsRow wS.heap.size 5 1 g (n + zs.length) (u8s (xs ++ zs)) := by
      refine ⟨hG.more.1, ?_⟩
      rcases hG.more.2 with h2 | ⟨g', cap, cur, rfl, _, r⟩
      · exact Or.inl h2
      · exact Or.inr ⟨g', cap, cur, rfl, hp g' rfl, r⟩
    refine law_append hgd s x ho wS.heap.size g _ _ hv hm2 (some ad) 1 1 [y] hx hs (fun e => (by cases e)) (by omega) hsz ?_
    intro v' w' h1 h2 _
    rw [List.append_assoc] at h1
    have hne : ∀ k, k < wS.heap.size → some k ≠ g.ownBlock := fun k hk e => by have := hp k e.symm; omega
    have h3 : wS.grownBy w' vi.ownBlock := ⟨h2.os.trans hG.grown.os, h2.tape.trans hG.grown.tape, h2.output.trans hG.grown.output, Nat.le_trans hG.grown.size h2.size, fun k hk hk2 => (h2.block k (by omega) (hne k hk)).trans (hG.grown.block k hk hk2)⟩
    refine h _ w' ⟨h3, hG.lt, hG.row.kept h2 ?_, by rw [hlz]; exact own_base' h1 hB, Or.inr (fun k hk => (h1.lt k hk).1)⟩
    cases hu : vi.ownBlock with
    | none => exact Or.inl rfl
    | some k => exact Or.inr (hne k (hG.lt k hu))
end Go.Proofs.Ytjhkicfndbceoaa
