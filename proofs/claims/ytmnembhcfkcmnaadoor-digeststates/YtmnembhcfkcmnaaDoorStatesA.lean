/- DigestStates: four states, what they hold, and what was kept beside them. -/
import Derived.Test.YtmnembhcfkcmnaaDoorTwo
namespace Go.Proofs.YtmnembhcfkcmnaaDoor
open Go.RowKit

/-- A number from 0 to 3. -/
def plc (x : Int) : Nat := (x % 4).toNat
theorem plc_lt (x : Int) : plc x < 4 := by unfold plc; omega

set_option maxHeartbeats 400000 in
theorem place_any (x : Int) (w : World) : Calls Tryd.prog 16 #[.int .i64 x] w fun e w' => e = .returned (.int .i64 (plc x : Int)) ∧ w = w' := by
  by_cases h : x.tmod 4 < 0
  · have e : ((plc x : Nat) : Int) = x.tmod 4 + 4 := by
      unfold plc
      rcases Int.lt_or_le x 0 with hx | hx
      · have h1 : x.tmod 4 = -((-x) % 4) := by
          have := Int.neg_tmod (-x) 4
          rw [Int.neg_neg] at this
          rw [this, Int.tmod_eq_emod_of_nonneg (by omega)]
        omega
      · rw [Int.tmod_eq_emod_of_nonneg hx] at h
        omega
    rw [e]
    have hb : -4 < x.tmod 4 := by
      have := Int.lt_tmod_of_pos x (show (0 : Int) < 4 by decide)
      omega
    obtain ⟨t, et⟩ : ∃ t, t = x.tmod 4 := ⟨_, rfl⟩
    rw [← et] at h hb
    rw [← et]
    have het : x.tmod 4 = t := et.symm
    clear et
    go_enter Tryd.func16, Tryd.ntmps16
    go_wp2
    go_ret
    exact ⟨rfl, rfl⟩
  · have e : ((plc x : Nat) : Int) = x.tmod 4 := by
      unfold plc
      rcases Int.lt_or_le x 0 with hx | hx
      · have h1 : x.tmod 4 = -((-x) % 4) := by
          have := Int.neg_tmod (-x) 4
          rw [Int.neg_neg] at this
          rw [this, Int.tmod_eq_emod_of_nonneg (by omega)]
        omega
      · rw [Int.tmod_eq_emod_of_nonneg hx]
        omega
    rw [e]
    obtain ⟨t, et⟩ : ∃ t, t = x.tmod 4 := ⟨_, rfl⟩
    rw [← et] at h
    rw [← et]
    have het : x.tmod 4 = t := et.symm
    clear et
    go_enter Tryd.func16, Tryd.ntmps16
    go_wp2
    go_ret
    exact ⟨rfl, rfl⟩

def upd {α : Type} (f : Nat → α) (k : Nat) (v : α) : Nat → α := fun j => if j = k then v else f j
theorem upd_same {α : Type} (f : Nat → α) (k : Nat) (v : α) : upd f k v k = v := by simp [upd]
theorem upd_other {α : Type} (f : Nat → α) (k j : Nat) (v : α) (h : j ≠ k) : upd f k v j = f j := by simp [upd, h]

def ptr (o : Option Nat) : Value := .pointer (o.map fun r => ⟨r, 0, none⟩)
def four (f : Nat → Value) : List Value := [f 0, f 1, f 2, f 3]
theorem four_at (f : Nat → Value) (k : Nat) (h : k < 4) : (four f)[k]? = some (f k) := by
  have : k = 0 ∨ k = 1 ∨ k = 2 ∨ k = 3 := by omega
  rcases this with rfl | rfl | rfl | rfl <;> rfl
theorem four_set (f : Nat → Value) (k : Nat) (v : Value) (h : k < 4) : (four f).set k v = four (upd f k v) := by
  have : k = 0 ∨ k = 1 ∨ k = 2 ∨ k = 3 := by omega
  rcases this with rfl | rfl | rfl | rfl <;> rfl

/-- A row of four values of type t. -/
def Row4 (w : World) (g : Nat) (t : TypeId) (f : Nat → Value) : Prop := w.heap[g]? = some (.cells (four f).toArray t (0, 0))
theorem Row4.lt {w : World} {g : Nat} {t : TypeId} {f : Nat → Value} (h : Row4 w g t f) : g < w.heap.size := lt_of_block h
theorem Row4.cell {w : World} {g : Nat} {t : TypeId} {f : Nat → Value} (h : Row4 w g t f) (k : Nat) (hk : k < 4) : w.cell? ⟨g, k, none⟩ = some (f k) := by
  rw [cell_of_row w g k _ t _ h, List.getElem?_toArray, four_at f k hk]
theorem Row4.fz {w : World} {g : Nat} {t : TypeId} {f : Nat → Value} (h : Row4 w g t f) (k : Nat) : w.frozen? ⟨g, k, none⟩ = false := frozen_of_row w g k _ t h
theorem Row4.set {w : World} {g : Nat} {t : TypeId} {f : Nat → Value} (h : Row4 w g t f) (k : Nat) (hk : k < 4) (v : Value) : Row4 (w.setCell ⟨g, k, none⟩ v) g t (upd f k v) := by
  unfold Row4
  rw [heap_setCell_same w g k _ t _ h, List.setIfInBounds_toArray, four_set f k v hk]
theorem Row4.next {w w' : World} {g : Nat} {t : TypeId} {f : Nat → Value} (h : Row4 w g t f) (hb : Below w.heap.size w w') : Row4 w' g t f := (hb.block g h.lt).trans h
theorem Row4.on {w w' : World} {g g' : Nat} {t : TypeId} {f : Nat → Value} (h : Row4 w g t f) (ho : On w w' g') (hn : g ≠ g') : Row4 w' g t f := (ho.block g hn).trans h
theorem Row4.only {w w' : World} {g r : Nat} {t : TypeId} {f : Nat → Value} (h : Row4 w g t f) (ho : Only r w w') (hn : g ≠ r) : Row4 w' g t f := (ho.block g h.lt hn).trans h

/-- Blocks of different types are different. -/
theorem block_ne {w : World} {g g' : Nat} {cs cs' : Array Value} {t t' : TypeId} {fr fr' : Nat × Nat} (h : w.heap[g]? = some (.cells cs t fr)) (h' : w.heap[g']? = some (.cells cs' t' fr')) (hn : t ≠ t') : g ≠ g' := by
  intro e
  subst e
  rw [h] at h'
  simp only [Option.some.injEq, Obj.cells.injEq] at h'
  exact hn h'.2.1
theorem own_block {w : World} {base n g : Nat} {v : Value} {xs : List Value} (h : w.ownsRow base 5 1 v n xs) (hg : v.ownBlock = some g) : ∃ cs, w.heap[g]? = some (.cells cs 5 (0, 0)) := by
  rcases h.2 with ⟨h3, _⟩ | ⟨b, cap, cur, h3, _, hh, _⟩
  · rw [h3] at hg; cases hg
  · rw [h3] at hg
    have : b = g := by simpa [Value.ownBlock] using hg
    subst this
    exact ⟨cur, hh⟩

/-- The four states and what is kept beside them. -/
structure Inv (wr : World) (base gs gt gh : Nat) (P : Nat → Option Nat) (T : Nat → Bool) (H : Nat → Value) (X Y : Nat → List Int) : Prop where
  s : Row4 wr gs 33 (fun k => ptr (P k))
  t : Row4 wr gt 4 (fun k => .bool (T k))
  h : Row4 wr gh 22 H
  row : ∀ k, k < 4 → wr.ownsRow base 5 1 (H k) (Y k).length (u8s (Y k))
  rng : ∀ k, k < 4 → ∀ x ∈ Y k, 0 ≤ x ∧ x ≤ 255
  st : ∀ k, k < 4 → ∀ r, P k = some r → base ≤ r ∧ ∃ s b, Sta wr r s b (X k).length ∧ Hold s b (X k).length (X k)
  one : ∀ j k, j < 4 → k < 4 → j ≠ k → ∀ r, P j = some r → P k ≠ some r
  apart : ∀ j k, j < 4 → k < 4 → j ≠ k → Ap (H j) (H k)

section
variable {wr w' : World} {base gs gt gh : Nat} {P : Nat → Option Nat} {T : Nat → Bool} {H : Nat → Value} {X Y : Nat → List Int}

theorem Inv.next (h : Inv wr base gs gt gh P T H X Y) (hb : Below wr.heap.size wr w') : Inv w' base gs gt gh P T H X Y :=
  ⟨h.s.next hb, h.t.next hb, h.h.next hb, fun k hk => own_next (h.row k hk) hb, h.rng, fun k hk r hr => by
    obtain ⟨h1, s, b, h2, h3⟩ := h.st k hk r hr
    exact ⟨h1, s, b, h2.next hb, h3⟩, h.one, h.apart⟩

/-- A block of a type of its own is turned. -/
theorem row_far {g0 n : Nat} {v : Value} {xs : List Value} {cs : Array Value} {t : TypeId} {fr : Nat × Nat} (h : wr.ownsRow base 5 1 v n xs) (hb : ∀ k, k ≠ g0 → k < wr.heap.size → w'.heap[k]? = wr.heap[k]?) (hg : wr.heap[g0]? = some (.cells cs t fr)) (ht : t ≠ 5) : w'.ownsRow base 5 1 v n xs := by
  obtain ⟨h1, h2⟩ := h
  refine ⟨h1, ?_⟩
  rcases h2 with h2 | ⟨g, cap, cur, hv, hgb, hh, rest⟩
  · exact Or.inl h2
  · exact Or.inr ⟨g, cap, cur, hv, hgb, (hb g (fun e => block_ne hg hh ht e.symm) (lt_of_block hh)).trans hh, rest⟩

/-- Bytes are added to one state. -/
theorem Inv.add (h : Inv wr base gs gt gh P T H X Y) {k r : Nat} (hk : k < 4) (hr : P k = some r) (ho : Only r wr w') {s : St} {b zs : List Int} (hS : Sta w' r s b zs.length) (hH : Hold s b zs.length zs) : Inv w' base gs gt gh P T H (upd X k zs) Y := by
  obtain ⟨hbr, s0, b0, hS0, _⟩ := h.st k hk r hr
  refine ⟨h.s.only ho (block_ne h.s hS0.blk (by decide)), h.t.only ho (block_ne h.t hS0.blk (by decide)), h.h.only ho (block_ne h.h hS0.blk (by decide)), fun j hj => row_far (h.row j hj) (fun q hq hl => ho.block q hl hq) hS0.blk (by decide), h.rng, fun j hj q hq => ?_, h.one, h.apart⟩
  by_cases hjk : j = k
  · subst hjk
    have : q = r := Option.some.inj (hq.symm.trans hr)
    subst this
    rw [upd_same]
    exact ⟨hbr, s, b, hS, hH⟩
  · rw [upd_other _ _ _ _ hjk]
    obtain ⟨h1, s1, b1, hS1, hH1⟩ := h.st j hj q hq
    have hqr : q ≠ r := fun e => h.one j k hj hk hjk q hq (e ▸ hr)
    exact ⟨h1, s1, b1, ⟨(ho.block q hS1.lt hqr).trans hS1.blk, hS1.len, hS1.rng⟩, hH1⟩

/-- A state is put in a place. -/
theorem Inv.putS (h : Inv wr base gs gt gh P T H X Y) {k : Nat} (hk : k < 4) (q : Option Nat) (zs : List Int) (hq : ∀ r, q = some r → base ≤ r ∧ (∃ s b, Sta wr r s b zs.length ∧ Hold s b zs.length zs) ∧ ∀ j, j < 4 → j ≠ k → P j ≠ some r) :
    Inv (wr.setCell ⟨gs, k, none⟩ (ptr q)) base gs gt gh (upd P k q) T H (upd X k zs) Y := by
  have ho := On.setCell wr ⟨gs, k, none⟩ (ptr q)
  refine ⟨?_, h.t.on ho (block_ne h.t h.s (by decide)), h.h.on ho (block_ne h.h h.s (by decide)), fun j hj => row_far (h.row j hj) (fun q hq _ => ho.block q hq) h.s (by decide), h.rng, fun j hj r hr => ?_, fun i j hi hj hij r hir hjr => ?_, h.apart⟩
  · have h1 := h.s.set k hk (ptr q)
    have e : (upd (fun j => ptr (P j)) k (ptr q)) = fun j => ptr (upd P k q j) := by
      funext j
      unfold upd
      split <;> rfl
    rw [e] at h1
    exact h1
  · by_cases hjk : j = k
    · subst hjk
      rw [upd_same] at hr
      rw [upd_same]
      obtain ⟨h1, ⟨s, b, h2, h3⟩, _⟩ := hq r hr
      exact ⟨h1, s, b, h2.on ho (fun e => block_ne h.s h2.blk (by decide) e.symm), h3⟩
    · rw [upd_other _ _ _ _ hjk] at hr
      rw [upd_other _ _ _ _ hjk]
      obtain ⟨h1, s, b, h2, h3⟩ := h.st j hj r hr
      exact ⟨h1, s, b, h2.on ho (fun e => block_ne h.s h2.blk (by decide) e.symm), h3⟩
  · by_cases hik : i = k
    · subst hik
      rw [upd_same] at hir
      rw [upd_other _ _ _ _ (Ne.symm hij)] at hjr
      exact (hq r hir).2.2 j hj (Ne.symm hij) hjr
    · rw [upd_other _ _ _ _ hik] at hir
      by_cases hjk : j = k
      · subst hjk
        rw [upd_same] at hjr
        exact (hq r hjr).2.2 i hi hij hir
      · rw [upd_other _ _ _ _ hjk] at hjr
        exact h.one i j hi hj hij r hir hjr

theorem Inv.putT (h : Inv wr base gs gt gh P T H X Y) {k : Nat} (hk : k < 4) (b : Bool) : Inv (wr.setCell ⟨gt, k, none⟩ (.bool b)) base gs gt gh P (upd T k b) H X Y := by
  have ho := On.setCell wr ⟨gt, k, none⟩ (.bool b)
  refine ⟨h.s.on ho (block_ne h.s h.t (by decide)), ?_, h.h.on ho (block_ne h.h h.t (by decide)), fun j hj => row_far (h.row j hj) (fun q hq _ => ho.block q hq) h.t (by decide), h.rng, fun j hj r hr => ?_, h.one, h.apart⟩
  · have h1 := h.t.set k hk (.bool b)
    have e : (upd (fun j => Value.bool (T j)) k (.bool b)) = fun j => Value.bool (upd T k b j) := by
      funext j
      unfold upd
      split <;> rfl
    rw [e] at h1
    exact h1
  · obtain ⟨h1, s, b', h2, h3⟩ := h.st j hj r hr
    exact ⟨h1, s, b', h2.on ho (fun e => block_ne h.t h2.blk (by decide) e.symm), h3⟩

/-- Bytes are kept in a place. -/
theorem Inv.putH (h : Inv wr base gs gt gh P T H X Y) {k : Nat} (hk : k < 4) (v : Value) (ys : List Int) (hv : wr.ownsRow base 5 1 v ys.length (u8s ys)) (hr : ∀ x ∈ ys, 0 ≤ x ∧ x ≤ 255) (hap : ∀ j, j < 4 → j ≠ k → Ap v (H j)) : Inv (wr.setCell ⟨gh, k, none⟩ v) base gs gt gh P T (upd H k v) X (upd Y k ys) := by
  have ho := On.setCell wr ⟨gh, k, none⟩ v
  refine ⟨h.s.on ho (block_ne h.s h.h (by decide)), h.t.on ho (block_ne h.t h.h (by decide)), h.h.set k hk v, fun j hj => ?_, fun j hj => ?_, fun j hj r hr => ?_, h.one, fun i j hi hj hij => ?_⟩
  · by_cases hjk : j = k
    · subst hjk
      rw [upd_same, upd_same]
      exact row_far hv (fun q hq _ => ho.block q hq) h.h (by decide)
    · rw [upd_other _ _ _ _ hjk, upd_other _ _ _ _ hjk]
      exact row_far (h.row j hj) (fun q hq _ => ho.block q hq) h.h (by decide)
  · by_cases hjk : j = k
    · subst hjk; rw [upd_same]; exact hr
    · rw [upd_other _ _ _ _ hjk]; exact h.rng j hj
  · obtain ⟨h1, s, b', h2, h3⟩ := h.st j hj r hr
    exact ⟨h1, s, b', h2.on ho (fun e => block_ne h.h h2.blk (by decide) e.symm), h3⟩
  · by_cases hik : i = k
    · subst hik
      rw [upd_same, upd_other _ _ _ _ (Ne.symm hij)]
      exact hap j hj (Ne.symm hij)
    · rw [upd_other _ _ _ _ hik]
      by_cases hjk : j = k
      · subst hjk
        rw [upd_same]
        intro g hg hv'
        exact hap i hi hij g hv' hg
      · rw [upd_other _ _ _ _ hjk]
        exact h.apart i j hi hj hij

/-- A row of the call's own grows or is made. -/
theorem Inv.grown (h : Inv wr base gs gt gh P T H X Y) {row : Option Nat} (hg : wr.grownBy w' row) (hrow : ∀ g, row = some g → ∃ cs, wr.heap[g]? = some (.cells cs 5 (0, 0))) (hap : ∀ j, j < 4 → ∀ g, row = some g → (H j).ownBlock ≠ some g) : Inv w' base gs gt gh P T H X Y := by
  have far : ∀ {g : Nat} {cs : Array Value} {t : TypeId} {fr : Nat × Nat}, wr.heap[g]? = some (.cells cs t fr) → t ≠ 5 → w'.heap[g]? = wr.heap[g]? := by
    intro g cs t fr hh ht
    refine hg.block g (lt_of_block hh) (fun e => ?_)
    obtain ⟨cs', hc⟩ := hrow g e.symm
    exact block_ne hh hc ht rfl
  refine ⟨(far h.s (by decide)).trans h.s, (far h.t (by decide)).trans h.t, (far h.h (by decide)).trans h.h, fun j hj => (h.row j hj).kept hg ?_, h.rng, fun j hj r hr => ?_, h.one, h.apart⟩
  · cases hr : row with
    | none =>
      by_cases hn : (H j).ownBlock = none
      · exact Or.inl hn
      · exact Or.inr (by rw [← hr]; intro e; exact hn (by rw [e, hr]))
    | some g => exact Or.inr (hap j hj g hr)
  · obtain ⟨h1, s, b, h2, h3⟩ := h.st j hj r hr
    exact ⟨h1, s, b, ⟨(far h2.blk (by decide)).trans h2.blk, h2.len, h2.rng⟩, h3⟩
end
end Go.Proofs.YtmnembhcfkcmnaaDoor
