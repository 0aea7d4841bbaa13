/- The document's disk: how it lies in memory, and the small calls on it. -/
import Derived.Test.YteimfnnkjhopdaaBools
namespace Go.Proofs.Yteimfnnkjhopdaa
open Go.RowKit

/-- The cells of the document's disk. -/
def rc (a b h : Nat) (d : St) : List Value := [.slice (some ⟨a, 0, none⟩) d.n d.n, .slice (some ⟨b, 0, none⟩) d.n d.n, .slice (some ⟨h, 0, none⟩) d.n d.n, .bool d.off, .int .i64 d.armed, .int .i64 d.writes, .int .i64 d.flushes]
/-- The document's disk d lies in the blocks r, a, b and h. -/
structure RLay (w : World) (r a b h : Nat) (d : St) : Prop where
  blk : Blk w r 47 (rc a b h d)
  row : Rw w a d.n d.lasts
  wts : ∃ W, Rw w b d.n W ∧ ∀ i s, d.waits i = some s → W i = s
  has : Blk w h 4 (bools d.n fun i => (d.waits i).isSome)
  ab : a ≠ b
  one : 1 ≤ d.n
  top : d.n ≤ 16384
  low : ∀ i, d.n ≤ i → d.waits i = none
  arm : d.armed < 9223372036854775808
/-- Its blocks. -/
def rfp (r a b h : Nat) (k : Nat) : Prop := k = r ∨ k = a ∨ k = b ∨ k = h
section
variable {w w' : World} {r a b h : Nat} {d : St}
theorem RLay.c0 (L : RLay w r a b h d) : w.cell? ⟨r, 0, none⟩ = some (.slice (some ⟨a, 0, none⟩) d.n d.n) := L.blk.cell 0 _ rfl
theorem RLay.c1 (L : RLay w r a b h d) : w.cell? ⟨r, 1, none⟩ = some (.slice (some ⟨b, 0, none⟩) d.n d.n) := L.blk.cell 1 _ rfl
theorem RLay.c2 (L : RLay w r a b h d) : w.cell? ⟨r, 2, none⟩ = some (.slice (some ⟨h, 0, none⟩) d.n d.n) := L.blk.cell 2 _ rfl
theorem RLay.c3 (L : RLay w r a b h d) : w.cell? ⟨r, 3, none⟩ = some (.bool d.off) := L.blk.cell 3 _ rfl
theorem RLay.c4 (L : RLay w r a b h d) : w.cell? ⟨r, 4, none⟩ = some (.int .i64 d.armed) := L.blk.cell 4 _ rfl
theorem RLay.c5 (L : RLay w r a b h d) : w.cell? ⟨r, 5, none⟩ = some (.int .i64 d.writes) := L.blk.cell 5 _ rfl
theorem RLay.c6 (L : RLay w r a b h d) : w.cell? ⟨r, 6, none⟩ = some (.int .i64 d.flushes) := L.blk.cell 6 _ rfl
theorem RLay.fz (L : RLay w r a b h d) (j : Nat) : w.frozen? ⟨r, j, none⟩ = false := L.blk.fz j
theorem RLay.cH (L : RLay w r a b h d) (i : Nat) (hi : i < d.n) : w.cell? ⟨h, i, none⟩ = some (.bool (d.waits i).isSome) := L.has.cell i _ (bools_get _ _ i hi)
theorem RLay.rw (L : RLay w r a b h d) : ∃ W, Rw w b d.n W := by obtain ⟨W, h, _⟩ := L.wts; exact ⟨W, h⟩
theorem RLay.ar (L : RLay w r a b h d) : a ≠ r := L.row.ne L.blk (by decide)
theorem RLay.br (L : RLay w r a b h d) : b ≠ r := by obtain ⟨W, hW⟩ := L.rw; exact hW.ne L.blk (by decide)
theorem RLay.ah (L : RLay w r a b h d) : a ≠ h := L.row.ne L.has (by decide)
theorem RLay.bh (L : RLay w r a b h d) : b ≠ h := by obtain ⟨W, hW⟩ := L.rw; exact hW.ne L.has (by decide)
theorem RLay.hr (L : RLay w r a b h d) : h ≠ r := by
  intro e
  subst e
  have h1 := L.has
  have h2 := L.blk
  unfold Blk at h1 h2
  injection (Option.some.inj (h1.symm.trans h2)) with _ ht
  exact absurd ht (by decide)
theorem RLay.keep (L : RLay w r a b h d) (h1 : w'.heap[r]? = w.heap[r]?) (h2 : w'.heap[a]? = w.heap[a]?) (h3 : w'.heap[b]? = w.heap[b]?) (h4 : w'.heap[h]? = w.heap[h]?) : RLay w' r a b h d := by
  obtain ⟨W, hW, hs⟩ := L.wts
  exact ⟨h1.trans L.blk, L.row.same h2, ⟨W, hW.same h3, hs⟩, h4.trans L.has, L.ab, L.one, L.top, L.low, L.arm⟩
theorem RLay.lt (L : RLay w r a b h d) : ∀ k, rfp r a b h k → k < w.heap.size := by
  rintro k (rfl | rfl | rfl | rfl)
  · exact L.blk.lt
  · exact L.row.lt
  · obtain ⟨W, hW⟩ := L.rw; exact hW.lt
  · exact L.has.lt
theorem RLay.fr {X : Nat → Prop} (L : RLay w r a b h d) (hf : Fr X w w') (hX : ∀ k, X k → ¬ rfp r a b h k) : RLay w' r a b h d :=
  L.keep (hf.block r (L.lt _ (.inl rfl)) (fun hx => hX r hx (.inl rfl))) (hf.block a (L.lt _ (.inr (.inl rfl))) (fun hx => hX a hx (.inr (.inl rfl)))) (hf.block b (L.lt _ (.inr (.inr (.inl rfl)))) (fun hx => hX b hx (.inr (.inr (.inl rfl))))) (hf.block h (L.lt _ (.inr (.inr (.inr rfl)))) (fun hx => hX h hx (.inr (.inr (.inr rfl)))))
theorem RLay.next (L : RLay w r a b h d) (hb : Below w.heap.size w w') : RLay w' r a b h d :=
  L.fr (X := fun _ => False) (Fr.of_below hb (Nat.le_refl _)) (fun _ hx => hx.elim)
theorem RLay.alloc (L : RLay w r a b h d) (o : Obj) : RLay (w.alloc o) r a b h d := L.next ((Below.refl _ w).alloc (Nat.le_refl _) o)
theorem RLay.drew (L : RLay w r a b h d) : RLay w.drew r a b h d := L.keep rfl rfl rfl rfl
/-- A field is written. -/
theorem RLay.put (L : RLay w r a b h d) (j : Nat) (u : Value) (d' : St) (hd : (rc a b h d).set j u = rc a b h d') (hn : d'.n = d.n) (hl : d'.lasts = d.lasts) (hw : d'.waits = d.waits) (ha : d'.armed < 9223372036854775808) :
    RLay (w.setCell ⟨r, j, none⟩ u) r a b h d' := by
  obtain ⟨W, hW, hs⟩ := L.wts
  refine ⟨hd ▸ L.blk.set j u, ?_, ⟨W, ?_, by rw [hw]; exact hs⟩, ?_, L.ab, by rw [hn]; exact L.one, by rw [hn]; exact L.top, by rw [hn, hw]; exact L.low, ha⟩
  · rw [hn, hl]; exact L.row.same (heap_setCell_other _ _ _ _ L.ar)
  · rw [hn]; exact hW.same (heap_setCell_other _ _ _ _ L.br)
  · rw [hn, hw]; exact L.has.beside _ L.hr
end
/-- The document's disk has turned to d. -/
def RTurn (w w' : World) (r a b h : Nat) (d : St) : Prop := RLay w' r a b h d ∧ Fr (rfp r a b h) w w'
theorem RTurn.below {w w' : World} {r a b h : Nat} {d : St} (hT : RTurn w w' r a b h d) {B : Nat} (hg : ∀ k, rfp r a b h k → B ≤ k) (hB : B ≤ w.heap.size) : Below B w w' := hT.2.below hg hB

section
variable (w : World) (r a b h : Nat) (d : St)
theorem rarm_any (L : RLay w r a b h d) (n : Int) (hn : n < 9223372036854775808) : Calls Try.prog 36 #[.pointer (some ⟨r, 0, none⟩), .int .i64 n] w fun e w' => e = .returned (.int .i64 (d.ar n).2) ∧ RTurn w w' r a b h (d.ar n).1 := by
  unfold St.ar
  by_cases h0 : n < 0
  · rw [if_pos h0]
    go_enter Try.func36, Try.ntmps36
    go_wp2
    go_ret
    exact ⟨rfl, L, Fr.refl _ _⟩
  · rw [if_neg h0]
    obtain ⟨k, rfl⟩ := Int.eq_ofNat_of_zero_le (show 0 ≤ n by omega)
    have c4 := L.c4
    have f4 := L.fz 4
    have h1 := L.put 4 (.int .i64 k) { d with armed := k } rfl rfl rfl rfl (by show k < _; omega)
    have h2 := (Fr.refl (rfp r a b h) w).setCell ⟨r, 4, none⟩ (.int .i64 k) (.inl (.inl rfl))
    go_enter Try.func36, Try.ntmps36
    go_wp2
    go_ret
    exact ⟨rfl, h1, h2⟩
theorem rgoes_off (L : RLay w r a b h d) : Calls Try.prog 37 #[.pointer (some ⟨r, 0, none⟩)] w fun e w' => e = .returned (.tuple #[]) ∧ RTurn w w' r a b h d.goOff := by
  have c3 := L.c3
  have c4 := L.c4
  have f3 := L.fz 3
  have f4 := L.fz 4
  have h1 := (L.put 3 (.bool true) { d with off := true } rfl rfl rfl rfl L.arm).put 4 (.int .i64 0) d.goOff rfl rfl rfl rfl (by simp [St.goOff])
  have h2 := ((Fr.refl (rfp r a b h) w).setCell ⟨r, 3, none⟩ (.bool true) (.inl (.inl rfl))).setCell ⟨r, 4, none⟩ (.int .i64 0) (.inl (.inl rfl))
  go_enter Try.func37, Try.ntmps37
  go_wp2
  go_end0
  exact ⟨rfl, h1, h2⟩
theorem op_two (d : St) : d.op.2 = if d.armed = 1 then 6 else 0 := by
  unfold St.op
  by_cases h0 : d.armed = 0
  · rw [if_pos h0, if_neg (by omega)]
  · rw [if_neg h0]
    split <;> rfl
theorem rgoes_any (L : RLay w r a b h d) (ho : d.off = false) : Calls Try.prog 48 #[.pointer (some ⟨r, 0, none⟩)] w fun e w' => e = .returned (.bool (decide (d.armed = 1))) ∧ RTurn w w' r a b h d.op.1 := by
  have c4 := L.c4
  have f4 := L.fz 4
  have ha := L.arm
  unfold St.op
  by_cases h0 : d.armed = 0
  · rw [if_pos h0]
    rw [h0] at c4 ⊢
    go_enter Try.func48, Try.ntmps48
    go_wp2
    go_ret
    exact ⟨rfl, L, Fr.refl _ _⟩
  · rw [if_neg h0]
    have hI0 : ¬ (d.armed : Int) = 0 := by omega
    have hI2 : (d.armed : Int) - 1 = ((d.armed - 1 : Nat) : Int) := by omega
    have L1 := L.put 4 (.int .i64 ((d.armed - 1 : Nat) : Int)) { d with armed := d.armed - 1 } rfl rfl rfl rfl (by show d.armed - 1 < _; omega)
    have F1 := (Fr.refl (rfp r a b h) w).setCell ⟨r, 4, none⟩ (.int .i64 ((d.armed - 1 : Nat) : Int)) (.inl (.inl rfl))
    have c3 := L1.c3
    have c4' := L1.c4
    have f3 := L1.fz 3
    by_cases h1 : d.armed = 1
    · rw [if_pos h1]
      have e1 : ((d.armed - 1 : Nat) : Int) = 0 := by omega
      have L2 := L1.put 3 (.bool true) { d with off := true, armed := d.armed - 1 } rfl rfl rfl rfl L1.arm
      have F2 := F1.setCell ⟨r, 3, none⟩ (.bool true) (.inl (.inl rfl))
      have e2 : d.armed - 1 = 0 := by omega
      have c3' := L2.c3
      simp only [e2] at L2
      rw [decide_eq_true h1]
      simp only [e1] at *
      go_enter Try.func48, Try.ntmps48
      go_wp2
      go_ret
      exact ⟨rfl, L2, F2⟩
    · rw [if_neg h1]
      rw [decide_eq_false h1]
      have e1 : ¬ ((d.armed - 1 : Nat) : Int) = 0 := by omega
      simp only [ho] at c3
      clear ho
      go_enter Try.func48, Try.ntmps48
      go_wp2
      go_ret
      exact ⟨rfl, L1, F1⟩
end
end Go.Proofs.Yteimfnnkjhopdaa
