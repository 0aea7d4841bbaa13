/- A disk's state, how it lies in memory, and the small calls on it. -/
import Derived.Test.YtndfhmlcfaaaiaaDoorLies
namespace Go.Proofs.YtndfhmlcfaaaiaaDoor
open Go.RowKit

/-- A disk. -/
structure St where
  n : Nat
  lasts : Nat → Sec
  waits : Nat → Option Sec
  off : Bool
  armed : Nat
  writes : Nat
  flushes : Nat

def dc (f m cap : Nat) (d : St) : List Value := [.slice (some ⟨f, 0, none⟩) d.n cap, .map (some m), .int .i64 d.writes, .int .i64 d.flushes, .int .i64 d.armed, .bool d.off]
/-- In w the disk d lies in the blocks r, f and m. -/
structure Lay (w : World) (r f m cap : Nat) (d : St) : Prop where
  blk : Blk w r 99 (dc f m cap d)
  row : Rw w f d.n d.lasts
  map : ∃ D, w.ownsMap Tryd.prog 3 secR m d.writes D ∧ Mp D d.waits
  one : 1 ≤ d.n
  top : d.n ≤ 16384
  low : ∀ i, d.n ≤ i → d.waits i = none
  arm : d.armed < 9223372036854775808
/-- The blocks of a disk. -/
def fp (r f m : Nat) (k : Nat) : Prop := k = r ∨ k = f ∨ k = m
section
variable {w w' : World} {r f m cap : Nat} {d : St}
theorem Lay.c0 (h : Lay w r f m cap d) : w.cell? ⟨r, 0, none⟩ = some (.slice (some ⟨f, 0, none⟩) d.n cap) := h.blk.cell 0 _ rfl
theorem Lay.c1 (h : Lay w r f m cap d) : w.cell? ⟨r, 1, none⟩ = some (.map (some m)) := h.blk.cell 1 _ rfl
theorem Lay.c2 (h : Lay w r f m cap d) : w.cell? ⟨r, 2, none⟩ = some (.int .i64 d.writes) := h.blk.cell 2 _ rfl
theorem Lay.c3 (h : Lay w r f m cap d) : w.cell? ⟨r, 3, none⟩ = some (.int .i64 d.flushes) := h.blk.cell 3 _ rfl
theorem Lay.c4 (h : Lay w r f m cap d) : w.cell? ⟨r, 4, none⟩ = some (.int .i64 d.armed) := h.blk.cell 4 _ rfl
theorem Lay.c5 (h : Lay w r f m cap d) : w.cell? ⟨r, 5, none⟩ = some (.bool d.off) := h.blk.cell 5 _ rfl
theorem Lay.fz (h : Lay w r f m cap d) (j : Nat) : w.frozen? ⟨r, j, none⟩ = false := h.blk.fz j
theorem Lay.fr_ne (h : Lay w r f m cap d) : f ≠ r := h.row.ne h.blk (by decide)
theorem Lay.mr_ne (h : Lay w r f m cap d) : m ≠ r := by
  obtain ⟨D, ⟨es, c, hb, _⟩, _⟩ := h.map
  intro e
  subst e
  have := h.blk
  unfold Blk at this
  rw [hb] at this
  cases this
theorem Lay.mf_ne (h : Lay w r f m cap d) : m ≠ f := by
  obtain ⟨D, ⟨es, c, hb, _⟩, _⟩ := h.map
  obtain ⟨C, hC, _⟩ := h.row
  intro e
  subst e
  rw [hb] at hC
  cases hC
theorem Lay.mlt (h : Lay w r f m cap d) : m < w.heap.size := by
  obtain ⟨D, hD, _⟩ := h.map
  exact hD.lt
theorem Lay.keep (h : Lay w r f m cap d) (h1 : w'.heap[r]? = w.heap[r]?) (h2 : w'.heap[f]? = w.heap[f]?) (h3 : w'.heap[m]? = w.heap[m]?) : Lay w' r f m cap d := by
  obtain ⟨D, ⟨es, c, hb, e⟩, hM⟩ := h.map
  exact ⟨h1.trans h.blk, h.row.same h2, ⟨D, ⟨es, c, h3.trans hb, e⟩, hM⟩, h.one, h.top, h.low, h.arm⟩
/-- A disk stays what it is where its blocks are not touched. -/
theorem Lay.fr {X : Nat → Prop} (h : Lay w r f m cap d) (hf : Fr X w w') (hX : ∀ k, X k → ¬ fp r f m k) : Lay w' r f m cap d :=
  h.keep (hf.block r h.blk.lt (fun hx => hX r hx (.inl rfl))) (hf.block f h.row.lt (fun hx => hX f hx (.inr (.inl rfl)))) (hf.block m h.mlt (fun hx => hX m hx (.inr (.inr rfl))))
theorem Lay.next (h : Lay w r f m cap d) (hb : Below w.heap.size w w') : Lay w' r f m cap d :=
  h.fr (X := fun _ => False) (Fr.of_below hb (Nat.le_refl _)) (fun _ hx => hx.elim)
theorem Lay.alloc (h : Lay w r f m cap d) (o : Obj) : Lay (w.alloc o) r f m cap d := h.next ((Below.refl _ w).alloc (Nat.le_refl _) o)
theorem Lay.drew (h : Lay w r f m cap d) : Lay w.drew r f m cap d := h.keep rfl rfl rfl
/-- A field is written. -/
theorem Lay.put (h : Lay w r f m cap d) (j : Nat) (u : Value) (d' : St) (hd : (dc f m cap d).set j u = dc f m cap d') (hn : d'.n = d.n) (hl : d'.lasts = d.lasts) (hw : d'.waits = d.waits) (hc : d.writes ≤ d'.writes) (ha : d'.armed < 9223372036854775808) :
    Lay (w.setCell ⟨r, j, none⟩ u) r f m cap d' := by
  obtain ⟨D, hD, hM⟩ := h.map
  refine ⟨hd ▸ h.blk.set j u, ?_, ⟨D, (hD.setCell h.mr_ne u).mono hc, by rw [hw]; exact hM⟩, by rw [hn]; exact h.one, by rw [hn]; exact h.top, by rw [hn, hw]; exact h.low, ha⟩
  rw [hn, hl]
  exact h.row.same (heap_setCell_other _ _ _ _ h.fr_ne)
theorem fp_r (r f m : Nat) : fp r f m r := .inl rfl
theorem fp_f (r f m : Nat) : fp r f m f := .inr (.inl rfl)
theorem fp_m (r f m : Nat) : fp r f m m := .inr (.inr rfl)
end

/-! ### what happens to a disk, as mathematics -/
/-- The power's count: the state behind an operation, and the error. -/
def St.op (d : St) : St × Int := if d.armed = 0 then (d, 0) else if d.armed = 1 then ({ d with off := true, armed := 0 }, 6) else ({ d with armed := d.armed - 1 }, 0)
def St.goOff (d : St) : St := { d with off := true, armed := 0 }
def St.gone (d : St) : St := { d with waits := fun _ => none }
def St.out (d : St) : Int := if d.off then 6 else 0
def St.no (d : St) (i : Int) : Int := if d.off then 6 else if i < 0 ∨ (d.n : Int) ≤ i then 2 else 0

section
variable (w : World) (r f m cap : Nat) (d : St)
theorem outage_nil : Calls Tryd.prog 51 #[.pointer none] w fun e w' => e = .returned (.int .i64 1) ∧ w = w' := by
  go_enter Tryd.func51, Tryd.ntmps51
  go_wp2
  go_ret
  exact ⟨rfl, rfl⟩
theorem outage_any (h : Lay w r f m cap d) : Calls Tryd.prog 51 #[.pointer (some ⟨r, 0, none⟩)] w fun e w' => e = .returned (.int .i64 d.out) ∧ w = w' := by
  have c5 := h.c5
  unfold St.out
  obtain ⟨b, hb⟩ : ∃ b, b = d.off := ⟨_, rfl⟩
  rw [← hb] at c5 ⊢
  clear hb h
  cases b
  all_goals
    go_enter Tryd.func51, Tryd.ntmps51
    go_wp2
    go_ret
    exact ⟨rfl, rfl⟩
theorem refusal_nil (i : Int) : Calls Tryd.prog 49 #[.pointer none, .int .i64 i] w fun e w' => e = .returned (.int .i64 1) ∧ w = w' := by
  go_enter Tryd.func49, Tryd.ntmps49
  go_wp2_with (go_at_call 51; refine (outage_nil _).mono ?_; rintro e w' ⟨rfl, rfl⟩)
  go_ret
  exact ⟨rfl, rfl⟩
theorem refusal_any (h : Lay w r f m cap d) (i : Int) : Calls Tryd.prog 49 #[.pointer (some ⟨r, 0, none⟩), .int .i64 i] w fun e w' => e = .returned (.int .i64 (d.no i)) ∧ w = w' := by
  have c0 := h.c0
  have ho := outage_any w r f m cap d h
  unfold St.no
  unfold St.out at ho
  cases hoff : d.off
  · rw [hoff] at ho
    simp only [Bool.false_eq_true, if_false] at ho ⊢
    by_cases h1 : i < 0
    · rw [if_pos (Or.inl h1)]
      go_enter Tryd.func49, Tryd.ntmps49
      go_wp2_with (go_at_call 51; refine ho.mono ?_; rintro e w' ⟨rfl, rfl⟩)
      go_ret
      exact ⟨rfl, rfl⟩
    · by_cases h2 : (d.n : Int) ≤ i
      · rw [if_pos (Or.inr h2)]
        go_enter Tryd.func49, Tryd.ntmps49
        go_wp2_with (go_at_call 51; refine ho.mono ?_; rintro e w' ⟨rfl, rfl⟩)
        go_ret
        exact ⟨rfl, rfl⟩
      · rw [if_neg (by omega)]
        go_enter Tryd.func49, Tryd.ntmps49
        go_wp2_with (go_at_call 51; refine ho.mono ?_; rintro e w' ⟨rfl, rfl⟩)
        go_ret
        exact ⟨rfl, rfl⟩
  · rw [hoff] at ho
    simp only [if_true] at ho ⊢
    go_enter Tryd.func49, Tryd.ntmps49
    go_wp2_with (go_at_call 51; refine ho.mono ?_; rintro e w' ⟨rfl, rfl⟩)
    go_ret
    exact ⟨rfl, rfl⟩
theorem dead_nil : Calls Tryd.prog 23 #[.pointer none] w fun e w' => e = .returned (.bool false) ∧ w = w' := by
  go_enter Tryd.func23, Tryd.ntmps23
  go_wp2
  go_ret
  exact ⟨rfl, rfl⟩
theorem dead_any (h : Lay w r f m cap d) : Calls Tryd.prog 23 #[.pointer (some ⟨r, 0, none⟩)] w fun e w' => e = .returned (.bool d.off) ∧ w = w' := by
  have c5 := h.c5
  go_enter Tryd.func23, Tryd.ntmps23
  go_wp2
  go_ret
  exact ⟨rfl, rfl⟩
theorem size_nil : Calls Tryd.prog 32 #[.pointer none] w fun e w' => e = .returned (.int .i64 0) ∧ w = w' := by
  go_enter Tryd.func32, Tryd.ntmps32
  go_wp2
  go_ret
  exact ⟨rfl, rfl⟩
theorem size_any (h : Lay w r f m cap d) : Calls Tryd.prog 32 #[.pointer (some ⟨r, 0, none⟩)] w fun e w' => e = .returned (.int .i64 d.n) ∧ w = w' := by
  have c0 := h.c0
  go_enter Tryd.func32, Tryd.ntmps32
  go_wp2
  go_ret
  exact ⟨rfl, rfl⟩
theorem off_nil : Calls Tryd.prog 22 #[.pointer none] w fun e w' => e = .returned (.tuple #[]) ∧ w = w' := by
  go_enter Tryd.func22, Tryd.ntmps22
  go_wp2
  refine bodyPost_ret (results_none rfl _ _ _) rfl ?_
  exact ⟨rfl, rfl⟩
theorem off_any (h : Lay w r f m cap d) : Calls Tryd.prog 22 #[.pointer (some ⟨r, 0, none⟩)] w fun e w' => e = .returned (.tuple #[]) ∧ Lay w' r f m cap d.goOff ∧ Fr (fp r f m) w w' ∧ w'.heap.size = w.heap.size := by
  have c5 := h.c5
  have c4 := h.c4
  have f4 := h.fz 4
  have f5 := h.fz 5
  have h1 := (h.put 5 (.bool true) { d with off := true } rfl rfl rfl rfl (Nat.le_refl _) h.arm).put 4 (.int .i64 0) d.goOff rfl rfl rfl rfl (Nat.le_refl _) (by simp [St.goOff])
  have h2 := ((Fr.refl (fp r f m) w).setCell ⟨r, 5, none⟩ (.bool true) (.inl (fp_r r f m))).setCell ⟨r, 4, none⟩ (.int .i64 0) (.inl (fp_r r f m))
  go_enter Tryd.func22, Tryd.ntmps22
  go_wp2
  go_end0
  exact ⟨rfl, h1, h2, by simp⟩
theorem arm_nil (n : Int) : Calls Tryd.prog 21 #[.pointer none, .int .i64 n] w fun e w' => e = .returned (.int .i64 1) ∧ w = w' := by
  go_enter Tryd.func21, Tryd.ntmps21
  go_wp2
  go_ret
  exact ⟨rfl, rfl⟩
theorem arm_bad (n : Int) (hn : n < 0) : Calls Tryd.prog 21 #[.pointer (some ⟨r, 0, none⟩), .int .i64 n] w fun e w' => e = .returned (.int .i64 2) ∧ w = w' := by
  go_enter Tryd.func21, Tryd.ntmps21
  go_wp2
  go_ret
  exact ⟨rfl, rfl⟩
theorem arm_any (h : Lay w r f m cap d) (n : Nat) (hn : n < 9223372036854775808) : Calls Tryd.prog 21 #[.pointer (some ⟨r, 0, none⟩), .int .i64 n] w fun e w' => e = .returned (.int .i64 0) ∧ Lay w' r f m cap { d with armed := n } ∧ Fr (fp r f m) w w' ∧ w'.heap.size = w.heap.size := by
  have c4 := h.c4
  have f4 := h.fz 4
  have hnn : ¬ (n : Int) < 0 := by omega
  have h1 := h.put 4 (.int .i64 n) { d with armed := n } rfl rfl rfl rfl (Nat.le_refl _) hn
  have h2 := (Fr.refl (fp r f m) w).setCell ⟨r, 4, none⟩ (.int .i64 n) (.inl (fp_r r f m))
  go_enter Tryd.func21, Tryd.ntmps21
  go_wp2
  go_ret
  exact ⟨rfl, h1, h2, by simp⟩
theorem operation_any (h : Lay w r f m cap d) : Calls Tryd.prog 50 #[.pointer (some ⟨r, 0, none⟩)] w fun e w' => e = .returned (.int .i64 d.op.2) ∧ Lay w' r f m cap d.op.1 ∧ Fr (fp r f m) w w' ∧ w'.heap.size = w.heap.size := by
  have c4 := h.c4
  have f4 := h.fz 4
  have ha := h.arm
  unfold St.op
  by_cases h0 : d.armed = 0
  · rw [if_pos h0]
    rw [h0] at c4
    go_enter Tryd.func50, Tryd.ntmps50
    go_wp2
    go_ret
    exact ⟨rfl, h, Fr.refl _ _, rfl⟩
  · rw [if_neg h0]
    by_cases h1 : d.armed = 1
    · rw [if_pos h1]
      rw [h1] at c4
      go_enter Tryd.func50, Tryd.ntmps50
      go_wp2_with (go_at_call 22; refine (off_any _ r f m cap d h).mono ?_; rintro e w' ⟨rfl, hL, hF, hS⟩)
      go_ret
      exact ⟨rfl, hL, hF, hS⟩
    · rw [if_neg h1]
      have hI0 : ¬ (d.armed : Int) = 0 := by omega
      have hI1 : ¬ (d.armed : Int) = 1 := by omega
      have hI2 : (d.armed : Int) - 1 = ((d.armed - 1 : Nat) : Int) := by omega
      have h3 := h.put 4 (.int .i64 ((d.armed - 1 : Nat) : Int)) { d with armed := d.armed - 1 } rfl rfl rfl rfl (Nat.le_refl _) (by show d.armed - 1 < _; omega)
      have h2 := (Fr.refl (fp r f m) w).setCell ⟨r, 4, none⟩ (.int .i64 ((d.armed - 1 : Nat) : Int)) (.inl (fp_r r f m))
      go_enter Tryd.func50, Tryd.ntmps50
      go_wp2
      go_ret
      exact ⟨rfl, h3, h2, by simp⟩
end
end Go.Proofs.YtndfhmlcfaaaiaaDoor

