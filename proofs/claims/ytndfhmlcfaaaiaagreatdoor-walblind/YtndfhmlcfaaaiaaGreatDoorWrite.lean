import Derived.Test.YtndfhmlcfaaaiaaGreatDoorLies
import Derived.Maps.AppendAt
import Derived.Laws.Cover3
/- A disk's state, how it lies in memory, and the small calls on it. -/
namespace Go.Proofs.YtndfhmlcfaaaiaaGreatDoor
open Go.RowKit

/-- A disk. -/
structure St where
  n : Nat
  lasts : Nat → Sec
  waits : Nat → Option Sec
  off : Bool
  armed : Nat
  writes : Nat
  flushes : Nat

def dc (f m cap : Nat) (d : St) : List Value := [.slice (some ⟨f, 0, none⟩) d.n cap, .map (some m), .int .i64 d.writes, .int .i64 d.flushes, .int .i64 d.armed, .bool d.off]
/-- In w the disk d lies in the blocks r, f and m. -/
structure Lay (w : World) (r f m cap : Nat) (d : St) : Prop where
  blk : Blk w r 98 (dc f m cap d)
  row : Rw w f d.n d.lasts
  map : ∃ D, w.ownsMap Tryz.prog 3 secR m d.writes D ∧ Mp D d.waits
  one : 1 ≤ d.n
  top : d.n ≤ 16384
  low : ∀ i, d.n ≤ i → d.waits i = none
  arm : d.armed < 9223372036854775808
/-- The blocks of a disk. -/
def fp (r f m : Nat) (k : Nat) : Prop := k = r ∨ k = f ∨ k = m
section
variable {w w' : World} {r f m cap : Nat} {d : St}
theorem Lay.c0 (h : Lay w r f m cap d) : w.cell? ⟨r, 0, none⟩ = some (.slice (some ⟨f, 0, none⟩) d.n cap) := h.blk.cell 0 _ rfl
theorem Lay.c1 (h : Lay w r f m cap d) : w.cell? ⟨r, 1, none⟩ = some (.map (some m)) := h.blk.cell 1 _ rfl
theorem Lay.c2 (h : Lay w r f m cap d) : w.cell? ⟨r, 2, none⟩ = some (.int .i64 d.writes) := h.blk.cell 2 _ rfl
theorem Lay.c3 (h : Lay w r f m cap d) : w.cell? ⟨r, 3, none⟩ = some (.int .i64 d.flushes) := h.blk.cell 3 _ rfl
theorem Lay.c4 (h : Lay w r f m cap d) : w.cell? ⟨r, 4, none⟩ = some (.int .i64 d.armed) := h.blk.cell 4 _ rfl
theorem Lay.c5 (h : Lay w r f m cap d) : w.cell? ⟨r, 5, none⟩ = some (.bool d.off) := h.blk.cell 5 _ rfl
theorem Lay.fz (h : Lay w r f m cap d) (j : Nat) : w.frozen? ⟨r, j, none⟩ = false := h.blk.fz j
theorem Lay.fr_ne (h : Lay w r f m cap d) : f ≠ r := h.row.ne h.blk (by decide)
theorem Lay.mr_ne (h : Lay w r f m cap d) : m ≠ r := by
  obtain ⟨D, ⟨es, c, hb, _⟩, _⟩ := h.map
  intro e
  subst e
  have := h.blk
  unfold Blk at this
  rw [hb] at this
  cases this
theorem Lay.mf_ne (h : Lay w r f m cap d) : m ≠ f := by
  obtain ⟨D, ⟨es, c, hb, _⟩, _⟩ := h.map
  obtain ⟨C, hC, _⟩ := h.row
  intro e
  subst e
  rw [hb] at hC
  cases hC
theorem Lay.mlt (h : Lay w r f m cap d) : m < w.heap.size := by
  obtain ⟨D, hD, _⟩ := h.map
  exact hD.lt
theorem Lay.keep (h : Lay w r f m cap d) (h1 : w'.heap[r]? = w.heap[r]?) (h2 : w'.heap[f]? = w.heap[f]?) (h3 : w'.heap[m]? = w.heap[m]?) : Lay w' r f m cap d := by
  obtain ⟨D, ⟨es, c, hb, e⟩, hM⟩ := h.map
  exact ⟨h1.trans h.blk, h.row.same h2, ⟨D, ⟨es, c, h3.trans hb, e⟩, hM⟩, h.one, h.top, h.low, h.arm⟩
/-- A disk stays what it is where its blocks are not touched. -/
theorem Lay.fr {X : Nat → Prop} (h : Lay w r f m cap d) (hf : Fr X w w') (hX : ∀ k, X k → ¬ fp r f m k) : Lay w' r f m cap d :=
  h.keep (hf.block r h.blk.lt (fun hx => hX r hx (.inl rfl))) (hf.block f h.row.lt (fun hx => hX f hx (.inr (.inl rfl)))) (hf.block m h.mlt (fun hx => hX m hx (.inr (.inr rfl))))
theorem Lay.next (h : Lay w r f m cap d) (hb : Below w.heap.size w w') : Lay w' r f m cap d :=
  h.fr (X := fun _ => False) (Fr.of_below hb (Nat.le_refl _)) (fun _ hx => hx.elim)
theorem Lay.alloc (h : Lay w r f m cap d) (o : Obj) : Lay (w.alloc o) r f m cap d := h.next ((Below.refl _ w).alloc (Nat.le_refl _) o)
theorem Lay.drew (h : Lay w r f m cap d) : Lay w.drew r f m cap d := h.keep rfl rfl rfl
/-- A field is written. -/
theorem Lay.put (h : Lay w r f m cap d) (j : Nat) (u : Value) (d' : St) (hd : (dc f m cap d).set j u = dc f m cap d') (hn : d'.n = d.n) (hl : d'.lasts = d.lasts) (hw : d'.waits = d.waits) (hc : d.writes ≤ d'.writes) (ha : d'.armed < 9223372036854775808) :
    Lay (w.setCell ⟨r, j, none⟩ u) r f m cap d' := by
  obtain ⟨D, hD, hM⟩ := h.map
  refine ⟨hd ▸ h.blk.set j u, ?_, ⟨D, (hD.setCell h.mr_ne u).mono hc, by rw [hw]; exact hM⟩, by rw [hn]; exact h.one, by rw [hn]; exact h.top, by rw [hn, hw]; exact h.low, ha⟩
  rw [hn, hl]
  exact h.row.same (heap_setCell_other _ _ _ _ h.fr_ne)
theorem fp_r (r f m : Nat) : fp r f m r := .inl rfl
theorem fp_f (r f m : Nat) : fp r f m f := .inr (.inl rfl)
theorem fp_m (r f m : Nat) : fp r f m m := .inr (.inr rfl)
end

/-! ### what happens to a disk, as mathematics -/
/-- The power's count: the state behind an operation, and the error. -/
def St.op (d : St) : St × Int := if d.armed = 0 then (d, 0) else if d.armed = 1 then ({ d with off := true, armed := 0 }, 6) else ({ d with armed := d.armed - 1 }, 0)
def St.goOff (d : St) : St := { d with off := true, armed := 0 }
def St.gone (d : St) : St := { d with waits := fun _ => none }
def St.out (d : St) : Int := if d.off then 6 else 0
def St.no (d : St) (i : Int) : Int := if d.off then 6 else if i < 0 ∨ (d.n : Int) ≤ i then 2 else 0

section
variable (w : World) (r f m cap : Nat) (d : St)
theorem outage_nil : Calls Tryz.prog 110 #[.pointer none] w fun e w' => e = .returned (.int .i64 1) ∧ w = w' := by
  go_enter Tryz.func110, Tryz.ntmps110
  go_wp2
  go_ret
  exact ⟨rfl, rfl⟩
theorem outage_any (h : Lay w r f m cap d) : Calls Tryz.prog 110 #[.pointer (some ⟨r, 0, none⟩)] w fun e w' => e = .returned (.int .i64 d.out) ∧ w = w' := by
  have c5 := h.c5
  unfold St.out
  obtain ⟨b, hb⟩ : ∃ b, b = d.off := ⟨_, rfl⟩
  rw [← hb] at c5 ⊢
  clear hb h
  cases b
  all_goals
    go_enter Tryz.func110, Tryz.ntmps110
    go_wp2
    go_ret
    exact ⟨rfl, rfl⟩
theorem refusal_nil (i : Int) : Calls Tryz.prog 100 #[.pointer none, .int .i64 i] w fun e w' => e = .returned (.int .i64 1) ∧ w = w' := by
  go_enter Tryz.func100, Tryz.ntmps100
  go_wp2_with (go_at_call 110; refine (outage_nil _).mono ?_; rintro e w' ⟨rfl, rfl⟩)
  go_ret
  exact ⟨rfl, rfl⟩
theorem refusal_any (h : Lay w r f m cap d) (i : Int) : Calls Tryz.prog 100 #[.pointer (some ⟨r, 0, none⟩), .int .i64 i] w fun e w' => e = .returned (.int .i64 (d.no i)) ∧ w = w' := by
  have c0 := h.c0
  have ho := outage_any w r f m cap d h
  unfold St.no
  unfold St.out at ho
  cases hoff : d.off
  · rw [hoff] at ho
    simp only [Bool.false_eq_true, if_false] at ho ⊢
    by_cases h1 : i < 0
    · rw [if_pos (Or.inl h1)]
      go_enter Tryz.func100, Tryz.ntmps100
      go_wp2_with (go_at_call 110; refine ho.mono ?_; rintro e w' ⟨rfl, rfl⟩)
      go_ret
      exact ⟨rfl, rfl⟩
    · by_cases h2 : (d.n : Int) ≤ i
      · rw [if_pos (Or.inr h2)]
        go_enter Tryz.func100, Tryz.ntmps100
        go_wp2_with (go_at_call 110; refine ho.mono ?_; rintro e w' ⟨rfl, rfl⟩)
        go_ret
        exact ⟨rfl, rfl⟩
      · rw [if_neg (by omega)]
        go_enter Tryz.func100, Tryz.ntmps100
        go_wp2_with (go_at_call 110; refine ho.mono ?_; rintro e w' ⟨rfl, rfl⟩)
        go_ret
        exact ⟨rfl, rfl⟩
  · rw [hoff] at ho
    simp only [if_true] at ho ⊢
    go_enter Tryz.func100, Tryz.ntmps100
    go_wp2_with (go_at_call 110; refine ho.mono ?_; rintro e w' ⟨rfl, rfl⟩)
    go_ret
    exact ⟨rfl, rfl⟩
theorem size_nil : Calls Tryz.prog 58 #[.pointer none] w fun e w' => e = .returned (.int .i64 0) ∧ w = w' := by
  go_enter Tryz.func58, Tryz.ntmps58
  go_wp2
  go_ret
  exact ⟨rfl, rfl⟩
theorem size_any (h : Lay w r f m cap d) : Calls Tryz.prog 58 #[.pointer (some ⟨r, 0, none⟩)] w fun e w' => e = .returned (.int .i64 d.n) ∧ w = w' := by
  have c0 := h.c0
  go_enter Tryz.func58, Tryz.ntmps58
  go_wp2
  go_ret
  exact ⟨rfl, rfl⟩
theorem off_nil : Calls Tryz.prog 41 #[.pointer none] w fun e w' => e = .returned (.tuple #[]) ∧ w = w' := by
  go_enter Tryz.func41, Tryz.ntmps41
  go_wp2
  refine bodyPost_ret (results_none rfl _ _ _) rfl ?_
  exact ⟨rfl, rfl⟩
theorem off_any (h : Lay w r f m cap d) : Calls Tryz.prog 41 #[.pointer (some ⟨r, 0, none⟩)] w fun e w' => e = .returned (.tuple #[]) ∧ Lay w' r f m cap d.goOff ∧ Fr (fp r f m) w w' ∧ w'.heap.size = w.heap.size := by
  have c5 := h.c5
  have c4 := h.c4
  have f4 := h.fz 4
  have f5 := h.fz 5
  have h1 := (h.put 5 (.bool true) { d with off := true } rfl rfl rfl rfl (Nat.le_refl _) h.arm).put 4 (.int .i64 0) d.goOff rfl rfl rfl rfl (Nat.le_refl _) (by simp [St.goOff])
  have h2 := ((Fr.refl (fp r f m) w).setCell ⟨r, 5, none⟩ (.bool true) (.inl (fp_r r f m))).setCell ⟨r, 4, none⟩ (.int .i64 0) (.inl (fp_r r f m))
  go_enter Tryz.func41, Tryz.ntmps41
  go_wp2
  go_end0
  exact ⟨rfl, h1, h2, by simp⟩
theorem arm_nil (n : Int) : Calls Tryz.prog 26 #[.pointer none, .int .i64 n] w fun e w' => e = .returned (.int .i64 1) ∧ w = w' := by
  go_enter Tryz.func26, Tryz.ntmps26
  go_wp2
  go_ret
  exact ⟨rfl, rfl⟩
theorem arm_bad (n : Int) (hn : n < 0) : Calls Tryz.prog 26 #[.pointer (some ⟨r, 0, none⟩), .int .i64 n] w fun e w' => e = .returned (.int .i64 2) ∧ w = w' := by
  go_enter Tryz.func26, Tryz.ntmps26
  go_wp2
  go_ret
  exact ⟨rfl, rfl⟩
theorem arm_any (h : Lay w r f m cap d) (n : Nat) (hn : n < 9223372036854775808) : Calls Tryz.prog 26 #[.pointer (some ⟨r, 0, none⟩), .int .i64 n] w fun e w' => e = .returned (.int .i64 0) ∧ Lay w' r f m cap { d with armed := n } ∧ Fr (fp r f m) w w' ∧ w'.heap.size = w.heap.size := by
  have c4 := h.c4
  have f4 := h.fz 4
  have hnn : ¬ (n : Int) < 0 := by omega
  have h1 := h.put 4 (.int .i64 n) { d with armed := n } rfl rfl rfl rfl (Nat.le_refl _) hn
  have h2 := (Fr.refl (fp r f m) w).setCell ⟨r, 4, none⟩ (.int .i64 n) (.inl (fp_r r f m))
  go_enter Tryz.func26, Tryz.ntmps26
  go_wp2
  go_ret
  exact ⟨rfl, h1, h2, by simp⟩
theorem operation_any (h : Lay w r f m cap d) : Calls Tryz.prog 111 #[.pointer (some ⟨r, 0, none⟩)] w fun e w' => e = .returned (.int .i64 d.op.2) ∧ Lay w' r f m cap d.op.1 ∧ Fr (fp r f m) w w' ∧ w'.heap.size = w.heap.size := by
  have c4 := h.c4
  have f4 := h.fz 4
  have ha := h.arm
  unfold St.op
  by_cases h0 : d.armed = 0
  · rw [if_pos h0]
    rw [h0] at c4
    go_enter Tryz.func111, Tryz.ntmps111
    go_wp2
    go_ret
    exact ⟨rfl, h, Fr.refl _ _, rfl⟩
  · rw [if_neg h0]
    by_cases h1 : d.armed = 1
    · rw [if_pos h1]
      rw [h1] at c4
      go_enter Tryz.func111, Tryz.ntmps111
      go_wp2_with (go_at_call 41; refine (off_any _ r f m cap d h).mono ?_; rintro e w' ⟨rfl, hL, hF, hS⟩)
      go_ret
      exact ⟨rfl, hL, hF, hS⟩
    · rw [if_neg h1]
      have hI0 : ¬ (d.armed : Int) = 0 := by omega
      have hI1 : ¬ (d.armed : Int) = 1 := by omega
      have hI2 : (d.armed : Int) - 1 = ((d.armed - 1 : Nat) : Int) := by omega
      have h3 := h.put 4 (.int .i64 ((d.armed - 1 : Nat) : Int)) { d with armed := d.armed - 1 } rfl rfl rfl rfl (Nat.le_refl _) (by show d.armed - 1 < _; omega)
      have h2 := (Fr.refl (fp r f m) w).setCell ⟨r, 4, none⟩ (.int .i64 ((d.armed - 1 : Nat) : Int)) (.inl (fp_r r f m))
      go_enter Tryz.func111, Tryz.ntmps111
      go_wp2
      go_ret
      exact ⟨rfl, h3, h2, by simp⟩
end
end Go.Proofs.YtndfhmlcfaaaiaaGreatDoor



/- Disks that are made, and what is told of them. -/
namespace Go.Proofs.YtndfhmlcfaaaiaaGreatDoor
open Go.RowKit

theorem info39 : (Tryz.prog.info? 26).map (fun i => (i.zero, i.size, i.bytes)) = some (some (sv zs), 512, 512) := by
  unfold sv sb zs
  kernel_rfl
/-- A disk of n sectors F on which nothing has been done. -/
def St.start (n : Nat) (F : Nat → Sec) : St := { n := n, lasts := F, waits := fun _ => none, off := false, armed := 0, writes := 0, flushes := 0 }

set_option maxHeartbeats 400000 in
theorem forget_any (w : World) (r f m cap : Nat) (d : St) (h : Lay w r f m cap d) : Calls Tryz.prog 60 #[.pointer (some ⟨r, 0, none⟩)] w fun e w' => e = .returned (.tuple #[]) ∧ ∃ m', w.heap.size ≤ m' ∧ Lay w' r f m' cap d.gone ∧ Fr (fp r f m) w w' := by
  have hmm := @run_makeMap Tryz.prog
  have hA := h.alloc (.map #[] 0)
  have f1 := hA.fz 1
  have c1 := hA.c1
  have hne : r ≠ w.heap.size := by have := h.blk.lt; omega
  have hnf : f ≠ w.heap.size := by have := h.row.lt; omega
  have h1 : Lay ((w.alloc (.map #[] 0)).setCell ⟨r, 1, none⟩ (.map (some w.heap.size))) r f w.heap.size cap d.gone := by
    refine ⟨hA.blk.set 1 (.map (some w.heap.size)), hA.row.same (heap_setCell_other _ _ _ _ hA.fr_ne), ⟨.map [], ?_, mp_empty⟩, h.one, h.top, fun _ _ => rfl, h.arm⟩
    exact ((World.ownsMap_made w Tryz.prog 3 secR).setCell (fun e => hne e.symm) _).mono (Nat.zero_le _)
  have h2 : Fr (fp r f m) w ((w.alloc (.map #[] 0)).setCell ⟨r, 1, none⟩ (.map (some w.heap.size))) := ((Fr.refl _ w).alloc _).setCell _ _ (.inl (fp_r r f m))
  go_enter Tryz.func60, Tryz.ntmps60
  go_wp2
  go_end0
  exact ⟨rfl, _, Nat.le_refl _, h1, h2⟩

theorem eql37 (a : Addr) (l c : Nat) (w : World) : (binOp .eql 24 (.slice (some a) l c) (.slice none 0 0)).run Tryz.prog w = .ok (.bool false) w := by
  simp [binOp, run_equal_slice_nil w 24 26 (some a) l c Tryz.underlying24, Result.andThen]
theorem may_any (n : Int) (w : World) : Calls Tryz.prog 31 #[.int .i64 n] w fun e w' => e = .returned (.bool (decide (1 ≤ n ∧ n ≤ 16384))) ∧ w = w' := by
  by_cases h1 : 1 ≤ n
  · by_cases h2 : n ≤ 16384
    · rw [decide_eq_true ⟨h1, h2⟩]
      go_enter Tryz.func31, Tryz.ntmps31
      go_wp2
      go_ret
      exact ⟨rfl, rfl⟩
    · rw [decide_eq_false (fun h => h2 h.2)]
      go_enter Tryz.func31, Tryz.ntmps31
      go_wp2
      go_ret
      exact ⟨rfl, rfl⟩
  · rw [decide_eq_false (fun h => h1 h.1)]
    go_enter Tryz.func31, Tryz.ntmps31
    go_wp2
    go_ret
    exact ⟨rfl, rfl⟩
set_option maxHeartbeats 400000 in
theorem over_any (w : World) (f n cap : Nat) (F : Nat → Sec) (h : Rw w f n F) (h1 : 1 ≤ n) (hn : n ≤ 16384) : Calls Tryz.prog 32 #[.slice (some ⟨f, 0, none⟩) n cap] w fun e w' => ∃ r m, e = .returned (.pointer (some ⟨r, 0, none⟩)) ∧ w.heap.size ≤ r ∧ w.heap.size ≤ m ∧ Lay w' r f m cap (St.start n F) ∧ Below w.heap.size w w' := by
  have hmm := @run_makeMap Tryz.prog
  have hL : Lay ((w.alloc (.map #[] 0)).alloc (.cells (dc f w.heap.size cap (St.start n F)).toArray 98)) (w.heap.size + 1) f w.heap.size cap (St.start n F) := by
    have hb := Blk.new (w.alloc (.map #[] 0)) 98 (dc f w.heap.size cap (St.start n F))
    rw [World.size_alloc] at hb
    exact ⟨hb, (h.same (heap_alloc_old w _ h.lt)).same (heap_alloc_old _ _ (by have := h.lt; simp; omega)), ⟨.map [], (World.ownsMap_made w Tryz.prog 3 secR).alloc _, mp_empty⟩, h1, hn, fun _ _ => rfl, by show (0 : Nat) < _; omega⟩
  have hB : Below w.heap.size w ((w.alloc (.map #[] 0)).alloc (.cells (dc f w.heap.size cap (St.start n F)).toArray 98)) := ((Below.refl _ w).alloc (Nat.le_refl _) _).alloc (by simp) _
  go_enter Tryz.func32, Tryz.ntmps32
  go_wp2
  go_ret
  exact ⟨w.heap.size + 1, w.heap.size, by simp, by omega, Nat.le_refl _, hL, hB⟩
theorem new_bad (n : Int) (w : World) (h : ¬ (1 ≤ n ∧ n ≤ 16384)) : Calls Tryz.prog 22 #[.int .i64 n] w fun e w' => e = .returned (.tuple #[.pointer none, .int .i64 2]) ∧ w = w' := by
  have hm := may_any n w
  rw [decide_eq_false h] at hm
  go_enter Tryz.func22, Tryz.ntmps22
  go_wp2_with (go_at_call 31; refine hm.mono ?_; rintro e w' ⟨rfl, rfl⟩)
  go_ret2
  exact ⟨rfl, rfl⟩
set_option maxRecDepth 100000 in
set_option maxHeartbeats 400000 in
theorem new_any (n : Nat) (w : World) (h1 : 1 ≤ n) (hn : n ≤ 16384) : Calls Tryz.prog 22 #[.int .i64 n] w fun e w' => ∃ r f m cap, e = .returned (.tuple #[.pointer (some ⟨r, 0, none⟩), .int .i64 0]) ∧ w.heap.size ≤ r ∧ w.heap.size ≤ f ∧ w.heap.size ≤ m ∧ Lay w' r f m cap (St.start n (fun _ => zs)) ∧ Below w.heap.size w w' := by
  obtain ⟨i0, hi, hz0, hz1, hz2⟩ := info_parts info39
  have hm := may_any n w
  rw [decide_eq_true (show 1 ≤ (n : Int) ∧ (n : Int) ≤ 16384 by omega)] at hm
  have hmade := made_flat n
  have hzc : (sv zs).cells = (sb zs).toArray := rfl
  rw [← hzc] at hmade
  have HM : Hid ((madeCells (sv zs).cells (n * 512)).toList = flat n (fun _ => zs)) := hmade
  clear hmade hzc
  obtain ⟨zv, hzv⟩ : ∃ z, z = sv zs := ⟨_, rfl⟩
  rw [← hzv] at hz0 HM
  clear hzv
  go_enter Tryz.func22, Tryz.ntmps22
  go_wp2_with (first
    | (go_at_call 31; refine hm.mono ?_; rintro e w' ⟨rfl, rfl⟩)
    | (at_make; refine wpList_make_full _ rfl _ _ 24 rfl w.heap.size 26 i0 zv 512 Tryz.underlying24 hi hz0 hz1 .i64 .i64 n n n rfl rfl rfl rfl (by rw [hz2]; omega) (by unfold maxLen; omega) (Nat.le_refl _) ?_; intro w1 hown hgr))
  rw [HM.out] at hown
  obtain ⟨_, hv | ⟨g, cap, cur, hv, hgb, hh, hc1, hc2, hc3, ht⟩⟩ := hown
  · cases hv.1
  · cases hv
    have hR : Rw w1 w.heap.size n (fun _ => zs) := rw_of_flat hh ht
    have hB : Below w.heap.size w w1 := (Below.refl _ w).grown hgr (Nat.le_refl _) (by intro k hk; cases hk)
    go_wp2_with (go_at_call 32; refine (over_any w1 w.heap.size n n _ hR h1 hn).mono ?_; rintro e w2 ⟨r, m, rfl, hr, hm2, hL, hB2⟩)
    go_ret2
    have := hB.size
    exact ⟨r, w.heap.size, m, n, rfl, by omega, Nat.le_refl _, by omega, hL, hB.trans (hB2.mono this)⟩
end Go.Proofs.YtndfhmlcfaaaiaaGreatDoor


/- A sector read. -/
namespace Go.Proofs.YtndfhmlcfaaaiaaGreatDoor
open Go.RowKit

section
variable {w : World} {ops : Array Oper} {rest : List Oper} {o : Oper} {a : Act} {Q : Exit → Act → World → Prop}
/-- 's, ok := m[i]'. -/
theorem look_sec (hg : o.guard = none) (m x : Operand) (hop : o.op = Op.lookup 96 m x true) (b n : Nat) (D : DataW Sec) (W : Nat → Option Sec) (hown : w.ownsMap Tryz.prog 3 secR b n D) (hM : Mp D W)
    (hm : a.eval m = .map (some b)) (i : Int) (hx : a.eval x = .int .i64 i) (hwf : (Lit.int .i64 i).wf = true) (s : Sec) (hs : (wl W (.int .i64 i)).getD zs = s) (c : Bool) (hc : (wl W (.int .i64 i)).isSome = c)
    (h : wpList Tryz.prog ops Q rest (a.put o.dst (.tuple #[.agg (sb s).toArray, .bool c])) w) : wpList Tryz.prog ops Q (o :: rest) a w := by
  refine wpList_lookup_own_ok w hg m x 96 hop 3 26 law3 Tryz.underlying96 secR (zero39 w) _ _ (secR_mk zs) b n D hm hown _ _ hx (Maps.keyOf_int_mk Tryz.underlying3 hwf) ?_
  intro v ps hv
  obtain ⟨t, rfl, hz⟩ := secR_inv hv
  have h1 := hM.2 (.int .i64 i) (.held zs)
  rw [hM.has, hc]
  have h2 : t = s := by
    rw [h1] at hz
    cases hw : wl W (.int .i64 i) with
    | none => rw [hw] at hz hs; cases hz; exact hs
    | some u => rw [hw] at hz hs; cases hz; exact hs
  subst h2
  exact h
/-- 'api.Sector{}'. -/
theorem build_zero (hgd : o.guard = none) (ho : o.op = .build 26 #[]) (h : wpList Tryz.prog ops Q rest (a.put o.dst (.agg (sb zs).toArray)) w) : wpList Tryz.prog ops Q (o :: rest) a w := by
  have hb : Tryz.prog.built 26 ((#[] : Array (Nat × Operand)).map fun (i, x) => (i, a.eval x)).toList = some (sb zs).toArray := by
    unfold sb zs
    kernel_rfl
  exact wpList_build hgd 26 _ ho (by rw [hb]; rfl) (by rw [hb]; exact h)
end
/-- A sector and an error's number are handed back. -/
theorem ret_sec {fn : Func} {p u : Tmp} (h : fn.results = #[.cell p 26, .tmp u]) (tmps : Array Value) (w : World) (g : Nat) (s : Sec) (h2 : tmps.getD p undef = .pointer (some ⟨g, 0, none⟩)) (hB : Blk w g 26 (sb s)) :
    (results fn tmps).run Tryz.prog w = .ok (.tuple #[.agg (sb s).toArray, tmps.getD u undef]) w := by
  have hp' : tmps[p]?.getD undef = .pointer (some ⟨g, 0, none⟩) := by simpa using h2
  simp [results, h, hp', asAddr, run_loadVar_row w g 26 26 (sb s).toArray (0, 0) _ hB Tryz.underlying26 rfl (by rw [List.size_toArray, sb_length]; kernel_rfl)]

def St.at (d : St) (i : Nat) : Sec := (d.waits i).getD (d.lasts i)

set_option maxRecDepth 100000 in
set_option maxHeartbeats 400000 in
theorem read_nil (w : World) (i : Int) : Calls Tryz.prog 74 #[.pointer none, .int .i64 i] w fun e w' => e = .returned (.tuple #[.agg (sb zs).toArray, .int .i64 1]) ∧ Below w.heap.size w w' := by
  have hz := zero39
  have hA := Blk.new w 26 (sb zs)
  go_enter Tryz.func74, Tryz.ntmps74
  go_wp2_with (first | (go_at_call 100; refine (refusal_nil _ _).mono ?_; rintro e w' ⟨rfl, rfl⟩) | (refine build_zero rfl rfl ?_) | (refine store_sec rfl _ _ rfl w.heap.size zs zs hA rfl rfl ?_; intro hA1))
  refine bodyPost_ret (ret_sec rfl _ _ w.heap.size zs rfl hA1) rfl ⟨rfl, ?_⟩
  exact (Fr.below (X := fun k => k = w.heap.size) ((((Fr.refl _ w).alloc _)).setRow _ _ (.inr (Nat.le_refl _))) (fun k e => by omega) (Nat.le_refl _))
set_option maxRecDepth 100000 in
set_option maxHeartbeats 400000 in
theorem read_bad (w : World) (r f m cap : Nat) (d : St) (h : Lay w r f m cap d) (i E : Int) (hE : d.no i = E) (h0 : E ≠ 0) : Calls Tryz.prog 74 #[.pointer (some ⟨r, 0, none⟩), .int .i64 i] w fun e w' => e = .returned (.tuple #[.agg (sb zs).toArray, .int .i64 E]) ∧ Below w.heap.size w w' := by
  have hz := zero39
  have hA := Blk.new w 26 (sb zs)
  have hr := refusal_any _ r f m cap d (h.alloc (.cells (sb zs).toArray 26)) i
  rw [hE] at hr
  have h0b : (E == 0) = false := by simp [h0]
  go_enter Tryz.func74, Tryz.ntmps74
  go_wp2_with (first | (go_at_call 100; refine hr.mono ?_; rintro e w' ⟨rfl, rfl⟩) | (refine build_zero rfl rfl ?_) | (refine store_sec rfl _ _ rfl w.heap.size zs zs hA rfl rfl ?_; intro hA1))
  refine bodyPost_ret (ret_sec rfl _ _ w.heap.size zs rfl hA1) rfl ⟨rfl, ?_⟩
  exact (Fr.below (X := fun k => k = w.heap.size) ((((Fr.refl _ w).alloc _)).setRow _ _ (.inr (Nat.le_refl _))) (fun k e => by omega) (Nat.le_refl _))
theorem wf64 (i : Int) (h0 : 0 ≤ i) (h1 : i < 9223372036854775808) : (Lit.int .i64 i).wf = true := WalkArith.wf_i64 (by omega)
set_option maxRecDepth 100000 in
set_option maxHeartbeats 1000000 in
theorem read_good (w : World) (r f m cap : Nat) (d : St) (h : Lay w r f m cap d) (i : Nat) (hoff : d.off = false) (hi : i < d.n) : Calls Tryz.prog 74 #[.pointer (some ⟨r, 0, none⟩), .int .i64 i] w fun e w' => e = .returned (.tuple #[.agg (sb (d.at i)).toArray, .int .i64 0]) ∧ Below w.heap.size w w' := by
  have hz := zero39
  have hA := Blk.new w 26 (sb zs)
  have hno : d.no i = 0 := by unfold St.no; rw [hoff]; simp; omega
  have hL := h.alloc (.cells (sb zs).toArray 26)
  have hr := refusal_any _ r f m cap d hL i
  rw [hno] at hr
  have c1 := hL.c1
  have htop := h.top
  have hwf := wf64 i (by omega) (by omega)
  obtain ⟨D, hD, hM⟩ := hL.map
  have hwl : wl d.waits (.int .i64 (i : Int)) = d.waits i := wl_ky d.waits i
  have hB0 := Blk.new (w.alloc (.cells (sb zs).toArray 26)) 26 (sb zs)
  have hA0 := hA.alloc (.cells (sb zs).toArray 26)
  rw [World.size_alloc] at hB0
  have hne : w.heap.size ≠ w.heap.size + 1 := by omega
  cases hw : d.waits i with
  | some s =>
    have hat : d.at i = s := by unfold St.at; rw [hw]; rfl
    rw [hat]
    go_enter Tryz.func74, Tryz.ntmps74
    go_wp2_with (first
      | (go_at_call 100; refine hr.mono ?_; rintro e w' ⟨rfl, rfl⟩) | (at_lookup; refine look_sec rfl _ _ rfl m _ D d.waits hD hM rfl i rfl hwf s (by rw [hwl, hw]; rfl) true (by rw [hwl, hw]; rfl) ?_)
      | (refine store_sec rfl _ _ rfl (w.heap.size + 1) zs s hB0 rfl rfl ?_; intro hB1; have hA1 := hA0.fr (X := fun k => k = w.heap.size + 1) ((Fr.refl _ _).setRow (w.heap.size + 1) (sb s).toArray (.inl rfl)) hne)
      | (refine load_sec rfl _ rfl (w.heap.size + 1) s hB1 rfl ?_)
      | (refine store_sec rfl _ _ rfl w.heap.size zs s hA1 rfl rfl ?_; intro hA2))
    refine bodyPost_ret (ret_sec rfl _ _ w.heap.size s rfl hA2) rfl ⟨rfl, ?_⟩
    exact Fr.below (X := fun k => w.heap.size ≤ k) ((((((Fr.refl _ w).alloc _)).alloc _).setRow _ _ (.inr (by omega))).setRow _ _ (.inr (Nat.le_refl _))) (fun k e => e) (Nat.le_refl _)
  | none =>
    have hat : d.at i = d.lasts i := by unfold St.at; rw [hw]; rfl
    rw [hat]
    have hrow := (hL.row.same (heap_alloc_old _ (.cells (sb zs).toArray 26) hL.row.lt)).range hi
    have c0 := (hL.alloc (.cells (sb zs).toArray 26)).c0
    have hI : (i : Int) < d.n := by omega
    have hfA : ¬ f = w.heap.size + 1 := by have := h.row.lt; omega
    have hrA : ¬ r = w.heap.size + 1 := by have := h.blk.lt; omega
    go_enter Tryz.func74, Tryz.ntmps74
    go_wp2_with (first
      | (go_at_call 100; refine hr.mono ?_; rintro e w' ⟨rfl, rfl⟩) | (at_lookup; refine look_sec rfl _ _ rfl m _ D d.waits hD hM rfl i rfl hwf zs (by rw [hwl, hw]; rfl) false (by rw [hwl, hw]; rfl) ?_)
      | (refine store_sec rfl _ _ rfl (w.heap.size + 1) zs zs hB0 rfl rfl ?_; intro hB1
         have hfr := (Fr.refl (fun k => k = w.heap.size + 1) ((w.alloc (.cells (sb zs).toArray 26)).alloc (.cells (sb zs).toArray 26))).setRow (w.heap.size + 1) (sb zs).toArray (.inl rfl)
         have hA1 := hA0.fr hfr hne
         have c0 := ((hL.alloc (.cells (sb zs).toArray 26)).blk.fr hfr hrA).cell 0 _ rfl
         have hrow := ((hL.row.same (heap_alloc_old _ (.cells (sb zs).toArray 26) hL.row.lt)).fr hfr hfA).range hi)
      | (refine wpList_load_mid rfl 26 _ rfl f (i * 512) rfl (sb (d.lasts i)) _ hrow Tryz.underlying26 rfl (by rw [sb_length]; kernel_rfl) ?_)
      | (refine store_sec rfl _ _ rfl w.heap.size zs (d.lasts i) hA1 rfl rfl ?_; intro hA2))
    refine bodyPost_ret (ret_sec rfl _ _ w.heap.size (d.lasts i) rfl hA2) rfl ⟨rfl, ?_⟩
    exact Fr.below (X := fun k => w.heap.size ≤ k) ((((((Fr.refl _ w).alloc _)).alloc _).setRow _ _ (.inr (by omega))).setRow _ _ (.inr (Nat.le_refl _))) (fun k e => e) (Nat.le_refl _)
end Go.Proofs.YtndfhmlcfaaaiaaGreatDoor


/- A sector written. -/
namespace Go.Proofs.YtndfhmlcfaaaiaaGreatDoor
open Go.RowKit

def St.more (d : St) : St := { d with writes := d.writes + 1 }
def St.write (d : St) (i : Nat) (s : Sec) : St := { d with writes := d.writes + 1, waits := upd d.waits i (some s) }
/-- What holds while a sector is put into the map. -/
structure WrS (v w : World) (r f m cap : Nat) (d : St) (n : Nat) (D : DataW Sec) (g : Nat) (s : Sec) : Prop where
  blk : Blk v r 98 (dc f m cap d)
  row : Rw v f d.n d.lasts
  map : v.ownsMap Tryz.prog 3 secR m n D
  sec : Blk v g 26 (sb s)
  fr : Fr (fp r f m) w v
theorem WrS.drew {v w : World} {r f m cap : Nat} {d : St} {n : Nat} {D : DataW Sec} {g : Nat} {s : Sec} (h : WrS v w r f m cap d n D g s) : WrS v.drew w r f m cap d n D g s := ⟨h.blk, h.row, h.map, h.sec, h.fr.drew⟩
theorem WrS.c1 {v w : World} {r f m cap : Nat} {d : St} {n : Nat} {D : DataW Sec} {g : Nat} {s : Sec} (h : WrS v w r f m cap d n D g s) : v.cell? ⟨r, 1, none⟩ = some (.map (some m)) := h.blk.cell 1 _ rfl
theorem WrS.whole {v w : World} {r f m cap : Nat} {d : St} {n : Nat} {D : DataW Sec} {g : Nat} {s : Sec} (h : WrS v w r f m cap d n D g s) : v.rangeAt g 0 (sb s) := h.sec.whole
/-- 'm[i] = s'. -/
theorem put_sec {w : World} {o : Oper} {a : Act} {K : Act → World → Prop} {Q : Exit → Act → World → Prop} (m x y : Operand) (hop : o.op = Op.mapUpdate 96 m x y) (b n : Nat) (D : DataW Sec) (hown : w.ownsMap Tryz.prog 3 secR b n D) (hn : n < maxLen)
    (hm : a.eval m = .map (some b)) (i : Nat) (hi : i < 9223372036854775808) (hx : a.eval x = .int .i64 (i : Int)) (s : Sec) (hy : a.eval y = .agg (sb s).toArray)
    (h : ∀ w', w'.ownsMap Tryz.prog 3 secR b (n + 1) (D.put (ky i) (.held s)) → w.grownBy w' (some b) → K (a.put o.dst undef) w') : o.wp Tryz.prog a w K Q := by
  obtain ⟨w', hrun, r1, r2⟩ := hown.update law3 Tryz.underlying96 hn (kl := ky i) (Maps.keyOf_int_mk Tryz.underlying3 (wf64 i (by omega) (by omega))) (secR_mk s)
  unfold Oper.wp
  simp only [execOp, hop, hm, hx, hy]
  have hrun' : (Instr.mapUpdate 96 (.map (some b)) (.int .i64 (i : Int)) (.agg (sb s).toArray)).run Tryz.prog w = .ok () w' := hrun
  simp [hrun', Result.andThen]
  exact h w' r1 r2

set_option maxRecDepth 100000 in
theorem write_nil (w : World) (i : Int) (s : Sec) : Calls Tryz.prog 84 #[.pointer none, .int .i64 i, .agg (sb s).toArray] w fun e w' => e = .returned (.int .i64 1) ∧ Below w.heap.size w w' := by
  go_enter Tryz.func84, Tryz.ntmps84
  go_wp2_with (go_at_call 100; refine (refusal_nil _ _).mono ?_; rintro e w' ⟨rfl, rfl⟩)
  go_ret
  exact ⟨rfl, (Below.refl _ w).alloc (Nat.le_refl _) _⟩
set_option maxRecDepth 100000 in
theorem write_bad (w : World) (r f m cap : Nat) (d : St) (h : Lay w r f m cap d) (i E : Int) (s : Sec) (hE : d.no i = E) (h0 : E ≠ 0) : Calls Tryz.prog 84 #[.pointer (some ⟨r, 0, none⟩), .int .i64 i, .agg (sb s).toArray] w fun e w' => e = .returned (.int .i64 E) ∧ Below w.heap.size w w' := by
  have hr := refusal_any _ r f m cap d (h.alloc (.cells (sb s).toArray 26)) i
  rw [hE] at hr
  have h0b : (E == 0) = false := by simp [h0]
  go_enter Tryz.func84, Tryz.ntmps84
  go_wp2_with (go_at_call 100; refine hr.mono ?_; rintro e w' ⟨rfl, rfl⟩)
  go_ret
  exact ⟨rfl, (Below.refl _ w).alloc (Nat.le_refl _) _⟩
set_option maxRecDepth 100000 in
set_option maxHeartbeats 1000000 in
theorem write_good (w : World) (r f m cap : Nat) (d : St) (h : Lay w r f m cap d) (i : Nat) (s : Sec) (hoff : d.off = false) (hi : i < d.n) (hw : d.writes < 1000000000) :
    Calls Tryz.prog 84 #[.pointer (some ⟨r, 0, none⟩), .int .i64 i, .agg (sb s).toArray] w fun e w' => e = .returned (.int .i64 (d.write i s).op.2) ∧ Lay w' r f m cap (d.write i s).op.1 ∧ Fr (fp r f m) w w' := by
  have hno : d.no i = 0 := by unfold St.no; rw [hoff]; simp; omega
  have hL := h.alloc (.cells (sb s).toArray 26)
  have hr := refusal_any _ r f m cap d hL i
  rw [hno] at hr
  have hA := Blk.new w 26 (sb s)
  obtain ⟨G, hG⟩ : ∃ G, G = w.heap.size := ⟨_, rfl⟩
  have hGr : r ≠ G := by have := h.blk.lt; omega
  have hGm : ¬ m = G := by have := h.mlt; omega
  have htop := h.top
  obtain ⟨D, hD, hM⟩ := hL.map
  have c2 := hL.c2
  have f2 := hL.fz 2
  have hwI : (d.writes : Int) + 1 = ((d.writes + 1 : Nat) : Int) := by omega
  have HS : Hid (WrS ((w.alloc (.cells (sb s).toArray 26)).setCell ⟨r, 2, none⟩ (.int .i64 ((d.writes + 1 : Nat) : Int))) w r f m cap d.more d.writes D G s) := by
    refine ⟨hL.blk.set 2 _, hL.row.same (heap_setCell_other _ _ _ _ hL.fr_ne), hD.setCell hL.mr_ne _, ?_, (((Fr.refl _ w).alloc _).setCell _ _ (.inl (fp_r r f m)))⟩
    rw [hG]
    exact hA.beside (a := ⟨r, 2, none⟩) _ (by rw [← hG]; exact fun e => hGr e.symm)
  obtain ⟨W1, hW1⟩ : ∃ W, W = d.writes + 1 := ⟨_, rfl⟩
  rw [← hW1] at hwI HS
  have hwb : (d.writes : Int) < 1000000000 := by omega
  have hwr1 : IntKind.i64.wrap ((d.writes : Int) + 1) = (W1 : Int) := by rw [IntKind.wrap_i64]; omega
  have hwr2 : IntKind.i64.wrap (W1 : Int) = (W1 : Int) := by rw [IntKind.wrap_i64]; omega
  have HW1 : Hid (W1 = d.writes + 1) := hW1
  clear hW1
  go_enter Tryz.func84, Tryz.ntmps84
  go_wp2_with (go_at_call 100; refine hr.mono ?_; rintro e w' ⟨rfl, rfl⟩)
  have hS := HS.out
  rw [← hG]
  refine wp_region_to (fun v => WrS v w r f m cap (St.more d) d.writes D G s) 6 (by kernel_rfl) ?_
  have hS0 := hS.drew
  refine wpTo_take (i := 0) (v := ?v0) (show _ = some _ by simp only [List.getElem?_toArray, List.getElem?_cons_zero]; exact rfl) (by kernel_rfl) (by kernel_rfl) (by kernel_rfl) (by kernel_rfl) (by exact fun _ _ _ h => h) (Or.inl ⟨by rfl, ?hy0⟩) hS0 ?r0
  case hy0 => (intro w hSw; (try dsimp only at hSw); go_simp; try with_reducible rfl)
  (try simp only [Act.put]); (try simp only [List.setIfInBounds_toArray]); (repeat (first | simp only [List.set_cons_succ] | simp only [List.set_cons_zero]))
  refine wpTo_take (i := 1) (v := ?v1) (show _ = some _ by simp only [List.getElem?_toArray, List.getElem?_cons_succ, List.getElem?_cons_zero]; exact rfl) (by kernel_rfl) (by kernel_rfl) (by kernel_rfl) (by kernel_rfl) (by exact fun _ _ _ h => h) (Or.inl ⟨by rfl, ?hy1⟩) hS0 ?r1
  case hy1 => (intro w hSw; (try dsimp only at hSw); go_simp; try with_reducible rfl)
  (try simp only [Act.put]); (try simp only [List.setIfInBounds_toArray]); (repeat (first | simp only [List.set_cons_succ] | simp only [List.set_cons_zero]))
  refine wpTo_take (i := 2) (v := ?v2) (show _ = some _ by simp only [List.getElem?_toArray, List.getElem?_cons_succ, List.getElem?_cons_zero]; exact rfl) (by kernel_rfl) (by kernel_rfl) (by kernel_rfl) (by kernel_rfl) (by exact fun _ _ _ h => h) (Or.inl ⟨by rfl, ?hy2⟩) hS0 ?r2
  case hy2 => (intro w hSw; (try dsimp only at hSw); go_simp; try with_reducible rfl)
  (try simp only [Act.put]); (try simp only [List.setIfInBounds_toArray]); (repeat (first | simp only [List.set_cons_succ] | simp only [List.set_cons_zero]))
  refine wpTo_take (i := 4) (v := ?v4) (show _ = some _ by simp only [List.getElem?_toArray, List.getElem?_cons_succ, List.getElem?_cons_zero]; exact rfl) (by kernel_rfl) (by kernel_rfl) (by kernel_rfl) (by kernel_rfl) (by exact fun _ _ _ h => h) (Or.inl ⟨by rfl, ?hy4⟩) hS0 ?r4
  case hy4 => (intro w hSw; (try dsimp only at hSw); go_simp; try with_reducible rfl)
  (try simp only [Act.put]); (try simp only [List.setIfInBounds_toArray]); (repeat (first | simp only [List.set_cons_succ] | simp only [List.set_cons_zero]))
  refine wpTo_take (i := 3) (v := ?v3) (show _ = some _ by simp only [List.getElem?_toArray, List.getElem?_cons_succ, List.getElem?_cons_zero]; exact rfl) (by kernel_rfl) (by kernel_rfl) (by kernel_rfl) (by kernel_rfl) (by exact fun _ _ _ h => h) (Or.inl ⟨by rfl, ?hy3⟩) hS0 ?r3
  case hy3 => (intro w hSw; (try dsimp only at hSw); have hcc := WrS.c1 hSw; go_simp; try with_reducible rfl)
  (try simp only [Act.put]); (try simp only [List.setIfInBounds_toArray]); (repeat (first | simp only [List.set_cons_succ] | simp only [List.set_cons_zero]))
  refine wpTo_take (i := 5) (show _ = some _ by simp only [List.getElem?_toArray, List.getElem?_cons_succ, List.getElem?_cons_zero]; exact rfl) (by kernel_rfl) (by kernel_rfl) (by kernel_rfl) (by kernel_rfl) (by exact fun _ _ _ h => h) (yieldsIf_load_mid (by rfl) 26 (.tmp 5) rfl G 0 rfl (sb s) _ (fun v h => WrS.whole h) Tryz.underlying26 rfl (by rw [sb_length]; kernel_rfl)) hS0 ?_
  (try simp only [Act.put]); (try simp only [List.setIfInBounds_toArray]); (repeat (first | simp only [List.set_cons_succ] | simp only [List.set_cons_zero]))
  refine wpTo_last (by kernel_rfl) (show _ = some _ by simp only [List.getElem?_toArray, List.getElem?_cons_succ, List.getElem?_cons_zero]; exact rfl) (by kernel_rfl) (fun K hK => ?_)
  rw [if_pos (by rfl)]
  refine put_sec _ _ _ rfl m d.writes D hS0.map (by unfold maxLen; omega) rfl i (by omega) rfl s rfl (fun w' hD' hg' => ?_)
  refine hK.out _ _ ?_
  clear hK K
  (try simp only [Act.put]); (try simp only [List.setIfInBounds_toArray]); (repeat (first | simp only [List.set_cons_succ] | simp only [List.set_cons_zero]))
  have hmr : m ≠ r := hL.mr_ne
  have hmf : m ≠ f := hL.mf_ne
  have hL2 : Lay w' r f m cap (d.write i s) := by
    refine ⟨(hg'.block r hS0.blk.lt (fun e => hmr (Option.some.inj e).symm)).trans hS0.blk, hS0.row.same (hg'.block f hS0.row.lt (fun e => hmf (Option.some.inj e).symm)), ⟨_, hD', hM.put i s⟩, h.one, h.top, fun j hj => ?_, h.arm⟩
    have hj2 : d.n ≤ j := hj
    have : j ≠ i := by omega
    show upd d.waits i (some s) j = none
    rw [upd_ne _ _ _ _ this]
    exact h.low j hj2
  have hF2 : Fr (fp r f m) w w' := hS0.fr.grown hg' (fun j e => by cases e; exact .inl (fp_m r f m))
  clear hS0 hS HS
  go_wp2_with (go_at_call 111; refine (operation_any _ r f m cap _ hL2).mono ?_; rintro e w2 ⟨rfl, hL3, hF3, hS3⟩)
  go_ret
  exact ⟨rfl, hL3, hF2.trans hF3 (fun _ _ h => h)⟩
end Go.Proofs.YtndfhmlcfaaaiaaGreatDoor

