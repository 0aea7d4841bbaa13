/- Disks that are made, and what is told of them. -/
import Derived.Test.YtndfhmlcfaaaiaaDoorState
import Derived.Maps.AppendAt
import Derived.Laws.Cover3
namespace Go.Proofs.YtndfhmlcfaaaiaaDoor
open Go.RowKit

theorem info39 : (Tryd.prog.info? 64).map (fun i => (i.zero, i.size, i.bytes)) = some (some (sv zs), 512, 512) := by
  unfold sv sb zs
  kernel_rfl
/-- A disk of n sectors F on which nothing has been done. -/
def St.start (n : Nat) (F : Nat → Sec) : St := { n := n, lasts := F, waits := fun _ => none, off := false, armed := 0, writes := 0, flushes := 0 }

set_option maxHeartbeats 400000 in
theorem forget_any (w : World) (r f m cap : Nat) (d : St) (h : Lay w r f m cap d) : Calls Tryd.prog 52 #[.pointer (some ⟨r, 0, none⟩)] w fun e w' => e = .returned (.tuple #[]) ∧ ∃ m', w.heap.size ≤ m' ∧ Lay w' r f m' cap d.gone ∧ Fr (fp r f m) w w' := by
  have hmm := @run_makeMap Tryd.prog
  have hA := h.alloc (.map #[] 0)
  have f1 := hA.fz 1
  have c1 := hA.c1
  have hne : r ≠ w.heap.size := by have := h.blk.lt; omega
  have hnf : f ≠ w.heap.size := by have := h.row.lt; omega
  have h1 : Lay ((w.alloc (.map #[] 0)).setCell ⟨r, 1, none⟩ (.map (some w.heap.size))) r f w.heap.size cap d.gone := by
    refine ⟨hA.blk.set 1 (.map (some w.heap.size)), hA.row.same (heap_setCell_other _ _ _ _ hA.fr_ne), ⟨.map [], ?_, mp_empty⟩, h.one, h.top, fun _ _ => rfl, h.arm⟩
    exact ((World.ownsMap_made w Tryd.prog 3 secR).setCell (fun e => hne e.symm) _).mono (Nat.zero_le _)
  have h2 : Fr (fp r f m) w ((w.alloc (.map #[] 0)).setCell ⟨r, 1, none⟩ (.map (some w.heap.size))) := ((Fr.refl _ w).alloc _).setCell _ _ (.inl (fp_r r f m))
  go_enter Tryd.func52, Tryd.ntmps52
  go_wp2
  go_end0
  exact ⟨rfl, _, Nat.le_refl _, h1, h2⟩

theorem eql37 (a : Addr) (l c : Nat) (w : World) : (binOp .eql 96 (.slice (some a) l c) (.slice none 0 0)).run Tryd.prog w = .ok (.bool false) w := by
  simp [binOp, run_equal_slice_nil w 96 64 (some a) l c Tryd.underlying96, Result.andThen]
theorem may_any (n : Int) (w : World) : Calls Tryd.prog 69 #[.int .i64 n] w fun e w' => e = .returned (.bool (decide (1 ≤ n ∧ n ≤ 16384))) ∧ w = w' := by
  by_cases h1 : 1 ≤ n
  · by_cases h2 : n ≤ 16384
    · rw [decide_eq_true ⟨h1, h2⟩]
      go_enter Tryd.func69, Tryd.ntmps69
      go_wp2
      go_ret
      exact ⟨rfl, rfl⟩
    · rw [decide_eq_false (fun h => h2 h.2)]
      go_enter Tryd.func69, Tryd.ntmps69
      go_wp2
      go_ret
      exact ⟨rfl, rfl⟩
  · rw [decide_eq_false (fun h => h1 h.1)]
    go_enter Tryd.func69, Tryd.ntmps69
    go_wp2
    go_ret
    exact ⟨rfl, rfl⟩
set_option maxHeartbeats 400000 in
theorem over_any (w : World) (f n cap : Nat) (F : Nat → Sec) (h : Rw w f n F) (h1 : 1 ≤ n) (hn : n ≤ 16384) : Calls Tryd.prog 70 #[.slice (some ⟨f, 0, none⟩) n cap] w fun e w' => ∃ r m, e = .returned (.pointer (some ⟨r, 0, none⟩)) ∧ w.heap.size ≤ r ∧ w.heap.size ≤ m ∧ Lay w' r f m cap (St.start n F) ∧ Below w.heap.size w w' := by
  have hmm := @run_makeMap Tryd.prog
  have hL : Lay ((w.alloc (.map #[] 0)).alloc (.cells (dc f w.heap.size cap (St.start n F)).toArray 99)) (w.heap.size + 1) f w.heap.size cap (St.start n F) := by
    have hb := Blk.new (w.alloc (.map #[] 0)) 99 (dc f w.heap.size cap (St.start n F))
    rw [World.size_alloc] at hb
    exact ⟨hb, (h.same (heap_alloc_old w _ h.lt)).same (heap_alloc_old _ _ (by have := h.lt; simp; omega)), ⟨.map [], (World.ownsMap_made w Tryd.prog 3 secR).alloc _, mp_empty⟩, h1, hn, fun _ _ => rfl, by show (0 : Nat) < _; omega⟩
  have hB : Below w.heap.size w ((w.alloc (.map #[] 0)).alloc (.cells (dc f w.heap.size cap (St.start n F)).toArray 99)) := ((Below.refl _ w).alloc (Nat.le_refl _) _).alloc (by simp) _
  go_enter Tryd.func70, Tryd.ntmps70
  go_wp2
  go_ret
  exact ⟨w.heap.size + 1, w.heap.size, by simp, by omega, Nat.le_refl _, hL, hB⟩
theorem new_bad (n : Int) (w : World) (h : ¬ (1 ≤ n ∧ n ≤ 16384)) : Calls Tryd.prog 47 #[.int .i64 n] w fun e w' => e = .returned (.tuple #[.pointer none, .int .i64 2]) ∧ w = w' := by
  have hm := may_any n w
  rw [decide_eq_false h] at hm
  go_enter Tryd.func47, Tryd.ntmps47
  go_wp2_with (go_at_call 69; refine hm.mono ?_; rintro e w' ⟨rfl, rfl⟩)
  go_ret2
  exact ⟨rfl, rfl⟩
set_option maxRecDepth 100000 in
set_option maxHeartbeats 400000 in
theorem new_any (n : Nat) (w : World) (h1 : 1 ≤ n) (hn : n ≤ 16384) : Calls Tryd.prog 47 #[.int .i64 n] w fun e w' => ∃ r f m cap, e = .returned (.tuple #[.pointer (some ⟨r, 0, none⟩), .int .i64 0]) ∧ w.heap.size ≤ r ∧ w.heap.size ≤ f ∧ w.heap.size ≤ m ∧ Lay w' r f m cap (St.start n (fun _ => zs)) ∧ Below w.heap.size w w' := by
  obtain ⟨i0, hi, hz0, hz1, hz2⟩ := info_parts info39
  have hm := may_any n w
  rw [decide_eq_true (show 1 ≤ (n : Int) ∧ (n : Int) ≤ 16384 by omega)] at hm
  have hmade := made_flat n
  have hzc : (sv zs).cells = (sb zs).toArray := rfl
  rw [← hzc] at hmade
  have HM : Hid ((madeCells (sv zs).cells (n * 512)).toList = flat n (fun _ => zs)) := hmade
  clear hmade hzc
  obtain ⟨zv, hzv⟩ : ∃ z, z = sv zs := ⟨_, rfl⟩
  rw [← hzv] at hz0 HM
  clear hzv
  go_enter Tryd.func47, Tryd.ntmps47
  go_wp2_with (first
    | (go_at_call 69; refine hm.mono ?_; rintro e w' ⟨rfl, rfl⟩)
    | (at_make; refine wpList_make_full _ rfl _ _ 96 rfl w.heap.size 64 i0 zv 512 Tryd.underlying96 hi hz0 hz1 .i64 .i64 n n n rfl rfl rfl rfl (by rw [hz2]; omega) (by unfold maxLen; omega) (Nat.le_refl _) ?_; intro w1 hown hgr))
  rw [HM.out] at hown
  obtain ⟨_, hv | ⟨g, cap, cur, hv, hgb, hh, hc1, hc2, hc3, ht⟩⟩ := hown
  · cases hv.1
  · cases hv
    have hR : Rw w1 w.heap.size n (fun _ => zs) := rw_of_flat hh ht
    have hB : Below w.heap.size w w1 := (Below.refl _ w).grown hgr (Nat.le_refl _) (by intro k hk; cases hk)
    go_wp2_with (go_at_call 70; refine (over_any w1 w.heap.size n n _ hR h1 hn).mono ?_; rintro e w2 ⟨r, m, rfl, hr, hm2, hL, hB2⟩)
    go_ret2
    have := hB.size
    exact ⟨r, w.heap.size, m, n, rfl, by omega, Nat.le_refl _, by omega, hL, hB.trans (hB2.mono this)⟩
end Go.Proofs.YtndfhmlcfaaaiaaDoor

