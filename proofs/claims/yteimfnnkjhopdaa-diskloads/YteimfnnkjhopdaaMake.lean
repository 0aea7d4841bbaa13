/- Disks that are made, and what is told of them. -/
import Derived.Test.YteimfnnkjhopdaaState
import Derived.Maps.AppendAt
import Derived.Laws.Cover3
namespace Go.Proofs.Yteimfnnkjhopdaa
open Go.RowKit

theorem info39 : (Try.prog.info? 39).map (fun i => (i.zero, i.size, i.bytes)) = some (some (sv zs), 512, 512) := by
  unfold sv sb zs
  kernel_rfl
/-- A disk of n sectors F on which nothing has been done. -/
def St.start (n : Nat) (F : Nat → Sec) : St := { n := n, lasts := F, waits := fun _ => none, off := false, armed := 0, writes := 0, flushes := 0 }

set_option maxHeartbeats 400000 in
theorem forget_any (w : World) (r f m cap : Nat) (d : St) (h : Lay w r f m cap d) : Calls Try.prog 42 #[.pointer (some ⟨r, 0, none⟩)] w fun e w' => e = .returned (.tuple #[]) ∧ ∃ m', w.heap.size ≤ m' ∧ Lay w' r f m' cap d.gone ∧ Fr (fp r f m) w w' := by
  have hmm := @run_makeMap Try.prog
  have hA := h.alloc (.map #[] 0)
  have f1 := hA.fz 1
  have c1 := hA.c1
  have hne : r ≠ w.heap.size := by have := h.blk.lt; omega
  have hnf : f ≠ w.heap.size := by have := h.row.lt; omega
  have h1 : Lay ((w.alloc (.map #[] 0)).setCell ⟨r, 1, none⟩ (.map (some w.heap.size))) r f w.heap.size cap d.gone := by
    refine ⟨hA.blk.set 1 (.map (some w.heap.size)), hA.row.same (heap_setCell_other _ _ _ _ hA.fr_ne), ⟨.map [], ?_, mp_empty⟩, h.one, h.top, fun _ _ => rfl, h.arm⟩
    exact ((World.ownsMap_made w Try.prog 3 secR).setCell (fun e => hne e.symm) _).mono (Nat.zero_le _)
  have h2 : Fr (fp r f m) w ((w.alloc (.map #[] 0)).setCell ⟨r, 1, none⟩ (.map (some w.heap.size))) := ((Fr.refl _ w).alloc _).setCell _ _ (.inl (fp_r r f m))
  go_enter Try.func42, Try.ntmps42
  go_wp2
  go_end0
  exact ⟨rfl, _, Nat.le_refl _, h1, h2⟩

theorem eql37 (a : Addr) (l c : Nat) (w : World) : (binOp .eql 37 (.slice (some a) l c) (.slice none 0 0)).run Try.prog w = .ok (.bool false) w := by
  simp [binOp, run_equal_slice_nil w 37 39 (some a) l c Try.underlying37, Result.andThen]
set_option maxRecDepth 100000 in
set_option maxHeartbeats 400000 in
/-- A row of sectors, copied. -/
theorem clone_any (w : World) (f n c : Nat) (F : Nat → Sec) (h : Rw w f n F) (h1 : 1 ≤ n) (hn : n ≤ 16384) : Calls Try.prog 41 #[.slice (some ⟨f, 0, none⟩) n c] w fun e w' => ∃ g cap, e = .returned (.slice (some ⟨g, 0, none⟩) n cap) ∧ w.heap.size ≤ g ∧ Rw w' g n F ∧ Below w.heap.size w w' := by
  obtain ⟨i0, hi, hz0, hz1, hz2⟩ := info_parts info39
  have hzc : (sv zs).cells.size = 512 := by show (sb zs).toArray.size = 512; rw [List.size_toArray, sb_length]
  have hown : (w.alloc (.cells #[] 39)).ownsRow w.heap.size 39 512 (.slice (some ⟨w.heap.size, 0, none⟩) 0 0) 0 [] := ⟨rfl, .inr ⟨w.heap.size, 0, #[], rfl, Nat.le_refl _, heap_alloc_new w _, Nat.le_refl _, Nat.zero_le _, rfl, rfl⟩⟩
  have hsrc : ∀ j u, (flat n F)[j]? = some u → (w.alloc (.cells #[] 39)).cell? ((⟨f, 0, none⟩ : Addr).add j) = some u := by
    intro j u hj
    have hjl := (List.getElem?_eq_some_iff.1 hj).1
    rw [flat_length] at hjl
    have e : j = (j / 512) * 512 + j % 512 := by omega
    rw [Addr.add_mid, Nat.zero_add, e]
    have h3 := flat_at F (j / 512) (j % 512) (by omega) n (by omega)
    rw [← e, hj] at h3
    have h4 : Rw (w.alloc (.cells #[] 39)) f n F := h.same (heap_alloc_old w _ h.lt)
    exact h4.range (by omega) (j % 512) u h3.symm
  have hB : Below w.heap.size w (w.alloc (.cells #[] 39)) := (Below.refl _ w).alloc (Nat.le_refl _) _
  have hfl := flat_length n F
  obtain ⟨L, hL⟩ : ∃ L, L = flat n F := ⟨_, rfl⟩
  rw [← hL] at hsrc hfl
  have h1L : ∀ u ∈ L, u.oneCell' = true := by rw [hL]; exact flat_one n F
  have HL : Hid (L = flat n F) := hL
  clear hL
  obtain ⟨zv, hzv⟩ : ∃ z, z = sv zs := ⟨_, rfl⟩
  rw [← hzv] at hz0 hzc
  clear hzv
  have heq := fun W => eql37 ⟨f, 0, none⟩ n c W
  go_enter Try.func41, Try.ntmps41
  go_wp2_with (at_builtin; refine wpList_append_own_at _ rfl _ _ 37 rfl w.heap.size 39 i0 zv 512 512 Try.underlying37 hi hz0 hz1 hz2 hzc (by decide) _ 0 [] rfl hown ⟨f, 0, none⟩ n c L rfl ?q1 hsrc h1L ?q3 ?q4 ?q5 ?_)
  case q1 => exact hfl
  case q3 => unfold maxLen; omega
  case q4 => omega
  case q5 => simp
  intro v' w' hv hg hnil hat
  go_wp2
  go_ret
  (try simp only [Nat.zero_add, List.nil_append] at hv)
  obtain ⟨hlen, hv | ⟨g, cap, cur, rfl, hgb, hh, hc1, hc2, hc3, ht⟩⟩ := hv
  · omega
  · refine ⟨g, cap, rfl, hgb, rw_of_flat hh (by rw [ht, HL.out]), hB.grown hg hB.size (fun k hk => ?_)⟩
    cases hk
    exact Nat.le_refl _

theorem sectors_nil (w : World) : Calls Try.prog 17 #[.pointer none] w fun e w' => e = .returned (.slice none 0 0) ∧ w = w' := by
  go_enter Try.func17, Try.ntmps17
  go_wp2
  go_ret
  exact ⟨rfl, rfl⟩
theorem sectors_any (w : World) (r f m cap : Nat) (d : St) (h : Lay w r f m cap d) : Calls Try.prog 17 #[.pointer (some ⟨r, 0, none⟩)] w fun e w' => ∃ g c, e = .returned (.slice (some ⟨g, 0, none⟩) d.n c) ∧ w.heap.size ≤ g ∧ Rw w' g d.n d.lasts ∧ Below w.heap.size w w' := by
  have c0 := h.c0
  go_enter Try.func17, Try.ntmps17
  go_wp2_with (go_at_call 41; refine (clone_any w f d.n cap d.lasts h.row h.one h.top).mono ?_; rintro e w' ⟨g, c, rfl, hg, hR, hB⟩)
  go_ret
  exact ⟨g, c, rfl, hg, hR, hB⟩
theorem may_any (n : Int) (w : World) : Calls Try.prog 31 #[.int .i64 n] w fun e w' => e = .returned (.bool (decide (1 ≤ n ∧ n ≤ 16384))) ∧ w = w' := by
  by_cases h1 : 1 ≤ n
  · by_cases h2 : n ≤ 16384
    · rw [decide_eq_true ⟨h1, h2⟩]
      go_enter Try.func31, Try.ntmps31
      go_wp2
      go_ret
      exact ⟨rfl, rfl⟩
    · rw [decide_eq_false (fun h => h2 h.2)]
      go_enter Try.func31, Try.ntmps31
      go_wp2
      go_ret
      exact ⟨rfl, rfl⟩
  · rw [decide_eq_false (fun h => h1 h.1)]
    go_enter Try.func31, Try.ntmps31
    go_wp2
    go_ret
    exact ⟨rfl, rfl⟩
set_option maxHeartbeats 400000 in
theorem over_any (w : World) (f n cap : Nat) (F : Nat → Sec) (h : Rw w f n F) (h1 : 1 ≤ n) (hn : n ≤ 16384) : Calls Try.prog 32 #[.slice (some ⟨f, 0, none⟩) n cap] w fun e w' => ∃ r m, e = .returned (.pointer (some ⟨r, 0, none⟩)) ∧ w.heap.size ≤ r ∧ w.heap.size ≤ m ∧ Lay w' r f m cap (St.start n F) ∧ Below w.heap.size w w' := by
  have hmm := @run_makeMap Try.prog
  have hL : Lay ((w.alloc (.map #[] 0)).alloc (.cells (dc f w.heap.size cap (St.start n F)).toArray 70)) (w.heap.size + 1) f w.heap.size cap (St.start n F) := by
    have hb := Blk.new (w.alloc (.map #[] 0)) 70 (dc f w.heap.size cap (St.start n F))
    rw [World.size_alloc] at hb
    exact ⟨hb, (h.same (heap_alloc_old w _ h.lt)).same (heap_alloc_old _ _ (by have := h.lt; simp; omega)), ⟨.map [], (World.ownsMap_made w Try.prog 3 secR).alloc _, mp_empty⟩, h1, hn, fun _ _ => rfl, by show (0 : Nat) < _; omega⟩
  have hB : Below w.heap.size w ((w.alloc (.map #[] 0)).alloc (.cells (dc f w.heap.size cap (St.start n F)).toArray 70)) := ((Below.refl _ w).alloc (Nat.le_refl _) _).alloc (by simp) _
  go_enter Try.func32, Try.ntmps32
  go_wp2
  go_ret
  exact ⟨w.heap.size + 1, w.heap.size, by simp, by omega, Nat.le_refl _, hL, hB⟩
theorem new_bad (n : Int) (w : World) (h : ¬ (1 ≤ n ∧ n ≤ 16384)) : Calls Try.prog 10 #[.int .i64 n] w fun e w' => e = .returned (.tuple #[.pointer none, .int .i64 2]) ∧ w = w' := by
  have hm := may_any n w
  rw [decide_eq_false h] at hm
  go_enter Try.func10, Try.ntmps10
  go_wp2_with (go_at_call 31; refine hm.mono ?_; rintro e w' ⟨rfl, rfl⟩)
  go_ret2
  exact ⟨rfl, rfl⟩
set_option maxRecDepth 100000 in
set_option maxHeartbeats 400000 in
theorem new_any (n : Nat) (w : World) (h1 : 1 ≤ n) (hn : n ≤ 16384) : Calls Try.prog 10 #[.int .i64 n] w fun e w' => ∃ r f m cap, e = .returned (.tuple #[.pointer (some ⟨r, 0, none⟩), .int .i64 0]) ∧ w.heap.size ≤ r ∧ w.heap.size ≤ f ∧ w.heap.size ≤ m ∧ Lay w' r f m cap (St.start n (fun _ => zs)) ∧ Below w.heap.size w w' := by
  obtain ⟨i0, hi, hz0, hz1, hz2⟩ := info_parts info39
  have hm := may_any n w
  rw [decide_eq_true (show 1 ≤ (n : Int) ∧ (n : Int) ≤ 16384 by omega)] at hm
  have hmade := made_flat n
  have hzc : (sv zs).cells = (sb zs).toArray := rfl
  rw [← hzc] at hmade
  have HM : Hid ((madeCells (sv zs).cells (n * 512)).toList = flat n (fun _ => zs)) := hmade
  clear hmade hzc
  obtain ⟨zv, hzv⟩ : ∃ z, z = sv zs := ⟨_, rfl⟩
  rw [← hzv] at hz0 HM
  clear hzv
  go_enter Try.func10, Try.ntmps10
  go_wp2_with (first
    | (go_at_call 31; refine hm.mono ?_; rintro e w' ⟨rfl, rfl⟩)
    | (at_make; refine wpList_make_full _ rfl _ _ 37 rfl w.heap.size 39 i0 zv 512 Try.underlying37 hi hz0 hz1 .i64 .i64 n n n rfl rfl rfl rfl (by rw [hz2]; omega) (by unfold maxLen; omega) (Nat.le_refl _) ?_; intro w1 hown hgr))
  rw [HM.out] at hown
  obtain ⟨_, hv | ⟨g, cap, cur, hv, hgb, hh, hc1, hc2, hc3, ht⟩⟩ := hown
  · cases hv.1
  · cases hv
    have hR : Rw w1 w.heap.size n (fun _ => zs) := rw_of_flat hh ht
    have hB : Below w.heap.size w w1 := (Below.refl _ w).grown hgr (Nat.le_refl _) (by intro k hk; cases hk)
    go_wp2_with (go_at_call 32; refine (over_any w1 w.heap.size n n _ hR h1 hn).mono ?_; rintro e w2 ⟨r, m, rfl, hr, hm2, hL, hB2⟩)
    go_ret2
    have := hB.size
    exact ⟨r, w.heap.size, m, n, rfl, by omega, Nat.le_refl _, by omega, hL, hB.trans (hB2.mono this)⟩
end Go.Proofs.Yteimfnnkjhopdaa
