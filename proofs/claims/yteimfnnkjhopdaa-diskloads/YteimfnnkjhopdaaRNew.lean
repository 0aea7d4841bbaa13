/- The document's disk: made. -/
import Derived.Test.YteimfnnkjhopdaaRPend
namespace Go.Proofs.Yteimfnnkjhopdaa
open Go.RowKit

section
variable {P : Program} {ops : Array Oper} {Q : Exit → Act → World → Prop} {md : Region.Mode} {S : World → Prop} {z : Nat}
/-- One of three may come up. -/
theorem wpTo_three {i j k : Nat} {o q u : Oper} {n : Nat} {done : Array Bool} {a : Act} {w : World} (hr : Region.ready md ops done = [i, j, k]) (ho : ops[i]? = some o) (hq : ops[j]? = some q) (hu : ops[k]? = some u)
    (h : ∀ K : Act → World → Prop, Shut (∀ b v, S v → (S v → wpTo P md ops Q S z n (done.setIfInBounds i true) b v) → K b v) → if Region.wanted o (yielded ops a.tmps) = true then Oper.wp P o a w K Q else K (a.put o.dst undef) w)
    (h' : ∀ K : Act → World → Prop, Shut (∀ b v, S v → (S v → wpTo P md ops Q S z n (done.setIfInBounds j true) b v) → K b v) → if Region.wanted q (yielded ops a.tmps) = true then Oper.wp P q a w K Q else K (a.put q.dst undef) w)
    (h'' : ∀ K : Act → World → Prop, Shut (∀ b v, S v → (S v → wpTo P md ops Q S z n (done.setIfInBounds k true) b v) → K b v) → if Region.wanted u (yielded ops a.tmps) = true then Oper.wp P u a w K Q else K (a.put u.dst undef) w) :
    wpTo P md ops Q S z (n + 1) done a w := by
  refine ⟨fun h0 => (by rw [hr] at h0; cases h0), fun m hm => ?_⟩
  rw [hr] at hm
  rcases List.mem_cons.1 hm with rfl | hm
  · exact wpOp_step ho (fun K hK => h K (fun b v hS hW => hK b v ⟨Or.inr hS, hW hS⟩))
  · rcases List.mem_cons.1 hm with rfl | hm
    · exact wpOp_step hq (fun K hK => h' K (fun b v hS hW => hK b v ⟨Or.inr hS, hW hS⟩))
    · rw [List.mem_singleton] at hm
      subst hm
      exact wpOp_step hu (fun K hK => h'' K (fun b v hS hW => hK b v ⟨Or.inr hS, hW hS⟩))
end
section
variable {w : World} {o : Oper} {a : Act} {K : Act → World → Prop} {Q : Exit → Act → World → Prop}
theorem make_secs_w (x y : Operand) (ho : o.op = .makeSlice 37 x y) (n : Nat) (hn : n ≤ 16384) (hx : a.eval x = .int .i64 n) (hy : a.eval y = .int .i64 n)
    (h : ∀ w', Rw w' w.heap.size n (fun _ => zs) → Below w.heap.size w w' → K (a.put o.dst (.slice (some ⟨w.heap.size, 0, none⟩) n n)) w') : o.wp Try.prog a w K Q := by
  obtain ⟨i0, hi, hz0, hz1, hz2⟩ := info_parts info39
  obtain ⟨w', hrun, hown, hgr⟩ := run_make_full (P := Try.prog) (w := w) w.heap.size 37 39 i0 (sv zs) 512 Try.underlying37 hi hz0 hz1 .i64 .i64 n (by rw [hz2]; omega) (by unfold maxLen; omega) (Nat.le_refl _)
  unfold Oper.wp
  simp [execOp, ho, hx, hy, hrun, Result.andThen]
  have hmade : (madeCells (sv zs).cells (n * 512)).toList = flat n (fun _ => zs) := made_flat n
  rw [hmade] at hown
  obtain ⟨_, hv | ⟨g, cap, cur, hv, hgb, hh, hc1, hc2, hc3, ht⟩⟩ := hown
  · cases hv.1
  · cases hv
    exact h w' (rw_of_flat hh ht) ((Below.refl _ w).grown hgr (Nat.le_refl _) (by intro k hk; cases hk))
theorem make_bools_w (x y : Operand) (ho : o.op = .makeSlice 45 x y) (n : Nat) (hn : n ≤ 16384) (hx : a.eval x = .int .i64 n) (hy : a.eval y = .int .i64 n)
    (h : ∀ w', Blk w' w.heap.size 4 (bools n (fun _ => false)) → Below w.heap.size w w' → K (a.put o.dst (.slice (some ⟨w.heap.size, 0, none⟩) n n)) w') : o.wp Try.prog a w K Q := by
  obtain ⟨i0, hi, hz0, hz1, hz2⟩ := info_parts info4
  obtain ⟨w', hrun, hown, hgr⟩ := run_make_full (P := Try.prog) (w := w) w.heap.size 45 4 i0 (.bool false) 1 Try.underlying45 hi hz0 hz1 .i64 .i64 n (by rw [hz2]; omega) (by unfold maxLen; omega) (Nat.le_refl _)
  unfold Oper.wp
  simp [execOp, ho, hx, hy, hrun, Result.andThen]
  exact h w' (made_bools hown) ((Below.refl _ w).grown hgr (Nat.le_refl _) (by intro k hk; cases hk))
end
theorem rnew_lay (w : World) (A B H n : Nat) (hA : Rw w A n (fun _ => zs)) (hB : Rw w B n (fun _ => zs)) (hH : Blk w H 4 (bools n (fun _ => false))) (hAB : A ≠ B) (h1 : 1 ≤ n) (hn : n ≤ 16384) :
    RLay (w.alloc (.cells (rc A B H (St.start n (fun _ => zs))).toArray 47)) w.heap.size A B H (St.start n (fun _ => zs)) ∧ Below w.heap.size w (w.alloc (.cells (rc A B H (St.start n (fun _ => zs))).toArray 47)) := by
  have kk : Below w.heap.size w (w.alloc (.cells (rc A B H (St.start n (fun _ => zs))).toArray 47)) := (Below.refl _ w).alloc (Nat.le_refl _) _
  exact ⟨⟨Blk.new w 47 _, hA.fr (X := fun _ => False) (Fr.of_below kk (Nat.le_refl _)) (fun h => h), ⟨_, hB.fr (X := fun _ => False) (Fr.of_below kk (Nat.le_refl _)) (fun h => h), fun i s hs => by cases hs⟩, hH.next kk, hAB, h1, hn, fun _ _ => rfl, by show (0 : Nat) < _; omega⟩, kk⟩
/-- A disk of n sectors was made. -/
def RMade (w w' : World) (r n : Nat) : Prop := w.heap.size ≤ r ∧ ∃ a b h, w.heap.size ≤ a ∧ w.heap.size ≤ b ∧ w.heap.size ≤ h ∧ RLay w' r a b h (St.start n (fun _ => zs)) ∧ Below w.heap.size w w'
theorem rnew_bad (n : Int) (w : World) (h : ¬ (1 ≤ n ∧ n ≤ 16384)) : Calls Try.prog 11 #[.int .i64 n] w fun e w' => e = .returned (.tuple #[.pointer none, .int .i64 2]) ∧ w = w' := by
  by_cases h1 : n < 1
  · go_enter Try.func11, Try.ntmps11
    go_wp2
    go_ret2
    exact ⟨rfl, rfl⟩
  · have h2 : n > 16384 := by omega
    go_enter Try.func11, Try.ntmps11
    go_wp2
    go_ret2
    exact ⟨rfl, rfl⟩
set_option maxRecDepth 100000 in
set_option maxHeartbeats 4000000 in
theorem rnew_any (n : Nat) (w : World) (h1 : 1 ≤ n) (hn : n ≤ 16384) : Calls Try.prog 11 #[.int .i64 n] w fun e w' => ∃ r, e = .returned (.tuple #[.pointer (some ⟨r, 0, none⟩), .int .i64 0]) ∧ RMade w w' r n := by
  have y1 : ¬ (n : Int) < 1 := by omega
  have y2 : ¬ (n : Int) > 16384 := by omega
  go_enter Try.func11, Try.ntmps11
  go_wp2_with fail
  refine wp_region_to (fun _ => True) 10 (by kernel_rfl) ?_
  refine wpTo_take (i := 0) (v := ?v0q) (show _ = some _ by simp only [List.getElem?_toArray, List.getElem?_cons_zero]; exact rfl) (by kernel_rfl) (by kernel_rfl) (by kernel_rfl) (by kernel_rfl) (by exact fun _ _ _ h => h) (Or.inl ⟨by rfl, ?hy0q⟩) trivial ?r0q
  case hy0q => (intro w hSw; (try dsimp only at hSw); go_simp; try with_reducible rfl)
  (try simp only [Act.put]); (try simp only [List.setIfInBounds_toArray]); (repeat (first | simp only [List.set_cons_succ] | simp only [List.set_cons_zero]))
  refine wpTo_take (i := 2) (v := ?v2q) (show _ = some _ by simp only [List.getElem?_toArray, List.getElem?_cons_succ, List.getElem?_cons_zero]; exact rfl) (by kernel_rfl) (by kernel_rfl) (by kernel_rfl) (by kernel_rfl) (by exact fun _ _ _ h => h) (Or.inl ⟨by rfl, ?hy2q⟩) trivial ?r2q
  case hy2q => (intro w hSw; (try dsimp only at hSw); go_simp; try with_reducible rfl)
  (try simp only [Act.put]); (try simp only [List.setIfInBounds_toArray]); (repeat (first | simp only [List.set_cons_succ] | simp only [List.set_cons_zero]))
  refine wpTo_take (i := 4) (v := ?v4q) (show _ = some _ by simp only [List.getElem?_toArray, List.getElem?_cons_succ, List.getElem?_cons_zero]; exact rfl) (by kernel_rfl) (by kernel_rfl) (by kernel_rfl) (by kernel_rfl) (by exact fun _ _ _ h => h) (Or.inl ⟨by rfl, ?hy4q⟩) trivial ?r4q
  case hy4q => (intro w hSw; (try dsimp only at hSw); go_simp; try with_reducible rfl)
  (try simp only [Act.put]); (try simp only [List.setIfInBounds_toArray]); (repeat (first | simp only [List.set_cons_succ] | simp only [List.set_cons_zero]))
  refine wpTo_three (i := 1) (j := 3) (k := 5) (by kernel_rfl) (show _ = some _ by simp only [List.getElem?_toArray, List.getElem?_cons_succ, List.getElem?_cons_zero]; exact rfl) (show _ = some _ by simp only [List.getElem?_toArray, List.getElem?_cons_succ, List.getElem?_cons_zero]; exact rfl) (show _ = some _ by simp only [List.getElem?_toArray, List.getElem?_cons_succ, List.getElem?_cons_zero]; exact rfl) (fun K hK => ?_) (fun K hK => ?_) (fun K hK => ?_)
  ·
    rw [if_pos (by rfl)]
    refine make_secs_w _ _ rfl n hn rfl rfl (fun w1 hA k1 => ?_)
    refine hK.out _ _ trivial (fun _ => ?_)
    clear hK K
    (try simp only [Act.put]); (try simp only [List.setIfInBounds_toArray]); (repeat (first | simp only [List.set_cons_succ] | simp only [List.set_cons_zero]))
    obtain ⟨A, eA⟩ : ∃ g, g = w.drew.heap.size := ⟨_, rfl⟩
    rw [← eA] at hA ⊢
    have gA : w.heap.size ≤ A := by have s0 : w.drew.heap.size = w.heap.size := rfl; omega
    clear eA
    refine wpTo_two (i := 3) (j := 5) (by kernel_rfl) (show _ = some _ by simp only [List.getElem?_toArray, List.getElem?_cons_succ, List.getElem?_cons_zero]; exact rfl) (show _ = some _ by simp only [List.getElem?_toArray, List.getElem?_cons_succ, List.getElem?_cons_zero]; exact rfl) (fun K hK => ?_) (fun K hK => ?_)
    ·
      rw [if_pos (by rfl)]
      refine make_secs_w _ _ rfl n hn rfl rfl (fun w2 hB k2 => ?_)
      refine hK.out _ _ trivial (fun _ => ?_)
      clear hK K
      (try simp only [Act.put]); (try simp only [List.setIfInBounds_toArray]); (repeat (first | simp only [List.set_cons_succ] | simp only [List.set_cons_zero]))
      obtain ⟨B, eB⟩ : ∃ g, g = w1.heap.size := ⟨_, rfl⟩
      rw [← eB] at hB ⊢
      have gB : w.heap.size ≤ B := by have s0 : w.drew.heap.size = w.heap.size := rfl; have s1 := k1.size; omega
      have nAB : A ≠ B := by have := hA.lt; omega
      clear eB
      have hA : Rw w2 A n (fun _ => zs) := hA.fr (X := fun _ => False) (Fr.of_below k2 (Nat.le_refl _)) (fun h => h)
      refine wpTo_one (i := 5) (by kernel_rfl) (show _ = some _ by simp only [List.getElem?_toArray, List.getElem?_cons_succ, List.getElem?_cons_zero]; exact rfl) (fun K hK => ?_)
      rw [if_pos (by rfl)]
      refine make_bools_w _ _ rfl n hn rfl rfl (fun w3 hH k3 => ?_)
      refine hK.out _ _ trivial (fun _ => ?_)
      clear hK K
      (try simp only [Act.put]); (try simp only [List.setIfInBounds_toArray]); (repeat (first | simp only [List.set_cons_succ] | simp only [List.set_cons_zero]))
      obtain ⟨H, eH⟩ : ∃ g, g = w2.heap.size := ⟨_, rfl⟩
      rw [← eH] at hH ⊢
      have gH : w.heap.size ≤ H := by have s0 : w.drew.heap.size = w.heap.size := rfl; have s1 := k1.size; have s2 := k2.size; omega
      have nAH : A ≠ H := by have := hA.lt; omega
      have nBH : B ≠ H := by have := hB.lt; omega
      clear eH
      have hA : Rw w3 A n (fun _ => zs) := hA.fr (X := fun _ => False) (Fr.of_below k3 (Nat.le_refl _)) (fun h => h)
      have hB : Rw w3 B n (fun _ => zs) := hB.fr (X := fun _ => False) (Fr.of_below k3 (Nat.le_refl _)) (fun h => h)
      have hAB : A ≠ B := by first | exact nAB | exact fun e => nBA e.symm
      have kk : Below w.heap.size w w3 := (show Below w.heap.size w w.drew from below_drewN (Below.refl _ w) 1).trans ((k1.trans ((k2.trans (k3.mono k2.size)).mono k1.size)).mono (Nat.le_refl _))
      obtain ⟨hL, hl1⟩ := rnew_lay w3 A B H n hA hB hH hAB h1 hn
      have hgR : w.heap.size ≤ w3.heap.size := kk.size
      have hBB := kk.trans (hl1.mono kk.size)
      refine wpTo_take (i := 6) (v := ?v6t0) (show _ = some _ by simp only [List.getElem?_toArray, List.getElem?_cons_succ, List.getElem?_cons_zero]; exact rfl) (by kernel_rfl) (by kernel_rfl) (by kernel_rfl) (by kernel_rfl) (by exact fun _ _ _ h => h) (Or.inl ⟨by rfl, ?hy6t0⟩) trivial ?r6t0
      case hy6t0 => (intro w hSw; (try dsimp only at hSw); go_simp; try with_reducible rfl)
      (try simp only [Act.put]); (try simp only [List.setIfInBounds_toArray]); (repeat (first | simp only [List.set_cons_succ] | simp only [List.set_cons_zero]))
      refine wpTo_one (i := 7) (by kernel_rfl) (show _ = some _ by simp only [List.getElem?_toArray, List.getElem?_cons_succ, List.getElem?_cons_zero]; exact rfl) (fun K hK => ?_)
      go_simp
      refine hK.out _ _ trivial (fun _ => ?_)
      clear hK K
      (try simp only [Act.put]); (try simp only [List.setIfInBounds_toArray]); (repeat (first | simp only [List.set_cons_succ] | simp only [List.set_cons_zero]))
      refine wpTo_take (i := 8) (v := ?v8t0) (show _ = some _ by simp only [List.getElem?_toArray, List.getElem?_cons_succ, List.getElem?_cons_zero]; exact rfl) (by kernel_rfl) (by kernel_rfl) (by kernel_rfl) (by kernel_rfl) (by exact fun _ _ _ h => h) (Or.inl ⟨by rfl, ?hy8t0⟩) trivial ?r8t0
      case hy8t0 => (intro w hSw; (try dsimp only at hSw); go_simp; try with_reducible rfl)
      (try simp only [Act.put]); (try simp only [List.setIfInBounds_toArray]); (repeat (first | simp only [List.set_cons_succ] | simp only [List.set_cons_zero]))
      refine wpTo_take (i := 9) (v := ?v9t0) (show _ = some _ by simp only [List.getElem?_toArray, List.getElem?_cons_succ, List.getElem?_cons_zero]; exact rfl) (by kernel_rfl) (by kernel_rfl) (by kernel_rfl) (by kernel_rfl) (by exact fun _ _ _ h => h) (Or.inl ⟨by rfl, ?hy9t0⟩) trivial ?r9t0
      case hy9t0 => (intro w hSw; (try dsimp only at hSw); go_simp; try with_reducible rfl)
      (try simp only [Act.put]); (try simp only [List.setIfInBounds_toArray]); (repeat (first | simp only [List.set_cons_succ] | simp only [List.set_cons_zero]))
      refine wpTo_done (by kernel_rfl) ?_
      go_wp2_with fail
      go_ret2
      exact ⟨w3.heap.size, rfl, hgR, A, B, H, gA, gB, gH, hL, hBB⟩
    ·
      rw [if_pos (by rfl)]
      refine make_bools_w _ _ rfl n hn rfl rfl (fun w2 hH k2 => ?_)
      refine hK.out _ _ trivial (fun _ => ?_)
      clear hK K
      (try simp only [Act.put]); (try simp only [List.setIfInBounds_toArray]); (repeat (first | simp only [List.set_cons_succ] | simp only [List.set_cons_zero]))
      obtain ⟨H, eH⟩ : ∃ g, g = w1.heap.size := ⟨_, rfl⟩
      rw [← eH] at hH ⊢
      have gH : w.heap.size ≤ H := by have s0 : w.drew.heap.size = w.heap.size := rfl; have s1 := k1.size; omega
      have nAH : A ≠ H := by have := hA.lt; omega
      clear eH
      have hA : Rw w2 A n (fun _ => zs) := hA.fr (X := fun _ => False) (Fr.of_below k2 (Nat.le_refl _)) (fun h => h)
      refine wpTo_one (i := 3) (by kernel_rfl) (show _ = some _ by simp only [List.getElem?_toArray, List.getElem?_cons_succ, List.getElem?_cons_zero]; exact rfl) (fun K hK => ?_)
      rw [if_pos (by rfl)]
      refine make_secs_w _ _ rfl n hn rfl rfl (fun w3 hB k3 => ?_)
      refine hK.out _ _ trivial (fun _ => ?_)
      clear hK K
      (try simp only [Act.put]); (try simp only [List.setIfInBounds_toArray]); (repeat (first | simp only [List.set_cons_succ] | simp only [List.set_cons_zero]))
      obtain ⟨B, eB⟩ : ∃ g, g = w2.heap.size := ⟨_, rfl⟩
      rw [← eB] at hB ⊢
      have gB : w.heap.size ≤ B := by have s0 : w.drew.heap.size = w.heap.size := rfl; have s1 := k1.size; have s2 := k2.size; omega
      have nAB : A ≠ B := by have := hA.lt; omega
      have nHB : H ≠ B := by have := hH.lt; omega
      clear eB
      have hA : Rw w3 A n (fun _ => zs) := hA.fr (X := fun _ => False) (Fr.of_below k3 (Nat.le_refl _)) (fun h => h)
      have hH := hH.next k3
      have hAB : A ≠ B := by first | exact nAB | exact fun e => nBA e.symm
      have kk : Below w.heap.size w w3 := (show Below w.heap.size w w.drew from below_drewN (Below.refl _ w) 1).trans ((k1.trans ((k2.trans (k3.mono k2.size)).mono k1.size)).mono (Nat.le_refl _))
      obtain ⟨hL, hl1⟩ := rnew_lay w3 A B H n hA hB hH hAB h1 hn
      have hgR : w.heap.size ≤ w3.heap.size := kk.size
      have hBB := kk.trans (hl1.mono kk.size)
      refine wpTo_take (i := 6) (v := ?v6t1) (show _ = some _ by simp only [List.getElem?_toArray, List.getElem?_cons_succ, List.getElem?_cons_zero]; exact rfl) (by kernel_rfl) (by kernel_rfl) (by kernel_rfl) (by kernel_rfl) (by exact fun _ _ _ h => h) (Or.inl ⟨by rfl, ?hy6t1⟩) trivial ?r6t1
      case hy6t1 => (intro w hSw; (try dsimp only at hSw); go_simp; try with_reducible rfl)
      (try simp only [Act.put]); (try simp only [List.setIfInBounds_toArray]); (repeat (first | simp only [List.set_cons_succ] | simp only [List.set_cons_zero]))
      refine wpTo_one (i := 7) (by kernel_rfl) (show _ = some _ by simp only [List.getElem?_toArray, List.getElem?_cons_succ, List.getElem?_cons_zero]; exact rfl) (fun K hK => ?_)
      go_simp
      refine hK.out _ _ trivial (fun _ => ?_)
      clear hK K
      (try simp only [Act.put]); (try simp only [List.setIfInBounds_toArray]); (repeat (first | simp only [List.set_cons_succ] | simp only [List.set_cons_zero]))
      refine wpTo_take (i := 8) (v := ?v8t1) (show _ = some _ by simp only [List.getElem?_toArray, List.getElem?_cons_succ, List.getElem?_cons_zero]; exact rfl) (by kernel_rfl) (by kernel_rfl) (by kernel_rfl) (by kernel_rfl) (by exact fun _ _ _ h => h) (Or.inl ⟨by rfl, ?hy8t1⟩) trivial ?r8t1
      case hy8t1 => (intro w hSw; (try dsimp only at hSw); go_simp; try with_reducible rfl)
      (try simp only [Act.put]); (try simp only [List.setIfInBounds_toArray]); (repeat (first | simp only [List.set_cons_succ] | simp only [List.set_cons_zero]))
      refine wpTo_take (i := 9) (v := ?v9t1) (show _ = some _ by simp only [List.getElem?_toArray, List.getElem?_cons_succ, List.getElem?_cons_zero]; exact rfl) (by kernel_rfl) (by kernel_rfl) (by kernel_rfl) (by kernel_rfl) (by exact fun _ _ _ h => h) (Or.inl ⟨by rfl, ?hy9t1⟩) trivial ?r9t1
      case hy9t1 => (intro w hSw; (try dsimp only at hSw); go_simp; try with_reducible rfl)
      (try simp only [Act.put]); (try simp only [List.setIfInBounds_toArray]); (repeat (first | simp only [List.set_cons_succ] | simp only [List.set_cons_zero]))
      refine wpTo_done (by kernel_rfl) ?_
      go_wp2_with fail
      go_ret2
      exact ⟨w3.heap.size, rfl, hgR, A, B, H, gA, gB, gH, hL, hBB⟩
  ·
    rw [if_pos (by rfl)]
    refine make_secs_w _ _ rfl n hn rfl rfl (fun w1 hB k1 => ?_)
    refine hK.out _ _ trivial (fun _ => ?_)
    clear hK K
    (try simp only [Act.put]); (try simp only [List.setIfInBounds_toArray]); (repeat (first | simp only [List.set_cons_succ] | simp only [List.set_cons_zero]))
    obtain ⟨B, eB⟩ : ∃ g, g = w.drew.heap.size := ⟨_, rfl⟩
    rw [← eB] at hB ⊢
    have gB : w.heap.size ≤ B := by have s0 : w.drew.heap.size = w.heap.size := rfl; omega
    clear eB
    refine wpTo_two (i := 1) (j := 5) (by kernel_rfl) (show _ = some _ by simp only [List.getElem?_toArray, List.getElem?_cons_succ, List.getElem?_cons_zero]; exact rfl) (show _ = some _ by simp only [List.getElem?_toArray, List.getElem?_cons_succ, List.getElem?_cons_zero]; exact rfl) (fun K hK => ?_) (fun K hK => ?_)
    ·
      rw [if_pos (by rfl)]
      refine make_secs_w _ _ rfl n hn rfl rfl (fun w2 hA k2 => ?_)
      refine hK.out _ _ trivial (fun _ => ?_)
      clear hK K
      (try simp only [Act.put]); (try simp only [List.setIfInBounds_toArray]); (repeat (first | simp only [List.set_cons_succ] | simp only [List.set_cons_zero]))
      obtain ⟨A, eA⟩ : ∃ g, g = w1.heap.size := ⟨_, rfl⟩
      rw [← eA] at hA ⊢
      have gA : w.heap.size ≤ A := by have s0 : w.drew.heap.size = w.heap.size := rfl; have s1 := k1.size; omega
      have nBA : B ≠ A := by have := hB.lt; omega
      clear eA
      have hB : Rw w2 B n (fun _ => zs) := hB.fr (X := fun _ => False) (Fr.of_below k2 (Nat.le_refl _)) (fun h => h)
      refine wpTo_one (i := 5) (by kernel_rfl) (show _ = some _ by simp only [List.getElem?_toArray, List.getElem?_cons_succ, List.getElem?_cons_zero]; exact rfl) (fun K hK => ?_)
      rw [if_pos (by rfl)]
      refine make_bools_w _ _ rfl n hn rfl rfl (fun w3 hH k3 => ?_)
      refine hK.out _ _ trivial (fun _ => ?_)
      clear hK K
      (try simp only [Act.put]); (try simp only [List.setIfInBounds_toArray]); (repeat (first | simp only [List.set_cons_succ] | simp only [List.set_cons_zero]))
      obtain ⟨H, eH⟩ : ∃ g, g = w2.heap.size := ⟨_, rfl⟩
      rw [← eH] at hH ⊢
      have gH : w.heap.size ≤ H := by have s0 : w.drew.heap.size = w.heap.size := rfl; have s1 := k1.size; have s2 := k2.size; omega
      have nBH : B ≠ H := by have := hB.lt; omega
      have nAH : A ≠ H := by have := hA.lt; omega
      clear eH
      have hB : Rw w3 B n (fun _ => zs) := hB.fr (X := fun _ => False) (Fr.of_below k3 (Nat.le_refl _)) (fun h => h)
      have hA : Rw w3 A n (fun _ => zs) := hA.fr (X := fun _ => False) (Fr.of_below k3 (Nat.le_refl _)) (fun h => h)
      have hAB : A ≠ B := by first | exact nAB | exact fun e => nBA e.symm
      have kk : Below w.heap.size w w3 := (show Below w.heap.size w w.drew from below_drewN (Below.refl _ w) 1).trans ((k1.trans ((k2.trans (k3.mono k2.size)).mono k1.size)).mono (Nat.le_refl _))
      obtain ⟨hL, hl1⟩ := rnew_lay w3 A B H n hA hB hH hAB h1 hn
      have hgR : w.heap.size ≤ w3.heap.size := kk.size
      have hBB := kk.trans (hl1.mono kk.size)
      refine wpTo_take (i := 6) (v := ?v6t2) (show _ = some _ by simp only [List.getElem?_toArray, List.getElem?_cons_succ, List.getElem?_cons_zero]; exact rfl) (by kernel_rfl) (by kernel_rfl) (by kernel_rfl) (by kernel_rfl) (by exact fun _ _ _ h => h) (Or.inl ⟨by rfl, ?hy6t2⟩) trivial ?r6t2
      case hy6t2 => (intro w hSw; (try dsimp only at hSw); go_simp; try with_reducible rfl)
      (try simp only [Act.put]); (try simp only [List.setIfInBounds_toArray]); (repeat (first | simp only [List.set_cons_succ] | simp only [List.set_cons_zero]))
      refine wpTo_one (i := 7) (by kernel_rfl) (show _ = some _ by simp only [List.getElem?_toArray, List.getElem?_cons_succ, List.getElem?_cons_zero]; exact rfl) (fun K hK => ?_)
      go_simp
      refine hK.out _ _ trivial (fun _ => ?_)
      clear hK K
      (try simp only [Act.put]); (try simp only [List.setIfInBounds_toArray]); (repeat (first | simp only [List.set_cons_succ] | simp only [List.set_cons_zero]))
      refine wpTo_take (i := 8) (v := ?v8t2) (show _ = some _ by simp only [List.getElem?_toArray, List.getElem?_cons_succ, List.getElem?_cons_zero]; exact rfl) (by kernel_rfl) (by kernel_rfl) (by kernel_rfl) (by kernel_rfl) (by exact fun _ _ _ h => h) (Or.inl ⟨by rfl, ?hy8t2⟩) trivial ?r8t2
      case hy8t2 => (intro w hSw; (try dsimp only at hSw); go_simp; try with_reducible rfl)
      (try simp only [Act.put]); (try simp only [List.setIfInBounds_toArray]); (repeat (first | simp only [List.set_cons_succ] | simp only [List.set_cons_zero]))
      refine wpTo_take (i := 9) (v := ?v9t2) (show _ = some _ by simp only [List.getElem?_toArray, List.getElem?_cons_succ, List.getElem?_cons_zero]; exact rfl) (by kernel_rfl) (by kernel_rfl) (by kernel_rfl) (by kernel_rfl) (by exact fun _ _ _ h => h) (Or.inl ⟨by rfl, ?hy9t2⟩) trivial ?r9t2
      case hy9t2 => (intro w hSw; (try dsimp only at hSw); go_simp; try with_reducible rfl)
      (try simp only [Act.put]); (try simp only [List.setIfInBounds_toArray]); (repeat (first | simp only [List.set_cons_succ] | simp only [List.set_cons_zero]))
      refine wpTo_done (by kernel_rfl) ?_
      go_wp2_with fail
      go_ret2
      exact ⟨w3.heap.size, rfl, hgR, A, B, H, gA, gB, gH, hL, hBB⟩
    ·
      rw [if_pos (by rfl)]
      refine make_bools_w _ _ rfl n hn rfl rfl (fun w2 hH k2 => ?_)
      refine hK.out _ _ trivial (fun _ => ?_)
      clear hK K
      (try simp only [Act.put]); (try simp only [List.setIfInBounds_toArray]); (repeat (first | simp only [List.set_cons_succ] | simp only [List.set_cons_zero]))
      obtain ⟨H, eH⟩ : ∃ g, g = w1.heap.size := ⟨_, rfl⟩
      rw [← eH] at hH ⊢
      have gH : w.heap.size ≤ H := by have s0 : w.drew.heap.size = w.heap.size := rfl; have s1 := k1.size; omega
      have nBH : B ≠ H := by have := hB.lt; omega
      clear eH
      have hB : Rw w2 B n (fun _ => zs) := hB.fr (X := fun _ => False) (Fr.of_below k2 (Nat.le_refl _)) (fun h => h)
      refine wpTo_one (i := 1) (by kernel_rfl) (show _ = some _ by simp only [List.getElem?_toArray, List.getElem?_cons_succ, List.getElem?_cons_zero]; exact rfl) (fun K hK => ?_)
      rw [if_pos (by rfl)]
      refine make_secs_w _ _ rfl n hn rfl rfl (fun w3 hA k3 => ?_)
      refine hK.out _ _ trivial (fun _ => ?_)
      clear hK K
      (try simp only [Act.put]); (try simp only [List.setIfInBounds_toArray]); (repeat (first | simp only [List.set_cons_succ] | simp only [List.set_cons_zero]))
      obtain ⟨A, eA⟩ : ∃ g, g = w2.heap.size := ⟨_, rfl⟩
      rw [← eA] at hA ⊢
      have gA : w.heap.size ≤ A := by have s0 : w.drew.heap.size = w.heap.size := rfl; have s1 := k1.size; have s2 := k2.size; omega
      have nBA : B ≠ A := by have := hB.lt; omega
      have nHA : H ≠ A := by have := hH.lt; omega
      clear eA
      have hB : Rw w3 B n (fun _ => zs) := hB.fr (X := fun _ => False) (Fr.of_below k3 (Nat.le_refl _)) (fun h => h)
      have hH := hH.next k3
      have hAB : A ≠ B := by first | exact nAB | exact fun e => nBA e.symm
      have kk : Below w.heap.size w w3 := (show Below w.heap.size w w.drew from below_drewN (Below.refl _ w) 1).trans ((k1.trans ((k2.trans (k3.mono k2.size)).mono k1.size)).mono (Nat.le_refl _))
      obtain ⟨hL, hl1⟩ := rnew_lay w3 A B H n hA hB hH hAB h1 hn
      have hgR : w.heap.size ≤ w3.heap.size := kk.size
      have hBB := kk.trans (hl1.mono kk.size)
      refine wpTo_take (i := 6) (v := ?v6t3) (show _ = some _ by simp only [List.getElem?_toArray, List.getElem?_cons_succ, List.getElem?_cons_zero]; exact rfl) (by kernel_rfl) (by kernel_rfl) (by kernel_rfl) (by kernel_rfl) (by exact fun _ _ _ h => h) (Or.inl ⟨by rfl, ?hy6t3⟩) trivial ?r6t3
      case hy6t3 => (intro w hSw; (try dsimp only at hSw); go_simp; try with_reducible rfl)
      (try simp only [Act.put]); (try simp only [List.setIfInBounds_toArray]); (repeat (first | simp only [List.set_cons_succ] | simp only [List.set_cons_zero]))
      refine wpTo_one (i := 7) (by kernel_rfl) (show _ = some _ by simp only [List.getElem?_toArray, List.getElem?_cons_succ, List.getElem?_cons_zero]; exact rfl) (fun K hK => ?_)
      go_simp
      refine hK.out _ _ trivial (fun _ => ?_)
      clear hK K
      (try simp only [Act.put]); (try simp only [List.setIfInBounds_toArray]); (repeat (first | simp only [List.set_cons_succ] | simp only [List.set_cons_zero]))
      refine wpTo_take (i := 8) (v := ?v8t3) (show _ = some _ by simp only [List.getElem?_toArray, List.getElem?_cons_succ, List.getElem?_cons_zero]; exact rfl) (by kernel_rfl) (by kernel_rfl) (by kernel_rfl) (by kernel_rfl) (by exact fun _ _ _ h => h) (Or.inl ⟨by rfl, ?hy8t3⟩) trivial ?r8t3
      case hy8t3 => (intro w hSw; (try dsimp only at hSw); go_simp; try with_reducible rfl)
      (try simp only [Act.put]); (try simp only [List.setIfInBounds_toArray]); (repeat (first | simp only [List.set_cons_succ] | simp only [List.set_cons_zero]))
      refine wpTo_take (i := 9) (v := ?v9t3) (show _ = some _ by simp only [List.getElem?_toArray, List.getElem?_cons_succ, List.getElem?_cons_zero]; exact rfl) (by kernel_rfl) (by kernel_rfl) (by kernel_rfl) (by kernel_rfl) (by exact fun _ _ _ h => h) (Or.inl ⟨by rfl, ?hy9t3⟩) trivial ?r9t3
      case hy9t3 => (intro w hSw; (try dsimp only at hSw); go_simp; try with_reducible rfl)
      (try simp only [Act.put]); (try simp only [List.setIfInBounds_toArray]); (repeat (first | simp only [List.set_cons_succ] | simp only [List.set_cons_zero]))
      refine wpTo_done (by kernel_rfl) ?_
      go_wp2_with fail
      go_ret2
      exact ⟨w3.heap.size, rfl, hgR, A, B, H, gA, gB, gH, hL, hBB⟩
  ·
    rw [if_pos (by rfl)]
    refine make_bools_w _ _ rfl n hn rfl rfl (fun w1 hH k1 => ?_)
    refine hK.out _ _ trivial (fun _ => ?_)
    clear hK K
    (try simp only [Act.put]); (try simp only [List.setIfInBounds_toArray]); (repeat (first | simp only [List.set_cons_succ] | simp only [List.set_cons_zero]))
    obtain ⟨H, eH⟩ : ∃ g, g = w.drew.heap.size := ⟨_, rfl⟩
    rw [← eH] at hH ⊢
    have gH : w.heap.size ≤ H := by have s0 : w.drew.heap.size = w.heap.size := rfl; omega
    clear eH
    refine wpTo_two (i := 1) (j := 3) (by kernel_rfl) (show _ = some _ by simp only [List.getElem?_toArray, List.getElem?_cons_succ, List.getElem?_cons_zero]; exact rfl) (show _ = some _ by simp only [List.getElem?_toArray, List.getElem?_cons_succ, List.getElem?_cons_zero]; exact rfl) (fun K hK => ?_) (fun K hK => ?_)
    ·
      rw [if_pos (by rfl)]
      refine make_secs_w _ _ rfl n hn rfl rfl (fun w2 hA k2 => ?_)
      refine hK.out _ _ trivial (fun _ => ?_)
      clear hK K
      (try simp only [Act.put]); (try simp only [List.setIfInBounds_toArray]); (repeat (first | simp only [List.set_cons_succ] | simp only [List.set_cons_zero]))
      obtain ⟨A, eA⟩ : ∃ g, g = w1.heap.size := ⟨_, rfl⟩
      rw [← eA] at hA ⊢
      have gA : w.heap.size ≤ A := by have s0 : w.drew.heap.size = w.heap.size := rfl; have s1 := k1.size; omega
      have nHA : H ≠ A := by have := hH.lt; omega
      clear eA
      have hH := hH.next k2
      refine wpTo_one (i := 3) (by kernel_rfl) (show _ = some _ by simp only [List.getElem?_toArray, List.getElem?_cons_succ, List.getElem?_cons_zero]; exact rfl) (fun K hK => ?_)
      rw [if_pos (by rfl)]
      refine make_secs_w _ _ rfl n hn rfl rfl (fun w3 hB k3 => ?_)
      refine hK.out _ _ trivial (fun _ => ?_)
      clear hK K
      (try simp only [Act.put]); (try simp only [List.setIfInBounds_toArray]); (repeat (first | simp only [List.set_cons_succ] | simp only [List.set_cons_zero]))
      obtain ⟨B, eB⟩ : ∃ g, g = w2.heap.size := ⟨_, rfl⟩
      rw [← eB] at hB ⊢
      have gB : w.heap.size ≤ B := by have s0 : w.drew.heap.size = w.heap.size := rfl; have s1 := k1.size; have s2 := k2.size; omega
      have nHB : H ≠ B := by have := hH.lt; omega
      have nAB : A ≠ B := by have := hA.lt; omega
      clear eB
      have hH := hH.next k3
      have hA : Rw w3 A n (fun _ => zs) := hA.fr (X := fun _ => False) (Fr.of_below k3 (Nat.le_refl _)) (fun h => h)
      have hAB : A ≠ B := by first | exact nAB | exact fun e => nBA e.symm
      have kk : Below w.heap.size w w3 := (show Below w.heap.size w w.drew from below_drewN (Below.refl _ w) 1).trans ((k1.trans ((k2.trans (k3.mono k2.size)).mono k1.size)).mono (Nat.le_refl _))
      obtain ⟨hL, hl1⟩ := rnew_lay w3 A B H n hA hB hH hAB h1 hn
      have hgR : w.heap.size ≤ w3.heap.size := kk.size
      have hBB := kk.trans (hl1.mono kk.size)
      refine wpTo_take (i := 6) (v := ?v6t4) (show _ = some _ by simp only [List.getElem?_toArray, List.getElem?_cons_succ, List.getElem?_cons_zero]; exact rfl) (by kernel_rfl) (by kernel_rfl) (by kernel_rfl) (by kernel_rfl) (by exact fun _ _ _ h => h) (Or.inl ⟨by rfl, ?hy6t4⟩) trivial ?r6t4
      case hy6t4 => (intro w hSw; (try dsimp only at hSw); go_simp; try with_reducible rfl)
      (try simp only [Act.put]); (try simp only [List.setIfInBounds_toArray]); (repeat (first | simp only [List.set_cons_succ] | simp only [List.set_cons_zero]))
      refine wpTo_one (i := 7) (by kernel_rfl) (show _ = some _ by simp only [List.getElem?_toArray, List.getElem?_cons_succ, List.getElem?_cons_zero]; exact rfl) (fun K hK => ?_)
      go_simp
      refine hK.out _ _ trivial (fun _ => ?_)
      clear hK K
      (try simp only [Act.put]); (try simp only [List.setIfInBounds_toArray]); (repeat (first | simp only [List.set_cons_succ] | simp only [List.set_cons_zero]))
      refine wpTo_take (i := 8) (v := ?v8t4) (show _ = some _ by simp only [List.getElem?_toArray, List.getElem?_cons_succ, List.getElem?_cons_zero]; exact rfl) (by kernel_rfl) (by kernel_rfl) (by kernel_rfl) (by kernel_rfl) (by exact fun _ _ _ h => h) (Or.inl ⟨by rfl, ?hy8t4⟩) trivial ?r8t4
      case hy8t4 => (intro w hSw; (try dsimp only at hSw); go_simp; try with_reducible rfl)
      (try simp only [Act.put]); (try simp only [List.setIfInBounds_toArray]); (repeat (first | simp only [List.set_cons_succ] | simp only [List.set_cons_zero]))
      refine wpTo_take (i := 9) (v := ?v9t4) (show _ = some _ by simp only [List.getElem?_toArray, List.getElem?_cons_succ, List.getElem?_cons_zero]; exact rfl) (by kernel_rfl) (by kernel_rfl) (by kernel_rfl) (by kernel_rfl) (by exact fun _ _ _ h => h) (Or.inl ⟨by rfl, ?hy9t4⟩) trivial ?r9t4
      case hy9t4 => (intro w hSw; (try dsimp only at hSw); go_simp; try with_reducible rfl)
      (try simp only [Act.put]); (try simp only [List.setIfInBounds_toArray]); (repeat (first | simp only [List.set_cons_succ] | simp only [List.set_cons_zero]))
      refine wpTo_done (by kernel_rfl) ?_
      go_wp2_with fail
      go_ret2
      exact ⟨w3.heap.size, rfl, hgR, A, B, H, gA, gB, gH, hL, hBB⟩
    ·
      rw [if_pos (by rfl)]
      refine make_secs_w _ _ rfl n hn rfl rfl (fun w2 hB k2 => ?_)
      refine hK.out _ _ trivial (fun _ => ?_)
      clear hK K
      (try simp only [Act.put]); (try simp only [List.setIfInBounds_toArray]); (repeat (first | simp only [List.set_cons_succ] | simp only [List.set_cons_zero]))
      obtain ⟨B, eB⟩ : ∃ g, g = w1.heap.size := ⟨_, rfl⟩
      rw [← eB] at hB ⊢
      have gB : w.heap.size ≤ B := by have s0 : w.drew.heap.size = w.heap.size := rfl; have s1 := k1.size; omega
      have nHB : H ≠ B := by have := hH.lt; omega
      clear eB
      have hH := hH.next k2
      refine wpTo_one (i := 1) (by kernel_rfl) (show _ = some _ by simp only [List.getElem?_toArray, List.getElem?_cons_succ, List.getElem?_cons_zero]; exact rfl) (fun K hK => ?_)
      rw [if_pos (by rfl)]
      refine make_secs_w _ _ rfl n hn rfl rfl (fun w3 hA k3 => ?_)
      refine hK.out _ _ trivial (fun _ => ?_)
      clear hK K
      (try simp only [Act.put]); (try simp only [List.setIfInBounds_toArray]); (repeat (first | simp only [List.set_cons_succ] | simp only [List.set_cons_zero]))
      obtain ⟨A, eA⟩ : ∃ g, g = w2.heap.size := ⟨_, rfl⟩
      rw [← eA] at hA ⊢
      have gA : w.heap.size ≤ A := by have s0 : w.drew.heap.size = w.heap.size := rfl; have s1 := k1.size; have s2 := k2.size; omega
      have nHA : H ≠ A := by have := hH.lt; omega
      have nBA : B ≠ A := by have := hB.lt; omega
      clear eA
      have hH := hH.next k3
      have hB : Rw w3 B n (fun _ => zs) := hB.fr (X := fun _ => False) (Fr.of_below k3 (Nat.le_refl _)) (fun h => h)
      have hAB : A ≠ B := by first | exact nAB | exact fun e => nBA e.symm
      have kk : Below w.heap.size w w3 := (show Below w.heap.size w w.drew from below_drewN (Below.refl _ w) 1).trans ((k1.trans ((k2.trans (k3.mono k2.size)).mono k1.size)).mono (Nat.le_refl _))
      obtain ⟨hL, hl1⟩ := rnew_lay w3 A B H n hA hB hH hAB h1 hn
      have hgR : w.heap.size ≤ w3.heap.size := kk.size
      have hBB := kk.trans (hl1.mono kk.size)
      refine wpTo_take (i := 6) (v := ?v6t5) (show _ = some _ by simp only [List.getElem?_toArray, List.getElem?_cons_succ, List.getElem?_cons_zero]; exact rfl) (by kernel_rfl) (by kernel_rfl) (by kernel_rfl) (by kernel_rfl) (by exact fun _ _ _ h => h) (Or.inl ⟨by rfl, ?hy6t5⟩) trivial ?r6t5
      case hy6t5 => (intro w hSw; (try dsimp only at hSw); go_simp; try with_reducible rfl)
      (try simp only [Act.put]); (try simp only [List.setIfInBounds_toArray]); (repeat (first | simp only [List.set_cons_succ] | simp only [List.set_cons_zero]))
      refine wpTo_one (i := 7) (by kernel_rfl) (show _ = some _ by simp only [List.getElem?_toArray, List.getElem?_cons_succ, List.getElem?_cons_zero]; exact rfl) (fun K hK => ?_)
      go_simp
      refine hK.out _ _ trivial (fun _ => ?_)
      clear hK K
      (try simp only [Act.put]); (try simp only [List.setIfInBounds_toArray]); (repeat (first | simp only [List.set_cons_succ] | simp only [List.set_cons_zero]))
      refine wpTo_take (i := 8) (v := ?v8t5) (show _ = some _ by simp only [List.getElem?_toArray, List.getElem?_cons_succ, List.getElem?_cons_zero]; exact rfl) (by kernel_rfl) (by kernel_rfl) (by kernel_rfl) (by kernel_rfl) (by exact fun _ _ _ h => h) (Or.inl ⟨by rfl, ?hy8t5⟩) trivial ?r8t5
      case hy8t5 => (intro w hSw; (try dsimp only at hSw); go_simp; try with_reducible rfl)
      (try simp only [Act.put]); (try simp only [List.setIfInBounds_toArray]); (repeat (first | simp only [List.set_cons_succ] | simp only [List.set_cons_zero]))
      refine wpTo_take (i := 9) (v := ?v9t5) (show _ = some _ by simp only [List.getElem?_toArray, List.getElem?_cons_succ, List.getElem?_cons_zero]; exact rfl) (by kernel_rfl) (by kernel_rfl) (by kernel_rfl) (by kernel_rfl) (by exact fun _ _ _ h => h) (Or.inl ⟨by rfl, ?hy9t5⟩) trivial ?r9t5
      case hy9t5 => (intro w hSw; (try dsimp only at hSw); go_simp; try with_reducible rfl)
      (try simp only [Act.put]); (try simp only [List.setIfInBounds_toArray]); (repeat (first | simp only [List.set_cons_succ] | simp only [List.set_cons_zero]))
      refine wpTo_done (by kernel_rfl) ?_
      go_wp2_with fail
      go_ret2
      exact ⟨w3.heap.size, rfl, hgR, A, B, H, gA, gB, gH, hL, hBB⟩
end Go.Proofs.Yteimfnnkjhopdaa
