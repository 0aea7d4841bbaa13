/- Rows of sectors and of bools that are made. -/
import Derived.Test.YteimfnnkjhopdaaBools
namespace Go.Proofs.Yteimfnnkjhopdaa
open Go.RowKit

section
variable {w : World} {ops : Array Oper} {rest : List Oper} {o : Oper} {a : Act} {Q : Exit → Act → World → Prop}
/-- 'make([]api.Sector, n)'. -/
theorem make_secs (hg : o.guard = none) (x y : Operand) (ho : o.op = .makeSlice 37 x y) (n : Nat) (hn : n ≤ 16384) (hx : a.eval x = .int .i64 n) (hy : a.eval y = .int .i64 n)
    (h : ∀ w', Rw w' w.heap.size n (fun _ => zs) → Below w.heap.size w w' → wpList Try.prog ops Q rest (a.put o.dst (.slice (some ⟨w.heap.size, 0, none⟩) n n)) w') : wpList Try.prog ops Q (o :: rest) a w := by
  obtain ⟨i0, hi, hz0, hz1, hz2⟩ := info_parts info39
  refine wpList_make_full w hg x y 37 ho w.heap.size 39 i0 (sv zs) 512 Try.underlying37 hi hz0 hz1 .i64 .i64 n n n hx hy rfl rfl (by rw [hz2]; omega) (by unfold maxLen; omega) (Nat.le_refl _) ?_
  intro w' hown hgr
  have hmade : (madeCells (sv zs).cells (n * 512)).toList = flat n (fun _ => zs) := made_flat n
  rw [hmade] at hown
  obtain ⟨_, hv | ⟨g, cap, cur, hv, hgb, hh, hc1, hc2, hc3, ht⟩⟩ := hown
  · cases hv.1
  · cases hv
    exact h w' (rw_of_flat hh ht) ((Below.refl _ w).grown hgr (Nat.le_refl _) (by intro k hk; cases hk))
/-- 'make([]bool, n)'. -/
theorem make_bools (hg : o.guard = none) (x y : Operand) (ho : o.op = .makeSlice 45 x y) (n : Nat) (hn : n ≤ 16384) (hx : a.eval x = .int .i64 n) (hy : a.eval y = .int .i64 n)
    (h : ∀ w', Blk w' w.heap.size 4 (bools n (fun _ => false)) → Below w.heap.size w w' → wpList Try.prog ops Q rest (a.put o.dst (.slice (some ⟨w.heap.size, 0, none⟩) n n)) w') : wpList Try.prog ops Q (o :: rest) a w := by
  obtain ⟨i0, hi, hz0, hz1, hz2⟩ := info_parts info4
  refine wpList_make_full w hg x y 45 ho w.heap.size 4 i0 (.bool false) 1 Try.underlying45 hi hz0 hz1 .i64 .i64 n n n hx hy rfl rfl (by rw [hz2]; omega) (by unfold maxLen; omega) (Nat.le_refl _) ?_
  intro w' hown hgr
  exact h w' (made_bools hown) ((Below.refl _ w).grown hgr (Nat.le_refl _) (by intro k hk; cases hk))
/-- 's[i] = x', at a list of operations. -/
theorem put_row_l (hg : o.guard = none) (x y : Operand) (ho : o.op = .store 39 x y) (f n : Nat) (F : Nat → Sec) (hR : Rw w f n F) (i : Nat) (hi : i < n) (s : Sec)
    (hx : a.eval x = .pointer (some ⟨f, i * 512, none⟩)) (hy : a.eval y = .agg (sb s).toArray) (h : Rw (w.setCells f (i * 512) (sb s)) f n (upd F i s) → wpList Try.prog ops Q rest (a.put o.dst undef) (w.setCells f (i * 512) (sb s))) : wpList Try.prog ops Q (o :: rest) a w :=
  wpList_plain hg fun _ hK => put_row x y ho f n F hR i hi s hx hy (fun hR' => hK _ _ (h hR'))
end
theorem pend_wf2 (d : St) (hn : d.n ≤ 16384) : ∀ x ∈ d.pend, (Lit.int .i64 x).wf = true := by
  intro x hx
  unfold St.pend at hx
  obtain ⟨i, hi, rfl⟩ := List.mem_map.1 hx
  have := List.mem_range.1 (List.mem_filter.1 hi).1
  exact wf64 _ (by omega) (by omega)
/-- The first j of a row, zeros behind them. -/
def mix (L : Nat → Sec) (j i : Nat) : Sec := if i < j then L i else zs
theorem mix_zero (L : Nat → Sec) : mix L 0 = fun _ => zs := by funext i; simp [mix]
theorem mix_succ (L : Nat → Sec) (j : Nat) : upd (mix L j) j (L j) = mix L (j + 1) := by
  funext i
  unfold upd mix
  by_cases e : i = j
  · subst e; simp
  · by_cases h : i < j
    · simp [e, h, show i < j + 1 by omega]
    · simp [e, h, show ¬ i < j + 1 by omega]
/-- Whether a number is among the first j. -/
def among (ps : List Int) (j i : Nat) : Bool := decide ((i : Int) ∈ ps.take j)
theorem among_zero (ps : List Int) : among ps 0 = fun _ => false := by funext i; simp [among]
theorem among_succ (ps : List Int) (j n x : Nat) (hl : ps.length = n) (hj : j < n) (hx : ps.getD j 0 = (x : Int)) : upd (among ps j) x true = among ps (j + 1) := by
  funext i
  unfold upd among
  rw [take_snoc ps j n hl hj, hx]
  by_cases e : i = x
  · subst e; simp
  · have : ¬ (i : Int) = (x : Int) := by omega
    simp [e, this]
/-- What is pending, as bools. -/
theorem pend_mem (d : St) (hlow : ∀ i, d.n ≤ i → d.waits i = none) (i : Nat) : ((i : Int) ∈ d.pend) ↔ (d.waits i).isSome = true := by
  have h1 : wl d.waits (.int .i64 (i : Int)) = d.waits i := wl_ky d.waits i
  rw [mem_pend d hlow (i : Int), h1]
theorem pend_in (d : St) : ∀ x ∈ d.pend, 0 ≤ x ∧ x < d.n := by
  intro x hx
  unfold St.pend at hx
  obtain ⟨i, hi, rfl⟩ := List.mem_map.1 hx
  have := List.mem_range.1 (List.mem_filter.1 hi).1
  omega
end Go.Proofs.Yteimfnnkjhopdaa
