/- Bools as a row's cells; the two ways out of a loop. -/
import Derived.Test.YteimfnnkjhopdaaTwo
namespace Go.Proofs.Yteimfnnkjhopdaa
open Go.RowKit

/-- Of two ways that a test of a loop 'i < len(l) && i < most' can go. -/
theorem two_ways (j n : Nat) : (j < n ∧ j < 300) ∨ (j < n ∧ ¬ j < 300) ∨ ¬ j < n := by omega
/-- Bools as the cells of a row. -/
def bools (k : Nat) (ov : Nat → Bool) : List Value := (List.range k).map fun i => .bool (ov i)
theorem bools_get (k : Nat) (ov : Nat → Bool) (i : Nat) (h : i < k) : (bools k ov)[i]? = some (.bool (ov i)) := by
  unfold bools
  rw [List.getElem?_map, List.getElem?_range h]
  rfl
theorem bools_length (k : Nat) (ov : Nat → Bool) : (bools k ov).length = k := by unfold bools; rw [List.length_map, List.length_range]
theorem bools_set (k : Nat) (ov : Nat → Bool) (i : Nat) (b : Bool) : (bools k ov).set i (.bool b) = bools k (upd ov i b) := by
  refine List.ext_getElem? fun j => ?_
  by_cases hj : j < k
  · rw [bools_get k _ j hj]
    by_cases e : i = j
    · subst e
      rw [List.getElem?_set_self (by rw [bools_length]; exact hj), upd_same]
    · rw [List.getElem?_set_ne e, bools_get k _ j hj, upd_ne _ _ _ _ (fun h => e h.symm)]
  · rw [List.getElem?_eq_none (by rw [List.length_set, bools_length]; omega), List.getElem?_eq_none (by rw [bools_length]; omega)]
theorem bools_false (k : Nat) : List.replicate k (Value.bool false) = bools k (fun _ => false) := by
  unfold bools
  rw [List.map_const']
  simp
theorem bools_congr {k : Nat} {f g : Nat → Bool} (h : ∀ i, i < k → f i = g i) : bools k f = bools k g := by
  unfold bools
  exact List.map_congr_left fun i hi => by rw [h i (List.mem_range.1 hi)]
theorem info4 : (Try.prog.info? 4).map (fun i => (i.zero, i.size, i.bytes)) = some (some (.bool false), 1, 1) := by kernel_rfl
/-- What 'make([]bool, k)' owns is a row of its own. -/
theorem made_bools {w : World} {H k : Nat} (h : w.ownsRow H 4 1 (.slice (some ⟨H, 0, none⟩) k k) k (madeCells #[Value.bool false] (k * 1)).toList) : Blk w H 4 (bools k (fun _ => false)) := by
  obtain ⟨_, h2 | ⟨g', cap', cur, h3, _, hh, _, _, hsz, ht⟩⟩ := h
  · cases h2.1
  · cases h3
    unfold Blk
    rw [hh]
    have : cur.toList = bools k (fun _ => false) := by
      rw [List.take_of_length_le (by simp; omega)] at ht
      rw [ht, Nat.mul_one]
      exact (toList_madeCells_one (.bool false) k).trans (bools_false k)
    rw [← this]
end Go.Proofs.Yteimfnnkjhopdaa
