/- The document's key made ready: its lists. -/
import Derived.Test.YtjhkicfndbceoaaRBlk
namespace Go.Proofs.Ytjhkicfndbceoaa
open Go.RowKit

/-- Bytes, and zeros behind them, 240 in all. -/
def pad (l : List B) : List B := l ++ List.replicate (240 - l.length) 0#8
theorem pad_length (l : List B) (h : l.length ≤ 240) : (pad l).length = 240 := by simp [pad]; omega
theorem pad_full (l : List B) (h : l.length = 240) : pad l = l := by simp [pad, h]
theorem pad_push (l : List B) (x : B) (h : l.length < 240) : (pad l).set l.length x = pad (l ++ [x]) := by
  unfold pad
  rw [List.set_append_right _ _ (Nat.le_refl _), Nat.sub_self, List.append_assoc]
  obtain ⟨m, hm⟩ : ∃ m, 240 - l.length = m + 1 := ⟨240 - l.length - 1, by omega⟩
  rw [hm, List.replicate_succ, List.set_cons_zero, List.length_append, List.length_singleton, show 240 - (l.length + 1) = m by omega]
  rfl
theorem getD_left (l m : List B) (i : Nat) (h : i < l.length) : (l ++ m).getD i 0#8 = l.getD i 0#8 := by
  simp [List.getD, List.getElem?_append_left h]
theorem getD_right (l m : List B) (i n : Nat) (h : l.length = n) : (l ++ m).getD (n + i) 0#8 = m.getD i 0#8 := by
  subst h
  simp [List.getD, List.getElem?_append_right]
theorem set_left (l m : List B) (i : Nat) (x : B) (h : i < l.length) : (l ++ m).set i x = l.set i x ++ m := List.set_append_left _ _ h
theorem set_right (l m : List B) (i n : Nat) (x : B) (h : l.length = n) : (l ++ m).set (n + i) x = l ++ m.set i x := by
  subst h
  rw [List.set_append_right _ _ (by omega), show l.length + i - l.length = i by omega]

/-- sub of all bytes. -/
def sbL : List B := (List.range 256).map fun i => sb (BitVec.ofNat 8 i)
theorem sbL_length : sbL.length = 256 := by simp [sbL]
theorem sbL_at (i : Nat) (h : i < 256) : sbL.getD i 0#8 = sb (BitVec.ofNat 8 i) := by unfold sbL; rw [getD_range _ 256 i h]
/-- What has become each byte, when j bytes have been asked. -/
def usJ (j : Nat) : List B := (List.range 256).map fun i => if (us (BitVec.ofNat 8 i)).toNat < j then us (BitVec.ofNat 8 i) else 0#8
theorem usJ_length (j : Nat) : (usJ j).length = 256 := by simp [usJ]
theorem usJ_zero : usJ 0 = List.replicate 256 0#8 := by
  refine List.ext_getElem (by rw [usJ_length, List.length_replicate]) fun i h1 h2 => ?_
  rw [List.getElem_replicate]
  simp [usJ]
theorem usJ_full (i : Nat) (h : i < 256) : (usJ 256).getD i 0#8 = us (BitVec.ofNat 8 i) := by
  unfold usJ
  rw [getD_range _ 256 i h, if_pos (us (BitVec.ofNat 8 i)).isLt]
theorem usJ_step (j : Nat) (hj : j < 256) : (usJ j).set (sb (BitVec.ofNat 8 j)).toNat (BitVec.ofNat 8 j) = usJ (j + 1) := by
  refine List.ext_getElem (by simp [usJ]) fun i h1 h2 => ?_
  have hi : i < 256 := by simpa [usJ] using h2
  rw [List.getElem_set]
  by_cases e : (sb (BitVec.ofNat 8 j)).toNat = i
  · rw [if_pos e]
    subst e
    simp only [usJ, List.getElem_map, List.getElem_range, BitVec.ofNat_toNat, BitVec.setWidth_eq, us_sb]
    rw [if_pos (by simp [Nat.mod_eq_of_lt hj])]
  · rw [if_neg e]
    have hne : (us (BitVec.ofNat 8 i)).toNat ≠ j := fun h => e (by
      rw [← h, BitVec.ofNat_toNat, BitVec.setWidth_eq, sb_us]
      simp [Nat.mod_eq_of_lt hi])
    simp only [usJ, List.getElem_map, List.getElem_range]
    by_cases h : (us (BitVec.ofNat 8 i)).toNat < j
    · rw [if_pos h, if_pos (by omega)]
    · rw [if_neg h, if_neg (by omega)]

/-- The two tables. -/
def tabs : List B := sbL ++ usJ 256
theorem tabs_length : tabs.length = 512 := by simp [tabs, sbL_length, usJ_length]
theorem tabs_there (W : List B) (h : W.length = 240) (x : B) : (W ++ tabs).getD (240 + x.toNat) 0#8 = sb x := by
  rw [getD_right W tabs _ 240 h, tabs, getD_left _ _ _ (by rw [sbL_length]; exact x.isLt), sbL_at _ x.isLt, BitVec.ofNat_toNat, BitVec.setWidth_eq]
theorem tabs_has (W : List B) (h : W.length = 240) (x : B) : (W ++ tabs).getD (496 + x.toNat) 0#8 = us x := by
  rw [show 496 + x.toNat = 240 + (256 + x.toNat) by omega, getD_right W tabs _ 240 h, tabs, getD_right _ _ _ 256 sbL_length, usJ_full _ x.isLt, BitVec.ofNat_toNat, BitVec.setWidth_eq]
/-- The tables, when j bytes have been asked. -/
def tabJ (j : Nat) : List B := mid sbL (List.replicate 256 0#8) j ++ usJ j
theorem tabJ_length (j : Nat) : (tabJ j).length = 512 := by rw [tabJ, List.length_append, mid_length _ _ 256 j sbL_length List.length_replicate, usJ_length]
theorem tabJ_zero : tabJ 0 = List.replicate 512 0#8 := by
  rw [tabJ, mid_zero, usJ_zero, List.replicate_append_replicate]
theorem tabJ_full : tabJ 256 = tabs := by rw [tabJ, mid_full _ _ 256 sbL_length List.length_replicate, tabs]
theorem tabJ_step (W : List B) (hW : W.length = 240) (j : Nat) (hj : j < 256) (x y : B) (hx : x = BitVec.ofNat 8 j) (hy : y = sb x) :
    ((W ++ tabJ j).set (240 + j) y).set (496 + y.toNat) x = W ++ tabJ (j + 1) := by
  subst hx hy
  rw [set_right W _ j 240 _ hW, show 496 + (sb (BitVec.ofNat 8 j)).toNat = 240 + (256 + (sb (BitVec.ofNat 8 j)).toNat) by omega, set_right W _ _ 240 _ hW]
  have hm := mid_length sbL (List.replicate 256 0#8) 256 j sbL_length List.length_replicate
  rw [tabJ, set_left _ _ _ _ (by omega), ← sbL_at j hj, mid_step _ _ j 256 sbL_length List.length_replicate hj, set_right _ _ _ 256 _ (mid_length _ _ 256 _ sbL_length List.length_replicate), sbL_at j hj, usJ_step j hj]
  rfl
/-- A byte behind those that are there. -/
theorem push_at (l T : List B) (x : B) (h : l.length < 240) : (pad l ++ T).set l.length x = pad (l ++ [x]) ++ T := by
  rw [set_left _ _ _ _ (by rw [pad_length l (by omega)]; exact h), pad_push l x h]
theorem pad_at (l T : List B) (i : Nat) (h : i < l.length) : (pad l ++ T).getD i 0#8 = l.getD i 0#8 := by
  rw [getD_left _ _ _ (by simp [pad]; omega), pad, getD_left _ _ _ h]
theorem zero46r (W : World) : (zeroValue 46).run Try.prog W = .ok (.agg (bys (List.replicate 752 0#8)).toArray) W := by kernel_rfl
theorem zero46 (W : World) : (zeroValue 46).run Try.prog W = .ok (.agg (bys (pad [] ++ tabJ 0)).toArray) W := by
  have e : pad [] ++ tabJ 0 = List.replicate 752 0#8 := by rw [tabJ_zero]; show [] ++ List.replicate 240 0#8 ++ List.replicate 512 0#8 = _; rw [List.nil_append, List.replicate_append_replicate]
  rw [e]
  exact zero46r W
theorem take_push (l : List B) (j : Nat) (h : j < l.length) : l.take j ++ [l.getD j 0#8] = l.take (j + 1) := by
  rw [List.take_add_one]
  simp [List.getD, List.getElem?_eq_getElem h]
/-- The byte q of the word i. -/
theorem wd_at (l : List B) (i q : Nat) (hq : q < 4) : (wd l i).getD q 0#8 = l.getD (i * 4 + q) 0#8 := by
  simp [wd, List.getD, hq]
theorem four_of (l : List B) (h : l.length = 4) : l = [l.getD 0 0#8, l.getD 1 0#8, l.getD 2 0#8, l.getD 3 0#8] := by
  match l, h with
  | [a, b, c, d], _ => rfl
end Go.Proofs.Ytjhkicfndbceoaa
