/- Places, and what the value at each counts for at 0. -/
import Derived.Test.YtineieoghlbchaaDoorPoly
namespace Go.Proofs.YtineieoghlbchaaDoor

/-- None is 0, and no two are the same. -/
def Good (cs : List B) : Prop := cs.Nodup ∧ 0#8 ∉ cs
theorem take_next (cs : List B) (k : Nat) (h : k < cs.length) : cs.take (k + 1) = cs.take k ++ [cs.getD k 0#8] := by
  rw [List.take_succ_eq_append_getElem h]
  simp [List.getD, List.getElem?_eq_getElem h]
theorem good_take (cs : List B) (h : Good cs) (k : Nat) : Good (cs.take k) :=
  ⟨h.1.sublist (List.take_sublist _ _), fun hm => h.2 (List.mem_of_mem_take hm)⟩
theorem good_snoc (ps : List B) (x : B) : Good (ps ++ [x]) ↔ Good ps ∧ x ∉ ps ∧ x ≠ 0#8 := by
  unfold Good
  rw [List.nodup_append]
  constructor
  · rintro ⟨⟨h1, _, h3⟩, h4⟩
    refine ⟨⟨h1, fun hm => h4 (List.mem_append.2 (.inl hm))⟩, fun hm => h3 x hm x (by simp) rfl, fun e => h4 (by rw [e]; simp)⟩
  · rintro ⟨⟨h1, h2⟩, h3, h4⟩
    refine ⟨⟨h1, by simp, fun a ha b hb => by rw [List.mem_singleton] at hb; subst hb; exact fun e => h3 (e ▸ ha)⟩, fun hm => ?_⟩
    rcases List.mem_append.1 hm with hm | hm
    · exact h2 hm
    · rw [List.mem_singleton] at hm; exact h4 hm.symm
theorem nodup_bound (n : Nat) (l : List Nat) (h : l.Nodup) (hb : ∀ x ∈ l, x < n) : l.length ≤ n := by
  induction n generalizing l with
  | zero => cases l with
    | nil => exact Nat.le_refl _
    | cons x l => have := hb x (by simp); omega
  | succ n ih =>
    by_cases hm : n ∈ l
    · have h1 := ih (l.erase n) (h.erase n) (fun x hx => by
        have := (h.mem_erase_iff).1 hx
        have := hb x this.2
        omega)
      rw [List.length_erase_of_mem hm] at h1
      omega
    · have h1 := ih l h (fun x hx => by
        have := hb x hx
        have : x ≠ n := fun e => hm (e ▸ hx)
        omega)
      omega
theorem nodup_map (l : List B) (h : l.Nodup) (h0 : 0#8 ∉ l) : (l.map lg).Nodup := by
  induction l with
  | nil => simp
  | cons a l ih =>
    rw [List.nodup_cons] at h
    rw [List.map_cons, List.nodup_cons]
    refine ⟨fun hm => ?_, ih h.2 (fun hm => h0 (by simp [hm]))⟩
    obtain ⟨b, hb, e⟩ := List.mem_map.1 hm
    have ha0 : a ≠ 0#8 := fun e => h0 (by rw [e]; simp)
    have hb0 : b ≠ 0#8 := fun e => h0 (by rw [e] at hb; simp [hb])
    have : a = b := by rw [← E_lg a ha0, ← E_lg b hb0, e]
    exact h.1 (this ▸ hb)
theorem good_short (cs : List B) (h : Good cs) : cs.length ≤ 255 := by
  have := nodup_bound 255 (cs.map lg) (nodup_map cs h.1 h.2) (fun x hx => by
    obtain ⟨b, _, rfl⟩ := List.mem_map.1 hx
    exact lg_lt b)
  rwa [List.length_map] at this

/-- One other place's part of what the value at x counts for. -/
def part (x o : B) : B := if o = x then 1#8 else quo o (o ^^^ x)
/-- What the value at x counts for, of the first k places. -/
def wtT (cs : List B) (x : B) : Nat → B
  | 0 => 1#8
  | k + 1 => mul (wtT cs x k) (part x (cs.getD k 0#8))
/-- The value at 0, of the first k points. -/
def azT (cs ds : List B) : Nat → B
  | 0 => 0#8
  | k + 1 => azT cs ds k ^^^ mul (ds.getD k 0#8) (wtT cs (cs.getD k 0#8) cs.length)
/-- The value at 0. -/
def atZ (cs ds : List B) : B := azT cs ds cs.length

/-- One other place's logarithm. -/
def lpart (x o : B) : Nat := if o = x then 0 else 255 + lg o - lg (o ^^^ x)
def lsT (cs : List B) (x : B) : Nat → Nat
  | 0 => 0
  | k + 1 => lsT cs x k + lpart x (cs.getD k 0#8)
theorem xor_ne {o x : B} (h : o ≠ x) : o ^^^ x ≠ 0#8 := by
  intro e
  apply h
  have : o ^^^ x ^^^ x = 0#8 ^^^ x := by rw [e]
  rwa [BitVec.xor_assoc, BitVec.xor_self, BitVec.xor_zero, BitVec.zero_xor] at this
theorem lpart_le (x o : B) : lpart x o ≤ 509 := by
  unfold lpart
  have := lg_lt o
  split <;> omega
theorem lsT_le (cs : List B) (x : B) (k : Nat) : lsT cs x k ≤ 509 * k := by
  induction k with
  | zero => exact Nat.le_refl _
  | succ k ih => have := lpart_le x (cs.getD k 0#8); simp only [lsT]; omega
theorem E_lpart (x o : B) (ho : o ≠ 0#8) : E (lpart x o) = part x o := by
  unfold lpart part
  by_cases h : o = x
  · rw [if_pos h, if_pos h]; rfl
  · rw [if_neg h, if_neg h]
    have h2 := xor_ne h
    have := lg_lt o
    have := lg_lt (o ^^^ x)
    unfold quo inv
    rw [if_neg h2, show 255 + lg o - lg (o ^^^ x) = lg o + (255 - lg (o ^^^ x)) by omega, ← E_mul, E_lg o ho]
theorem E_lsT (cs : List B) (x : B) (k : Nat) (hk : k ≤ cs.length) (h0 : 0#8 ∉ cs) : E (lsT cs x k) = wtT cs x k := by
  induction k with
  | zero => rfl
  | succ k ih =>
    have hm : cs.getD k 0#8 ≠ 0#8 := by
      have : cs.getD k 0#8 ∈ cs := by
        simp [List.getD, List.getElem?_eq_getElem (show k < cs.length by omega)]
      exact fun e => h0 (e ▸ this)
    simp only [lsT, wtT]
    rw [← E_mul, ih (by omega), E_lpart x _ hm]
end Go.Proofs.YtineieoghlbchaaDoor
