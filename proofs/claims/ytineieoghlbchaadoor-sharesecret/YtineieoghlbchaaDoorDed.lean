/- How many unlike places there are that are not 0. -/
import Derived.Test.YtineieoghlbchaaDoorPoints
namespace Go.Proofs.YtineieoghlbchaaDoor

def dstep (p : List B) (x : B) : List B := if x = 0#8 ∨ x ∈ p then p else p ++ [x]
/-- The unlike ones, none of them 0. -/
def ded (l : List B) : List B := l.foldl dstep []
theorem ded_snoc (l : List B) (x : B) : ded (l ++ [x]) = dstep (ded l) x := by simp [ded]
theorem ded_nil : ded [] = [] := rfl
theorem snoc_ind {α : Type} {P : List α → Prop} (h0 : P []) (h1 : ∀ l x, P l → P (l ++ [x])) (l : List α) : P l := by
  have : ∀ n, ∀ l : List α, l.length = n → P l := by
    intro n
    induction n with
    | zero => intro l h; rw [List.eq_nil_of_length_eq_zero h]; exact h0
    | succ n ih =>
      intro l h
      have hne : l ≠ [] := by intro e; rw [e] at h; simp at h
      rw [← List.dropLast_concat_getLast hne]
      exact h1 _ _ (ih _ (by simp [h]))
  exact this _ l rfl
theorem mem_ded (l : List B) (y : B) : y ∈ ded l ↔ y ∈ l ∧ y ≠ 0#8 := by
  induction l using snoc_ind with
  | h0 => simp [ded_nil]
  | h1 l x ih =>
    rw [ded_snoc]
    unfold dstep
    split
    · rename_i h
      rw [ih]
      constructor
      · rintro ⟨a, b⟩; exact ⟨List.mem_append.2 (.inl a), b⟩
      · rintro ⟨a, b⟩
        rcases List.mem_append.1 a with a | a
        · exact ⟨a, b⟩
        · rw [List.mem_singleton] at a
          subst a
          rcases h with h | h
          · exact absurd h b
          · exact ih.1 h
    · rename_i h
      rw [List.mem_append, ih, List.mem_append, List.mem_singleton]
      constructor
      · rintro (⟨a, b⟩ | e)
        · exact ⟨.inl a, b⟩
        · subst e; exact ⟨.inr rfl, fun e => h (.inl e)⟩
      · rintro ⟨a | a, b⟩
        · exact .inl ⟨a, b⟩
        · exact .inr a
theorem ded_le (l : List B) : (ded l).length ≤ l.length := by
  induction l using snoc_ind with
  | h0 => exact Nat.le_refl _
  | h1 l x ih =>
    rw [ded_snoc]
    unfold dstep
    split
    · simp; omega
    · simp; omega
theorem ded_good (l : List B) : (ded l).length = l.length ↔ Good l := by
  induction l using snoc_ind with
  | h0 => exact ⟨fun _ => ⟨List.nodup_nil, by simp⟩, fun _ => rfl⟩
  | h1 l x ih =>
    rw [ded_snoc, good_snoc, ← ih]
    have hle := ded_le l
    unfold dstep
    split
    · rename_i h
      rw [List.length_append, List.length_singleton]
      constructor
      · intro e; omega
      · rintro ⟨a, b, c⟩
        rcases h with h | h
        · exact absurd h c
        · exact absurd ((mem_ded l x).1 h).1 b
    · rename_i h
      rw [List.length_append, List.length_singleton, List.length_append, List.length_singleton]
      constructor
      · intro e
        exact ⟨by omega, fun hm => h (.inr ((mem_ded l x).2 ⟨hm, fun e => h (.inl e)⟩)), fun e => h (.inl e)⟩
      · rintro ⟨a, _, _⟩; omega
theorem ded_same {l : List B} {x : B} (h : x = 0#8 ∨ x ∈ l) : ded (l ++ [x]) = ded l := by
  rw [ded_snoc]
  unfold dstep
  rw [if_pos]
  by_cases e : x = 0#8
  · exact .inl e
  · rcases h with h | h
    · exact .inl h
    · exact .inr ((mem_ded l x).2 ⟨h, e⟩)
theorem ded_new {l : List B} {x : B} (h0 : x ≠ 0#8) (h : x ∉ l) : ded (l ++ [x]) = ded l ++ [x] := by
  rw [ded_snoc]
  unfold dstep
  rw [if_neg]
  rintro (e | e)
  · exact h0 e
  · exact h ((mem_ded l x).1 e).1
theorem take_map_next {α : Type} (f : α → B) (L : List α) (k : Nat) (s : α) (h : L[k]? = some s) : (L.map f).take (k + 1) = (L.map f).take k ++ [f s] := by
  rw [List.take_add_one, List.getElem?_map, h]
  rfl
end Go.Proofs.YtineieoghlbchaaDoor
