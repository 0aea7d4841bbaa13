/- Rows of bytes that share no memory: as a list of them. -/
import Derived.Test.YtineieoghlbchaaDoorSame
namespace Go.Proofs.YtineieoghlbchaaDoor
open Go.RowKit

theorem pair_at {l : List (Value × List Int)} (h : l.Pairwise (fun p q => NeB p.1 q.1)) (i j : Nat) (p q : Value × List Int) (hi : l[i]? = some p) (hj : l[j]? = some q) (hne : i ≠ j) : NeB p.1 q.1 := by
  obtain ⟨hi1, rfl⟩ := List.getElem?_eq_some_iff.1 hi
  obtain ⟨hj1, rfl⟩ := List.getElem?_eq_some_iff.1 hj
  have hp := List.pairwise_iff_getElem.1 h
  rcases Nat.lt_or_gt_of_ne hne with hlt | hlt
  · exact hp i j hi1 hj1 hlt
  · exact (hp j i hj1 hi1 hlt).symm

/-- A list of rows of one's own, all in blocks of their own: Apart answers true. -/
theorem apart_list (B B' A C : Nat) (rows : List (Value × List Int)) (w : World) (hown : w.ownsRow B' 22 1 (.slice (some ⟨A, 0, none⟩) rows.length C) rows.length (rows.map (·.1)))
    (hr : ∀ p ∈ rows, w.ownsRow B 5 1 p.1 p.2.length (u8s p.2)) (hrg : ∀ p ∈ rows, ∀ x ∈ p.2, 0 ≤ x ∧ x ≤ 255) (hlen : ∀ p ∈ rows, p.2.length ≤ 1000000) (hap : rows.Pairwise (fun p q => NeB p.1 q.1)) (few : rows.length ≤ 400) (hB : B ≤ w.heap.size) :
    Calls Tryd.prog 15 #[.slice (some ⟨A, 0, none⟩) rows.length C] w fun e w' => e = .returned (.bool true) ∧ Below B w w' := by
  have hat : ∀ j, j < rows.length → rows[j]? = some (rows.getD j (.slice none 0 0, [])) := fun j hj => by
    simp [List.getD, List.getElem?_eq_getElem hj]
  have hmem : ∀ j, j < rows.length → rows.getD j (.slice none 0 0, []) ∈ rows := fun j hj => List.mem_of_getElem? (hat j hj)
  have hout : ∀ j, ¬ j < rows.length → rows.getD j (.slice none 0 0, []) = (.slice none 0 0, []) := fun j hj => by
    simp [List.getD, List.getElem?_eq_none (show rows.length ≤ j by omega)]
  refine apart_any B A rows.length C (fun j => (rows.getD j (.slice none 0 0, [])).1) (fun j => (rows.getD j (.slice none 0 0, [])).2) w ⟨?_, ?_, hB, ?_, ?_, few⟩ ?_ (fun j hj => hr _ (hmem j hj))
  · intro i j hi hj hne
    exact pair_at hap i j _ _ (hat i hi) (hat j hj) hne
  · intro j b hj hb
    exact ((hr _ (hmem j hj)).lt b hb).2
  · intro j
    by_cases hj : j < rows.length
    · exact hrg _ (hmem j hj)
    · rw [hout j hj]; intro x hx; simp at hx
  · intro j
    by_cases hj : j < rows.length
    · exact hlen _ (hmem j hj)
    · rw [hout j hj]; simp
  · rcases hown.2 with ⟨h3, _⟩ | ⟨g, cap, cur, h3, hg, hh, hn, hm, hsz, ht⟩
    · cases h3
    · cases h3
      refine ⟨cur, hh, fun j hj => ?_⟩
      have h1 := hown.cellAt j (by omega)
      rw [cell_of_row w A j cur 22 (0, 0) hh] at h1
      rw [h1, List.getElem?_map, hat j hj]
      rfl

/-- 'append(v, u1, u2)', v a list of rows of the call's own. -/
theorem law_push2 {w : World} {ops : Array Oper} {rest : List Oper} {o : Oper} {a : Act} {Q : Exit → Act → World → Prop} (hgd : o.guard = none) (s x : Operand)
    (ho : o.op = .call { callee := .builtin .append, args := #[s, x], argTypes := #[33, 33] }) (base : Nat) (v : Value) (n : Nat) (xs : List Value) (hv : a.eval s = v) (hown : w.ownsRow base 22 1 v n xs)
    (g : Nat) (u1 u2 : Value) (hx : a.eval x = .slice (some ⟨g, 0, none⟩) 2 2) (hc : w.heap[g]? = some (.cells #[u1, u2] 22 (0, 0))) (h1 : u1.oneCell' = true) (h2 : u2.oneCell' = true) (hbig : n ≤ 1000) (hbase : base ≤ w.heap.size)
    (h : ∀ g' cap w', w'.ownsRow base 22 1 (.slice (some ⟨g', 0, none⟩) (n + 2) cap) (n + 2) (xs ++ [u1, u2]) → w.grownBy w' v.ownBlock → wpList Tryd.prog ops Q rest (a.put o.dst (.slice (some ⟨g', 0, none⟩) (n + 2) cap)) w') : wpList Tryd.prog ops Q (o :: rest) a w := by
  obtain ⟨i0, hi, hz0, hz1, hz2⟩ := info_parts Tryd.info22
  refine wpList_append_own w hgd s x 33 ho base 22 i0 (.slice none 0 0) 1 24 Tryd.underlying33 hi hz0 hz1 hz2 rfl (by decide) v n xs hv hown ⟨g, 0, none⟩ 2 2 [u1, u2] hx rfl (World.news_of_block (cs := #[u1, u2]) hc) (by simp [h1, h2]) (by unfold maxLen; omega) (by omega) hbase ?_
  intro v' w' h3 h4 _
  obtain ⟨g', cap, rfl, _, _⟩ := h3.form (by omega)
  exact h g' cap w' h3 h4

theorem own_len5 {w : World} {b n : Nat} {v : Value} {xs : List Int} (h : w.ownsRow b 5 1 v n (u8s xs)) : xs.length = n := by simpa [u8s_length] using h.1
theorem ne_iv {v u : Value} {l r l' r' : Nat} (hv : ∀ x, v.ownBlock = some x → l ≤ x ∧ x < r) (hu : ∀ x, u.ownBlock = some x → l' ≤ x ∧ x < r') (h : r ≤ l' ∨ r' ≤ l) : NeB v u := by
  cases hx : v.ownBlock with
  | none => exact .inl hx
  | some x =>
    right
    rw [hx]
    intro e
    have h1 := hv x hx
    have h2 := hu x e.symm
    omega
end Go.Proofs.YtineieoghlbchaaDoor
