/- Draws with which another secret has the same shares: the mathematics. -/
import Derived.Test.YtineieoghlbchaaDoorThru
namespace Go.Proofs.YtineieoghlbchaaDoor

/-- The draws of the first j bytes. -/
structure DrOk (O S F : List B) (P : List Nat) (k m j : Nat) (D : List B) : Prop where
  len : D.length = (k - 1) * j
  at_ : ∀ t, t < j → ∀ p ∈ P, ev (pol O D k t) (BitVec.ofNat 8 (p + 1)) = (yRow S F k m p).getD t 0#8
theorem DrOk.start (O S F : List B) (P : List Nat) (k m : Nat) : DrOk O S F P k m 0 [] := ⟨by simp, fun t h => by omega⟩
theorem pol_old (O D E : List B) (k t j : Nat) (hl : D.length = (k - 1) * j) (ht : t < j) : pol O (D ++ E) k t = pol O D k t := by
  unfold pol
  have h1 : (k - 1) * t + (k - 1) ≤ D.length := by
    rw [hl, ← Nat.mul_succ]
    exact Nat.mul_le_mul_left _ ht
  rw [List.drop_append_of_le_length (by omega), List.take_append_of_le_length (by rw [List.length_drop]; omega)]
theorem pol_new (O D : List B) (T : List B) (k j : Nat) (hl : D.length = (k - 1) * j) (hT : T.length = k) (hk : 1 ≤ k) (h0 : T.getD 0 0#8 = O.getD j 0#8) : pol O (D ++ T.drop 1) k j = T := by
  unfold pol
  rw [← hl, List.drop_left, List.take_of_length_le (by rw [List.length_drop]; omega), ← h0]
  cases T with
  | nil => simp at hT; omega
  | cons a r => simp
theorem ev_at_zero (T : List B) : ev T 0#8 = T.getD 0 0#8 := by
  cases T with
  | nil => rfl
  | cons a r => simp [ev, mul_zero]
/-- The places and the values that through is asked for at byte j. -/
def sX (P : List Nat) : List B := 0#8 :: P.map (fun p => BitVec.ofNat 8 (p + 1))
def sY (o : B) (S F : List B) (P : List Nat) (k m j : Nat) : List B := o :: P.map (fun p => (yRow S F k m p).getD j 0#8)
theorem sX_nodup (P : List Nat) (h : P.Nodup) (hP : ∀ p ∈ P, p < 16) : (sX P).Nodup := by
  unfold sX
  rw [List.nodup_cons]
  refine ⟨fun hm => ?_, ?_⟩
  · obtain ⟨p, hp, e⟩ := List.mem_map.1 hm
    have := congrArg BitVec.toNat e
    have h16 := hP p hp
    rw [BitVec.toNat_ofNat, Nat.mod_eq_of_lt (by omega)] at this
    simp at this
  · refine List.pairwise_map.2 (List.Pairwise.imp_of_mem ?_ h)
    intro a b ha hb hne e
    exact hne (byte_inj (by have := hP a ha; omega) (by have := hP b hb; omega) e)
theorem DrOk.next {O S F : List B} {P : List Nat} {k m j : Nat} {D T : List B} (h : DrOk O S F P k m j D) (hk : 1 ≤ k) (hP : P.length = k - 1) (hT : T.length = k) (hI : InI (sX P) (sY (O.getD j 0#8) S F P k m j) k T) : DrOk O S F P k m (j + 1) (D ++ T.drop 1) := by
  have h0 : T.getD 0 0#8 = O.getD j 0#8 := by
    rw [← ev_at_zero]
    exact (hI 0 0#8 (O.getD j 0#8) rfl rfl).1 (by omega)
  refine ⟨by rw [List.length_append, h.len, List.length_drop, hT, Nat.mul_succ], fun t ht p hp => ?_⟩
  by_cases e : t = j
  · subst e
    rw [pol_new O D T k t h.len hT hk h0]
    obtain ⟨i, hi⟩ := List.mem_iff_getElem?.1 hp
    have hil := (List.getElem?_eq_some_iff.1 hi).1
    refine (hI (i + 1) _ _ ?_ ?_).1 (by omega)
    · unfold sX; rw [List.getElem?_cons_succ, List.getElem?_map, hi]; rfl
    · unfold sY; rw [List.getElem?_cons_succ, List.getElem?_map, hi]; rfl
  · rw [pol_old O D _ k t j h.len (by omega)]
    exact h.at_ t (by omega) p hp
/-- The same bytes at the places that were taken. -/
theorem DrOk.same {O S F : List B} {P : List Nat} {k m : Nat} {D : List B} (h : DrOk O S F P k m m D) (p : Nat) (hp : p ∈ P) : yRow O D k m p = yRow S F k m p := by
  apply List.ext_getElem?
  intro j
  by_cases hj : j < m
  · have h1 := yRow_at O D k m p j hj
    have h2 := h.at_ j hj p hp
    rw [List.getElem?_eq_getElem (by rw [yRow_length]; exact hj), List.getElem?_eq_getElem (by rw [yRow_length]; exact hj)]
    have e : ∀ (l : List B) (hl : j < l.length), l[j] = l.getD j 0#8 := fun l hl => by simp [List.getD, List.getElem?_eq_getElem hl]
    rw [e, e, h1, h2]
  · rw [List.getElem?_eq_none (by rw [yRow_length]; omega), List.getElem?_eq_none (by rw [yRow_length]; omega)]
end Go.Proofs.YtineieoghlbchaaDoor
