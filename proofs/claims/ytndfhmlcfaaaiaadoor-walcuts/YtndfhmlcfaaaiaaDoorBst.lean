/- A frame in which bits were turned within 32 that follow one another is no frame any more. -/
import Derived.Test.YtndfhmlcfaaaiaaDoorFrm
namespace Go.Proofs.YtndfhmlcfaaaiaaDoor

/-- Two sectors that are unlike within 32 bits that follow one another, all outside of the check or all within it. -/
def BurstD (s t : Sec) : Prop := ∃ (a : Nat) (c : Bool), (∃ k, bt s.l k ≠ bt t.l k) ∧ ∀ k, bt s.l k ≠ bt t.l k → a ≤ k ∧ k < a + 32 ∧ decide (224 ≤ k ∧ k < 256) = c
theorem bits_ext {l m : List B} (hl : l.length = m.length) (h : ∀ k, bt l k = bt m k) : l = m := by
  refine List.ext_getElem hl fun i h1 h2 => ?_
  apply BitVec.eq_of_getLsbD_eq
  intro j hj
  have h3 := h (8 * i + j)
  unfold bt at h3
  rw [show (8 * i + j) / 8 = i by omega, show (8 * i + j) % 8 = j by omega] at h3
  simpa [List.getD, List.getElem?_eq_getElem h1, List.getElem?_eq_getElem h2] using h3
theorem mid_lo (a m z : List B) (i : Nat) (h : i < a.length) : (a ++ (m ++ z)).getD i 0#8 = a.getD i 0#8 := by
  simp [List.getD, List.getElem?_append_left h]
theorem mid_mid (a m z : List B) (i : Nat) (h : a.length ≤ i) (h2 : i < a.length + m.length) : (a ++ (m ++ z)).getD i 0#8 = m.getD (i - a.length) 0#8 := by
  rw [List.getD_eq_getElem?_getD, List.getD_eq_getElem?_getD, List.getElem?_append_right h, List.getElem?_append_left (by omega)]
theorem mid_hi (a m z : List B) (i : Nat) (h : a.length + m.length ≤ i) : (a ++ (m ++ z)).getD i 0#8 = z.getD (i - a.length - m.length) 0#8 := by
  rw [List.getD_eq_getElem?_getD, List.getD_eq_getElem?_getD, List.getElem?_append_right (by omega), List.getElem?_append_right (by omega)]
section
variable (k : B) (g s ix : Nat) (x : Pg)
theorem bt_out (j : Nat) (h : j < 224 ∨ 256 ≤ j) : bt (frm k g s ix x).l j = bt (bare k g s ix x) j := by
  unfold bt frm bare
  have hl := hd28_length k g s ix
  have h4 : ([0#8, 0#8, 0#8, 0#8] : List B).length = 4 := rfl
  have h5 := beb_length 4 (chk k g s ix x)
  rcases h with h | h
  · rw [mid_lo _ _ _ _ (by omega), mid_lo _ _ _ _ (by omega)]
  · rw [mid_hi _ _ _ _ (by omega), mid_hi _ _ _ _ (by omega), h5, h4]
theorem bt_in (j : Nat) (h : 224 ≤ j) (h2 : j < 256) : bt (bare k g s ix x) j = false := by
  unfold bt bare
  have hl := hd28_length k g s ix
  have h4 : ([0#8, 0#8, 0#8, 0#8] : List B).length = 4 := rfl
  rw [mid_mid _ _ _ _ (by omega) (by omega), hl]
  have h3 : j / 8 - 28 = 0 ∨ j / 8 - 28 = 1 ∨ j / 8 - 28 = 2 ∨ j / 8 - 28 = 3 := by omega
  rcases h3 with e | e | e | e <;> rw [e] <;> simp [List.getD]
theorem bt_chk (j : Nat) (h : 224 ≤ j) (h2 : j < 256) : bt (frm k g s ix x).l j = bt (beb 4 (chk k g s ix x)) (j - 224) := by
  unfold bt frm
  have hl := hd28_length k g s ix
  have h5 := beb_length 4 (chk k g s ix x)
  rw [mid_mid _ _ _ _ (by omega) (by omega), hl, show (j - 224) / 8 = j / 8 - 28 by omega, show (j - 224) % 8 = j % 8 by omega]
theorem chk_lt : chk k g s ix x < 256 ^ 4 := by
  unfold chk
  have := (crc (bare k g s ix x)).isLt
  exact this
end
theorem frm_eq_of_bare {k k' : B} {g g' s s' ix ix' : Nat} {x x' : Pg} (h : bare k g s ix x = bare k' g' s' ix' x') : frm k g s ix x = frm k' g' s' ix' x' := by
  have hc : chk k g s ix x = chk k' g' s' ix' x' := by unfold chk; rw [h]
  have hl := hd28_length k g s ix
  have hl' := hd28_length k' g' s' ix'
  have h' := h
  unfold bare at h'
  have h1 : hd28 k g s ix = hd28 k' g' s' ix' := by
    have := congrArg (List.take 28) h'
    rwa [List.take_left' hl, List.take_left' hl'] at this
  rw [h1] at h'
  have h2 := List.append_cancel_left (List.append_cancel_left h')
  unfold frm
  simp only [h1, hc, h2]
theorem burst_notF {s t : Sec} (hs : isF s) (h : BurstD s t) : ¬ isF t := by
  intro ht
  obtain ⟨a, c, ⟨k1, hk1⟩, hall⟩ := h
  unfold isF at hs ht
  obtain ⟨b, hb⟩ : ∃ b, b = bare (kin s) (gin s) (sin s) (xin s) (pin s) := ⟨_, rfl⟩
  obtain ⟨b', hb'⟩ : ∃ b, b = bare (kin t) (gin t) (sin t) (xin t) (pin t) := ⟨_, rfl⟩
  have o1 : ∀ j, (j < 224 ∨ 256 ≤ j) → bt s.l j = bt b j := fun j hj => by rw [hb, ← bt_out _ _ _ _ _ j hj, ← hs]
  have o2 : ∀ j, (j < 224 ∨ 256 ≤ j) → bt t.l j = bt b' j := fun j hj => by rw [hb', ← bt_out _ _ _ _ _ j hj, ← ht]
  have i1 : ∀ j, 224 ≤ j → j < 256 → bt b j = false := fun j h1 h2 => by rw [hb]; exact bt_in _ _ _ _ _ j h1 h2
  have i2 : ∀ j, 224 ≤ j → j < 256 → bt b' j = false := fun j h1 h2 => by rw [hb']; exact bt_in _ _ _ _ _ j h1 h2
  have l1 : b.length = 512 := by rw [hb]; exact bare_length _ _ _ _ _
  have l2 : b'.length = 512 := by rw [hb']; exact bare_length _ _ _ _ _
  cases c with
  | true =>
    have e : b = b' := by
      refine bits_ext (by omega) fun j => ?_
      by_cases hj : 224 ≤ j ∧ j < 256
      · rw [i1 j hj.1 hj.2, i2 j hj.1 hj.2]
      · rw [← o1 j (by omega), ← o2 j (by omega)]
        by_cases he : bt s.l j = bt t.l j
        · exact he
        · have := (hall j he).2.2
          simp [hj] at this
    rw [hb, hb'] at e
    have h1 := frm_eq_of_bare e
    rw [← hs, ← ht] at h1
    exact hk1 (by rw [h1])
  | false =>
    have hout : ∀ j, bt s.l j ≠ bt t.l j → j < 224 ∨ 256 ≤ j := fun j hj => by
      have := (hall j hj).2.2
      simp at this
      omega
    have hd : ∀ j, bt b j ≠ bt b' j → bt s.l j ≠ bt t.l j := fun j hj => by
      by_cases h1 : 224 ≤ j ∧ j < 256
      · exact absurd ((i1 j h1.1 h1.2).trans (i2 j h1.1 h1.2).symm) hj
      · rw [o1 j (by omega), o2 j (by omega)]; exact hj
    have hcrc : crc b ≠ crc b' := by
      classical
      have hex : ∃ j, bt s.l j ≠ bt t.l j := ⟨k1, hk1⟩
      obtain ⟨k0, hk0, hmin⟩ : ∃ k0, bt s.l k0 ≠ bt t.l k0 ∧ ∀ j, j < k0 → ¬ bt s.l j ≠ bt t.l j := by
        have : ∀ n, (∃ j, j ≤ n ∧ bt s.l j ≠ bt t.l j) → ∃ k0, bt s.l k0 ≠ bt t.l k0 ∧ ∀ j, j < k0 → ¬ bt s.l j ≠ bt t.l j := by
          intro n
          induction n with
          | zero =>
            rintro ⟨j, hj, h2⟩
            exact ⟨j, h2, fun i hi => by omega⟩
          | succ n ih =>
            rintro ⟨j, hj, h2⟩
            by_cases h3 : ∃ j, j ≤ n ∧ bt s.l j ≠ bt t.l j
            · exact ih h3
            · refine ⟨j, h2, fun i hi h4 => h3 ⟨i, by omega, h4⟩⟩
        exact this k1 ⟨k1, Nat.le_refl _, hk1⟩
      refine crc_burst b b' (by omega) k0 ?_ fun j hj => ?_
      · rw [← o1 k0 (hout k0 hk0), ← o2 k0 (hout k0 hk0)]; exact hk0
      · have h2 := hd j hj
        have h3 := hall j h2
        have h4 := hall k0 hk0
        refine ⟨?_, by omega⟩
        by_cases h5 : j < k0
        · exact absurd h2 (hmin j h5)
        · omega
    have hceq : chk (kin s) (gin s) (sin s) (xin s) (pin s) = chk (kin t) (gin t) (sin t) (xin t) (pin t) := by
      have hbe : beb 4 (chk (kin s) (gin s) (sin s) (xin s) (pin s)) = beb 4 (chk (kin t) (gin t) (sin t) (xin t) (pin t)) := by
        refine bits_ext (by rw [beb_length, beb_length]) fun j => ?_
        by_cases hj : j < 32
        · have h1 := bt_chk (kin s) (gin s) (sin s) (xin s) (pin s) (j + 224) (by omega) (by omega)
          have h2 := bt_chk (kin t) (gin t) (sin t) (xin t) (pin t) (j + 224) (by omega) (by omega)
          rw [← hs, Nat.add_sub_cancel] at h1
          rw [← ht, Nat.add_sub_cancel] at h2
          rw [← h1, ← h2]
          by_cases he : bt s.l (j + 224) = bt t.l (j + 224)
          · exact he
          · have := hout _ he; omega
        · unfold bt
          rw [List.getD_eq_getElem?_getD, List.getD_eq_getElem?_getD, List.getElem?_eq_none (by rw [beb_length]; omega), List.getElem?_eq_none (by rw [beb_length]; omega)]
      have h1 := congrArg nub hbe
      rwa [nub_beb, nub_beb, Nat.mod_eq_of_lt (chk_lt _ _ _ _ _), Nat.mod_eq_of_lt (chk_lt _ _ _ _ _)] at h1
    unfold chk at hceq
    rw [← hb, ← hb'] at hceq
    exact hcrc (BitVec.eq_of_toNat_eq hceq)
end Go.Proofs.YtndfhmlcfaaaiaaDoor
