/- The polynomial through points, multiplied out: what its steps come to. -/
import Derived.Test.YtineieoghlbchaaDoorPoly
namespace Go.Proofs.YtineieoghlbchaaDoor

theorem evs_set (cs : List B) (i : Nat) (a x : B) (h : i < cs.length) : ev (cs.set i (cs.getD i 0#8 ^^^ a)) x = ev cs x ^^^ mul a (pow x i) := by
  induction cs generalizing i with
  | nil => simp at h
  | cons c cs ih =>
    cases i with
    | zero =>
      simp only [List.set_cons_zero, List.getD_cons_zero, ev, pow, mul_one]
      ac_rfl
    | succ i =>
      simp only [List.set_cons_succ, List.getD_cons_succ, ev, pow]
      rw [ih i (by simpa using h), mul_xor_left, mul_assoc]
      ac_rfl
theorem evs_zeros (n : Nat) (x : B) : ev (List.replicate n 0#8) x = 0#8 := by
  induction n with
  | zero => rfl
  | succ n ih => simp [List.replicate_succ, ev, ih, zero_mul]
theorem evs_take (p : List B) (j : Nat) (z : B) (h : j < p.length) : ev (p.take (j + 1)) z = ev (p.take j) z ^^^ mul (p.getD j 0#8) (pow z j) := by
  have e : p.take (j + 1) = p.take j ++ [p.getD j 0#8] := by
    rw [List.take_succ_eq_append_getElem h]
    simp [List.getD, List.getElem?_eq_getElem h]
  rw [e, ev_snoc, List.length_take, Nat.min_eq_left (by omega)]

/-- One step of 'next'. -/
def nx (N p : List B) (x q : B) (j : Nat) : List B :=
  (N.set j (N.getD j 0#8 ^^^ mul (mul (p.getD j 0#8) x) q)).set (j + 1) ((N.set j (N.getD j 0#8 ^^^ mul (mul (p.getD j 0#8) x) q)).getD (j + 1) 0#8 ^^^ mul (p.getD j 0#8) q)
theorem nx_len (N p : List B) (x q : B) (j : Nat) : (nx N p x q j).length = N.length := by simp [nx]
theorem ev_nx (N p : List B) (x q z : B) (j : Nat) (hN : N.length = p.length + 1) (hj : j < p.length) (h : ev N z = mul (ev (p.take j) z) (mul q (x ^^^ z))) :
    ev (nx N p x q j) z = mul (ev (p.take (j + 1)) z) (mul q (x ^^^ z)) := by
  unfold nx
  rw [evs_set _ _ _ _ (by rw [List.length_set]; omega), evs_set _ _ _ _ (by omega), h, evs_take p j z hj, mul_xor_left]
  generalize p.getD j 0#8 = a
  generalize ev (p.take j) z = e
  have := mulC
  have := mulA
  have e1 : mul (mul a (pow z j)) (mul q (x ^^^ z)) = mul (mul (mul a x) q) (pow z j) ^^^ mul (mul a q) (pow z (j + 1)) := by
    rw [mul_xor, mul_xor]
    simp only [pow]
    congr 1 <;> ac_rfl
  rw [e1]
  ac_rfl

def InK (xs : List B) (i k : Nat) (y : B) (p : List B) : Prop := ∀ (t : Nat) c, xs[t]? = some c → (t = i → ev p c = y) ∧ (t < k → t ≠ i → ev p c = 0#8)
theorem InK.start (xs : List B) (i : Nat) (y : B) : InK xs i 0 y [y] := fun t c _ => ⟨fun _ => by simp [ev, zero_mul], fun h => by omega⟩
theorem InK.skip {xs : List B} {i : Nat} {y : B} {p : List B} (h : InK xs i i y p) : InK xs i (i + 1) y p := fun t c ht => ⟨(h t c ht).1, fun h1 h2 => (h t c ht).2 (by omega) h2⟩
theorem xor_ne0 {a b : B} (h : a ≠ b) : a ^^^ b ≠ 0#8 := fun e => h (by
  have : a ^^^ b ^^^ b = 0#8 ^^^ b := by rw [e]
  simpa [BitVec.xor_assoc] using this)
theorem InK.next {xs : List B} {i k : Nat} {y a b : B} {p p' : List B} (h : InK xs i k y p) (hnd : xs.Nodup) (hk : k ≠ i) (ha : xs[i]? = some a) (hb : xs[k]? = some b)
    (hz : ∀ z, ev p' z = mul (ev p z) (mul (quo 1#8 (a ^^^ b)) (b ^^^ z))) : InK xs i (k + 1) y p' := by
  intro t c ht
  have hab : a ≠ b := by
    intro e
    subst e
    obtain ⟨h1, e1⟩ := List.getElem?_eq_some_iff.1 ha
    obtain ⟨h2, e2⟩ := List.getElem?_eq_some_iff.1 hb
    have hp := List.pairwise_iff_getElem.1 hnd
    rcases Nat.lt_or_gt_of_ne hk with hlt | hlt
    · exact hp k i h2 h1 hlt (e2.trans e1.symm)
    · exact hp i k h1 h2 hlt (e1.trans e2.symm)
  refine ⟨fun e => ?_, fun h1 h2 => ?_⟩
  · subst e
    rw [ht] at ha
    cases ha
    have : b ^^^ a = a ^^^ b := by ac_rfl
    rw [hz, (h t a ht).1 rfl, this, quo_mul _ _ (xor_ne0 hab), mul_one]
  · rw [hz]
    by_cases e : t = k
    · subst e
      rw [ht] at hb
      cases hb
      rw [BitVec.xor_self, mul_zero, mul_zero]
    · rw [(h t c ht).2 (by omega) h2, zero_mul]

def InI (xs ys : List B) (i : Nat) (S : List B) : Prop := ∀ (t : Nat) c d, xs[t]? = some c → ys[t]? = some d → (t < i → ev S c = d) ∧ (i ≤ t → ev S c = 0#8)
theorem InI.start (xs ys : List B) (n : Nat) : InI xs ys 0 (List.replicate n 0#8) := fun t c d _ _ => ⟨fun h => by omega, fun _ => evs_zeros _ _⟩
theorem InI.next {xs ys : List B} {i : Nat} {y : B} {p S S' : List B} (h : InI xs ys i S) (hy : ys[i]? = some y) (hp : InK xs i xs.length y p) (hz : ∀ z, ev S' z = ev S z ^^^ ev p z) : InI xs ys (i + 1) S' := by
  intro t c d hc hd
  obtain ⟨h1, h2⟩ := h t c d hc hd
  obtain ⟨p1, p2⟩ := hp t c hc
  have htl := (List.getElem?_eq_some_iff.1 hc).1
  by_cases e : t = i
  · subst e
    rw [hd] at hy
    cases hy
    refine ⟨fun _ => ?_, fun h => by omega⟩
    rw [hz, h2 (Nat.le_refl _), p1 rfl, BitVec.zero_xor]
  · have p3 := p2 htl e
    refine ⟨fun h => ?_, fun h => ?_⟩
    · rw [hz, p3, BitVec.xor_zero, h1 (by omega)]
    · rw [hz, p3, BitVec.xor_zero, h2 (by omega)]
theorem evs_sum (S p : List B) (j : Nat) (z e : B) (hS : j < S.length) (hj : j < p.length) (h : ev S z = e ^^^ ev (p.take j) z) :
    ev (S.set j (S.getD j 0#8 ^^^ p.getD j 0#8)) z = e ^^^ ev (p.take (j + 1)) z := by
  rw [evs_set _ _ _ _ hS, h, evs_take p j z hj]
  ac_rfl
end Go.Proofs.YtineieoghlbchaaDoor
