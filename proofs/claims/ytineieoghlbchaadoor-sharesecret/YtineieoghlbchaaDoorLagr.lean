/- The points of a polynomial tell its first coefficient. -/
import Derived.Test.YtineieoghlbchaaDoorPoints
namespace Go.Proofs.YtineieoghlbchaaDoor

theorem xor_cancel (a b : B) : a ^^^ (a ^^^ b) = b := by rw [← BitVec.xor_assoc, BitVec.xor_self, BitVec.zero_xor]
/-- The sum of h over a list. -/
def sL : List B → (B → B) → B
  | [], _ => 0#8
  | x :: xs, h => h x ^^^ sL xs h
theorem sL_congr {l : List B} {h k : B → B} (e : ∀ x ∈ l, h x = k x) : sL l h = sL l k := by
  induction l with
  | nil => rfl
  | cons x l ih =>
    simp only [sL]
    rw [e x (by simp), ih (fun y hy => e y (by simp [hy]))]
theorem sL_mul (l : List B) (z : B) (h : B → B) : sL l (fun x => mul z (h x)) = mul z (sL l h) := by
  induction l with
  | nil => simp only [sL]; rw [mul_zero]
  | cons x l ih => simp only [sL]; rw [ih, mul_xor]
theorem sL_xor (l : List B) (h k : B → B) : sL l (fun x => h x ^^^ k x) = sL l h ^^^ sL l k := by
  induction l with
  | nil => simp [sL]
  | cons x l ih =>
    simp only [sL]
    rw [ih]
    ac_rfl
theorem sL_zero (l : List B) : sL l (fun _ => 0#8) = 0#8 := by
  induction l with
  | nil => rfl
  | cons x l ih => simp only [sL]; rw [ih]; rfl
theorem sL_snoc (l : List B) (x : B) (h : B → B) : sL (l ++ [x]) h = sL l h ^^^ h x := by
  induction l with
  | nil => simp [sL]
  | cons y l ih =>
    simp only [List.cons_append, sL]
    rw [ih]
    ac_rfl
/-- What the value at x counts for. -/
def wl : List B → B → B
  | [], _ => 1#8
  | o :: os, x => mul (part x o) (wl os x)
theorem wl_snoc (l : List B) (o x : B) : wl (l ++ [o]) x = mul (wl l x) (part x o) := by
  induction l with
  | nil => simp only [List.nil_append, wl]; rw [mul_comm]
  | cons y l ih =>
    simp only [List.cons_append, wl]
    rw [ih, mul_assoc]
theorem wtT_wl (cs : List B) (x : B) (k : Nat) (h : k ≤ cs.length) : wtT cs x k = wl (cs.take k) x := by
  induction k with
  | zero => rfl
  | succ k ih =>
    rw [take_next cs k (by omega), wl_snoc, ← ih (by omega)]
    rfl
theorem wtT_all (cs : List B) (x : B) : wtT cs x cs.length = wl cs x := by
  rw [wtT_wl cs x _ (Nat.le_refl _), List.take_of_length_le (Nat.le_refl _)]
theorem azT_sL (cs : List B) (f : B → B) (k : Nat) (h : k ≤ cs.length) : azT cs (cs.map f) k = sL (cs.take k) (fun x => mul (f x) (wl cs x)) := by
  induction k with
  | zero => rfl
  | succ k ih =>
    rw [take_next cs k (by omega), sL_snoc, ← ih (by omega)]
    simp only [azT]
    rw [wtT_all]
    have : (cs.map f).getD k 0#8 = f (cs.getD k 0#8) := by
      simp [List.getD, List.getElem?_eq_getElem (show k < cs.length by omega)]
    rw [this]
/-- The value at 0 of the values that f has at the places. -/
def AZ (cs : List B) (f : B → B) : B := sL cs (fun x => mul (f x) (wl cs x))
theorem atZ_AZ (cs : List B) (f : B → B) : atZ cs (cs.map f) = AZ cs f := by
  unfold atZ AZ
  rw [azT_sL cs f _ (Nat.le_refl _), List.take_of_length_le (Nat.le_refl _)]
theorem AZ_xor (cs : List B) (f g : B → B) : AZ cs (fun x => f x ^^^ g x) = AZ cs f ^^^ AZ cs g := by
  unfold AZ
  rw [← sL_xor]
  exact sL_congr fun x _ => mul_xor_left _ _ _
theorem AZ_mul (cs : List B) (z : B) (f : B → B) : AZ cs (fun x => mul z (f x)) = mul z (AZ cs f) := by
  unfold AZ
  rw [← sL_mul]
  exact sL_congr fun x _ => mul_assoc _ _ _

/-- All places but z. -/
def but (z : B) (cs : List B) : List B := cs.filter (fun o => decide (o ≠ z))
theorem but_none (z : B) (cs : List B) (h : z ∉ cs) : but z cs = cs := by
  unfold but
  rw [List.filter_eq_self]
  intro a ha
  exact decide_eq_true (fun e => h (e ▸ ha))
theorem but_cons_same (z : B) (cs : List B) : but z (z :: cs) = but z cs := by simp [but]
theorem but_cons (z o : B) (cs : List B) (h : o ≠ z) : but z (o :: cs) = o :: but z cs := by simp [but, h]
theorem but_good (z : B) (cs : List B) (h : Good cs) : Good (but z cs) :=
  ⟨h.1.sublist List.filter_sublist, fun hm => h.2 (List.mem_filter.1 hm).1⟩
theorem but_mem {z x : B} {cs : List B} (h : x ∈ but z cs) : x ≠ z := of_decide_eq_true (List.mem_filter.1 h).2
theorem but_length (z : B) (cs : List B) (h : cs.Nodup) (hm : z ∈ cs) : (but z cs).length + 1 = cs.length := by
  induction cs with
  | nil => simp at hm
  | cons o cs ih =>
    rw [List.nodup_cons] at h
    by_cases e : o = z
    · subst e
      rw [but_cons_same, but_none o cs h.1]
      rfl
    · have : z ∈ cs := by
        rcases List.mem_cons.1 hm with e' | e'
        · exact absurd e'.symm e
        · exact e'
      rw [but_cons z o cs e, List.length_cons, ih h.2 this, List.length_cons]
theorem wl_but (z x : B) (cs : List B) (h : cs.Nodup) (hm : z ∈ cs) : wl cs x = mul (part x z) (wl (but z cs) x) := by
  induction cs with
  | nil => simp at hm
  | cons o cs ih =>
    rw [List.nodup_cons] at h
    by_cases e : o = z
    · subst e
      rw [but_cons_same, but_none o cs h.1]
      rfl
    · have : z ∈ cs := by
        rcases List.mem_cons.1 hm with e' | e'
        · exact absurd e'.symm e
        · exact e'
      rw [but_cons z o cs e]
      simp only [wl]
      rw [ih h.2 this, ← mul_assoc, ← mul_assoc, mul_comm (part x o)]
theorem sL_but (z : B) (cs : List B) (h : B → B) (hz : h z = 0#8) : sL cs h = sL (but z cs) h := by
  induction cs with
  | nil => rfl
  | cons o cs ih =>
    by_cases e : o = z
    · subst e
      rw [but_cons_same, ← ih]
      simp only [sL]
      rw [hz, BitVec.zero_xor]
    · rw [but_cons z o cs e]
      simp only [sL]
      rw [ih]
theorem AZ_root (cs : List B) (h : Good cs) (z : B) (hm : z ∈ cs) (g : B → B) : AZ cs (fun x => mul (x ^^^ z) (g x)) = mul z (AZ (but z cs) g) := by
  unfold AZ
  rw [sL_but z cs _ (by dsimp only; rw [BitVec.xor_self, zero_mul, zero_mul]), ← sL_mul]
  apply sL_congr
  intro x hx
  dsimp only
  have hne := but_mem hx
  rw [wl_but z x cs h.1 hm]
  have hp : part x z = quo z (z ^^^ x) := by unfold part; rw [if_neg (fun e => hne e.symm)]
  have hq : mul (x ^^^ z) (quo z (z ^^^ x)) = z := by
    rw [BitVec.xor_comm x z, mul_comm]
    exact quo_mul z _ (xor_ne (fun e => hne e.symm))
  rw [hp]
  have := mulC
  have := mulA
  have e : mul (mul (x ^^^ z) (g x)) (mul (quo z (z ^^^ x)) (wl (but z cs) x)) = mul (mul (x ^^^ z) (quo z (z ^^^ x))) (mul (g x) (wl (but z cs) x)) := by ac_rfl
  rw [e, hq]
theorem cancel_one {a b : B} (ha : a ≠ 0#8) (h : mul a b = a) : b = 1#8 := by
  have h2 : mul (inv a) (mul a b) = mul (inv a) a := by rw [h]
  rw [← mul_assoc, mul_comm (inv a) a, mul_inv a ha, one_mul] at h2
  exact h2
theorem AZ_one (n : Nat) : ∀ cs : List B, Good cs → cs.length = n + 1 → AZ cs (fun _ => 1#8) = 1#8 := by
  induction n with
  | zero =>
    intro cs h hl
    obtain ⟨x, rfl⟩ := List.length_eq_one_iff.1 hl
    simp only [AZ, sL, wl]
    rw [part, if_pos rfl]
    decide +kernel
  | succ n ih =>
    intro cs h hl
    match cs, h, hl with
    | z :: y :: r, h, hl =>
      have hzy : z ≠ y := by
        have := (List.nodup_cons.1 h.1).1
        exact fun e => this (by rw [e]; simp)
      have key : ∀ u, u ∈ z :: y :: r → AZ (z :: y :: r) (fun x => mul (x ^^^ u) 1#8) = u := by
        intro u hu
        rw [AZ_root _ h u hu (fun _ => 1#8), ih (but u (z :: y :: r)) (but_good u _ h) (by have := but_length u _ h.1 hu; omega), mul_one]
      have k1 := key z (by simp)
      have k2 := key y (by simp)
      have hsum : AZ (z :: y :: r) (fun x => mul (x ^^^ z) 1#8 ^^^ mul (x ^^^ y) 1#8) = z ^^^ y := by rw [AZ_xor, k1, k2]
      have hc : AZ (z :: y :: r) (fun x => mul (x ^^^ z) 1#8 ^^^ mul (x ^^^ y) 1#8) = AZ (z :: y :: r) (fun _ => mul (z ^^^ y) 1#8) := by
        unfold AZ
        apply sL_congr
        intro x _
        dsimp only
        rw [mul_one, mul_one, mul_one]
        have : x ^^^ z ^^^ (x ^^^ y) = x ^^^ (x ^^^ (z ^^^ y)) := by ac_rfl
        rw [this, xor_cancel]
      rw [hc, AZ_mul] at hsum
      exact cancel_one (xor_ne hzy) hsum
theorem AZ_ev (c : List B) : ∀ cs : List B, Good cs → 0 < cs.length → c.length ≤ cs.length → AZ cs (ev c) = c.getD 0 0#8 := by
  induction c with
  | nil =>
    intro cs h h0 hl
    have : AZ cs (ev []) = sL cs (fun _ => 0#8) := sL_congr fun x _ => zero_mul _
    rw [this, sL_zero]
    rfl
  | cons c0 g ih =>
    intro cs h h0 hl
    match cs, h, h0, hl with
    | z :: r, h, h0, hl =>
      have hm : z ∈ z :: r := by simp
      have hb := but_length z _ h.1 hm
      have e1 : AZ (z :: r) (ev (c0 :: g)) = AZ (z :: r) (fun x => (mul (x ^^^ z) (ev g x) ^^^ mul z (ev g x)) ^^^ mul c0 1#8) := by
        unfold AZ
        apply sL_congr
        intro x _
        dsimp only
        rw [← mul_xor_left (x ^^^ z) z (ev g x), BitVec.xor_assoc, BitVec.xor_self, BitVec.xor_zero, mul_one]
        simp only [ev]
        rw [mul_comm (ev g x) x]
      rw [e1, AZ_xor, AZ_xor, AZ_root _ h z hm, AZ_mul, AZ_mul _ c0 (fun _ => 1#8), AZ_one (z :: r).length.pred _ h (by simp), mul_one]
      have e2 : mul z (AZ (but z (z :: r)) (ev g)) = mul z (AZ (z :: r) (ev g)) := by
        cases g with
        | nil =>
          have : ∀ l : List B, AZ l (ev []) = 0#8 := fun l => by
            have : AZ l (ev []) = sL l (fun _ => 0#8) := sL_congr fun x _ => zero_mul _
            rw [this, sL_zero]
          rw [this, this]
        | cons d g =>
          simp only [List.length_cons] at hl hb
          rw [ih (z :: r) h (by simp) (by simp only [List.length_cons]; omega), ih (but z (z :: r)) (but_good z _ h) (by omega) (by simp only [List.length_cons]; omega)]
      rw [e2, BitVec.xor_self, BitVec.zero_xor]
      rfl
theorem part_ne (x o : B) (h : o ≠ 0#8) : part x o ≠ 0#8 := by
  unfold part
  split
  · decide
  · rename_i he
    unfold quo
    exact mul_ne h (inv_ne (xor_ne he))
theorem wtT_ne (cs : List B) (x : B) (h : 0#8 ∉ cs) (k : Nat) (hk : k ≤ cs.length) : wtT cs x k ≠ 0#8 := by
  rw [← E_lsT cs x k hk h]
  exact E_ne _
/-- One value is another one. -/
theorem azT_turn (cs ds : List B) (t : B) (hd : 0 < ds.length) (k : Nat) : azT cs (ds.set 0 (ds.getD 0 0#8 ^^^ t)) (k + 1) = azT cs ds (k + 1) ^^^ mul t (wtT cs (cs.getD 0 0#8) cs.length) := by
  induction k with
  | zero =>
    simp only [azT]
    have : (ds.set 0 (ds.getD 0 0#8 ^^^ t)).getD 0 0#8 = ds.getD 0 0#8 ^^^ t := by
      simp [List.getD, List.getElem?_set_self hd]
    rw [this, mul_xor_left]
    ac_rfl
  | succ k ih =>
    have e : ∀ es : List B, azT cs es (k + 1 + 1) = azT cs es (k + 1) ^^^ mul (es.getD (k + 1) 0#8) (wtT cs (cs.getD (k + 1) 0#8) cs.length) := fun _ => rfl
    rw [e, e, ih]
    have : (ds.set 0 (ds.getD 0 0#8 ^^^ t)).getD (k + 1) 0#8 = ds.getD (k + 1) 0#8 := by
      simp only [List.getD]
      rw [List.getElem?_set_ne (by omega)]
    rw [this]
    ac_rfl
theorem atZ_turn (cs ds : List B) (t : B) (h : Good cs) (h0 : 0 < cs.length) (hd : 0 < ds.length) (ht : t ≠ 0#8) : atZ cs (ds.set 0 (ds.getD 0 0#8 ^^^ t)) ≠ atZ cs ds := by
  unfold atZ
  obtain ⟨k, hk⟩ : ∃ k, cs.length = k + 1 := ⟨cs.length - 1, by omega⟩
  intro e
  have h1 := azT_turn cs ds t hd k
  rw [← hk, e] at h1
  have h2 : mul t (wtT cs (cs.getD 0 0#8) cs.length) = 0#8 := by
    obtain ⟨p, ep⟩ : ∃ p, p = azT cs ds cs.length := ⟨_, rfl⟩
    obtain ⟨q, eq⟩ : ∃ q, q = mul t (wtT cs (cs.getD 0 0#8) cs.length) := ⟨_, rfl⟩
    rw [← ep, ← eq] at h1
    rw [← eq]
    have h3 : p ^^^ p = p ^^^ (p ^^^ q) := congrArg (fun z => p ^^^ z) h1
    rw [BitVec.xor_self, xor_cancel] at h3
    exact h3.symm
  exact mul_ne ht (wtT_ne cs _ h.2 _ (Nat.le_refl _)) h2
end Go.Proofs.YtineieoghlbchaaDoor
