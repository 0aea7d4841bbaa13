/- Digits read as a number: what is of no program. -/
import Derived.Test.YtmnkbbfpdohpkabDoorFmt
import Derived.Lib.ParseIntB
namespace Go.Proofs.YtmnkbbfpdohpkabDoor
open Go.RowKit

def digs (l : List UInt8) : Prop := ∀ c ∈ l, 48 ≤ c.toNat ∧ c.toNat ≤ 57
def valFrom (a : Nat) (l : List UInt8) : Nat := l.foldl (fun a c => a * 10 + (c.toNat - 48)) a

theorem valFrom_eq (l : List UInt8) : ∀ a, valFrom a l = a * 10 ^ l.length + valFrom 0 l := by
  induction l with
  | nil => intro a; simp [valFrom]
  | cons c l ih =>
    intro a
    have h1 : valFrom a (c :: l) = valFrom (a * 10 + (c.toNat - 48)) l := rfl
    have h2 : valFrom 0 (c :: l) = valFrom (0 * 10 + (c.toNat - 48)) l := rfl
    rw [h1, h2, ih, ih (0 * 10 + _), List.length_cons, Nat.pow_succ, Nat.zero_mul, Nat.zero_add, Nat.add_mul, Nat.mul_assoc, Nat.mul_comm 10, Nat.add_assoc]

theorem valFrom_lt (l : List UInt8) (h : digs l) : valFrom 0 l < 10 ^ l.length := by
  induction l with
  | nil => simp [valFrom]
  | cons c l ih =>
    have h2 : valFrom 0 (c :: l) = valFrom (0 * 10 + (c.toNat - 48)) l := rfl
    have hc := h c (by simp)
    have := ih (fun x hx => h x (by simp [hx]))
    rw [h2, valFrom_eq, List.length_cons, Nat.pow_succ]
    have : (0 * 10 + (c.toNat - 48)) * 10 ^ l.length ≤ 9 * 10 ^ l.length := Nat.mul_le_mul_right _ (by omega)
    omega

theorem parse_val (l : List UInt8) (h : digs l) : ∀ acc, Lib.parseUintM (2 ^ 64 - 1) acc l = if valFrom acc l ≤ 18446744073709551615 ∨ l = [] then .ok (valFrom acc l) else .range := by
  induction l with
  | nil => intro acc; simp [Lib.parseUintM, valFrom]
  | cons c l ih =>
    intro acc
    have hc := h c (by simp)
    have h1 : valFrom acc (c :: l) = valFrom (acc * 10 + (c.toNat - 48)) l := rfl
    have hge : acc * 10 + (c.toNat - 48) ≤ valFrom (acc * 10 + (c.toNat - 48)) l := by
      rw [valFrom_eq]
      have : 1 ≤ 10 ^ l.length := Nat.one_le_pow _ _ (by decide)
      have := Nat.mul_le_mul_left (acc * 10 + (c.toNat - 48)) this
      omega
    rw [Lib.parseUintM, if_pos hc, h1]
    split
    · rw [if_neg]; simp; omega
    · split
      · rw [if_neg]; simp; omega
      · rw [ih (fun x hx => h x (by simp [hx]))]
        cases l with
        | nil => simp [valFrom] at *; omega
        | cons d l => simp

/-- Of two numerals of one length the lesser ahead is the lesser. -/
theorem less_val : ∀ (a b : List UInt8), digs a → digs b → a.length = b.length → (Op.bytesLess a b = true ↔ valFrom 0 a < valFrom 0 b) := by
  intro a
  induction a with
  | nil => intro b _ _ h; cases b with
    | nil => simp [Op.bytesLess, valFrom]
    | cons => simp at h
  | cons x a ih => intro b ha hb h; cases b with
    | nil => simp at h
    | cons y b =>
      have hl : a.length = b.length := by simpa using h
      have hx := ha x (by simp)
      have hy := hb y (by simp)
      have ha' : digs a := fun z hz => ha z (by simp [hz])
      have hb' : digs b := fun z hz => hb z (by simp [hz])
      have h1 : valFrom 0 (x :: a) = (x.toNat - 48) * 10 ^ a.length + valFrom 0 a := by
        have : valFrom 0 (x :: a) = valFrom (0 * 10 + (x.toNat - 48)) a := rfl
        rw [this, valFrom_eq]; simp
      have h2 : valFrom 0 (y :: b) = (y.toNat - 48) * 10 ^ a.length + valFrom 0 b := by
        have : valFrom 0 (y :: b) = valFrom (0 * 10 + (y.toNat - 48)) b := rfl
        rw [this, valFrom_eq, hl]; simp
      have la := valFrom_lt a ha'
      have lb := valFrom_lt b hb'
      rw [← hl] at lb
      rw [h1, h2]
      simp only [Op.bytesLess, Bool.or_eq_true, Bool.and_eq_true, decide_eq_true_eq, beq_iff_eq, UInt8.lt_iff_toNat_lt]
      rcases Nat.lt_trichotomy x.toNat y.toNat with hlt | heq | hgt
      · have : (x.toNat - 48 + 1) * 10 ^ a.length ≤ (y.toNat - 48) * 10 ^ a.length := Nat.mul_le_mul_right _ (by omega)
        rw [Nat.add_mul] at this
        constructor
        · intro _; omega
        · intro _; exact Or.inl hlt
      · have e : x = y := UInt8.toNat_inj.1 heq
        subst e
        rw [ih b ha' hb' hl]
        constructor
        · rintro (h | ⟨_, h⟩) <;> omega
        · intro h; exact Or.inr ⟨rfl, by omega⟩
      · have : (y.toNat - 48 + 1) * 10 ^ a.length ≤ (x.toNat - 48) * 10 ^ a.length := Nat.mul_le_mul_right _ (by omega)
        rw [Nat.add_mul] at this
        constructor
        · rintro (h | ⟨h, _⟩)
          · omega
          · subst h; omega
        · intro h; omega

def most : List UInt8 := [49, 56, 52, 52, 54, 55, 52, 52, 48, 55, 51, 55, 48, 57, 53, 53, 49, 54, 49, 53]
theorem most_digs : digs most := by unfold digs most; decide
theorem most_val : valFrom 0 most = 18446744073709551615 := by decide

theorem eq_of_val : ∀ (a b : List UInt8), digs a → digs b → a.length = b.length → valFrom 0 a = valFrom 0 b → a = b := by
  intro a
  induction a with
  | nil => intro b _ _ h _; cases b with
    | nil => rfl
    | cons => simp at h
  | cons x a ih => intro b ha hb h hv; cases b with
    | nil => simp at h
    | cons y b =>
      have hl : a.length = b.length := by simpa using h
      have hx := ha x (by simp)
      have hy := hb y (by simp)
      have ha' : digs a := fun z hz => ha z (by simp [hz])
      have hb' : digs b := fun z hz => hb z (by simp [hz])
      have h1 : valFrom 0 (x :: a) = (x.toNat - 48) * 10 ^ a.length + valFrom 0 a := by
        have : valFrom 0 (x :: a) = valFrom (0 * 10 + (x.toNat - 48)) a := rfl
        rw [this, valFrom_eq]; simp
      have h2 : valFrom 0 (y :: b) = (y.toNat - 48) * 10 ^ a.length + valFrom 0 b := by
        have : valFrom 0 (y :: b) = valFrom (0 * 10 + (y.toNat - 48)) b := rfl
        rw [this, valFrom_eq, hl]; simp
      have la := valFrom_lt a ha'
      have lb := valFrom_lt b hb'
      rw [← hl] at lb
      rw [h1, h2] at hv
      rcases Nat.lt_trichotomy x.toNat y.toNat with hlt | heq | hgt
      · have : (x.toNat - 48 + 1) * 10 ^ a.length ≤ (y.toNat - 48) * 10 ^ a.length := Nat.mul_le_mul_right _ (by omega)
        rw [Nat.add_mul] at this
        omega
      · have e : x = y := UInt8.toNat_inj.1 heq
        subst e
        rw [ih b ha' hb' hl (by omega)]
      · have : (y.toNat - 48 + 1) * 10 ^ a.length ≤ (x.toNat - 48) * 10 ^ a.length := Nat.mul_le_mul_right _ (by omega)
        rw [Nat.add_mul] at this
        omega

/-- Twenty digits that are more than the greatest. -/
theorem more_val (a : List UInt8) (ha : digs a) (hl : a.length = 20) : (!(Op.bytesLess a most || a == most)) = decide (18446744073709551615 < valFrom 0 a) := by
  have h := less_val a most ha most_digs hl
  rw [most_val] at h
  have h2 : (a == most) = decide (valFrom 0 a = 18446744073709551615) := by
    by_cases e : a = most
    · subst e; simp [most_val]
    · have : ¬ valFrom 0 a = 18446744073709551615 := fun hv => e (eq_of_val a most ha most_digs hl (hv.trans most_val.symm))
      simp [e, this]
  rw [h2]
  by_cases h3 : valFrom 0 a < 18446744073709551615
  · have := h.2 h3
    rw [this]; simp; omega
  · have : Op.bytesLess a most = false := by
      cases hb : Op.bytesLess a most with
      | false => rfl
      | true => exact absurd (h.1 hb) h3
    rw [this]
    by_cases h4 : valFrom 0 a = 18446744073709551615
    · simp [h4]
    · simp [h4]; omega

theorem len_small (a : List UInt8) (ha : digs a) (hl : a.length < 20) : valFrom 0 a ≤ 18446744073709551615 := by
  have := valFrom_lt a ha
  have h2 : 10 ^ a.length ≤ 10 ^ 19 := Nat.pow_le_pow_right (by decide) (by omega)
  have : (10 : Nat) ^ 19 = 10000000000000000000 := by decide
  omega

theorem len_big (a : List UInt8) (ha : digs a) (hl : 20 < a.length) (h0 : ∀ c, a[0]? = some c → c.toNat ≠ 48) : 18446744073709551615 < valFrom 0 a := by
  cases a with
  | nil => simp at hl
  | cons c a =>
    have hc := ha c (by simp)
    have hn := h0 c rfl
    have h1 : valFrom 0 (c :: a) = (c.toNat - 48) * 10 ^ a.length + valFrom 0 a := by
      have : valFrom 0 (c :: a) = valFrom (0 * 10 + (c.toNat - 48)) a := rfl
      rw [this, valFrom_eq]; simp
    have h2 : 10 ^ 20 ≤ 10 ^ a.length := Nat.pow_le_pow_right (by decide) (by simp at hl; omega)
    have h3 : 1 * 10 ^ a.length ≤ (c.toNat - 48) * 10 ^ a.length := Nat.mul_le_mul_right _ (by omega)
    have : (10 : Nat) ^ 20 = 100000000000000000000 := by decide
    omega
end Go.Proofs.YtmnkbbfpdohpkabDoor
