/- A block enciphered and deciphered: there and back. -/
import Derived.Test.YtjhkicfndbceoaaRound
namespace Go.Proofs.Ytjhkicfndbceoaa
open Go.RowKit

theorem mul_two (x : B) : mul x 2#8 = tt x := all_of (P := fun x => mul x 2#8 = tt x) (by decide +kernel) x
/-- Four bytes, mixed. -/
def col (c : B × B × B × B) : B × B × B × B := (mx c.1 c.2.1 c.2.2.1 c.2.2.2, mx c.2.1 c.2.2.1 c.2.2.2 c.1, mx c.2.2.1 c.2.2.2 c.1 c.2.1, mx c.2.2.2 c.1 c.2.1 c.2.2.1)
def cadd (c d : B × B × B × B) : B × B × B × B := (c.1 ^^^ d.1, c.2.1 ^^^ d.2.1, c.2.2.1 ^^^ d.2.2.1, c.2.2.2 ^^^ d.2.2.2)
theorem mx_add (a b c d a' b' c' d' : B) : mx (a ^^^ a') (b ^^^ b') (c ^^^ c') (d ^^^ d') = mx a b c d ^^^ mx a' b' c' d' := by
  unfold mx
  rw [mul_two, mul_two, mul_two]
  have e : a ^^^ a' ^^^ (b ^^^ b') = (a ^^^ b) ^^^ (a' ^^^ b') := by ac_rfl
  rw [e, tt_xor]
  ac_rfl
theorem col_add (c d : B × B × B × B) : col (cadd c d) = cadd (col c) (col d) := by
  simp only [col, cadd, mx_add]
theorem parts (a b c d : B) : (a, b, c, d) = cadd (cadd (a, 0#8, 0#8, 0#8) (0#8, b, 0#8, 0#8)) (cadd (0#8, 0#8, c, 0#8) (0#8, 0#8, 0#8, d)) := by
  simp [cadd]
theorem four0 (a : B) : col (col (col (col (a, 0#8, 0#8, 0#8)))) = (a, 0#8, 0#8, 0#8) := all_of (P := fun a => col (col (col (col (a, 0#8, 0#8, 0#8)))) = (a, 0#8, 0#8, 0#8)) (by decide +kernel) a
theorem four1 (a : B) : col (col (col (col (0#8, a, 0#8, 0#8)))) = (0#8, a, 0#8, 0#8) := all_of (P := fun a => col (col (col (col (0#8, a, 0#8, 0#8)))) = (0#8, a, 0#8, 0#8)) (by decide +kernel) a
theorem four2 (a : B) : col (col (col (col (0#8, 0#8, a, 0#8)))) = (0#8, 0#8, a, 0#8) := all_of (P := fun a => col (col (col (col (0#8, 0#8, a, 0#8)))) = (0#8, 0#8, a, 0#8)) (by decide +kernel) a
theorem four3 (a : B) : col (col (col (col (0#8, 0#8, 0#8, a)))) = (0#8, 0#8, 0#8, a) := all_of (P := fun a => col (col (col (col (0#8, 0#8, 0#8, a)))) = (0#8, 0#8, 0#8, a)) (by decide +kernel) a
/-- Mixed four times, four bytes are what they were. -/
theorem col_four (c : B × B × B × B) : col (col (col (col c))) = c := by
  obtain ⟨a, b, c, d⟩ := c
  rw [parts a b c d]
  simp only [col_add, four0, four1, four2, four3]
/-- A block of four columns. -/
def ofC (p q r s : B × B × B × B) : List B := [p.1, p.2.1, p.2.2.1, p.2.2.2, q.1, q.2.1, q.2.2.1, q.2.2.2, r.1, r.2.1, r.2.2.1, r.2.2.2, s.1, s.2.1, s.2.2.1, s.2.2.2]
theorem ofC_ex (b : List B) (h : b.length = 16) : ∃ p q r s, b = ofC p q r s := by
  match b, h with
  | [a0, a1, a2, a3, a4, a5, a6, a7, a8, a9, a10, a11, a12, a13, a14, a15], _ => exact ⟨(a0, a1, a2, a3), (a4, a5, a6, a7), (a8, a9, a10, a11), (a12, a13, a14, a15), rfl⟩
theorem mixL_of (p q r s : B × B × B × B) : mixL (ofC p q r s) = ofC (col p) (col q) (col r) (col s) := by rfl
theorem mix_four (b : List B) (h : b.length = 16) : mixL (mixL (mixL (mixL b))) = b := by
  obtain ⟨p, q, r, s, rfl⟩ := ofC_ex b h
  simp only [mixL_of, col_four]
theorem mixR_four (last : Bool) (b : List B) (h : b.length = 16) : mixR last (mixR last (mixR last (mixR last b))) = b := by
  cases last
  · exact mix_four b h
  · rfl
theorem addL_addL (b k : List B) (h : b.length = k.length) : addL (addL b k) k = b := by
  induction b generalizing k with
  | nil => cases k <;> simp_all [addL]
  | cons x b ih =>
    cases k with
    | nil => simp at h
    | cons y k =>
      simp only [List.length_cons, Nat.add_right_cancel_iff] at h
      have := ih k h
      simp only [addL, List.zipWith_cons_cons] at this ⊢
      rw [this, BitVec.xor_assoc, BitVec.xor_self, BitVec.xor_zero]
theorem map_us_sb (b : List B) : (b.map sb).map us = b := by simp [Function.comp_def, us_sb]
theorem map_sb_us (b : List B) : (b.map us).map sb = b := by simp [Function.comp_def, sb_us]

/-- A round. -/
def encR (ks : List B) (last : Bool) (b : List B) : List B := addL (mixR last (turnL (b.map sb))) ks
/-- A round undone. -/
def decR (ks : List B) (last : Bool) (b : List B) : List B := (unturnL (mixR last (mixR last (mixR last (addL b ks))))).map us
theorem encR_length (ks : List B) (last : Bool) (b : List B) (hk : ks.length = 16) : (encR ks last b).length = 16 :=
  addL_length _ _ 16 (mixR_length _ _ (turnL_length _)) hk
theorem decR_length (ks : List B) (last : Bool) (b : List B) : (decR ks last b).length = 16 := by simp [decR, unturnL_length]
theorem dec_enc (ks : List B) (last : Bool) (b : List B) (hk : ks.length = 16) (hb : b.length = 16) : decR ks last (encR ks last b) = b := by
  unfold decR encR
  have h1 : (mixR last (turnL (b.map sb))).length = 16 := mixR_length _ _ (turnL_length _)
  rw [addL_addL _ _ (by rw [h1, hk]), mixR_four _ _ (turnL_length _), unturn_turn _ (by simp [hb]), map_us_sb]
theorem enc_dec (ks : List B) (last : Bool) (b : List B) (hk : ks.length = 16) (hb : b.length = 16) : encR ks last (decR ks last b) = b := by
  unfold decR encR
  have h1 : (addL b ks).length = 16 := addL_length _ _ 16 hb hk
  rw [map_sb_us, turn_unturn _ (mixR_length _ _ (mixR_length _ _ (mixR_length _ _ h1))), mixR_four _ _ h1, addL_addL _ _ (by rw [hb, hk])]
/-- Is round n the last? -/
def isL (n : Nat) : Bool := (n : Int) == 14
/-- The first n rounds. -/
def enc (ws : List B) (b : List B) : Nat → List B
  | 0 => addL b (rk ws 0)
  | n + 1 => encR (rk ws (n + 1)) (isL (n + 1)) (enc ws b n)
/-- The first n rounds, undone. -/
def dec (ws : List B) : Nat → List B → List B
  | 0, b => addL b (rk ws 0)
  | n + 1, b => dec ws n (decR (rk ws (n + 1)) (isL (n + 1)) b)
theorem enc_length (ws b : List B) (hw : ws.length = 240) (hb : b.length = 16) : ∀ n, n ≤ 14 → (enc ws b n).length = 16
  | 0, _ => addL_length _ _ 16 hb (rk_length ws 0 hw (by omega))
  | n + 1, h => encR_length _ _ _ (rk_length ws (n + 1) hw h)
theorem dec_length (ws : List B) (hw : ws.length = 240) : ∀ n, n ≤ 14 → ∀ b : List B, b.length = 16 → (dec ws n b).length = 16
  | 0, _, b, hb => addL_length _ _ 16 hb (rk_length ws 0 hw (by omega))
  | n + 1, h, b, _ => dec_length ws hw n (by omega) _ (decR_length _ _ _)
theorem dec_of_enc (ws b : List B) (hw : ws.length = 240) (hb : b.length = 16) : ∀ n, n ≤ 14 → dec ws n (enc ws b n) = b
  | 0, _ => addL_addL _ _ (by rw [hb, rk_length ws 0 hw (by omega)])
  | n + 1, h => by
    show dec ws n (decR _ _ (encR _ _ (enc ws b n))) = b
    rw [dec_enc _ _ _ (rk_length ws (n + 1) hw h) (enc_length ws b hw hb n (by omega))]
    exact dec_of_enc ws b hw hb n (by omega)
theorem enc_of_dec (ws : List B) (hw : ws.length = 240) : ∀ n, n ≤ 14 → ∀ b : List B, b.length = 16 → enc ws (dec ws n b) n = b
  | 0, _, b, hb => addL_addL _ _ (by rw [hb, rk_length ws 0 hw (by omega)])
  | n + 1, h, b, hb => by
    show encR _ _ (enc ws (dec ws n (decR _ _ b)) n) = b
    rw [enc_of_dec ws hw n (by omega) _ (decR_length _ _ _), enc_dec _ _ _ (rk_length ws (n + 1) hw h) hb]
end Go.Proofs.Ytjhkicfndbceoaa
