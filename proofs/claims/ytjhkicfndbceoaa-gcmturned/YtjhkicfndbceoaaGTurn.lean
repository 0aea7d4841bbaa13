/- What is turned has another tag: the mathematics of it. -/
import Derived.Test.YtjhkicfndbceoaaOpenA
namespace Go.Proofs.Ytjhkicfndbceoaa
open Go.RowKit

/-- Bytes with the bits of mk turned, from f on, in at most k of them. -/
def turnTo (b : List B) (f : Nat) (mk : List B) (k : Nat) : List B := (List.range b.length).map fun i => b.getD i 0#8 ^^^ (if f ≤ i ∧ i < f + k then mk.getD (i - f) 0#8 else 0#8)
theorem turnTo_length (b : List B) (f : Nat) (mk : List B) (k : Nat) : (turnTo b f mk k).length = b.length := by simp [turnTo]
theorem turnTo_at (b : List B) (f : Nat) (mk : List B) (k i : Nat) (h : i < b.length) : (turnTo b f mk k).getD i 0#8 = b.getD i 0#8 ^^^ (if f ≤ i ∧ i < f + k then mk.getD (i - f) 0#8 else 0#8) := by
  unfold turnTo
  rw [getD_range _ _ _ h]
theorem turnTo_zero (b : List B) (f : Nat) (mk : List B) : turnTo b f mk 0 = b :=
  ext_getD _ _ b.length (turnTo_length _ _ _ _) rfl (fun i hi => by
    rw [turnTo_at _ _ _ _ _ hi, if_neg (by omega), BitVec.xor_zero])
theorem turnTo_next (b : List B) (f : Nat) (mk : List B) (k : Nat) : (turnTo b f mk k).getD (f + k) 0#8 = b.getD (f + k) 0#8 := by
  by_cases h : f + k < b.length
  · rw [turnTo_at _ _ _ _ _ h, if_neg (by omega), BitVec.xor_zero]
  · have h1 : (turnTo b f mk k)[f + k]? = none := List.getElem?_eq_none (by rw [turnTo_length]; omega)
    have h2 : b[f + k]? = none := List.getElem?_eq_none (by omega)
    simp only [List.getD, h1, h2]
theorem turnTo_step (b : List B) (f : Nat) (mk : List B) (k : Nat) (h : f + k < b.length) : (turnTo b f mk k).set (f + k) (b.getD (f + k) 0#8 ^^^ mk.getD k 0#8) = turnTo b f mk (k + 1) :=
  ext_getD _ _ b.length (by rw [List.length_set, turnTo_length]) (turnTo_length _ _ _ _) (fun i hi => by
    rw [turnTo_at _ _ _ _ _ hi]
    simp only [List.getD]
    by_cases e : f + k = i
    · subst e
      rw [List.getElem?_set_self (by rw [turnTo_length]; exact h), if_pos (by omega), Nat.add_sub_cancel_left]
      rfl
    · rw [List.getElem?_set_ne e]
      have := turnTo_at b f mk k i hi
      simp only [List.getD] at this
      rw [this]
      by_cases c : f ≤ i ∧ i < f + k
      · rw [if_pos c, if_pos (by omega)]
      · rw [if_neg c, if_neg (by omega)])
/-- Is one of the first k bits' bytes not 0? -/
def othM (mk : List B) : Nat → Bool
  | 0 => false
  | k + 1 => othM mk k || (v8 (mk.getD k 0#8) != 0)
theorem othM_ex (mk : List B) (k : Nat) (h : othM mk k = true) : ∃ i, i < k ∧ mk.getD i 0#8 ≠ 0#8 := by
  induction k with
  | zero => simp [othM] at h
  | succ k ih =>
    simp only [othM, Bool.or_eq_true, bne_iff_ne, ne_eq] at h
    rcases h with h | h
    · obtain ⟨i, hi, hm⟩ := ih h
      exact ⟨i, by omega, hm⟩
    · exact ⟨k, by omega, fun e => h (by rw [e]; rfl)⟩
theorem xor_ne {x y : B} (h : y ≠ 0#8) : x ^^^ y ≠ x := by
  intro e
  apply h
  have : x ^^^ (x ^^^ y) = x ^^^ x := by rw [e]
  rwa [← BitVec.xor_assoc, BitVec.xor_self, BitVec.zero_xor] at this
/-- Where something was turned, bytes differ. -/
theorem turn_ne (b : List B) (f : Nat) (mk : List B) (k : Nat) (hk : f + k ≤ b.length) (h : othM mk k = true) : ∃ i, i < k ∧ (turnTo b f mk k).getD (f + i) 0#8 ≠ b.getD (f + i) 0#8 := by
  obtain ⟨i, hi, hm⟩ := othM_ex mk k h
  refine ⟨i, hi, ?_⟩
  rw [turnTo_at _ _ _ _ _ (by omega), if_pos (by omega), Nat.add_sub_cancel_left]
  exact xor_ne hm
theorem turn_out (b : List B) (f : Nat) (mk : List B) (k i : Nat) (h : i < f ∨ f + k ≤ i) : (turnTo b f mk k).getD i 0#8 = b.getD i 0#8 := by
  by_cases hi : i < b.length
  · rw [turnTo_at _ _ _ _ _ hi, if_neg (by omega), BitVec.xor_zero]
  · have h1 : (turnTo b f mk k)[i]? = none := List.getElem?_eq_none (by rw [turnTo_length]; omega)
    have h2 : b[i]? = none := List.getElem?_eq_none (by omega)
    simp only [List.getD, h1, h2]

theorem xor_right_inj {x y z : Q} (h : x ^^^ z = y ^^^ z) : x = y := by
  have : x ^^^ z ^^^ z = y ^^^ z ^^^ z := by rw [h]
  rwa [BitVec.xor_assoc, BitVec.xor_assoc, BitVec.xor_self, BitVec.xor_zero, BitVec.xor_zero] at this
theorem xor_left_inj {x y z : Q} (h : z ^^^ x = z ^^^ y) : x = y := by
  rw [BitVec.xor_comm z x, BitVec.xor_comm z y] at h
  exact xor_right_inj h
section
variable {h : Q} (hh : h ≠ 0#128)
include hh
theorem hashN_start (y z : Q) (b : List B) (k : Nat) (e : hashN h y b k = hashN h z b k) : y = z := by
  induction k with
  | zero => exact e
  | succ k ih => exact ih (xor_right_inj (gm_inj hh e))
theorem hashN_one (y : Q) (a b : List B) (q k : Nat) (hq : q < k) (hs : ∀ i, i < k → i ≠ q → chunk a i = chunk b i) (e : hashN h y a k = hashN h y b k) : chunk a q = chunk b q := by
  induction k with
  | zero => omega
  | succ k ih =>
    have e1 := gm_inj hh e
    by_cases hk : q = k
    · subst hk
      have e2 : hashN h y a q = hashN h y b q := hashN_congr h y a b q (fun i hi => hs i (by omega) (by omega))
      rw [e2] at e1
      exact qb_inj (chunk_length _ _) (chunk_length _ _) (xor_left_inj e1)
    · have e2 := hs k (by omega) (by omega)
      rw [e2] at e1
      exact ih (by omega) (fun i hi hn => hs i (by omega) hn) (xor_right_inj e1)
end
theorem nbl_lt (q n : Nat) (h : 16 * q < n) : q < nbl n := by unfold nbl; omega
/-- One long element that was turned is another one, the others are as they were. -/
theorem turn_chunk (b : List B) (q : Nat) (mk : List B) (k i : Nat) (hk : k ≤ 16) (hi : i ≠ q) : chunk (turnTo b (16 * q) mk k) i = chunk b i :=
  chunk_ext _ _ _ _ (fun j hj => turn_out _ _ _ _ _ (by omega))
theorem turn_chunk_ne (b : List B) (q : Nat) (mk : List B) (k : Nat) (hk : k ≤ 16) (hb : 16 * q + k ≤ b.length) (h : othM mk k = true) : chunk (turnTo b (16 * q) mk k) q ≠ chunk b q := by
  obtain ⟨i, hi, hm⟩ := turn_ne b (16 * q) mk k hb h
  intro e
  apply hm
  rw [← chunk_at _ q i (by omega), ← chunk_at b q i (by omega), e]
theorem hash_text (h : Q) (hh : h ≠ 0#128) (ad b : List B) (q : Nat) (mk : List B) (k : Nat) (hk : k ≤ 16) (hb : 16 * q + k ≤ b.length) (ho : othM mk k = true) : hashM h ad (turnTo b (16 * q) mk k) ≠ hashM h ad b := by
  intro e
  unfold hashM at e
  rw [turnTo_length] at e
  have e1 := xor_right_inj (gm_inj hh e)
  have h0 : 0 < k := by obtain ⟨i, hi, _⟩ := othM_ex mk k ho; omega
  exact turn_chunk_ne b q mk k hk hb ho (hashN_one hh _ _ _ q _ (nbl_lt q _ (by omega)) (fun i _ hn => turn_chunk b q mk k i hk hn) e1)
theorem hash_ad (h : Q) (hh : h ≠ 0#128) (a b : List B) (q : Nat) (mk : List B) (k : Nat) (hk : k ≤ 16) (hb : 16 * q + k ≤ a.length) (ho : othM mk k = true) : hashM h (turnTo a (16 * q) mk k) b ≠ hashM h a b := by
  intro e
  unfold hashM at e
  rw [turnTo_length] at e
  have e1 := hashN_start hh _ _ _ _ (xor_right_inj (gm_inj hh e))
  have h0 : 0 < k := by obtain ⟨i, hi, _⟩ := othM_ex mk k ho; omega
  exact turn_chunk_ne a q mk k hk hb ho (hashN_one hh _ _ _ q _ (nbl_lt q _ (by omega)) (fun i _ hn => turn_chunk a q mk k i hk hn) e1)

/-- The tag turned. -/
theorem turned_tag (key nonce ad p mk : List B) (m : Nat) (hm : p.length = m) (ho : othM mk 16 = true) : rightM key nonce ad (turnTo (sealM key nonce ad p) m mk 16) m = false := by
  have hl := sealM_length key nonce ad p
  unfold rightM
  apply decide_eq_false
  intro e
  have e1 : (turnTo (sealM key nonce ad p) m mk 16).take m = cov key nonce p := by
    rw [← seal_text key nonce ad p, hm]
    refine ext_getD _ _ m (by simp [turnTo_length, hl]; omega) (by simp [hl]; omega) (fun i hi => ?_)
    have a1 : ((turnTo (sealM key nonce ad p) m mk 16).take m).getD i 0#8 = (turnTo (sealM key nonce ad p) m mk 16).getD i 0#8 := by simp [List.getD, hi]
    have a2 : ((sealM key nonce ad p).take m).getD i 0#8 = (sealM key nonce ad p).getD i 0#8 := by simp [List.getD, hi]
    rw [a1, a2, turn_out _ _ _ _ _ (by omega)]
  rw [e1] at e
  have e2 : (turnTo (sealM key nonce ad p) m mk 16).drop m = (sealM key nonce ad p).drop m := by
    have k1 := seal_tag key nonce ad p
    rw [hm] at k1
    rw [k1, ← e, bq_qb _ (by simp [turnTo_length, hl]; omega)]
  obtain ⟨i, hi, hne⟩ := turn_ne (sealM key nonce ad p) m mk 16 (by omega) ho
  apply hne
  have b1 : (turnTo (sealM key nonce ad p) m mk 16).getD (m + i) 0#8 = ((turnTo (sealM key nonce ad p) m mk 16).drop m).getD i 0#8 := by simp [List.getD]
  have b2 : (sealM key nonce ad p).getD (m + i) 0#8 = ((sealM key nonce ad p).drop m).getD i 0#8 := by simp [List.getD]
  rw [b1, b2, e2]
/-- The nonce turned. -/
theorem turned_nonce (key nonce ad p mk : List B) (m : Nat) (hk : key.length = 32) (hn : nonce.length = 12) (hm : p.length = m) (ho : othM mk 12 = true) : rightM key (turnTo nonce 0 mk 12) ad (sealM key nonce ad p) m = false := by
  unfold rightM
  apply decide_eq_false
  intro e
  have k1 := seal_tag key nonce ad p
  have k2 := seal_text key nonce ad p
  rw [hm] at k1 k2
  rw [k1, k2, qb_bq] at e
  unfold tagM at e
  have e1 := xor_left_inj e
  have hn' : (turnTo nonce 0 mk 12).length = 12 := by rw [turnTo_length]; exact hn
  have e2 := qb_inj (strm_length key nonce hk hn 1) (strm_length key _ hk hn' 1) e1
  unfold strm at e2
  have hr := ready_length key hk
  have e3 : ctr nonce 1 = ctr (turnTo nonce 0 mk 12) 1 := by
    have := congrArg (dec (ready key) 14) e2
    rwa [dec_of_enc _ _ hr (ctr_length nonce hn 1) 14 (Nat.le_refl _), dec_of_enc _ _ hr (ctr_length _ hn' 1) 14 (Nat.le_refl _)] at this
  have e4 : nonce = turnTo nonce 0 mk 12 := by
    unfold ctr at e3
    exact (List.append_inj e3 (by rw [hn, hn'])).1
  obtain ⟨i, hi, hne⟩ := turn_ne nonce 0 mk 12 (by omega) ho
  apply hne
  rw [← e4]
/-- The text turned. -/
theorem turned_text (key nonce ad p mk : List B) (m q k : Nat) (hh : hkey key ≠ 0#128) (hm : p.length = m) (hk : k ≤ 16) (hb : 16 * q + k ≤ m) (ho : othM mk k = true) :
    rightM key nonce ad (turnTo ((sealM key nonce ad p).take m) (16 * q) mk k ++ (sealM key nonce ad p).drop m) m = false := by
  have hl := cov_length key nonce p
  have k1 := seal_tag key nonce ad p
  have k2 := seal_text key nonce ad p
  rw [hm] at k1 k2
  have ht : (turnTo (cov key nonce p) (16 * q) mk k).length = m := by rw [turnTo_length, hl, hm]
  unfold rightM
  apply decide_eq_false
  intro e
  rw [k1, k2, List.drop_append_of_le_length (by omega), List.drop_eq_nil_of_le (by omega), List.nil_append, List.take_append_of_le_length (by omega), List.take_of_length_le (by omega), qb_bq] at e
  unfold tagM at e
  exact hash_text _ hh ad (cov key nonce p) q mk k hk (by omega) ho (xor_right_inj e).symm
/-- What is beside turned. -/
theorem turned_ad (key nonce ad p mk : List B) (m q k : Nat) (hh : hkey key ≠ 0#128) (hm : p.length = m) (hk : k ≤ 16) (hb : 16 * q + k ≤ ad.length) (ho : othM mk k = true) :
    rightM key nonce (turnTo ad (16 * q) mk k) (sealM key nonce ad p) m = false := by
  have k1 := seal_tag key nonce ad p
  have k2 := seal_text key nonce ad p
  rw [hm] at k1 k2
  unfold rightM
  apply decide_eq_false
  intro e
  rw [k1, k2, qb_bq] at e
  unfold tagM at e
  exact hash_ad _ hh ad (cov key nonce p) q mk k hk hb ho (xor_right_inj e).symm
end Go.Proofs.Ytjhkicfndbceoaa
