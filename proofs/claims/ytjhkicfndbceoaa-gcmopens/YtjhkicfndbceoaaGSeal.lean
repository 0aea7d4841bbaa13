/- What is hashed, sealed and opened, in mathematics. -/
import Derived.Test.YtjhkicfndbceoaaOfB
namespace Go.Proofs.Ytjhkicfndbceoaa
open Go.RowKit

/-- Long element number k of bytes, filled up with 0. -/
def chunk (b : List B) (k : Nat) : List B := (b.drop (16 * k)).take 16 ++ List.replicate (16 - (b.length - 16 * k)) 0#8
theorem chunk_length (b : List B) (k : Nat) : (chunk b k).length = 16 := by simp [chunk]; omega
theorem chunk_at (b : List B) (k i : Nat) (hi : i < 16) : (chunk b k).getD i 0#8 = b.getD (16 * k + i) 0#8 := by
  unfold chunk
  simp only [List.getD]
  by_cases h : 16 * k + i < b.length
  · rw [List.getElem?_append_left (by simp; omega), List.getElem?_take, if_pos hi, List.getElem?_drop]
  · rw [List.getElem?_append_right (by simp; omega), List.getElem?_replicate, List.getElem?_eq_none (show b.length ≤ 16 * k + i by omega)]
    split <;> rfl
theorem chunk_ext (a b : List B) (i k : Nat) (h : ∀ j, j < 16 → a.getD (16 * i + j) 0#8 = b.getD (16 * k + j) 0#8) : chunk a i = chunk b k :=
  ext_getD _ _ 16 (chunk_length _ _) (chunk_length _ _) (fun j hj => by rw [chunk_at _ _ _ hj, chunk_at _ _ _ hj, h j hj])
/-- How many long elements so many bytes are. -/
def nbl (n : Nat) : Nat := (n + 15) / 16
/-- What y becomes by the first k long elements of b. -/
def hashN (h y : Q) (b : List B) : Nat → Q
  | 0 => y
  | k + 1 => gm (hashN h y b k ^^^ qb (chunk b k)) h
theorem hashN_congr (h y : Q) (a b : List B) (k : Nat) (e : ∀ i, i < k → chunk a i = chunk b i) : hashN h y a k = hashN h y b k := by
  induction k with
  | zero => rfl
  | succ k ih => rw [hashN, hashN, ih (fun i hi => e i (by omega)), e k (by omega)]
theorem hashN_append (h y : Q) (a b : List B) (m : Nat) (ha : a.length = 16 * m) (k : Nat) : hashN h y (a ++ b) (m + k) = hashN h (hashN h y a m) b k := by
  induction k with
  | zero =>
    refine hashN_congr h y _ _ m (fun i hi => chunk_ext _ _ _ _ (fun j hj => ?_))
    simp only [List.getD]
    rw [List.getElem?_append_left (by omega)]
  | succ k ih =>
    rw [← Nat.add_assoc, hashN, hashN, ih]
    have : chunk (a ++ b) (m + k) = chunk b k := chunk_ext _ _ _ _ (fun j hj => by
      simp only [List.getD]
      rw [List.getElem?_append_right (by omega)]
      congr 2
      omega)
    rw [this]
/-- The long element that two lengths are. -/
def sizesQ (m n : Nat) : Q := ((BitVec.ofNat 64 (8 * m)).setWidth 128 <<< 64) ||| (BitVec.ofNat 64 (8 * n)).setWidth 128
theorem sizes_hi (m n : Nat) : hiQ (sizesQ m n) = BitVec.ofNat 64 (8 * m) := by
  apply BitVec.eq_of_getLsbD_eq
  intro i hi
  rw [hi_bit _ _ hi]
  unfold sizesQ
  rw [BitVec.getLsbD_or, BitVec.getLsbD_shiftLeft, BitVec.getLsbD_setWidth, BitVec.getLsbD_setWidth, BitVec.getLsbD_of_ge (BitVec.ofNat 64 (8 * n)) (64 + i) (by omega)]
  have h1 : 64 + i < 128 := by omega
  have h2 : i < 128 := by omega
  simp [h1, h2]
theorem sizes_lo (m n : Nat) : loQ (sizesQ m n) = BitVec.ofNat 64 (8 * n) := by
  apply BitVec.eq_of_getLsbD_eq
  intro i hi
  rw [lo_bit _ _ hi]
  unfold sizesQ
  rw [BitVec.getLsbD_or, BitVec.getLsbD_shiftLeft, BitVec.getLsbD_setWidth, BitVec.getLsbD_setWidth]
  have h1 : i < 128 := by omega
  simp [h1, hi]
/-- The hash. -/
def hashM (h : Q) (ad text : List B) : Q := gm (hashN h (hashN h 0#128 ad (nbl ad.length)) text (nbl text.length) ^^^ sizesQ ad.length text.length) h

/-- A counter as four bytes. -/
def c4 (i : Nat) : List B := [BitVec.ofNat 8 (i / 16777216), BitVec.ofNat 8 (i / 65536), BitVec.ofNat 8 (i / 256), BitVec.ofNat 8 i]
/-- The counter block i. -/
def ctr (nonce : List B) (i : Nat) : List B := nonce ++ c4 i
theorem ctr_length (nonce : List B) (h : nonce.length = 12) (i : Nat) : (ctr nonce i).length = 16 := by simp [ctr, c4, h]
/-- Block i of the key stream. -/
def strm (key nonce : List B) (i : Nat) : List B := enc (ready key) (ctr nonce i) 14
theorem strm_length (key nonce : List B) (hk : key.length = 32) (hn : nonce.length = 12) (i : Nat) : (strm key nonce i).length = 16 :=
  enc_length _ _ (ready_length key hk) (ctr_length nonce hn i) 14 (Nat.le_refl _)
/-- Bytes with the key stream added. -/
def cov (key nonce b : List B) : List B := (List.range b.length).map fun j => b.getD j 0#8 ^^^ (strm key nonce (2 + j / 16)).getD (j % 16) 0#8
theorem cov_length (key nonce b : List B) : (cov key nonce b).length = b.length := by simp [cov]
theorem cov_at (key nonce b : List B) (j : Nat) (h : j < b.length) : (cov key nonce b).getD j 0#8 = b.getD j 0#8 ^^^ (strm key nonce (2 + j / 16)).getD (j % 16) 0#8 := by
  unfold cov
  rw [getD_range _ _ _ h]
theorem cov_cov (key nonce b : List B) : cov key nonce (cov key nonce b) = b :=
  ext_getD _ _ b.length (by rw [cov_length, cov_length]) rfl (fun j hj => by
    rw [cov_at _ _ _ _ (by rw [cov_length]; exact hj), cov_at _ _ _ _ hj, BitVec.xor_assoc, BitVec.xor_self, BitVec.xor_zero])
theorem cov_take (key nonce b : List B) (m : Nat) (h : m ≤ b.length) : cov key nonce (b.take m) = (cov key nonce b).take m :=
  ext_getD _ _ m (by rw [cov_length]; simp; omega) (by simp [cov_length]; omega) (fun j hj => by
    rw [cov_at _ _ _ _ (by simp; omega)]
    have h1 : (b.take m).getD j 0#8 = b.getD j 0#8 := by simp [List.getD, hj]
    have h2 : ((cov key nonce b).take m).getD j 0#8 = (cov key nonce b).getD j 0#8 := by simp [List.getD, hj]
    rw [h1, h2, cov_at _ _ _ _ (by omega)])
/-- The key of the hash. -/
def hkey (key : List B) : Q := qb (enc (ready key) (List.replicate 16 0#8) 14)
/-- The tag. -/
def tagM (key nonce ad text : List B) : Q := hashM (hkey key) ad text ^^^ qb (strm key nonce 1)
/-- What is sealed. -/
def sealM (key nonce ad p : List B) : List B := cov key nonce p ++ bq (tagM key nonce ad (cov key nonce p))
theorem sealM_length (key nonce ad p : List B) : (sealM key nonce ad p).length = p.length + 16 := by simp [sealM, cov_length, bq_length]
end Go.Proofs.Ytjhkicfndbceoaa
