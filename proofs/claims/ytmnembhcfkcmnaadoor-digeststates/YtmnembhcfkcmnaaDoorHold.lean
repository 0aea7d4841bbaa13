/- What a state holds: the words that its whole blocks make, and the bytes behind them. The sum of bytes. -/
import Derived.Test.YtmnembhcfkcmnaaDoorState
namespace Go.Proofs.YtmnembhcfkcmnaaDoor
open Go.RowKit

/-- The block with bytes put into it from place f on. -/
def putIn (b : List Int) (f : Nat) (ys : List Int) : List Int := b.take f ++ (ys ++ b.drop (f + ys.length))
theorem putIn_length (b : List Int) (f : Nat) (ys : List Int) (hl : b.length = 64) (hf : f + ys.length ≤ 64) : (putIn b f ys).length = 64 := by
  simp [putIn]; omega
theorem putIn_take (b : List Int) (f : Nat) (ys : List Int) (hl : b.length = 64) (hf : f + ys.length ≤ 64) : (putIn b f ys).take (f + ys.length) = b.take f ++ ys := by
  unfold putIn
  rw [← List.append_assoc, List.take_append_of_le_length (by simp; omega), List.take_of_length_le (by simp; omega)]
theorem putIn_rng (b : List Int) (f : Nat) (ys : List Int) (hb : ∀ x ∈ b, 0 ≤ x ∧ x ≤ 255) (hy : ∀ x ∈ ys, 0 ≤ x ∧ x ≤ 255) : ∀ x ∈ putIn b f ys, 0 ≤ x ∧ x ≤ 255 := by
  intro x hx
  simp only [putIn, List.mem_append] at hx
  rcases hx with hx | hx | hx
  · exact hb x (List.mem_of_mem_take hx)
  · exact hy x hx
  · exact hb x (List.mem_of_mem_drop hx)

/-- What the first k blocks of bytes make. -/
def absorb (xs : List Int) : Nat → St
  | 0 => H0
  | k + 1 => mix (absorb xs k) ((xs.drop (64 * k)).take 64)
theorem absorb_append (xs ys : List Int) : ∀ k, 64 * k ≤ xs.length → absorb (xs ++ ys) k = absorb xs k
  | 0, _ => rfl
  | k + 1, h => by
    rw [absorb, absorb, absorb_append xs ys k (by omega), List.drop_append_of_le_length (by omega), List.take_append_of_le_length (by simp; omega)]

/-- The words s, the block b and the count n are those of a state with the bytes xs. -/
structure Hold (s : St) (b : List Int) (n : Nat) (xs : List Int) : Prop where
  len : xs.length = n
  wds : s = absorb xs (n / 64)
  blk : b.take (n % 64) = xs.drop (64 * (n / 64))

theorem hold_new : Hold H0 (List.replicate 64 0) 0 [] := ⟨rfl, rfl, rfl⟩

theorem hold_part {s : St} {b : List Int} {n : Nat} {xs ys : List Int} (h : Hold s b n xs) (hl : b.length = 64) (hk : n % 64 + ys.length < 64) : Hold s (putIn b (n % 64) ys) (n + ys.length) (xs ++ ys) := by
  have hx := h.len
  have e1 : (n + ys.length) / 64 = n / 64 := by omega
  have e2 : (n + ys.length) % 64 = n % 64 + ys.length := by omega
  refine ⟨by simp [hx], ?_, ?_⟩
  · rw [e1, absorb_append _ _ _ (by omega), ← h.wds]
  · rw [e1, e2, putIn_take _ _ _ hl (by omega), h.blk, List.drop_append_of_le_length (by omega)]
theorem hold_full {s : St} {b : List Int} {n : Nat} {xs ys : List Int} (h : Hold s b n xs) (hl : b.length = 64) (hk : n % 64 + ys.length = 64) : Hold (mix s (putIn b (n % 64) ys)) (putIn b (n % 64) ys) (n + ys.length) (xs ++ ys) := by
  have hx := h.len
  have e1 : (n + ys.length) / 64 = n / 64 + 1 := by omega
  have e2 : (n + ys.length) % 64 = 0 := by omega
  have e3 : putIn b (n % 64) ys = xs.drop (64 * (n / 64)) ++ ys := by
    have h3 := putIn_take b (n % 64) ys hl (by omega)
    rw [hk, h.blk, List.take_of_length_le (by rw [putIn_length _ _ _ hl (by omega)]; omega)] at h3
    exact h3
  refine ⟨by simp [hx], ?_, ?_⟩
  · rw [e1, absorb, absorb_append _ _ _ (by omega), ← h.wds, e3, List.drop_append_of_le_length (by omega)]
    congr 1
    rw [List.take_of_length_le (by simp; omega)]
  · rw [e1, e2, List.take_zero, List.drop_of_length_le (by simp; omega)]

/-- Eight bytes of a number, the highest first. -/
def be8 (n : Nat) : List Int := (List.range 8).map fun i => ((n / 2 ^ (8 * (7 - i)) % 256 : Nat) : Int)
def padLen (n : Nat) : Nat := (119 - n % 64) % 64
def padded (xs : List Int) : List Int := xs ++ (128 :: (List.replicate (padLen xs.length) 0 ++ be8 (8 * xs.length)))
theorem padded_length (xs : List Int) : (padded xs).length = 64 * ((xs.length + 8) / 64 + 1) := by
  simp [padded, be8, padLen]; omega
/-- The sum. -/
def sumOf (xs : List Int) : List Int := bytesOf (absorb (padded xs) ((xs.length + 8) / 64 + 1))

theorem absorb_padded (xs : List Int) (n : Nat) (h : xs.length = n) : absorb (padded xs) (n / 64) = absorb xs (n / 64) := by
  have hk : 64 * (n / 64) ≤ xs.length := by omega
  unfold padded
  exact absorb_append xs _ (n / 64) hk

/-- The last block, where one is enough. -/
theorem sum_one {s : St} {b : List Int} {n : Nat} {xs : List Int} (h : Hold s b n xs) (hf : n % 64 < 56) :
    absorb (padded xs) ((n + 8) / 64 + 1) = mix s (b.take (n % 64) ++ (128 :: (List.replicate (55 - n % 64) 0 ++ be8 (8 * n)))) := by
  have hx := h.len
  have e : (n + 8) / 64 = n / 64 := by omega
  have e0 : absorb (padded xs) (n / 64 + 1) = mix (absorb (padded xs) (n / 64)) (((padded xs).drop (64 * (n / 64))).take 64) := rfl
  rw [e, e0, absorb_padded xs n hx, ← h.wds]
  refine congrArg (mix s) ?_
  rw [h.blk]
  unfold padded
  rw [List.drop_append_of_le_length (by omega), hx, show padLen n = 55 - n % 64 by unfold padLen; omega]
  rw [List.take_of_length_le (by simp [be8]; omega)]
/-- The last two blocks. -/
theorem sum_two {s : St} {b : List Int} {n : Nat} {xs : List Int} (h : Hold s b n xs) (hf : 56 ≤ n % 64) :
    absorb (padded xs) ((n + 8) / 64 + 1) = mix (mix s (b.take (n % 64) ++ (128 :: List.replicate (63 - n % 64) 0))) (List.replicate 56 0 ++ be8 (8 * n)) := by
  have hx := h.len
  have e : (n + 8) / 64 = n / 64 + 1 := by omega
  have hlt : n % 64 < 64 := Nat.mod_lt _ (by decide)
  have ep : padLen n = (63 - n % 64) + 56 := by unfold padLen; omega
  have e1 : (padded xs).drop (64 * (n / 64)) = (xs.drop (64 * (n / 64)) ++ (128 :: List.replicate (63 - n % 64) 0)) ++ (List.replicate 56 0 ++ be8 (8 * n)) := by
    unfold padded
    rw [List.drop_append_of_le_length (by omega), hx, ep, ← List.replicate_append_replicate]
    simp
  have l1 : (xs.drop (64 * (n / 64)) ++ (128 :: List.replicate (63 - n % 64) 0)).length = 64 := by simp; omega
  have e0 : absorb (padded xs) (n / 64 + 1 + 1) = mix (mix (absorb (padded xs) (n / 64)) (((padded xs).drop (64 * (n / 64))).take 64)) (((padded xs).drop (64 * (n / 64 + 1))).take 64) := rfl
  have e2 : ((padded xs).drop (64 * (n / 64))).take 64 = b.take (n % 64) ++ (128 :: List.replicate (63 - n % 64) 0) := by
    rw [e1, h.blk, List.take_append_of_le_length (by omega), List.take_of_length_le (by omega)]
  have e3 : ((padded xs).drop (64 * (n / 64 + 1))).take 64 = List.replicate 56 0 ++ be8 (8 * n) := by
    rw [show 64 * (n / 64 + 1) = 64 * (n / 64) + 64 by omega, ← List.drop_drop, e1, List.drop_append_of_le_length (by omega), List.drop_of_length_le (by omega), List.nil_append]
    rw [List.take_of_length_le (by simp [be8])]
  rw [e, e0, absorb_padded xs n hx, ← h.wds, e2, e3]
end Go.Proofs.YtmnembhcfkcmnaaDoor
