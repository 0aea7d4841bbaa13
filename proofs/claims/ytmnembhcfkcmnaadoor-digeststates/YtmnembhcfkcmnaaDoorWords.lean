/- Lists that are filled from the front; four bytes as a word. -/
import Derived.Test.YtmnembhcfkcmnaaDoorSpec
namespace Go.Proofs.YtmnembhcfkcmnaaDoor
open Go.RowKit

theorem fill_at (L : List Int) (n j : Nat) (hL : j ≤ L.length) : (fill L n j).getD j 0 = 0 := by
  unfold fill
  simp only [List.getD]
  rw [List.getElem?_append_right (by simp; omega)]
  have : j - (L.take j).length = 0 := by simp; omega
  rw [this, List.getElem?_replicate]
  split <;> rfl
theorem set_getD (l : List Int) (j : Nat) : l.set j (l.getD j 0) = l := by
  by_cases h : j < l.length
  · simp [List.getD, List.getElem?_eq_getElem h]
  · exact List.set_eq_of_length_le (by omega)
theorem getD_set_same (l : List Int) (j : Nat) (v : Int) (h : j < l.length) : (l.set j v).getD j 0 = v := by
  simp [List.getD, h]

/-- The first i of four bytes as a number. -/
def part (b : List Int) (j : Nat) : Nat → Int
  | 0 => 0
  | i + 1 => part b j i * 256 + b.getD (4 * j + i) 0
theorem part_four (b : List Int) (j : Nat) : part b j 4 = word4 b j := by simp [part, word4]
theorem byte_at (b : List Int) (hr : ∀ x ∈ b, 0 ≤ x ∧ x ≤ 255) (i : Nat) : 0 ≤ b.getD i 0 ∧ b.getD i 0 ≤ 255 := by
  by_cases h : i < b.length
  · have : b.getD i 0 = b[i] := by simp [List.getD, List.getElem?_eq_getElem h]
    rw [this]; exact hr _ (List.getElem_mem h)
  · have : b.getD i 0 = 0 := by simp [List.getD, List.getElem?_eq_none (show b.length ≤ i by omega)]
    omega
theorem part_bd (b : List Int) (j : Nat) (hr : ∀ x ∈ b, 0 ≤ x ∧ x ≤ 255) : ∀ i, 0 ≤ part b j i ∧ part b j i < 256 ^ i
  | 0 => by simp [part]
  | i + 1 => by
    have h := part_bd b j hr i
    have hx := byte_at b hr (4 * j + i)
    rw [part, Int.pow_succ]
    omega
theorem or_join (p b : Int) (h0 : 0 ≤ p) (h1 : p < 16777216) (h2 : 0 ≤ b) (h3 : b ≤ 255) : bits .or .u32 (p * 256 % 4294967296) b = p * 256 + b := by
  rw [u32_or _ _ (by omega) (by omega) h2 (by omega)]
  have e : (p * 256 % 4294967296).toNat = p.toNat * 256 := by omega
  rw [e, nat_join 8 (p.toNat * 256) b.toNat (by omega) (by omega)]
  omega
theorem part_step (b : List Int) (j i : Nat) (hi : i < 4) (hr : ∀ x ∈ b, 0 ≤ x ∧ x ≤ 255) : bits .or .u32 (part b j i * 256 % 4294967296) (b.getD (4 * j + i) 0) = part b j (i + 1) := by
  have h := part_bd b j hr i
  have hx := byte_at b hr (4 * j + i)
  have : (256 : Int) ^ i ≤ 16777216 := by
    have : i = 0 ∨ i = 1 ∨ i = 2 ∨ i = 3 := by omega
    rcases this with rfl | rfl | rfl | rfl <;> decide
  rw [or_join _ _ h.1 (by omega) hx.1 hx.2, part]

end Go.Proofs.YtmnembhcfkcmnaaDoor
