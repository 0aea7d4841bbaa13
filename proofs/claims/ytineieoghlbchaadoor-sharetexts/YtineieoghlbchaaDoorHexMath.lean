/- Digits and bytes, there and back. -/
import Derived.Test.YtineieoghlbchaaDoorUnhex
namespace Go.Proofs.YtineieoghlbchaaDoor
open Go.RowKit

theorem dig_hv (c : Int) (h : hvB c = true) : dig (hvN c) = c := by
  have key : ∀ k : Nat, k < 103 → hvB (k : Int) = true → dig (hvN (k : Int)) = k := by decide
  have h2 : 0 ≤ c ∧ c < 103 := by
    unfold hvB at h
    simp at h
    omega
  obtain ⟨k, rfl⟩ : ∃ k : Nat, c = k := ⟨c.toNat, by omega⟩
  exact key k (by omega) h

theorem hv_dig (x : Int) (h0 : 0 ≤ x) (h1 : x ≤ 15) : hvB (dig x) = true ∧ hvN (dig x) = x := by
  have key : ∀ k : Nat, k < 16 → hvB (dig (k : Int)) = true ∧ hvN (dig (k : Int)) = k := by decide
  obtain ⟨k, rfl⟩ : ∃ k : Nat, x = k := ⟨x.toNat, by omega⟩
  exact key k (by omega)

theorem hexl_uhl (xs : List Int) : allHex xs = true → xs.length % 2 = 0 → hexl (uhl xs) = xs := by
  induction xs using uhl.induct with
  | case1 a b r ih =>
    intro h1 h2
    simp only [allHex, List.all_cons, Bool.and_eq_true] at h1
    have ha := hvN_rng a
    have hb := hvN_rng b
    have e1 : (16 * hvN a + hvN b) / 16 = hvN a := by omega
    have e2 : (16 * hvN a + hvN b) % 16 = hvN b := by omega
    simp only [uhl, hexl]
    rw [e1, e2, dig_hv a h1.1, dig_hv b h1.2.1, ih h1.2.2 (by simp at h2; omega)]
  | case2 xs h =>
    intro h1 h2
    cases xs with
    | nil => rfl
    | cons a r => cases r with
      | nil => simp at h2
      | cons b r => exact absurd rfl (h a b r)

theorem uhl_hexl (xs : List Int) (h : ∀ x ∈ xs, 0 ≤ x ∧ x ≤ 255) : allHex (hexl xs) = true ∧ uhl (hexl xs) = xs := by
  induction xs with
  | nil => exact ⟨rfl, rfl⟩
  | cons x xs ih =>
    have hx := h x (by simp)
    obtain ⟨i1, i2⟩ := ih (fun y hy => h y (by simp [hy]))
    obtain ⟨a1, a2⟩ := hv_dig (x / 16) (by omega) (by omega)
    obtain ⟨b1, b2⟩ := hv_dig (x % 16) (by omega) (by omega)
    unfold allHex at i1
    constructor
    · simp only [hexl, allHex, List.all_cons, a1, b1, i1]; rfl
    · simp only [hexl, uhl, a2, b2, i2]
      congr 1
      omega

theorem uh_hexl (xs : List Int) (h : ∀ x ∈ xs, 0 ≤ x ∧ x ≤ 255) : uhE (hexl xs) = 0 ∧ uhL (hexl xs) = xs := by
  obtain ⟨h1, h2⟩ := uhl_hexl xs h
  have e : uhE (hexl xs) = 0 := by
    unfold uhE
    rw [if_pos h1, if_pos (by rw [hexl_length]; omega)]
  exact ⟨e, by unfold uhL; rw [if_pos e, h2]⟩

theorem hexl_uh (xs : List Int) (h : uhE xs = 0) : hexl (uhL xs) = xs := by
  unfold uhL
  rw [if_pos h]
  unfold uhE at h
  split at h
  · split at h
    · exact hexl_uhl xs (by assumption) (by assumption)
    · omega
  · omega

theorem uhL_bad (xs : List Int) (h : ¬ uhE xs = 0) : uhL xs = [] := by unfold uhL; rw [if_neg h]

theorem str_nums (s : ByteArray) : strOfNums (nums s) = s := by
  apply ByteArray.ext
  apply Array.ext'
  rw [strOfNums_data]
  simp only [nums, List.map_map]
  exact List.map_id'' (fun b => by simp) _

theorem nums_str (xs : List Int) (h : ∀ x ∈ xs, 0 ≤ x ∧ x ≤ 255) : nums (strOfNums xs) = xs := by
  unfold nums
  rw [strOfNums_data, List.map_map]
  induction xs with
  | nil => rfl
  | cons x xs ih =>
    have hx := h x (by simp)
    rw [List.map_cons, ih (fun y hy => h y (by simp [hy]))]
    congr 1
    simp only [Function.comp, UInt8.toNat_ofNat']
    omega

/-! Numbers -/
end Go.Proofs.YtineieoghlbchaaDoor
