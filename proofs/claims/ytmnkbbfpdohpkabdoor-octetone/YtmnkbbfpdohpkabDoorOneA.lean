/- There is one form: what is of no program. -/
import Derived.Test.YtmnkbbfpdohpkabDoorUnhex
import Derived.Test.YtmnkbbfpdohpkabDoorParse
namespace Go.Proofs.YtmnkbbfpdohpkabDoor
open Go.RowKit

theorem dig_hv (c : Int) (h : hvB c = true) : dig (hvN c) = c := by
  have key : ∀ k : Nat, k < 103 → hvB (k : Int) = true → dig (hvN (k : Int)) = k := by decide
  have h2 : 0 ≤ c ∧ c < 103 := by
    unfold hvB at h
    simp at h
    omega
  obtain ⟨k, rfl⟩ : ∃ k : Nat, c = k := ⟨c.toNat, by omega⟩
  exact key k (by omega) h

theorem hv_dig (x : Int) (h0 : 0 ≤ x) (h1 : x ≤ 15) : hvB (dig x) = true ∧ hvN (dig x) = x := by
  have key : ∀ k : Nat, k < 16 → hvB (dig (k : Int)) = true ∧ hvN (dig (k : Int)) = k := by decide
  obtain ⟨k, rfl⟩ : ∃ k : Nat, x = k := ⟨x.toNat, by omega⟩
  exact key k (by omega)

theorem hexl_uhl (xs : List Int) : allHex xs = true → xs.length % 2 = 0 → hexl (uhl xs) = xs := by
  induction xs using uhl.induct with
  | case1 a b r ih =>
    intro h1 h2
    simp only [allHex, List.all_cons, Bool.and_eq_true] at h1
    have ha := hvN_rng a
    have hb := hvN_rng b
    have e1 : (16 * hvN a + hvN b) / 16 = hvN a := by omega
    have e2 : (16 * hvN a + hvN b) % 16 = hvN b := by omega
    simp only [uhl, hexl]
    rw [e1, e2, dig_hv a h1.1, dig_hv b h1.2.1, ih h1.2.2 (by simp at h2; omega)]
  | case2 xs h =>
    intro h1 h2
    cases xs with
    | nil => rfl
    | cons a r => cases r with
      | nil => simp at h2
      | cons b r => exact absurd rfl (h a b r)

theorem uhl_hexl (xs : List Int) (h : ∀ x ∈ xs, 0 ≤ x ∧ x ≤ 255) : allHex (hexl xs) = true ∧ uhl (hexl xs) = xs := by
  induction xs with
  | nil => exact ⟨rfl, rfl⟩
  | cons x xs ih =>
    have hx := h x (by simp)
    obtain ⟨i1, i2⟩ := ih (fun y hy => h y (by simp [hy]))
    obtain ⟨a1, a2⟩ := hv_dig (x / 16) (by omega) (by omega)
    obtain ⟨b1, b2⟩ := hv_dig (x % 16) (by omega) (by omega)
    unfold allHex at i1
    constructor
    · simp only [hexl, allHex, List.all_cons, a1, b1, i1]; rfl
    · simp only [hexl, uhl, a2, b2, i2]
      congr 1
      omega

theorem uh_hexl (xs : List Int) (h : ∀ x ∈ xs, 0 ≤ x ∧ x ≤ 255) : uhE (hexl xs) = 0 ∧ uhL (hexl xs) = xs := by
  obtain ⟨h1, h2⟩ := uhl_hexl xs h
  have e : uhE (hexl xs) = 0 := by
    unfold uhE
    rw [if_pos h1, if_pos (by rw [hexl_length]; omega)]
  exact ⟨e, by unfold uhL; rw [if_pos e, h2]⟩

theorem hexl_uh (xs : List Int) (h : uhE xs = 0) : hexl (uhL xs) = xs := by
  unfold uhL
  rw [if_pos h]
  unfold uhE at h
  split at h
  · split at h
    · exact hexl_uhl xs (by assumption) (by assumption)
    · omega
  · omega

theorem uhL_bad (xs : List Int) (h : ¬ uhE xs = 0) : uhL xs = [] := by unfold uhL; rw [if_neg h]

theorem str_nums (s : ByteArray) : strOfNums (nums s) = s := by
  apply ByteArray.ext
  apply Array.ext'
  rw [strOfNums_data]
  simp only [nums, List.map_map]
  exact List.map_id'' (fun b => by simp) _

theorem nums_str (xs : List Int) (h : ∀ x ∈ xs, 0 ≤ x ∧ x ≤ 255) : nums (strOfNums xs) = xs := by
  unfold nums
  rw [strOfNums_data, List.map_map]
  induction xs with
  | nil => rfl
  | cons x xs ih =>
    have hx := h x (by simp)
    rw [List.map_cons, ih (fun y hy => h y (by simp [hy]))]
    congr 1
    simp only [Function.comp, UInt8.toNat_ofNat']
    omega

/-! Numbers -/
theorem dec_step {u : Nat} (h : ¬ u < 10) : Lib.decDigits u = Lib.decDigits (u / 10) ++ [UInt8.ofNat (48 + u % 10)] := by
  rw [Lib.decDigits, dif_neg h]

theorem dec_props : ∀ u : Nat, digs (Lib.decDigits u) ∧ valFrom 0 (Lib.decDigits u) = u ∧ (1 ≤ u → (Lib.decDigits u)[0]? ≠ some 48) ∧ Lib.decDigits u ≠ [] := by
  intro u
  induction u using Nat.strongRecOn with
  | _ u ih =>
  have hd : ∀ d : Nat, d < 10 → (UInt8.ofNat (48 + d)).toNat = 48 + d := by decide
  by_cases h : u < 10
  · rw [Lib.decDigits_one h]
    refine ⟨?_, ?_, ?_, by simp⟩
    · intro c hc
      rw [List.mem_singleton.1 hc, hd u h]; omega
    · show 0 * 10 + ((UInt8.ofNat (48 + u)).toNat - 48) = u
      rw [hd u h]; omega
    · intro h1 e
      have e2 : UInt8.ofNat (48 + u) = 48 := by simpa using e
      have := congrArg UInt8.toNat e2
      rw [hd u h] at this
      have h48 : (48 : UInt8).toNat = 48 := rfl
      omega
  · obtain ⟨i1, i2, i3, i4⟩ := ih (u / 10) (by omega)
    rw [dec_step h]
    refine ⟨?_, ?_, ?_, by simp⟩
    · intro c hc
      rcases List.mem_append.1 hc with hc | hc
      · exact i1 c hc
      · rw [List.mem_singleton.1 hc, hd _ (by omega)]; omega
    · unfold valFrom at *
      rw [List.foldl_append, i2]
      show u / 10 * 10 + ((UInt8.ofNat (48 + u % 10)).toNat - 48) = u
      rw [hd _ (by omega)]; omega
    · intro _
      rw [List.getElem?_append_left (List.length_pos_iff.2 i4)]
      exact i3 (by omega)

theorem nE_dec (u : Nat) (hu : u < 18446744073709551616) : nE (Lib.decDigits u) = 0 ∧ nV (Lib.decDigits u) = u := by
  obtain ⟨h1, h2, h3, h4⟩ := dec_props u
  have hl : leadB (Lib.decDigits u) = false := by
    unfold leadB
    by_cases hu1 : u < 10
    · rw [Lib.decDigits_one hu1]; simp
    · have := h3 (by omega)
      simp [this]
  have := nE_good h4 (badB_false.2 h1) hl (by rw [h2]; omega)
  rw [h2] at this
  exact this

theorem val_dec : ∀ (n : Nat) (l : List UInt8), l.length = n → digs l → l ≠ [] → leadB l = false → Lib.decDigits (valFrom 0 l) = l := by
  intro n
  induction n with
  | zero => intro l hl _ h0; exact absurd (List.eq_nil_of_length_eq_zero hl) h0
  | succ n ih =>
    intro l hl hd h0 hlead
    obtain ⟨r, c, rfl⟩ : ∃ r c, l = r ++ [c] := ⟨l.dropLast, l.getLast h0, (List.dropLast_concat_getLast h0).symm⟩
    have hc := hd c (by simp)
    have hv : valFrom 0 (r ++ [c]) = valFrom 0 r * 10 + (c.toNat - 48) := by
      unfold valFrom
      rw [List.foldl_append]
      rfl
    have hofc : UInt8.ofNat (48 + (c.toNat - 48)) = c := by
      apply UInt8.toNat_inj.1
      rw [UInt8.toNat_ofNat']
      have := c.toNat_lt
      omega
    cases hr : r with
    | nil =>
      subst hr
      rw [hv]
      show Lib.decDigits (valFrom 0 [] * 10 + (c.toNat - 48)) = [c]
      have : valFrom 0 [] * 10 + (c.toNat - 48) = c.toNat - 48 := by simp [valFrom]
      rw [this, Lib.decDigits_one (by omega), hofc]
    | cons x t =>
      rw [← hr]
      have hr0 : r ≠ [] := by rw [hr]; simp
      have hrd : digs r := fun y hy => hd y (by simp [hy])
      have hx48 : x ≠ 48 := by
        intro e
        unfold leadB at hlead
        rw [hr, e] at hlead
        simp at hlead
      have hrl : leadB r = false := by
        unfold leadB
        rw [hr]
        simp [hx48]
      have hi := ih r (by simp at hl; exact hl) hrd hr0 hrl
      have hpos : 1 ≤ valFrom 0 r := by
        have hx := hrd x (by rw [hr]; simp)
        have hxn : x.toNat ≠ 48 := fun e => hx48 (UInt8.toNat_inj.1 e)
        have h1 : valFrom 0 r = (x.toNat - 48) * 10 ^ t.length + valFrom 0 t := by
          rw [hr]
          have : valFrom 0 (x :: t) = valFrom (0 * 10 + (x.toNat - 48)) t := rfl
          rw [this, valFrom_eq]; simp
        have h2 : 1 ≤ 10 ^ t.length := Nat.one_le_pow _ _ (by decide)
        have h3 : 1 * 10 ^ t.length ≤ (x.toNat - 48) * 10 ^ t.length := Nat.mul_le_mul_right _ (by omega)
        omega
      rw [hv, dec_step (by omega)]
      have e1 : (valFrom 0 r * 10 + (c.toNat - 48)) / 10 = valFrom 0 r := by omega
      have e2 : (valFrom 0 r * 10 + (c.toNat - 48)) % 10 = c.toNat - 48 := by omega
      rw [e1, e2, hi, hofc]

theorem dec_nV (l : List UInt8) (h : nE l = 0) : ∃ u : Nat, nV l = u ∧ u < 18446744073709551616 ∧ Lib.decDigits u = l := by
  unfold nE at h
  split at h
  · omega
  · rename_i h0
    split at h
    · omega
    · rename_i h1
      split at h
      · omega
      · rename_i h2
        simp only [Bool.or_eq_true, not_or, Bool.not_eq_true] at h1
        refine ⟨valFrom 0 l, (nE_good h0 h1.1 h1.2 (by omega)).2, by omega, val_dec _ l rfl (badB_false.1 h1.1) h0 h1.2⟩

theorem nV_bad (l : List UInt8) (h : ¬ nE l = 0) : nV l = 0 := by unfold nV; rw [if_neg h]

theorem dec_mono : ∀ (n m : Nat), m ≤ n → Lib.nDigits m ≤ Lib.nDigits n := by
  intro n
  induction n using Nat.strongRecOn with
  | _ n ih =>
  intro m h
  by_cases hm : m < 10
  · rw [Lib.nDigits_small hm]; exact Lib.nDigits_pos n
  · have hn : ¬ n < 10 := by omega
    rw [Lib.nDigits_big hm, Lib.nDigits_big hn]
    have := ih (n / 10) (by omega) (m / 10) (by omega)
    omega
end Go.Proofs.YtmnkbbfpdohpkabDoor
