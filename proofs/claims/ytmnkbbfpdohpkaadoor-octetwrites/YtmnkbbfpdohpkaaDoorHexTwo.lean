/- The digits' values, the document's digits, and what is equal. -/
import Derived.Test.YtmnkbbfpdohpkaaDoorRoom
import Derived.Deep.QuietTactic
import Derived.BigQuiet
namespace Go.Proofs.YtmnkbbfpdohpkaaDoor
open Go.RowKit

def hvB (c : Int) : Bool := decide ((48 ≤ c ∧ c ≤ 57) ∨ (97 ≤ c ∧ c ≤ 102))
def hvN (c : Int) : Int := if 48 ≤ c ∧ c ≤ 57 then c - 48 else if 97 ≤ c ∧ c ≤ 102 then c - 87 else 0

theorem hvN_rng (c : Int) : 0 ≤ hvN c ∧ hvN c ≤ 15 := by unfold hvN; split <;> (try split) <;> omega

theorem ret2 {a a' : Int} {b b' : Bool} (h1 : a = a') (h2 : b = b') : Ending.returned (.tuple #[.int .u8 a, .bool b]) = .returned (.tuple #[.int .u8 a', .bool b']) := by rw [h1, h2]

set_option maxHeartbeats 400000 in
theorem hexValue_any (c : Int) (w : World) (h0 : 0 ≤ c) (h1 : c ≤ 255) :
    Calls Tryd.prog 47 #[.int .u8 c] w fun e w' => e = .returned (.tuple #[.int .u8 (hvN c), .bool (hvB c)]) ∧ w = w' := by
  rcases (show (48 ≤ c ∧ c ≤ 57) ∨ (97 ≤ c ∧ c ≤ 102) ∨ c < 48 ∨ (57 < c ∧ c < 97) ∨ 102 < c by omega) with h | h | h | h | h
  · obtain ⟨ha, hb⟩ := h
    go_enter Tryd.func47, Tryd.ntmps47
    go_wp2
    go_ret2
    exact ⟨ret2 (by unfold hvN; rw [if_pos ⟨ha, hb⟩]) (by unfold hvB; simp; omega), rfl⟩
  · obtain ⟨ha, hb⟩ := h
    have hc : ¬ c ≤ 57 := by omega
    have hd : 48 ≤ c := by omega
    have HN : Hid (hvN c = c - 87) := by show _ = _; unfold hvN; rw [if_neg (by omega), if_pos ⟨ha, hb⟩]
    go_enter Tryd.func47, Tryd.ntmps47
    go_wp2
    go_ret2
    exact ⟨ret2 (by rw [HN.out]; omega) (by unfold hvB; simp; omega), rfl⟩
  · have hc : ¬ 48 ≤ c := by omega
    have hd : ¬ 97 ≤ c := by omega
    have HN : Hid (hvN c = 0) := by show _ = _; unfold hvN; rw [if_neg (by omega), if_neg (by omega)]
    go_enter Tryd.func47, Tryd.ntmps47
    go_wp2
    go_ret2
    exact ⟨ret2 HN.out.symm (by unfold hvB; simp; omega), rfl⟩
  · have hc : 48 ≤ c := by omega
    have he : ¬ c ≤ 57 := by omega
    have hd : ¬ 97 ≤ c := by omega
    have HN : Hid (hvN c = 0) := by show _ = _; unfold hvN; rw [if_neg (by omega), if_neg (by omega)]
    go_enter Tryd.func47, Tryd.ntmps47
    go_wp2
    go_ret2
    exact ⟨ret2 HN.out.symm (by unfold hvB; simp; omega), rfl⟩
  · have hc : 48 ≤ c := by omega
    have he : ¬ c ≤ 57 := by omega
    have hd : 97 ≤ c := by omega
    have hf : ¬ c ≤ 102 := by omega
    have HN : Hid (hvN c = 0) := by show _ = _; unfold hvN; rw [if_neg (by omega), if_neg (by omega)]
    go_enter Tryd.func47, Tryd.ntmps47
    go_wp2
    go_ret2
    exact ⟨ret2 HN.out.symm (by unfold hvB; simp; omega), rfl⟩

set_option maxHeartbeats 400000 in
theorem value_any (c : Int) (w : World) (h0 : 0 ≤ c) (h1 : c ≤ 255) :
    Calls Tryd.prog 48 #[.int .u8 c] w fun e w' => e = .returned (.tuple #[.int .u8 (hvN c), .bool (hvB c)]) ∧ w = w' := by
  rcases (show (48 ≤ c ∧ c ≤ 57) ∨ (97 ≤ c ∧ c ≤ 102) ∨ c < 48 ∨ (57 < c ∧ c < 97) ∨ 102 < c by omega) with h | h | h | h | h
  · obtain ⟨ha, hb⟩ := h
    go_enter Tryd.func48, Tryd.ntmps48
    go_wp2
    go_ret2
    exact ⟨ret2 (by unfold hvN; rw [if_pos ⟨ha, hb⟩]) (by unfold hvB; simp; omega), rfl⟩
  · obtain ⟨ha, hb⟩ := h
    have hc : ¬ c ≤ 57 := by omega
    have hd : 48 ≤ c := by omega
    have HN : Hid (hvN c = c - 87) := by show _ = _; unfold hvN; rw [if_neg (by omega), if_pos ⟨ha, hb⟩]
    go_enter Tryd.func48, Tryd.ntmps48
    go_wp2
    go_ret2
    exact ⟨ret2 (by rw [HN.out]; omega) (by unfold hvB; simp; omega), rfl⟩
  · have hc : ¬ 48 ≤ c := by omega
    have hd : ¬ 97 ≤ c := by omega
    have HN : Hid (hvN c = 0) := by show _ = _; unfold hvN; rw [if_neg (by omega), if_neg (by omega)]
    go_enter Tryd.func48, Tryd.ntmps48
    go_wp2
    go_ret2
    exact ⟨ret2 HN.out.symm (by unfold hvB; simp; omega), rfl⟩
  · have hc : 48 ≤ c := by omega
    have he : ¬ c ≤ 57 := by omega
    have hd : ¬ 97 ≤ c := by omega
    have HN : Hid (hvN c = 0) := by show _ = _; unfold hvN; rw [if_neg (by omega), if_neg (by omega)]
    go_enter Tryd.func48, Tryd.ntmps48
    go_wp2
    go_ret2
    exact ⟨ret2 HN.out.symm (by unfold hvB; simp; omega), rfl⟩
  · have hc : 48 ≤ c := by omega
    have he : ¬ c ≤ 57 := by omega
    have hd : 97 ≤ c := by omega
    have hf : ¬ c ≤ 102 := by omega
    have HN : Hid (hvN c = 0) := by show _ = _; unfold hvN; rw [if_neg (by omega), if_neg (by omega)]
    go_enter Tryd.func48, Tryd.ntmps48
    go_wp2
    go_ret2
    exact ⟨ret2 HN.out.symm (by unfold hvB; simp; omega), rfl⟩

theorem ret_u8 {a b : Int} (h : a = b) : Ending.returned (.int .u8 a) = .returned (.int .u8 b) := by rw [h]

set_option maxHeartbeats 400000 in
theorem half_any (c : Int) (w : World) (h0 : 0 ≤ c) (h1 : c ≤ 15) :
    Calls Tryd.prog 46 #[.int .u8 c] w fun e w' => e = .returned (.int .u8 (dig c)) ∧ w = w' := by
  have HD : Hid (dig c = if c < 10 then 48 + c else 87 + c) := by
    show _ = _
    obtain ⟨k, rfl⟩ : ∃ k : Nat, c = k := ⟨c.toNat, by omega⟩
    have : ∀ k : Nat, k < 16 → dig (k : Int) = if (k : Int) < 10 then 48 + (k : Int) else 87 + (k : Int) := by decide
    exact this k (by omega)
  by_cases h : c < 10
  · go_enter Tryd.func46, Tryd.ntmps46
    go_wp2
    go_ret
    exact ⟨ret_u8 (by rw [HD.out, if_pos h]), rfl⟩
  · go_enter Tryd.func46, Tryd.ntmps46
    go_wp2
    go_ret
    exact ⟨ret_u8 (by rw [HD.out, if_neg (by omega)]; omega), rfl⟩

theorem orxor (d x y : Int) (hd0 : 0 ≤ d) (hd1 : d ≤ 255) (hx0 : 0 ≤ x) (hx1 : x ≤ 255) (hy0 : 0 ≤ y) (hy1 : y ≤ 255) :
    0 ≤ bits .or .u8 d (bits .xor .u8 x y) ∧ bits .or .u8 d (bits .xor .u8 x y) ≤ 255 ∧ (bits .or .u8 d (bits .xor .u8 x y) = 0 ↔ d = 0 ∧ x = y) := by
  obtain ⟨a, rfl⟩ : ∃ k : Nat, d = k := ⟨d.toNat, by omega⟩
  obtain ⟨b, rfl⟩ : ∃ k : Nat, x = k := ⟨x.toNat, by omega⟩
  obtain ⟨c, rfl⟩ : ∃ k : Nat, y = k := ⟨y.toNat, by omega⟩
  have h1 : b ^^^ c < 2 ^ 8 := Nat.xor_lt_two_pow (by omega) (by omega)
  have h2 : a ||| (b ^^^ c) < 2 ^ 8 := Nat.or_lt_two_pow (by omega) h1
  rw [u8_xor_nat b c (by omega) (by omega), u8_or_nat a _ (by omega) (by omega)]
  refine ⟨by omega, by omega, ?_⟩
  constructor
  · intro h
    have h3 : a ||| (b ^^^ c) = 0 := by omega
    rw [Nat.or_eq_zero_iff] at h3
    have h4 : b = c := by
      have := h3.2
      have e : b ^^^ c ^^^ c = c := by rw [this]; simp
      simpa [Nat.xor_assoc] using e
    omega
  · rintro ⟨h3, h4⟩
    have h5 : a = 0 := by omega
    have h6 : b = c := by omega
    subst h5 h6
    simp

set_option maxHeartbeats 1000000 in
theorem equal_any (ao bo : Option Addr) (n m c d : Nat) (xs ys : List Int) (w : World) (hx : Shows w ao n xs) (hy : Shows w bo m ys) (hbig : n ≤ 140737488355328) (hbig2 : m ≤ 140737488355328) :
    Calls Tryd.prog 24 #[.slice ao n c, .slice bo m d] w fun e w' => e = .returned (.bool (decide (xs = ys))) ∧ Below w.heap.size w w' := by
  have HX : Hid (xs.length = n) := hx.len
  have HY : Hid (ys.length = m) := hy.len
  by_cases hnm : n = m
  · subst hnm
    go_enter Tryd.func24, Tryd.ntmps24
    go_wp2
    go_loopw [5, 14] (fun v i wr => ∃ (j : Nat) (u : Int), j ≤ n ∧ i = .int .i64 j ∧ v = .int .u8 u ∧ 0 ≤ u ∧ u ≤ 255 ∧ Hid (u = 0 ↔ xs.take j = ys.take j) ∧ Below w.heap.size w wr) (fun _ i _ => n - (intOf i).toNat)
    case atStart => exact ⟨0, 0, by omega, rfl, rfl, by omega, by omega, by show _ ↔ _; simp, Below.refl _ _⟩
    case round =>
      obtain ⟨j, u, hj, rfl, rfl, hu0, hu1, HU, hbr⟩ := hrel
      by_cases hlt : j < n
      · obtain ⟨ad, had⟩ : ∃ ad, ao = some ad := by
          cases ao with
          | none => have := hx.bare rfl; omega
          | some ad => exact ⟨ad, rfl⟩
        obtain ⟨bd, hbd⟩ : ∃ bd, bo = some bd := by
          cases bo with
          | none => have := hy.bare rfl; omega
          | some ad => exact ⟨ad, rfl⟩
        subst had hbd
        have c1 : wr.cell? (ad.add j) = some (.int .u8 (xs.getD j 0)) := cell_later hbr (hx.cell ad rfl j hlt)
        have c2 : wr.cell? (bd.add j) = some (.int .u8 (ys.getD j 0)) := cell_later hbr (hy.cell bd rfl j hlt)
        have hxl := HX.out
        have hyl := HY.out
        have ex : xs.getD j 0 = xs[j]'(by omega) := by simp [List.getD, List.getElem?_eq_getElem (show j < xs.length by omega)]
        have ey : ys.getD j 0 = ys[j]'(by omega) := by simp [List.getD, List.getElem?_eq_getElem (show j < ys.length by omega)]
        have rx : 0 ≤ xs.getD j 0 ∧ xs.getD j 0 ≤ 255 := by rw [ex]; exact hx.rng _ (List.getElem_mem _)
        have ry : 0 ≤ ys.getD j 0 ∧ ys.getD j 0 ≤ 255 := by rw [ey]; exact hy.rng _ (List.getElem_mem _)
        have HS : Hid (xs.take (j + 1) = ys.take (j + 1) ↔ xs.take j = ys.take j ∧ xs.getD j 0 = ys.getD j 0) := by
          show _ ↔ _
          rw [List.take_succ_eq_append_getElem (by omega), List.take_succ_eq_append_getElem (show j < ys.length by omega), ex, ey]
          constructor
          · intro h
            have := List.append_inj h (by simp; omega)
            exact ⟨this.1, by simpa using this.2⟩
          · rintro ⟨h1, h2⟩
            rw [h1, h2]
        generalize xs.getD j 0 = x at *
        generalize ys.getD j 0 = y at *
        have HO : Hid _ := orxor u x y hu0 hu1 rx.1 rx.2 ry.1 ry.2
        clear ex ey rx ry hxl hyl
        go_wp2
        go_quiet (fail)
        go_wp2
        go_roundw
        case rel =>
          refine ⟨j + 1, _, by omega, by go_num, rfl, HO.out.1, HO.out.2.1, ?_, below_drewN hbr _⟩
          show _ ↔ _
          rw [HS.out, HO.out.2.2, HU.out]
        case measure => simp [intOf]; omega
      · have hjn : j = n := by omega
        subst hjn
        have HF : Hid (u = 0 ↔ xs = ys) := by
          have h := HU.out
          have h1 := HX.out
          have h2 := HY.out
          rw [List.take_of_length_le (by omega), List.take_of_length_le (by omega)] at h
          exact h
        go_wp2
        go_ret
        refine ⟨?_, hbr⟩
        have e : (u == 0) = decide (xs = ys) := by
          by_cases h : xs = ys
          · have := HF.out.2 h; simp [this, h]
          · have : ¬ u = 0 := fun e => h (HF.out.1 e)
            simp [this, h]
        rw [← e]
        rfl
  · have hne : ¬ xs = ys := fun e => hnm (by rw [← HX.out, ← HY.out, e])
    have hnm2 : ((n : Int) == (m : Int)) = false := by simp; omega
    go_enter Tryd.func24, Tryd.ntmps24
    go_wp2
    go_ret
    exact ⟨by rw [decide_eq_false hne]; rfl, Below.refl _ _⟩

end Go.Proofs.YtmnkbbfpdohpkaaDoor
