/- The document's product: as polynomials, and what is left of it. -/
import Derived.Test.YtjhkicfndbceoaaScal
namespace Go.Proofs.Ytjhkicfndbceoaa
open Go.RowKit

def sh (a : B) (i : Nat) : BitVec 16 := a.setWidth 16 <<< i
def prodTo : Nat → B → B → BitVec 16
  | 0, _, _ => 0#16
  | k + 1, a, b => prodTo k a b ^^^ (if b.getLsbD k then sh a k else 0#16)
def redTo : Nat → BitVec 16 → BitVec 16
  | 0, p => p
  | s + 1, p => redTo s p ^^^ (if (redTo s p).getLsbD (14 - s) then 283#16 <<< (6 - s) else 0#16)
theorem redTo_xor (s : Nat) (p q : BitVec 16) : redTo s (p ^^^ q) = redTo s p ^^^ redTo s q := by
  induction s with
  | zero => rfl
  | succ s ih =>
    simp only [redTo]
    rw [ih, BitVec.getLsbD_xor]
    cases (redTo s p).getLsbD (14 - s) <;> cases (redTo s q).getLsbD (14 - s) <;> simp
    · ac_rfl
    · ac_rfl
    · have : redTo s p ^^^ 283#16 <<< (6 - s) ^^^ (redTo s q ^^^ 283#16 <<< (6 - s)) = (redTo s p ^^^ redTo s q) ^^^ (283#16 <<< (6 - s) ^^^ 283#16 <<< (6 - s)) := by ac_rfl
      rw [this, BitVec.xor_self, BitVec.xor_zero]
theorem red_zero : (redTo 7 0#16).setWidth 8 = 0#8 := by decide
theorem red_sh (a : B) (i : Nat) (h : i < 8) : (redTo 7 (sh a i)).setWidth 8 = tp i a :=
  all_of (P := fun a => ∀ i, i < 8 → (redTo 7 (sh a i)).setWidth 8 = tp i a) (by decide +kernel) a i h
theorem red_prod (k : Nat) (h : k ≤ 8) (a b : B) : (redTo 7 (prodTo k a b)).setWidth 8 = mulTo k a b := by
  induction k with
  | zero => exact red_zero
  | succ k ih =>
    simp only [prodTo, mulTo]
    rw [redTo_xor, BitVec.setWidth_xor, ih (by omega)]
    cases b.getLsbD k
    · simp [red_zero]
    · simp [red_sh a k (by omega)]

def v16 (p : BitVec 16) : Int := (p.toNat : Int)
theorem v16_nn (p : BitVec 16) : 0 ≤ v16 p := by unfold v16; omega
theorem v16_le (p : BitVec 16) : v16 p < 65536 := by unfold v16; have := p.isLt; omega
theorem bits16 (p q : BitVec 16) : bits .xor .i64 (v16 p) (v16 q) = v16 (p ^^^ q) := by
  have e : ∀ z : BitVec 16, BitVec.ofInt 64 (v16 z) = z.setWidth 64 := by
    intro z
    unfold v16
    rw [BitVec.ofInt_natCast, BitVec.ofNat_toNat]
  show IntKind.i64.wrap ((BitVec.ofInt 64 (v16 p) ^^^ BitVec.ofInt 64 (v16 q)).toNat : Int) = v16 (p ^^^ q)
  rw [e, e, ← BitVec.setWidth_xor]
  obtain ⟨z, hz⟩ : ∃ z, z = p ^^^ q := ⟨_, rfl⟩
  rw [← hz]
  have := z.isLt
  simp only [IntKind.wrap, IntKind.bits, IntKind.signed]
  unfold v16
  simp
  omega

theorem bit_of (y : B) (k : Nat) (h : k < 8) : ((v8 y / (2 : Int) ^ k).tmod 2 == 1) = y.getLsbD k :=
  all_of (P := fun y => ∀ k, k < 8 → ((v8 y / (2 : Int) ^ k).tmod 2 == 1) = y.getLsbD k) (by decide +kernel) y k h
theorem sh_of (x : B) (k : Nat) (h : k < 8) : wrap64 (v8 x * (2 : Int) ^ k) = v16 (sh x k) :=
  all_of (P := fun x => ∀ k, k < 8 → wrap64 (v8 x * (2 : Int) ^ k) = v16 (sh x k)) (by decide +kernel) x k h
theorem bit16 (q : BitVec 16) (j : Nat) : ((v16 q / (2 : Int) ^ j).tmod 2 == 1) = q.getLsbD j := by
  have e : v16 q / (2 : Int) ^ j = ((q.toNat / 2 ^ j : Nat) : Int) := by unfold v16; simp
  rw [e]
  rw [BitVec.getLsbD, Nat.testBit_eq_decide_div_mod_eq]
  obtain ⟨m, hm⟩ : ∃ m, m = q.toNat / 2 ^ j := ⟨_, rfl⟩
  rw [← hm]
  have e2 : (m : Int).tmod 2 = ((m % 2 : Nat) : Int) := by rw [Int.tmod_eq_emod_of_nonneg (by omega)]; omega
  rw [e2]
  by_cases h : m % 2 = 1
  · simp [h]
  · have : m % 2 = 0 := by omega
    simp [this]
theorem sh16 : ∀ j, j < 15 → 8 ≤ j → wrap64 (283 * (2 : Int) ^ (j - 8)) = v16 (283#16 <<< (j - 8)) := by decide +kernel
theorem low8 (q : BitVec 16) : v16 q % 256 = v8 (q.setWidth 8) := by
  unfold v16 v8
  simp

set_option maxHeartbeats 1000000 in
theorem refMul_any (x y : B) (a b : Int) (w : World) (ha : a = v8 x) (hb : b = v8 y) :
    Calls Try.prog 45 #[.int .u8 a, .int .u8 b] w fun e w' => e = .returned (.int .u8 (v8 (mul x y))) ∧ w = w' := by
  subst ha hb
  have hx0 := v8_nn x
  have hx1 := v8_le x
  have hy0 := v8_nn y
  have hy1 := v8_le y
  go_enter Try.func45, Try.ntmps45
  go_wp2
  go_loop [5, 6] (fun p i => ∃ k : Nat, k ≤ 8 ∧ i = .int .i64 k ∧ p = .int .i64 (v16 (prodTo k x y))) (fun _ i => 8 - (intOf i).toNat)
  case atStart => exact ⟨0, by omega, rfl, rfl⟩
  case round =>
    obtain ⟨k, hk, rfl, rfl⟩ := hrel
    by_cases hlt : k < 8
    · have hbit := bit_of y k hlt
      have hsh : Hid (wrap64 (v8 x * (2 : Int) ^ k) = v16 (sh x k)) := sh_of x k hlt
      have HS : Hid (prodTo (k + 1) x y = prodTo k x y ^^^ (if y.getLsbD k then sh x k else 0#16)) := rfl
      cases hb : y.getLsbD k
      · rw [hb] at hbit HS
        go_wp2
        exact ⟨⟨k + 1, by omega, by go_num, by rw [HS.out]; simp⟩, by simp [intOf]; omega⟩
      · rw [hb] at hbit HS
        go_wp2
        exact ⟨⟨k + 1, by omega, by go_num, by rw [HS.out, hsh.out, bits16]; simp⟩, by simp [intOf]; omega⟩
    · have hk8 : k = 8 := by omega
      subst hk8
      have HR : Hid ((redTo 7 (prodTo 8 x y)).setWidth 8 = mul x y) := red_prod 8 (Nat.le_refl _) x y
      obtain ⟨p, ep⟩ : ∃ p, p = prodTo 8 x y := ⟨_, rfl⟩
      rw [← ep] at HR ⊢
      clear ep
      rw [show ((8 : Nat) : Int) = 8 from rfl]
      go_wp2
      go_loop [5, 7] (fun q i => ∃ j : Nat, 7 ≤ j ∧ j ≤ 14 ∧ i = .int .i64 j ∧ q = .int .i64 (v16 (redTo (14 - j) p))) (fun _ i => (intOf i).toNat)
      case atStart => exact ⟨14, by omega, by omega, rfl, rfl⟩
      case round =>
        obtain ⟨j, hj1, hj2, rfl, rfl⟩ := hrel
        by_cases hlt : 8 ≤ j
        · have hbit := bit16 (redTo (14 - j) p) j
          have hsh : Hid (wrap64 (283 * (2 : Int) ^ (j - 8)) = v16 (283#16 <<< (j - 8))) := sh16 j (by omega) hlt
          have HS : Hid (redTo (14 - (j - 1)) p = redTo (14 - j) p ^^^ (if (redTo (14 - j) p).getLsbD j then 283#16 <<< (j - 8) else 0#16)) := by
            rw [show 14 - (j - 1) = (14 - j) + 1 by omega]
            have : redTo (14 - j + 1) p = redTo (14 - j) p ^^^ (if (redTo (14 - j) p).getLsbD (14 - (14 - j)) then 283#16 <<< (6 - (14 - j)) else 0#16) := rfl
            rw [show 14 - (14 - j) = j by omega, show 6 - (14 - j) = j - 8 by omega] at this
            exact this
          have hjj : (j : Int) - 1 = ((j - 1 : Nat) : Int) := by omega
          have HJ : Hid ((j : Int) - 1 = ((j - 1 : Nat) : Int)) := hjj
          clear hjj
          cases hb : (redTo (14 - j) p).getLsbD j
          · rw [hb] at hbit HS
            go_wp2
            exact ⟨⟨j - 1, by omega, by omega, by rw [HJ.out], by rw [HS.out]; simp⟩, by simp [intOf]; omega⟩
          · rw [hb] at hbit HS
            go_wp2
            exact ⟨⟨j - 1, by omega, by omega, by rw [HJ.out], by rw [HS.out, hsh.out, bits16]; simp⟩, by simp [intOf]; omega⟩
        · have hj7 : j = 7 := by omega
          subst hj7
          rw [show ((7 : Nat) : Int) = 7 from rfl]
          go_wp2
          go_ret
          exact ⟨by rw [← HR.out, ← low8]; rfl, rfl⟩
end Go.Proofs.Ytjhkicfndbceoaa
