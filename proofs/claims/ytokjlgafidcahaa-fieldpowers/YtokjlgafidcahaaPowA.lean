/- FieldPowers: powers are added by multiplying; all but 0 to the power 255 is 1; a power of a power. -/
import Derived.Test.YtokjlgafidcahaaLawsA
namespace Go.Proofs.Ytokjlgafidcahaa
open Go.RowKit

theorem E_congr {a b : Nat} (h : a % 255 = b % 255) : E a = E b := by rw [← E_mod a, h, E_mod]
theorem powI_eq (x : B) (hx : x ≠ 0#8) (n : Int) : powI x n = E (lg x * (n % 255).toNat) := by
  unfold powI
  by_cases hn : n = 0
  · subst hn; rw [if_pos rfl]; rfl
  · rw [if_neg hn, if_neg hx]
theorem powI_zero (x : B) : powI x 0 = 1#8 := by unfold powI; rw [if_pos rfl]
theorem powI_add (x : B) (hx : x ≠ 0#8) (m n : Int) : powI x (m + n) = mul (powI x m) (powI x n) := by
  rw [powI_eq x hx, powI_eq x hx, powI_eq x hx, E_mul, ← Nat.mul_add]
  apply E_congr
  have : ((m + n) % 255).toNat % 255 = ((m % 255).toNat + (n % 255).toNat) % 255 := by omega
  rw [Nat.mul_mod, this, ← Nat.mul_mod]
theorem powI_255 (x : B) (hx : x ≠ 0#8) : powI x 255 = 1#8 := by
  rw [powI_eq x hx]
  rfl
theorem powI_one (x : B) (hx : x ≠ 0#8) : powI x 1 = x := by
  rw [powI_eq x hx]
  show E (lg x * 1) = x
  rw [Nat.mul_one, E_lg x hx]
theorem powI_neg (x : B) (hx : x ≠ 0#8) : powI x (-1) = inv x := by
  rw [powI_eq x hx]
  unfold inv
  rw [if_neg hx]
  show E (lg x * 254) = _
  have := lg_lt x
  apply E_congr
  omega
theorem powI_mul (x : B) (hx : x ≠ 0#8) (m r s n : Int) (hr : r % 255 = m % 255) (hs : s % 255 = n % 255) : powI (powI x m) s = powI x (r * s) := by
  rw [powI_eq x hx, powI_eq _ (E_ne _), powI_eq x hx, ← E_mod (lg x * (m % 255).toNat), lg_E _ (Nat.mod_lt _ (by decide))]
  apply E_congr
  have h : (r * s % 255).toNat = ((m % 255).toNat * (n % 255).toNat) % 255 := by
    rw [Int.mul_emod, hr, hs]
    obtain ⟨a, ha⟩ : ∃ a : Nat, m % 255 = a := ⟨(m % 255).toNat, by omega⟩
    obtain ⟨b, hb⟩ : ∃ b : Nat, n % 255 = b := ⟨(n % 255).toNat, by omega⟩
    rw [ha, hb, ← Int.natCast_mul]
    show ((a * b : Nat) % (255 : Nat) : Int).toNat = _
    rw [← Int.natCast_emod, Int.toNat_natCast, Int.toNat_natCast, Int.toNat_natCast]
  rw [h, hs]
  rw [Nat.mul_mod, Nat.mod_mod, ← Nat.mul_mod, Nat.mul_mod (lg x), Nat.mod_mod, ← Nat.mul_mod, Nat.mul_assoc]
theorem tmod_emod (n : Int) : n.tmod 255 % 255 = n % 255 := by
  have h := tmod_of n
  obtain ⟨r, hr⟩ : ∃ r, r = n.tmod 255 := ⟨_, rfl⟩
  rw [← hr] at h ⊢
  clear hr
  rcases h with ⟨h1, h2⟩ | ⟨h1, h2⟩ <;> omega

theorem tmod_bd (n : Int) : -255 ≤ n.tmod 255 ∧ n.tmod 255 < 255 := by
  have h := tmod_of n
  obtain ⟨r, hr⟩ : ∃ r, r = n.tmod 255 := ⟨_, rfl⟩
  rw [← hr] at h ⊢
  clear hr
  rcases h with ⟨h1, h2⟩ | ⟨h1, h2⟩ <;> omega
theorem prod_bd (r s : Int) (h1 : -255 ≤ r) (h2 : r < 255) (h3 : -255 ≤ s) (h4 : s < 255) : -65025 ≤ r * s ∧ r * s ≤ 65025 := by
  have hr : r.natAbs ≤ 255 := by omega
  have hs : s.natAbs ≤ 255 := by omega
  have h : (r * s).natAbs ≤ 255 * 255 := by rw [Int.natAbs_mul]; exact Nat.mul_le_mul hr hs
  omega
theorem tmod40_bd (n : Int) : -1099511627776 < n.tmod 1099511627776 ∧ n.tmod 1099511627776 < 1099511627776 := by
  rcases Int.lt_or_le n 0 with h | h
  · have e : n.tmod 1099511627776 = -((-n) % 1099511627776) := by
      have := Int.tmod_eq_emod_of_nonneg (a := -n) (b := 1099511627776) (by omega)
      rw [Int.neg_tmod] at this
      omega
    omega
  · have e := Int.tmod_eq_emod_of_nonneg (a := n) (b := 1099511627776) h
    omega

set_option maxRecDepth 100000 in
set_option maxHeartbeats 2000000 in
theorem powers_walk (x : B) (m n : Int) (w : World) (hx : x ≠ 0#8) :
    Calls Try.prog 7 #[.int .u8 (v8 x), .int .i64 m, .int .i64 n] w fun e w' => e = .returned (.bool true) ∧ Below w.heap.size w w' := by
  have hb : Below w.heap.size w w := Below.refl _ _
  have bm := tmod40_bd m
  have bn := tmod40_bd n
  obtain ⟨M, hM⟩ : ∃ M, m.tmod 1099511627776 = M := ⟨_, rfl⟩
  obtain ⟨N, hN⟩ : ∃ N, n.tmod 1099511627776 = N := ⟨_, rfl⟩
  rw [hM] at bm
  rw [hN] at bn
  obtain ⟨bm1, bm2⟩ := bm
  obtain ⟨bn1, bn2⟩ := bn
  have br := tmod_bd M
  have bs := tmod_bd N
  have er := tmod_emod M
  have es := tmod_emod N
  obtain ⟨r, hr⟩ : ∃ r, M.tmod 255 = r := ⟨_, rfl⟩
  obtain ⟨s, hs⟩ : ∃ s, N.tmod 255 = s := ⟨_, rfl⟩
  rw [hr] at br er
  rw [hs] at bs es
  obtain ⟨br1, br2⟩ := br
  obtain ⟨bs1, bs2⟩ := bs
  obtain ⟨bp1, bp2⟩ := prod_bd r s br1 br2 bs1 bs2
  have k1 : v8 (powI x (M + N)) = v8 (mul (powI x M) (powI x N)) := by rw [powI_add x hx]
  have k2 : v8 (powI x 255) = 1 := by rw [powI_255 x hx]; exact v8_one
  have k3 : v8 (powI x 1) = v8 x := by rw [powI_one x hx]
  have k4 : v8 (powI x 0) = 1 := by rw [powI_zero]; exact v8_one
  have k5 : v8 (powI (powI x M) s) = v8 (powI x (r * s)) := by rw [powI_mul x hx M r s N er es]
  have k6 : v8 (powI x (-1)) = v8 (inv x) := by rw [powI_neg x hx]
  have hx' : (v8 x == 0) = false := by have := v8_pos hx; simp; omega
  clear er es
  go_enter Try.func7, Try.ntmps7
  go_wp2_with (first
    | (go_at_call 16; refine (pow_from _ _ _ rfl hb).mono ?_; clear hb; rintro e w1 ⟨rfl, hb⟩)
    | (go_at_call 12; refine (mul_any _ _ _ _ _ rfl rfl).mono ?_; rintro e w' ⟨rfl, rfl⟩)
    | (go_at_call 14; refine (inv_from _ _ rfl hb).mono ?_; clear hb; rintro e w1 ⟨rfl, hb⟩)
    | (go_at_call 18; refine (works_from hb).mono ?_; clear hb; rintro e w1 ⟨rfl, hb⟩))
  go_ret
  exact ⟨rfl, hb⟩

theorem powI_of0 (n : Int) (h : n ≠ 0) : powI 0#8 n = 0#8 := by unfold powI; rw [if_neg h, if_pos rfl]

set_option maxRecDepth 100000 in
set_option maxHeartbeats 2000000 in
theorem powers_0 (m n : Int) (w : World) :
    Calls Try.prog 7 #[.int .u8 0, .int .i64 m, .int .i64 n] w fun e w' => e = .returned (.bool true) ∧ Below w.heap.size w w' := by
  have hb : Below w.heap.size w w := Below.refl _ _
  have z8 : v8 0#8 = 0 := v8_zero
  have k4 : v8 (powI 0#8 0) = 1 := by rw [powI_zero]; exact v8_one
  obtain ⟨M, hM⟩ : ∃ M, m.tmod 1099511627776 = M := ⟨_, rfl⟩
  obtain ⟨N, hN⟩ : ∃ N, n.tmod 1099511627776 = N := ⟨_, rfl⟩
  by_cases h0 : N = 0
  · subst h0
    go_enter Try.func7, Try.ntmps7
    go_wp2_with (first
      | (go_at_call 16; refine (pow_from 0#8 _ _ v8_zero.symm hb).mono ?_; clear hb; rintro e w1 ⟨rfl, hb⟩)
      | (go_at_call 18; refine (works_from hb).mono ?_; clear hb; rintro e w1 ⟨rfl, hb⟩))
    go_ret
    exact ⟨rfl, hb⟩
  · have k5 : v8 (powI 0#8 N) = 0 := by rw [powI_of0 N h0]; exact v8_zero
    have h0' : (N == 0) = false := by simp [h0]
    go_enter Try.func7, Try.ntmps7
    go_wp2_with (first
      | (go_at_call 16; refine (pow_from 0#8 _ _ v8_zero.symm hb).mono ?_; clear hb; rintro e w1 ⟨rfl, hb⟩)
      | (go_at_call 18; refine (works_from hb).mono ?_; clear hb; rintro e w1 ⟨rfl, hb⟩))
    go_ret
    exact ⟨rfl, hb⟩

theorem powers_any (x : B) (m n : Int) (w : World) :
    Calls Try.prog 7 #[.int .u8 (v8 x), .int .i64 m, .int .i64 n] w fun e w' => e = .returned (.bool true) ∧ Below w.heap.size w w' := by
  by_cases hx : x = 0#8
  · rw [hx, v8_zero]; exact powers_0 m n w
  · exact powers_walk x m n w hx
end Go.Proofs.Ytokjlgafidcahaa
