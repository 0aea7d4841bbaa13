/- FieldLaws: the sums, products, inverses and quotients of all elements keep a field's laws. -/
import Derived.Test.YtokjlgafidcahaaWorks
namespace Go.Proofs.Ytokjlgafidcahaa
open Go.RowKit

section
variable {w0 W : World}
theorem inv_from (x : B) (a : Int) (ha : a = v8 x) (h : Below w0.heap.size w0 W) :
    Calls Try.prog 14 #[.int .u8 a] W fun e w' => e = .returned (.int .u8 (v8 (inv x))) ∧ Below w0.heap.size w0 w' :=
  (inv_any x a W ha).mono fun _ _ ⟨e, hb⟩ => ⟨e, h.trans (hb.mono h.size)⟩
theorem div_from (x y : B) (a b : Int) (ha : a = v8 x) (hb : b = v8 y) (h : Below w0.heap.size w0 W) :
    Calls Try.prog 9 #[.int .u8 a, .int .u8 b] W fun e w' => e = .returned (.tuple #[.int .u8 (v8 (quo x y)), .int .i64 (if y = 0#8 then 30 else 0)]) ∧ Below w0.heap.size w0 w' :=
  (div_any x y a b W ha hb).mono fun _ _ ⟨e, hb⟩ => ⟨e, h.trans (hb.mono h.size)⟩
theorem div_ok (x y : B) (a b : Int) (hy : y ≠ 0#8) (ha : a = v8 x) (hb : b = v8 y) (h : Below w0.heap.size w0 W) :
    Calls Try.prog 9 #[.int .u8 a, .int .u8 b] W fun e w' => e = .returned (.tuple #[.int .u8 (v8 (quo x y)), .int .i64 0]) ∧ Below w0.heap.size w0 w' := by
  have := div_from x y a b ha hb h
  rwa [if_neg hy] at this
theorem div_no (x : B) (a b : Int) (ha : a = v8 x) (h : Below w0.heap.size w0 W) (hb : b = 0 := by rfl) :
    Calls Try.prog 9 #[.int .u8 a, .int .u8 b] W fun e w' => e = .returned (.tuple #[.int .u8 (v8 (quo x 0#8)), .int .i64 30]) ∧ Below w0.heap.size w0 w' := by
  have := div_from x 0#8 a b ha (hb.trans v8_zero.symm) h
  rwa [if_pos rfl] at this
theorem pow_from (x : B) (a n : Int) (ha : a = v8 x) (h : Below w0.heap.size w0 W) :
    Calls Try.prog 16 #[.int .u8 a, .int .i64 n] W fun e w' => e = .returned (.int .u8 (v8 (powI x n))) ∧ Below w0.heap.size w0 w' :=
  (pow_any x a n W ha).mono fun _ _ ⟨e, hb⟩ => ⟨e, h.trans (hb.mono h.size)⟩
theorem works_from (h : Below w0.heap.size w0 W) : Calls Try.prog 18 #[] W fun e w' => e = .returned (.bool true) ∧ Below w0.heap.size w0 w' :=
  (works_any W).mono fun _ _ ⟨e, hb⟩ => ⟨e, h.trans (hb.mono h.size)⟩
end

set_option maxRecDepth 100000 in
set_option maxHeartbeats 2000000 in
theorem laws_walk (x y z : B) (w : World) (hx : x ≠ 0#8) (hy : y ≠ 0#8) :
    Calls Try.prog 6 #[.int .u8 (v8 x), .int .u8 (v8 y), .int .u8 (v8 z)] w fun e w' => e = .returned (.bool true) ∧ Below w.heap.size w w' := by
  have hb : Below w.heap.size w w := Below.refl _ _
  have k1 : v8 (y ^^^ x) = v8 (x ^^^ y) := by rw [BitVec.xor_comm]
  have k2 : v8 (x ^^^ (y ^^^ z)) = v8 (x ^^^ y ^^^ z) := by rw [BitVec.xor_assoc]
  have k3 : v8 (x ^^^ x) = 0 := by rw [BitVec.xor_self]; exact v8_zero
  have k4 : v8 (x ^^^ 0#8) = v8 x := by rw [BitVec.xor_zero]
  have k5 : v8 (mul y x) = v8 (mul x y) := by rw [mul_comm]
  have k6 : v8 (mul x (mul y z)) = v8 (mul (mul x y) z) := by rw [mul_assoc]
  have k7 : v8 (mul x 1#8) = v8 x := by rw [mul_one]
  have k8 : v8 (mul x 0#8) = 0 := by rw [mul_zero]; exact v8_zero
  have k9 : v8 (mul x (y ^^^ z)) = v8 (mul x y ^^^ mul x z) := by rw [mul_xor]
  have k10 : v8 (mul x (inv x)) = 1 := by rw [mul_inv x hx]; exact v8_one
  have k11 : v8 (inv (inv x)) = v8 x := by rw [inv_inv]
  have k12 : v8 (mul (quo x y) y) = v8 x := by rw [quo_mul x y hy]
  have k13 : v8 (quo (mul x y) y) = v8 x := by rw [mul_quo x y hy]
  have hx' : (v8 x == 0) = false := by have := v8_pos hx; simp; omega
  have hy' : (v8 y == 0) = false := by have := v8_pos hy; simp; omega
  have hx2 : ¬ v8 x = 0 := by have := v8_pos hx; omega
  have hy2 : ¬ v8 y = 0 := by have := v8_pos hy; omega
  go_enter Try.func6, Try.ntmps6
  go_wp2_with (first
    | (go_at_call 11; refine (add_any _ _ _ _ _ (by exact rfl) (by first | exact rfl | exact v8_zero.symm)).mono ?_; rintro e w' ⟨rfl, rfl⟩)
    | (go_at_call 12; refine (mul_any _ _ _ _ _ (by exact rfl) (by first | exact rfl | exact v8_zero.symm | exact v8_one.symm)).mono ?_; rintro e w' ⟨rfl, rfl⟩)
    | (go_at_call 14; refine (inv_from _ _ rfl hb).mono ?_; clear hb; rintro e w1 ⟨rfl, hb⟩)
    | (go_at_call 9; refine (div_ok _ y _ _ hy rfl rfl hb).mono ?_; clear hb; rintro e w1 ⟨rfl, hb⟩)
    | (go_at_call 18; refine (works_from hb).mono ?_; clear hb; rintro e w1 ⟨rfl, hb⟩))
  go_ret
  exact ⟨rfl, hb⟩

set_option maxRecDepth 100000 in
set_option maxHeartbeats 2000000 in
theorem laws_x0 (y z : B) (w : World) (hy : y ≠ 0#8) :
    Calls Try.prog 6 #[.int .u8 0, .int .u8 (v8 y), .int .u8 (v8 z)] w fun e w' => e = .returned (.bool true) ∧ Below w.heap.size w w' := by
  have hb : Below w.heap.size w w := Below.refl _ _
  have z1 : ∀ t : B, v8 (0#8 ^^^ t) = v8 t := fun t => by rw [BitVec.zero_xor]
  have z2 : ∀ t : B, v8 (t ^^^ 0#8) = v8 t := fun t => by rw [BitVec.xor_zero]
  have z3 : ∀ t : B, v8 (mul 0#8 t) = 0 := fun t => by rw [zero_mul]; exact v8_zero
  have z4 : ∀ t : B, v8 (mul t 0#8) = 0 := fun t => by rw [mul_zero]; exact v8_zero
  have z5 : v8 (inv 0#8) = 0 := by rw [inv_zero]; exact v8_zero
  have z6 : ∀ t : B, v8 (quo 0#8 t) = 0 := fun t => by unfold quo; rw [zero_mul]; exact v8_zero
  have z7 : ∀ t : B, v8 (quo t 0#8) = 0 := fun t => by unfold quo; rw [inv_zero, mul_zero]; exact v8_zero
  have z8 : v8 0#8 = 0 := v8_zero
  have hy' : (v8 y == 0) = false := by have := v8_pos hy; simp; omega
  have hy2 : ¬ v8 y = 0 := by have := v8_pos hy; omega
  go_enter Try.func6, Try.ntmps6
  go_wp2_with (first
    | (go_at_call 11; refine (add_any _ _ _ _ _ (by first | exact rfl | exact v8_zero.symm | exact v8_one.symm) (by first | exact rfl | exact v8_zero.symm | exact v8_one.symm)).mono ?_; rintro e w' ⟨rfl, rfl⟩)
    | (go_at_call 12; refine (mul_any _ _ _ _ _ (by first | exact rfl | exact v8_zero.symm | exact v8_one.symm) (by first | exact rfl | exact v8_zero.symm | exact v8_one.symm)).mono ?_; rintro e w' ⟨rfl, rfl⟩)
    | (go_at_call 14; refine (inv_from _ _ (by first | exact rfl | exact v8_zero.symm | exact v8_one.symm) hb).mono ?_; clear hb; rintro e w1 ⟨rfl, hb⟩)
    | (go_at_call 9; refine (div_ok _ y _ _ hy (by first | exact rfl | exact v8_zero.symm | exact v8_one.symm) rfl hb).mono ?_; clear hb; rintro e w1 ⟨rfl, hb⟩)
    | (go_at_call 18; refine (works_from hb).mono ?_; clear hb; rintro e w1 ⟨rfl, hb⟩))
  go_ret
  exact ⟨rfl, hb⟩

set_option maxRecDepth 100000 in
set_option maxHeartbeats 2000000 in
theorem laws_y0 (x z : B) (w : World) (hx : x ≠ 0#8) :
    Calls Try.prog 6 #[.int .u8 (v8 x), .int .u8 0, .int .u8 (v8 z)] w fun e w' => e = .returned (.bool true) ∧ Below w.heap.size w w' := by
  have hb : Below w.heap.size w w := Below.refl _ _
  have z1 : ∀ t : B, v8 (0#8 ^^^ t) = v8 t := fun t => by rw [BitVec.zero_xor]
  have z2 : ∀ t : B, v8 (t ^^^ 0#8) = v8 t := fun t => by rw [BitVec.xor_zero]
  have z3 : ∀ t : B, v8 (mul 0#8 t) = 0 := fun t => by rw [zero_mul]; exact v8_zero
  have z4 : ∀ t : B, v8 (mul t 0#8) = 0 := fun t => by rw [mul_zero]; exact v8_zero
  have z5 : v8 (inv 0#8) = 0 := by rw [inv_zero]; exact v8_zero
  have z6 : ∀ t : B, v8 (quo 0#8 t) = 0 := fun t => by unfold quo; rw [zero_mul]; exact v8_zero
  have z7 : ∀ t : B, v8 (quo t 0#8) = 0 := fun t => by unfold quo; rw [inv_zero, mul_zero]; exact v8_zero
  have z8 : v8 0#8 = 0 := v8_zero
  have k3 : v8 (x ^^^ x) = 0 := by rw [BitVec.xor_self]; exact v8_zero
  have k7 : v8 (mul x 1#8) = v8 x := by rw [mul_one]
  have k10 : v8 (mul x (inv x)) = 1 := by rw [mul_inv x hx]; exact v8_one
  have k11 : v8 (inv (inv x)) = v8 x := by rw [inv_inv]
  have hx' : (v8 x == 0) = false := by have := v8_pos hx; simp; omega
  have hx2 : ¬ v8 x = 0 := by have := v8_pos hx; omega
  go_enter Try.func6, Try.ntmps6
  go_wp2_with (first
    | (go_at_call 11; refine (add_any _ _ _ _ _ (by first | exact rfl | exact v8_zero.symm | exact v8_one.symm) (by first | exact rfl | exact v8_zero.symm | exact v8_one.symm)).mono ?_; rintro e w' ⟨rfl, rfl⟩)
    | (go_at_call 12; refine (mul_any _ _ _ _ _ (by first | exact rfl | exact v8_zero.symm | exact v8_one.symm) (by first | exact rfl | exact v8_zero.symm | exact v8_one.symm)).mono ?_; rintro e w' ⟨rfl, rfl⟩)
    | (go_at_call 14; refine (inv_from _ _ (by first | exact rfl | exact v8_zero.symm | exact v8_one.symm) hb).mono ?_; clear hb; rintro e w1 ⟨rfl, hb⟩)
    | (go_at_call 9; refine (div_no _ _ _ (by first | exact rfl | exact v8_zero.symm | exact v8_one.symm) hb).mono ?_; clear hb; rintro e w1 ⟨rfl, hb⟩)
    | (go_at_call 18; refine (works_from hb).mono ?_; clear hb; rintro e w1 ⟨rfl, hb⟩))
  go_ret
  exact ⟨rfl, hb⟩

set_option maxRecDepth 100000 in
set_option maxHeartbeats 2000000 in
theorem laws_00 (z : B) (w : World) :
    Calls Try.prog 6 #[.int .u8 0, .int .u8 0, .int .u8 (v8 z)] w fun e w' => e = .returned (.bool true) ∧ Below w.heap.size w w' := by
  have hb : Below w.heap.size w w := Below.refl _ _
  have z1 : ∀ t : B, v8 (0#8 ^^^ t) = v8 t := fun t => by rw [BitVec.zero_xor]
  have z2 : ∀ t : B, v8 (t ^^^ 0#8) = v8 t := fun t => by rw [BitVec.xor_zero]
  have z3 : ∀ t : B, v8 (mul 0#8 t) = 0 := fun t => by rw [zero_mul]; exact v8_zero
  have z4 : ∀ t : B, v8 (mul t 0#8) = 0 := fun t => by rw [mul_zero]; exact v8_zero
  have z5 : v8 (inv 0#8) = 0 := by rw [inv_zero]; exact v8_zero
  have z6 : ∀ t : B, v8 (quo 0#8 t) = 0 := fun t => by unfold quo; rw [zero_mul]; exact v8_zero
  have z7 : ∀ t : B, v8 (quo t 0#8) = 0 := fun t => by unfold quo; rw [inv_zero, mul_zero]; exact v8_zero
  have z8 : v8 0#8 = 0 := v8_zero
  go_enter Try.func6, Try.ntmps6
  go_wp2_with (first
    | (go_at_call 11; refine (add_any _ _ _ _ _ (by first | exact rfl | exact v8_zero.symm | exact v8_one.symm) (by first | exact rfl | exact v8_zero.symm | exact v8_one.symm)).mono ?_; rintro e w' ⟨rfl, rfl⟩)
    | (go_at_call 12; refine (mul_any _ _ _ _ _ (by first | exact rfl | exact v8_zero.symm | exact v8_one.symm) (by first | exact rfl | exact v8_zero.symm | exact v8_one.symm)).mono ?_; rintro e w' ⟨rfl, rfl⟩)
    | (go_at_call 14; refine (inv_from _ _ (by first | exact rfl | exact v8_zero.symm | exact v8_one.symm) hb).mono ?_; clear hb; rintro e w1 ⟨rfl, hb⟩)
    | (go_at_call 9; refine (div_no _ _ _ (by first | exact rfl | exact v8_zero.symm | exact v8_one.symm) hb).mono ?_; clear hb; rintro e w1 ⟨rfl, hb⟩)
    | (go_at_call 18; refine (works_from hb).mono ?_; clear hb; rintro e w1 ⟨rfl, hb⟩))
  go_ret
  exact ⟨rfl, hb⟩

theorem laws_any (x y z : B) (w : World) :
    Calls Try.prog 6 #[.int .u8 (v8 x), .int .u8 (v8 y), .int .u8 (v8 z)] w fun e w' => e = .returned (.bool true) ∧ Below w.heap.size w w' := by
  by_cases hx : x = 0#8
  · by_cases hy : y = 0#8
    · rw [hx, hy, v8_zero]; exact laws_00 z w
    · rw [hx, v8_zero]; exact laws_x0 y z w hy
  · by_cases hy : y = 0#8
    · rw [hy, v8_zero]; exact laws_y0 x z w hx
    · exact laws_walk x y z w hx hy
end Go.Proofs.Ytokjlgafidcahaa
