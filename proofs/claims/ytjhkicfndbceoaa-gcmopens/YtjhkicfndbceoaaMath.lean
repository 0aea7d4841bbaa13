/- The field of 256 elements, in bits: sums, products, the powers of 3 (which are all elements but 0), inverses. -/


namespace Go.Proofs.Ytjhkicfndbceoaa

abbrev B := BitVec 8

/-- a times t. -/
def tt (a : B) : B := (a <<< 1) ^^^ (if a.getLsbD 7 then 27#8 else 0#8)
theorem tt_xor (x y : B) : tt (x ^^^ y) = tt x ^^^ tt y := by
  unfold tt
  rw [BitVec.shiftLeft_xor_distrib, BitVec.getLsbD_xor]
  cases x.getLsbD 7 <;> cases y.getLsbD 7 <;> simp
  · ac_rfl
  · ac_rfl
  · have : x <<< 1 ^^^ 27#8 ^^^ (y <<< 1 ^^^ 27#8) = (x <<< 1 ^^^ y <<< 1) ^^^ (27#8 ^^^ 27#8) := by ac_rfl
    rw [this, BitVec.xor_self, BitVec.xor_zero]
theorem tt_zero : tt 0#8 = 0#8 := by decide
/-- a times t^i. -/
def tp : Nat → B → B
  | 0, a => a
  | i + 1, a => tt (tp i a)
theorem tp_xor (i : Nat) (x y : B) : tp i (x ^^^ y) = tp i x ^^^ tp i y := by
  induction i with
  | zero => rfl
  | succ i ih => simp only [tp]; rw [ih, tt_xor]
theorem tp_zero (i : Nat) : tp i 0#8 = 0#8 := by
  induction i with
  | zero => rfl
  | succ i ih => simp only [tp]; rw [ih, tt_zero]
theorem tp_tt (i : Nat) (a : B) : tp i (tt a) = tt (tp i a) := by
  induction i with
  | zero => rfl
  | succ i ih => simp only [tp]; rw [ih]

/-- a times the first k bits of b. -/
def mulTo : Nat → B → B → B
  | 0, _, _ => 0#8
  | k + 1, a, b => mulTo k a b ^^^ (if b.getLsbD k then tp k a else 0#8)
/-- The product. -/
def mul (a b : B) : B := mulTo 8 a b

theorem mulTo_xor_left (k : Nat) (x y b : B) : mulTo k (x ^^^ y) b = mulTo k x b ^^^ mulTo k y b := by
  induction k with
  | zero => simp [mulTo]
  | succ k ih =>
    simp only [mulTo]
    rw [ih, tp_xor]
    cases b.getLsbD k <;> simp <;> ac_rfl
theorem mulTo_xor_right (k : Nat) (a x y : B) : mulTo k a (x ^^^ y) = mulTo k a x ^^^ mulTo k a y := by
  induction k with
  | zero => simp [mulTo]
  | succ k ih =>
    simp only [mulTo]
    rw [ih, BitVec.getLsbD_xor]
    cases x.getLsbD k <;> cases y.getLsbD k <;> simp
    · ac_rfl
    · ac_rfl
    · have : mulTo k a x ^^^ tp k a ^^^ (mulTo k a y ^^^ tp k a) = (mulTo k a x ^^^ mulTo k a y) ^^^ (tp k a ^^^ tp k a) := by ac_rfl
      rw [this, BitVec.xor_self, BitVec.xor_zero]
theorem mul_xor_left (x y b : B) : mul (x ^^^ y) b = mul x b ^^^ mul y b := mulTo_xor_left 8 x y b
theorem mul_xor (a x y : B) : mul a (x ^^^ y) = mul a x ^^^ mul a y := mulTo_xor_right 8 a x y
theorem mulTo_tt (k : Nat) (a b : B) : mulTo k (tt a) b = tt (mulTo k a b) := by
  induction k with
  | zero => simp [mulTo, tt_zero]
  | succ k ih =>
    simp only [mulTo]
    rw [ih, tt_xor, tp_tt]
    cases b.getLsbD k <;> simp [tt_zero]
theorem mul_zero (a : B) : mul a 0#8 = 0#8 := by
  have : ∀ k, mulTo k a 0#8 = 0#8 := by
    intro k
    induction k with
    | zero => rfl
    | succ k ih => simp [mulTo, ih]
  exact this 8
theorem zero_mul (b : B) : mul 0#8 b = 0#8 := by
  have : ∀ k, mulTo k 0#8 b = 0#8 := by
    intro k
    induction k with
    | zero => rfl
    | succ k ih => simp [mulTo, ih, tp_zero]
  exact this 8
theorem all_of {P : B → Prop} (h : ∀ n, n < 256 → P (BitVec.ofNat 8 n)) (x : B) : P x := by
  have := h x.toNat x.isLt
  rwa [BitVec.ofNat_toNat, BitVec.setWidth_eq] at this
theorem one_mul (b : B) : mul 1#8 b = b := all_of (P := fun b => mul 1#8 b = b) (by decide +kernel) b

/-- 3 times a. -/
def thr (a : B) : B := a ^^^ tt a
theorem mul_thr (a b : B) : mul (thr a) b = thr (mul a b) := by
  unfold thr
  rw [mul_xor_left]
  congr 1
  exact mulTo_tt 8 a b
/-- 3^n. -/
def E : Nat → B
  | 0 => 1#8
  | n + 1 => thr (E n)
def thrI : Nat → B → B
  | 0, a => a
  | n + 1, a => thr (thrI n a)
theorem E_mul_thr (m : Nat) (b : B) : mul (E m) b = thrI m b := by
  induction m with
  | zero => exact one_mul b
  | succ m ih => simp only [E, thrI]; rw [mul_thr, ih]
theorem thrI_E (m n : Nat) : thrI m (E n) = E (m + n) := by
  induction m with
  | zero => simp [thrI]
  | succ m ih => rw [Nat.succ_add]; simp only [thrI, E]; rw [ih]
theorem E_mul (m n : Nat) : mul (E m) (E n) = E (m + n) := by rw [E_mul_thr, thrI_E]

def pwL : List Nat := [1, 3, 5, 15, 17, 51, 85, 255, 26, 46, 114, 150, 161, 248, 19, 53, 95, 225, 56, 72, 216, 115, 149, 164, 247, 2, 6, 10, 30, 34, 102, 170, 229, 52, 92, 228, 55, 89, 235, 38, 106, 190, 217, 112, 144, 171, 230, 49, 83, 245, 4, 12, 20, 60, 68, 204, 79, 209, 104, 184, 211, 110, 178, 205, 76, 212, 103, 169, 224, 59, 77, 215, 98, 166, 241, 8, 24, 40, 120, 136, 131, 158, 185, 208, 107, 189, 220, 127, 129, 152, 179, 206, 73, 219, 118, 154, 181, 196, 87, 249, 16, 48, 80, 240, 11, 29, 39, 105, 187, 214, 97, 163, 254, 25, 43, 125, 135, 146, 173, 236, 47, 113, 147, 174, 233, 32, 96, 160, 251, 22, 58, 78, 210, 109, 183, 194, 93, 231, 50, 86, 250, 21, 63, 65, 195, 94, 226, 61, 71, 201, 64, 192, 91, 237, 44, 116, 156, 191, 218, 117, 159, 186, 213, 100, 172, 239, 42, 126, 130, 157, 188, 223, 122, 142, 137, 128, 155, 182, 193, 88, 232, 35, 101, 175, 234, 37, 111, 177, 200, 67, 197, 84, 252, 31, 33, 99, 165, 244, 7, 9, 27, 45, 119, 153, 176, 203, 70, 202, 69, 207, 74, 222, 121, 139, 134, 145, 168, 227, 62, 66, 198, 81, 243, 14, 18, 54, 90, 238, 41, 123, 141, 140, 143, 138, 133, 148, 167, 242, 13, 23, 57, 75, 221, 124, 132, 151, 162, 253, 28, 36, 108, 180, 199, 82, 246]
def lgL : List Nat := [0, 0, 25, 1, 50, 2, 26, 198, 75, 199, 27, 104, 51, 238, 223, 3, 100, 4, 224, 14, 52, 141, 129, 239, 76, 113, 8, 200, 248, 105, 28, 193, 125, 194, 29, 181, 249, 185, 39, 106, 77, 228, 166, 114, 154, 201, 9, 120, 101, 47, 138, 5, 33, 15, 225, 36, 18, 240, 130, 69, 53, 147, 218, 142, 150, 143, 219, 189, 54, 208, 206, 148, 19, 92, 210, 241, 64, 70, 131, 56, 102, 221, 253, 48, 191, 6, 139, 98, 179, 37, 226, 152, 34, 136, 145, 16, 126, 110, 72, 195, 163, 182, 30, 66, 58, 107, 40, 84, 250, 133, 61, 186, 43, 121, 10, 21, 155, 159, 94, 202, 78, 212, 172, 229, 243, 115, 167, 87, 175, 88, 168, 80, 244, 234, 214, 116, 79, 174, 233, 213, 231, 230, 173, 232, 44, 215, 117, 122, 235, 22, 11, 245, 89, 203, 95, 176, 156, 169, 81, 160, 127, 12, 246, 111, 23, 196, 73, 236, 216, 67, 31, 45, 164, 118, 123, 183, 204, 187, 62, 90, 251, 96, 177, 134, 59, 82, 161, 108, 170, 85, 41, 157, 151, 178, 135, 144, 97, 190, 220, 252, 188, 149, 207, 205, 55, 63, 91, 209, 83, 57, 132, 60, 65, 162, 109, 71, 20, 42, 158, 93, 86, 242, 211, 171, 68, 17, 146, 217, 35, 32, 46, 137, 180, 124, 184, 38, 119, 153, 227, 165, 103, 74, 237, 222, 197, 49, 254, 24, 13, 99, 140, 128, 192, 247, 112, 7]
theorem pw_step : ∀ n, n < 254 → thr (BitVec.ofNat 8 (pwL.getD n 0)) = BitVec.ofNat 8 (pwL.getD (n + 1) 0) := by decide +kernel
theorem E_pw (n : Nat) (h : n < 255) : E n = BitVec.ofNat 8 (pwL.getD n 0) := by
  induction n with
  | zero => rfl
  | succ n ih => simp only [E]; rw [ih (by omega), pw_step n (by omega)]
theorem E_255 : E 255 = 1#8 := by
  show thr (E 254) = 1#8
  rw [E_pw 254 (by omega)]
  decide +kernel
theorem E_add (n : Nat) : E (n + 255) = E n := by
  rw [← E_mul, E_255]
  show mul (E n) (E 0) = E n
  rw [E_mul, Nat.add_zero]
theorem E_addk (n k : Nat) : E (n + 255 * k) = E n := by
  induction k with
  | zero => rfl
  | succ k ih => rw [Nat.mul_succ, ← Nat.add_assoc, E_add, ih]
theorem E_mod (n : Nat) : E (n % 255) = E n := by
  have := E_addk (n % 255) (n / 255)
  rw [Nat.mod_add_div] at this
  exact this.symm
/-- The logarithm. -/
def lg (a : B) : Nat := lgL.getD a.toNat 0
theorem lg_lt (a : B) : lg a < 255 := all_of (P := fun a => lg a < 255) (by decide +kernel) a
theorem lg_pw : ∀ n, n < 255 → lgL.getD (BitVec.ofNat 8 (pwL.getD n 0)).toNat 0 = n := by decide +kernel
theorem lg_E (n : Nat) (h : n < 255) : lg (E n) = n := by
  rw [E_pw n h]
  exact lg_pw n h
theorem pw_lg : ∀ n, n < 256 → n ≠ 0 → pwL.getD (lgL.getD n 0) 0 = n := by decide +kernel
theorem E_lg (a : B) (h : a ≠ 0#8) : E (lg a) = a := by
  rw [E_pw _ (lg_lt a)]
  have hn : a.toNat ≠ 0 := by
    intro e
    apply h
    apply BitVec.eq_of_toNat_eq
    simpa using e
  unfold lg
  rw [pw_lg _ a.isLt hn, BitVec.ofNat_toNat, BitVec.setWidth_eq]
theorem pw_ne : ∀ n, n < 255 → BitVec.ofNat 8 (pwL.getD n 0) ≠ 0#8 := by decide +kernel
theorem E_ne (n : Nat) : E n ≠ 0#8 := by
  rw [← E_mod, E_pw _ (Nat.mod_lt _ (by decide))]
  exact pw_ne _ (Nat.mod_lt _ (by decide))
theorem E_eq {m n : Nat} (h : E m = E n) : m % 255 = n % 255 := by
  rw [← E_mod m, ← E_mod n] at h
  have := congrArg lg h
  rwa [lg_E _ (Nat.mod_lt _ (by decide)), lg_E _ (Nat.mod_lt _ (by decide))] at this

theorem mul_comm (a b : B) : mul a b = mul b a := by
  by_cases ha : a = 0#8
  · subst ha; rw [zero_mul, mul_zero]
  · by_cases hb : b = 0#8
    · subst hb; rw [zero_mul, mul_zero]
    · rw [← E_lg a ha, ← E_lg b hb, E_mul, E_mul, Nat.add_comm]
theorem mul_assoc (a b c : B) : mul (mul a b) c = mul a (mul b c) := by
  by_cases ha : a = 0#8
  · subst ha; rw [zero_mul, zero_mul, zero_mul]
  · by_cases hb : b = 0#8
    · subst hb; rw [mul_zero, zero_mul, mul_zero]
    · by_cases hc : c = 0#8
      · subst hc; rw [mul_zero, mul_zero, mul_zero]
      · rw [← E_lg a ha, ← E_lg b hb, ← E_lg c hc, E_mul, E_mul, E_mul, E_mul, Nat.add_assoc]
theorem mulC : Std.Commutative mul := ⟨mul_comm⟩
theorem mulA : Std.Associative mul := ⟨mul_assoc⟩
theorem mul_one (a : B) : mul a 1#8 = a := by rw [mul_comm, one_mul]
/-- The inverse. -/
def inv (a : B) : B := if a = 0#8 then 0#8 else E (255 - lg a)
theorem inv_zero : inv 0#8 = 0#8 := by simp [inv]
theorem mul_inv (a : B) (h : a ≠ 0#8) : mul a (inv a) = 1#8 := by
  unfold inv
  rw [if_neg h]
  have hl := lg_lt a
  have hE : mul (E (lg a)) (E (255 - lg a)) = 1#8 := by rw [E_mul, show lg a + (255 - lg a) = 255 by omega, E_255]
  rwa [E_lg a h] at hE
theorem mul_ne {a b : B} (ha : a ≠ 0#8) (hb : b ≠ 0#8) : mul a b ≠ 0#8 := by
  rw [← E_lg a ha, ← E_lg b hb, E_mul]
  exact E_ne _
theorem inv_ne {a : B} (h : a ≠ 0#8) : inv a ≠ 0#8 := by
  unfold inv
  rw [if_neg h]
  exact E_ne _
theorem inv_unique {a b : B} (h : mul a b = 1#8) : b = inv a := by
  have ha : a ≠ 0#8 := by
    intro e
    subst e
    rw [zero_mul] at h
    exact absurd h (by decide)
  calc b = mul 1#8 b := (one_mul b).symm
    _ = mul (mul a (inv a)) b := by rw [mul_inv a ha]
    _ = mul (mul a b) (inv a) := by rw [mul_assoc, mul_assoc, mul_comm (inv a) b]
    _ = inv a := by rw [h, one_mul]
theorem inv_inv (a : B) : inv (inv a) = a := by
  by_cases h : a = 0#8
  · subst h; rw [inv_zero, inv_zero]
  · exact (inv_unique (by rw [mul_comm]; exact mul_inv a h)).symm
/-- a divided by b. -/
def quo (a b : B) : B := mul a (inv b)
theorem quo_mul (a b : B) (h : b ≠ 0#8) : mul (quo a b) b = a := by
  unfold quo
  rw [mul_assoc, mul_comm (inv b) b, mul_inv b h, mul_one]
theorem mul_quo (a b : B) (h : b ≠ 0#8) : quo (mul a b) b = a := by
  unfold quo
  rw [mul_assoc, mul_inv b h, mul_one]

/-- The product of n elements a. -/
def pow (a : B) : Nat → B
  | 0 => 1#8
  | n + 1 => mul (pow a n) a
theorem pow_E (m n : Nat) : pow (E m) n = E (m * n) := by
  induction n with
  | zero => rfl
  | succ n ih => simp only [pow]; rw [ih, E_mul, Nat.mul_succ]
theorem E_one : E 1 = 3#8 := by decide
end Go.Proofs.Ytjhkicfndbceoaa
