/- Long elements as 16 bytes and as two words of 64 bits. -/
import Derived.Test.YtjhkicfndbceoaaGMath
import Derived.Test.YtjhkicfndbceoaaEnc
namespace Go.Proofs.Ytjhkicfndbceoaa
open Go.RowKit

/-- Byte j of x, from behind. -/
def byteAt (x : Q) (j : Nat) : B := (x >>> (8 * j)).setWidth 8
theorem byteAt_bit (x : Q) (j i : Nat) (h : i < 8) : (byteAt x j).getLsbD i = x.getLsbD (8 * j + i) := by
  unfold byteAt
  rw [BitVec.getLsbD_setWidth, BitVec.getLsbD_ushiftRight]
  simp [h]
theorem byteAt_xor (x y : Q) (j : Nat) : byteAt (x ^^^ y) j = byteAt x j ^^^ byteAt y j := by
  apply BitVec.eq_of_getLsbD_eq
  intro i hi
  rw [BitVec.getLsbD_xor, byteAt_bit _ _ _ hi, byteAt_bit _ _ _ hi, byteAt_bit _ _ _ hi, BitVec.getLsbD_xor]
/-- The 16 bytes of x. -/
def bq (x : Q) : List B := (List.range 16).map fun k => byteAt x (15 - k)
theorem bq_length (x : Q) : (bq x).length = 16 := by simp [bq]
theorem bq_at (x : Q) (k : Nat) (h : k < 16) : (bq x).getD k 0#8 = byteAt x (15 - k) := by
  simp [bq, List.getD, h]
theorem bq_inj {x y : Q} (h : bq x = bq y) : x = y := by
  apply BitVec.eq_of_getLsbD_eq
  intro i hi
  have h1 : (bq x).getD (15 - i / 8) 0#8 = (bq y).getD (15 - i / 8) 0#8 := by rw [h]
  rw [bq_at x _ (by omega), bq_at y _ (by omega)] at h1
  have h2 : (byteAt x (15 - (15 - i / 8))).getLsbD (i % 8) = (byteAt y (15 - (15 - i / 8))).getLsbD (i % 8) := by rw [h1]
  rw [byteAt_bit _ _ _ (by omega), byteAt_bit _ _ _ (by omega)] at h2
  have e : 8 * (15 - (15 - i / 8)) + i % 8 = i := by omega
  rwa [e] at h2
/-- The element that bytes are, the last of them first. -/
def ofR : List B → Q
  | [] => 0#128
  | b :: r => (ofR r <<< 8) ||| b.setWidth 128
theorem ofR_at (r : List B) : ∀ j, j < 16 → byteAt (ofR r) j = r.getD j 0#8 := by
  induction r with
  | nil => intro j _; simp [ofR, byteAt]
  | cons b r ih =>
    intro j hj
    apply BitVec.eq_of_getLsbD_eq
    intro i hi
    rw [byteAt_bit _ _ _ hi, ofR, BitVec.getLsbD_or, BitVec.getLsbD_shiftLeft, BitVec.getLsbD_setWidth]
    cases j with
    | zero =>
      have h1 : i < 128 := by omega
      simp [hi, h1]
    | succ j =>
      have h0 : b.getLsbD (8 * (j + 1) + i) = false := BitVec.getLsbD_of_ge _ _ (by omega)
      have h1 := ih j (by omega)
      have h2 : (byteAt (ofR r) j).getLsbD i = (r.getD j 0#8).getLsbD i := by rw [h1]
      rw [byteAt_bit _ _ _ hi] at h2
      have e : 8 * (j + 1) + i - 8 = 8 * j + i := by omega
      have h3 : 8 * (j + 1) + i < 128 := by omega
      have h4 : ¬ 8 * (j + 1) + i < 8 := by omega
      rw [h0, e, h2]
      simp [h3, h4]
/-- The element that 16 bytes are. -/
def qb (l : List B) : Q := ofR l.reverse
theorem ext_getD (l m : List B) (n : Nat) (hl : l.length = n) (hm : m.length = n) (h : ∀ k, k < n → l.getD k 0#8 = m.getD k 0#8) : l = m := by
  apply List.ext_getElem (by omega)
  intro k h1 h2
  have := h k (by omega)
  simp only [List.getD, List.getElem?_eq_getElem h1, List.getElem?_eq_getElem h2, Option.getD_some] at this
  exact this
theorem bq_qb (l : List B) (h : l.length = 16) : bq (qb l) = l := by
  refine ext_getD _ _ 16 (bq_length _) h (fun k hk => ?_)
  rw [bq_at _ k hk, qb, ofR_at _ _ (by omega)]
  simp only [List.getD]
  rw [List.getElem?_reverse (by omega)]
  have e3 : l.length - 1 - (15 - k) = k := by omega
  rw [e3]
theorem qb_bq (x : Q) : qb (bq x) = x := bq_inj (bq_qb _ (bq_length x))
theorem bq_ex (l : List B) (h : l.length = 16) : ∃ x, l = bq x := ⟨qb l, (bq_qb l h).symm⟩
theorem qb_inj {l m : List B} (hl : l.length = 16) (hm : m.length = 16) (h : qb l = qb m) : l = m := by
  rw [← bq_qb l hl, ← bq_qb m hm, h]
theorem bq_xor (x y : Q) : bq (x ^^^ y) = addL (bq x) (bq y) := by
  unfold bq addL
  rw [List.zipWith_map, List.zipWith_self]
  apply List.map_congr_left
  intro k _
  exact byteAt_xor _ _ _
theorem bq_zero : bq 0#128 = List.replicate 16 0#8 := by decide

abbrev U := BitVec 64
def hiQ (x : Q) : U := (x >>> 64).setWidth 64
def loQ (x : Q) : U := x.setWidth 64
theorem hi_bit (x : Q) (i : Nat) (h : i < 64) : (hiQ x).getLsbD i = x.getLsbD (64 + i) := by
  unfold hiQ
  rw [BitVec.getLsbD_setWidth, BitVec.getLsbD_ushiftRight]
  simp [h]
theorem lo_bit (x : Q) (i : Nat) (h : i < 64) : (loQ x).getLsbD i = x.getLsbD i := by
  unfold loQ
  rw [BitVec.getLsbD_setWidth]
  simp [h]
theorem hilo_inj {x y : Q} (h : hiQ x = hiQ y) (l : loQ x = loQ y) : x = y := by
  apply BitVec.eq_of_getLsbD_eq
  intro i hi
  by_cases hl : i < 64
  · rw [← lo_bit x i hl, ← lo_bit y i hl, l]
  · have e : i = 64 + (i - 64) := by omega
    rw [e, ← hi_bit x _ (by omega), ← hi_bit y _ (by omega), h]
theorem hi_xor (x y : Q) : hiQ (x ^^^ y) = hiQ x ^^^ hiQ y := by
  apply BitVec.eq_of_getLsbD_eq
  intro i hi
  rw [BitVec.getLsbD_xor, hi_bit _ _ hi, hi_bit _ _ hi, hi_bit _ _ hi, BitVec.getLsbD_xor]
theorem lo_xor (x y : Q) : loQ (x ^^^ y) = loQ x ^^^ loQ y := by
  apply BitVec.eq_of_getLsbD_eq
  intro i hi
  rw [BitVec.getLsbD_xor, lo_bit _ _ hi, lo_bit _ _ hi, lo_bit _ _ hi, BitVec.getLsbD_xor]
theorem hi_half (x : Q) : hiQ (x >>> 1) = hiQ x >>> 1 := by
  apply BitVec.eq_of_getLsbD_eq
  intro i hi
  rw [hi_bit _ _ hi, BitVec.getLsbD_ushiftRight, BitVec.getLsbD_ushiftRight]
  by_cases h : 1 + i < 64
  · rw [hi_bit _ _ h]
    congr 1
    omega
  · rw [BitVec.getLsbD_of_ge _ _ (by omega), BitVec.getLsbD_of_ge _ _ (by omega)]
theorem lo_half (x : Q) : loQ (x >>> 1) = hiQ x <<< 63 ||| loQ x >>> 1 := by
  apply BitVec.eq_of_getLsbD_eq
  intro i hi
  rw [lo_bit _ _ hi, BitVec.getLsbD_ushiftRight, BitVec.getLsbD_or, BitVec.getLsbD_ushiftRight, BitVec.getLsbD_shiftLeft]
  by_cases h : i < 63
  · rw [lo_bit _ _ (by omega)]
    simp [h]
  · have e : i = 63 := by omega
    subst e
    rw [BitVec.getLsbD_of_ge (loQ x) _ (by omega), Nat.sub_self, hi_bit x 0 (by omega)]
    simp
theorem eT_hi (x : Q) : hiQ (eT x) = hiQ x >>> 1 ^^^ (if x.getLsbD 0 then 0xe100000000000000#64 else 0#64) := by
  unfold eT
  rw [hi_xor, hi_half]
  cases x.getLsbD 0
  · rfl
  · simp only [if_true]
    congr 1
theorem eT_lo (x : Q) : loQ (eT x) = hiQ x <<< 63 ||| loQ x >>> 1 := by
  unfold eT
  rw [lo_xor, lo_half]
  have : loQ (if x.getLsbD 0 then 0xe1000000000000000000000000000000#128 else 0#128) = 0#64 := by
    cases x.getLsbD 0
    · rfl
    · rfl
  rw [this, BitVec.xor_zero]
theorem hi_byte (x : Q) (i : Nat) (h : i < 8) : byteAt x (15 - i) = (hiQ x >>> (56 - 8 * i)).setWidth 8 := by
  apply BitVec.eq_of_getLsbD_eq
  intro j hj
  rw [byteAt_bit _ _ _ hj, BitVec.getLsbD_setWidth, BitVec.getLsbD_ushiftRight, hi_bit _ _ (by omega)]
  have e : 64 + (56 - 8 * i + j) = 8 * (15 - i) + j := by omega
  rw [e]
  simp [hj]
theorem lo_byte (x : Q) (i : Nat) (h : i < 8) : byteAt x (7 - i) = (loQ x >>> (56 - 8 * i)).setWidth 8 := by
  apply BitVec.eq_of_getLsbD_eq
  intro j hj
  rw [byteAt_bit _ _ _ hj, BitVec.getLsbD_setWidth, BitVec.getLsbD_ushiftRight, lo_bit _ _ (by omega)]
  have e : 56 - 8 * i + j = 8 * (7 - i) + j := by omega
  rw [e]
  simp [hj]
/-- A word takes up the next byte. -/
theorem word_step (u : U) (i : Nat) (h : i < 8) : (u >>> (64 - 8 * i)) <<< 8 ||| ((u >>> (56 - 8 * i)).setWidth 8).setWidth 64 = u >>> (64 - 8 * (i + 1)) := by
  apply BitVec.eq_of_getLsbD_eq
  intro j hj
  rw [BitVec.getLsbD_or, BitVec.getLsbD_shiftLeft, BitVec.getLsbD_ushiftRight, BitVec.getLsbD_ushiftRight, BitVec.getLsbD_setWidth, BitVec.getLsbD_setWidth, BitVec.getLsbD_ushiftRight]
  by_cases h8 : j < 8
  · have e : 64 - 8 * (i + 1) + j = 56 - 8 * i + j := by omega
    rw [e]
    simp [hj, h8]
  · have e : 64 - 8 * (i + 1) + j = 64 - 8 * i + (j - 8) := by omega
    rw [e]
    simp [hj, h8]

/-- A word as the program's number. -/
def v64 (u : U) : Int := (u.toNat : Int)
theorem v64_nn (u : U) : 0 ≤ v64 u := by unfold v64; omega
theorem v64_lt (u : U) : v64 u < 18446744073709551616 := by unfold v64; have := u.isLt; omega
theorem v64_inj {x y : U} (h : v64 x = v64 y) : x = y := by
  apply BitVec.eq_of_toNat_eq
  unfold v64 at h
  omega
theorem v64_of (u : U) : BitVec.ofInt 64 (v64 u) = u := by
  unfold v64
  rw [BitVec.ofInt_natCast, BitVec.ofNat_toNat, BitVec.setWidth_eq]
theorem v64_wrap (u : U) : IntKind.u64.wrap ((u.toNat : Nat) : Int) = v64 u := by
  have := u.isLt
  unfold v64
  rw [IntKind.wrap_u64]
  omega
theorem v64_xor (x y : U) : bits .xor .u64 (v64 x) (v64 y) = v64 (x ^^^ y) := by
  show IntKind.u64.wrap ((BitVec.ofInt 64 (v64 x) ^^^ BitVec.ofInt 64 (v64 y)).toNat : Int) = _
  rw [v64_of, v64_of, v64_wrap]
theorem v64_or (x y : U) : bits .or .u64 (v64 x) (v64 y) = v64 (x ||| y) := by
  show IntKind.u64.wrap ((BitVec.ofInt 64 (v64 x) ||| BitVec.ofInt 64 (v64 y)).toNat : Int) = _
  rw [v64_of, v64_of, v64_wrap]
theorem v64_and (x y : U) : bits .and .u64 (v64 x) (v64 y) = v64 (x &&& y) := by
  show IntKind.u64.wrap ((BitVec.ofInt 64 (v64 x) &&& BitVec.ofInt 64 (v64 y)).toNat : Int) = _
  rw [v64_of, v64_of, v64_wrap]
theorem v64_shr (x : U) (n : Nat) : v64 x / 2 ^ n = v64 (x >>> n) := by
  unfold v64
  rw [BitVec.toNat_ushiftRight, Nat.shiftRight_eq_div_pow]
  simp
theorem v64_shl (x : U) (n : Nat) : v64 x * 2 ^ n % 18446744073709551616 = v64 (x <<< n) := by
  unfold v64
  rw [BitVec.toNat_shiftLeft, Nat.shiftLeft_eq]
  simp
theorem v64_low (x : U) : v64 x % 256 = v8 (x.setWidth 8) := by
  unfold v64 v8
  rw [BitVec.toNat_setWidth]
  simp
theorem v8_64 (b : B) : v8 b = v64 (b.setWidth 64) := by
  unfold v64 v8
  rw [BitVec.toNat_setWidth]
  have := b.isLt
  simp
  omega
/-- A bit that is asked for. -/
theorem v64_bit (x : U) (n : Nat) : bits .and .u64 (v64 x / 2 ^ n) 1 = (if x.getLsbD n then 1 else 0) := by
  rw [v64_shr]
  have h1 : (1 : Int) = v64 1#64 := by decide
  rw [h1, v64_and]
  have : x >>> n &&& 1#64 = if x.getLsbD n then 1#64 else 0#64 := by
    apply BitVec.eq_of_getLsbD_eq
    intro i hi
    rw [BitVec.getLsbD_and, BitVec.getLsbD_ushiftRight, BitVec.getLsbD_one]
    cases i with
    | zero => cases x.getLsbD n <;> simp
    | succ i => cases x.getLsbD n <;> simp
  rw [this]
  cases x.getLsbD n
  · decide
  · rfl
/-- An element as the program's two words. -/
def el (x : Q) : List Value := [.int .u64 (v64 (hiQ x)), .int .u64 (v64 (loQ x))]
theorem el_length (x : Q) : (el x).length = 2 := rfl
theorem el_one (x : Q) : (el x).toArray.all (·.oneCell') = true := by simp [el, Value.oneCell']
end Go.Proofs.Ytjhkicfndbceoaa
