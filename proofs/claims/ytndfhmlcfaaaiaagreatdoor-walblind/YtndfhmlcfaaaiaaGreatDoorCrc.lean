/- The check of a frame: CRC-32C, bit by bit; by two tables; what it tells of bits that are turned. -/
import Derived.Test.YtndfhmlcfaaaiaaGreatDoorBase
namespace Go.Proofs.YtndfhmlcfaaaiaaGreatDoor
def poly : BitVec 32 := 0x82f63b78#32
/-- The register goes one bit to the right. -/
def sh1 (c : BitVec 32) : BitVec 32 := (c >>> 1) ^^^ (if c.getLsbD 0 then poly else 0#32)
theorem sh1_xor (a b : BitVec 32) : sh1 (a ^^^ b) = sh1 a ^^^ sh1 b := by
  unfold sh1
  have h : (a ^^^ b).getLsbD 0 = (a.getLsbD 0 ^^ b.getLsbD 0) := by simp
  rw [h, BitVec.ushiftRight_xor_distrib]
  have hp : ∀ x : BitVec 32, poly ^^^ (poly ^^^ x) = x := fun x => by rw [← BitVec.xor_assoc, BitVec.xor_self, BitVec.zero_xor]
  cases a.getLsbD 0 <;> cases b.getLsbD 0 <;> simp <;> first | ac_rfl | skip
  rw [show a >>> 1 ^^^ poly ^^^ (b >>> 1 ^^^ poly) = poly ^^^ (poly ^^^ (a >>> 1 ^^^ b >>> 1)) by ac_rfl, hp]
theorem sh1_zero : sh1 0#32 = 0#32 := by decide
theorem sh1_inj0 {c : BitVec 32} (h : sh1 c = 0#32) : c = 0#32 := by
  unfold sh1 at h
  by_cases h0 : c.getLsbD 0 = true
  · rw [if_pos h0] at h
    have := congrArg (fun x => x.getLsbD 31) h
    simp [poly] at this
  · rw [if_neg h0] at h
    simp at h
    apply BitVec.eq_of_getLsbD_eq
    intro i hi
    cases i with
    | zero => simpa using h0
    | succ i =>
      have := congrArg (fun x => x.getLsbD i) h
      simpa [Nat.add_comm] using this
def shn : Nat → BitVec 32 → BitVec 32
  | 0, c => c
  | n + 1, c => sh1 (shn n c)
theorem shn_xor (n : Nat) (a b : BitVec 32) : shn n (a ^^^ b) = shn n a ^^^ shn n b := by
  induction n with
  | zero => rfl
  | succ n ih => simp [shn, ih, sh1_xor]
theorem shn_zero (n : Nat) : shn n 0#32 = 0#32 := by
  induction n with
  | zero => rfl
  | succ n ih => simp [shn, ih, sh1_zero]
theorem shn_inj0 {n : Nat} {c : BitVec 32} (h : shn n c = 0#32) : c = 0#32 := by
  induction n with
  | zero => exact h
  | succ n ih => exact ih (sh1_inj0 h)
theorem shn_add (m n : Nat) (c : BitVec 32) : shn (m + n) c = shn m (shn n c) := by
  induction m with
  | zero => simp [shn]
  | succ m ih => rw [show m + 1 + n = (m + n) + 1 by omega]; simp [shn, ih]
theorem shn_even (c : BitVec 32) (n : Nat) (h : ∀ i, i < n → c.getLsbD i = false) : shn n c = c >>> n := by
  induction n with
  | zero => simp [shn]
  | succ n ih =>
    rw [shn, ih (fun i hi => h i (by omega)), sh1]
    have h0 : (c >>> n).getLsbD 0 = false := by simp [h n (by omega)]
    rw [h0]
    simp [BitVec.shiftRight_add]
/-- A byte goes through the register. -/
def cb (c : BitVec 32) (b : B) : BitVec 32 := shn 8 (c ^^^ b.setWidth 32)
def crcR (l : List B) : BitVec 32 := l.foldl cb 0xffffffff#32
def crc (l : List B) : BitVec 32 := ~~~ crcR l

def lows : List (BitVec 32) := [0x00000000#32, 0xf26b8303#32, 0xe13b70f7#32, 0x1350f3f4#32, 0xc79a971f#32, 0x35f1141c#32, 0x26a1e7e8#32, 0xd4ca64eb#32,
  0x8ad958cf#32, 0x78b2dbcc#32, 0x6be22838#32, 0x9989ab3b#32, 0x4d43cfd0#32, 0xbf284cd3#32, 0xac78bf27#32, 0x5e133c24#32]
def highs : List (BitVec 32) := [0x00000000#32, 0x105ec76f#32, 0x20bd8ede#32, 0x30e349b1#32, 0x417b1dbc#32, 0x5125dad3#32, 0x61c69362#32, 0x7198540d#32,
  0x82f63b78#32, 0x92a8fc17#32, 0xa24bb5a6#32, 0xb21572c9#32, 0xc38d26c4#32, 0xd3d3e1ab#32, 0xe330a81a#32, 0xf36e6f75#32]
theorem tabs_ok : ∀ o : Fin 256, shn 8 ((BitVec.ofFin o : B).setWidth 32) = lows.getD ((BitVec.ofFin o : B) &&& 15#8).toNat 0#32 ^^^ highs.getD ((BitVec.ofFin o : B) >>> 4).toNat 0#32 := by decide +kernel
theorem tabs_any (o : B) : shn 8 (o.setWidth 32) = lows.getD (o &&& 15#8).toNat 0#32 ^^^ highs.getD (o >>> 4).toNat 0#32 := tabs_ok o.toFin
theorem split8 (c : BitVec 32) : c = ((c >>> 8) <<< 8) ^^^ (c.setWidth 8).setWidth 32 := by
  apply BitVec.eq_of_getLsbD_eq
  intro i hi
  by_cases h : i < 8
  · simp [h]
    omega
  · simp [h, hi]
    rw [show 8 + (i - 8) = i by omega, BitVec.getLsbD_eq_getElem hi]
/-- By two tables, four bits at a time. -/
theorem cb_tabs (c : BitVec 32) (b : B) : cb c b = (c >>> 8) ^^^ lows.getD ((c.setWidth 8 ^^^ b) &&& 15#8).toNat 0#32 ^^^ highs.getD ((c.setWidth 8 ^^^ b) >>> 4).toNat 0#32 := by
  rw [BitVec.xor_assoc, ← tabs_any]
  unfold cb
  have h : c ^^^ b.setWidth 32 = ((c >>> 8) <<< 8) ^^^ (c.setWidth 8 ^^^ b).setWidth 32 := by
    rw [show (c.setWidth 8 ^^^ b).setWidth 32 = (c.setWidth 8).setWidth 32 ^^^ b.setWidth 32 from BitVec.setWidth_xor]
    rw [← BitVec.xor_assoc, ← split8]
  rw [h, shn_xor]
  congr 1
  rw [shn_even _ 8 (fun i hi => by simp; omega)]
  apply BitVec.eq_of_getLsbD_eq
  intro i hi
  simp
  intro hh
  by_cases h2 : 8 + i < 32
  · exact h2
  · rw [BitVec.getLsbD_of_ge _ _ (by omega)] at hh; cases hh

/-! ### bits that are turned -/
/-- Bit number k of bytes. -/
def bt (l : List B) (k : Nat) : Bool := (l.getD (k / 8) 0#8).getLsbD (k % 8)
def bitv (b : Bool) : BitVec 32 := if b then 1#32 else 0#32
/-- What the register is turned by, when bits p are turned. -/
def dif (p : Nat → Bool) : Nat → BitVec 32
  | 0 => 0#32
  | n + 1 => sh1 (dif p n ^^^ bitv (p n))
theorem dif_zero (p : Nat → Bool) : ∀ n, (∀ k, k < n → p k = false) → dif p n = 0#32
  | 0, _ => rfl
  | n + 1, h => by rw [dif, dif_zero p n (fun k hk => h k (by omega)), h n (by omega)]; decide
theorem shn_one (j : Nat) (hj : j < 32) : shn j (1#32 <<< j) = 1#32 := by
  rw [shn_even _ _ (fun i hi => by simp [hi])]
  apply BitVec.eq_of_getLsbD_eq
  intro i hi
  simp
  by_cases h : i = 0
  · subst h; simp; omega
  · simp [h]
/-- The bits from k0 on, j of them, as a number. -/
def pat (p : Nat → Bool) (k0 : Nat) : Nat → BitVec 32
  | 0 => 0#32
  | j + 1 => pat p k0 j ^^^ (if p (k0 + j) then 1#32 <<< j else 0#32)
theorem dif_pat (p : Nat → Bool) (k0 : Nat) (h0 : ∀ k, k < k0 → p k = false) : ∀ j, j ≤ 32 → dif p (k0 + j) = shn j (pat p k0 j)
  | 0, _ => by rw [Nat.add_zero, dif_zero p k0 h0]; rfl
  | j + 1, hj => by
    rw [← Nat.add_assoc, dif, dif_pat p k0 h0 j (by omega), pat, shn, shn_xor]
    congr 2
    cases p (k0 + j)
    · simp [bitv, shn_zero]
    · simp [bitv, shn_one j (by omega)]
theorem pat_low (p : Nat → Bool) (k0 : Nat) (h : p k0 = true) : ∀ j, 0 < j → (pat p k0 j).getLsbD 0 = true
  | 0, hj => by omega
  | 1, _ => by simp [pat, h]
  | j + 2, _ => by
    have ih := pat_low p k0 h (j + 1) (by omega)
    rw [pat]
    cases p (k0 + (j + 1)) <;> simp [ih]
theorem dif_far (p : Nat → Bool) (m : Nat) (h : ∀ k, m ≤ k → p k = false) (h0 : dif p m ≠ 0#32) : ∀ j, dif p (m + j) ≠ 0#32
  | 0 => h0
  | j + 1 => by
    rw [← Nat.add_assoc, dif, h (m + j) (by omega)]
    intro e
    have := sh1_inj0 e
    apply dif_far p m h h0 j
    simpa [bitv] using this
/-- Bits turned within 32 that follow one another turn the register. -/
theorem dif_burst (p : Nat → Bool) (k0 n : Nat) (hk : k0 < n) (h : p k0 = true) (hin : ∀ k, p k = true → k0 ≤ k ∧ k < k0 + 32) : dif p n ≠ 0#32 := by
  have h0 : ∀ k, k < k0 → p k = false := fun k hk => by
    cases e : p k
    · rfl
    · have := hin k e; omega
  have h1 : ∀ j, 0 < j → j ≤ 32 → dif p (k0 + j) ≠ 0#32 := fun j hj hj2 e => by
    rw [dif_pat p k0 h0 j hj2] at e
    have e2 := shn_inj0 e
    have e3 := pat_low p k0 h j hj
    rw [e2] at e3
    simp at e3
  by_cases hn : n ≤ k0 + 32
  · have := h1 (n - k0) (by omega) (by omega)
    rwa [show k0 + (n - k0) = n by omega] at this
  · have h2 : ∀ k, k0 + 32 ≤ k → p k = false := fun k hk => by
      cases e : p k
      · rfl
      · have := hin k e; omega
    have := dif_far p (k0 + 32) h2 (h1 32 (by omega) (by omega)) (n - (k0 + 32))
    rwa [show k0 + 32 + (n - (k0 + 32)) = n by omega] at this
/-- Byte by byte. -/
theorem dif_byte (l m : List B) (n : Nat) (d : BitVec 32) (hd : d = dif (fun k => bt l k ^^ bt m k) (8 * n)) :
    dif (fun k => bt l k ^^ bt m k) (8 * (n + 1)) = shn 8 (d ^^^ (l.getD n 0#8 ^^^ m.getD n 0#8).setWidth 32) := by
  rw [show 8 * (n + 1) = 8 * n + 1 + 1 + 1 + 1 + 1 + 1 + 1 + 1 by omega]
  simp only [dif, ← hd]
  have hb : ∀ j, j < 8 → (bt l (8 * n + j) ^^ bt m (8 * n + j)) = (l.getD n 0#8 ^^^ m.getD n 0#8).getLsbD j := fun j hj => by
    unfold bt
    rw [show (8 * n + j) / 8 = n by omega, show (8 * n + j) % 8 = j by omega]
    simp
  have e0 := hb 0 (by omega)
  have e1 := hb 1 (by omega)
  have e2 := hb 2 (by omega)
  have e3 := hb 3 (by omega)
  have e4 := hb 4 (by omega)
  have e5 := hb 5 (by omega)
  have e6 := hb 6 (by omega)
  have e7 := hb 7 (by omega)
  rw [Nat.add_zero] at e0
  simp only [e0, e1, e2, e3, e4, e5, e6, e7]
  generalize (l.getD n 0#8 ^^^ m.getD n 0#8) = x
  have hx : ∀ x : Fin 256, (BitVec.ofFin x : B).setWidth 32 = bitv ((BitVec.ofFin x : B).getLsbD 0) ^^^ (bitv ((BitVec.ofFin x : B).getLsbD 1) <<< 1) ^^^ (bitv ((BitVec.ofFin x : B).getLsbD 2) <<< 2) ^^^ (bitv ((BitVec.ofFin x : B).getLsbD 3) <<< 3) ^^^ (bitv ((BitVec.ofFin x : B).getLsbD 4) <<< 4) ^^^ (bitv ((BitVec.ofFin x : B).getLsbD 5) <<< 5) ^^^ (bitv ((BitVec.ofFin x : B).getLsbD 6) <<< 6) ^^^ (bitv ((BitVec.ofFin x : B).getLsbD 7) <<< 7) := by decide +kernel
  rw [show x.setWidth 32 = _ from hx x.toFin]
  have hs : ∀ (b : Bool) (j : Nat), j < 32 → shn j (bitv b <<< j) = bitv b := fun b j hj => by
    cases b
    · simp [bitv, shn_zero]
    · simp [bitv, shn_one j hj]
  have hs8 : ∀ (b : Bool) (j : Nat), j ≤ 8 → shn 8 (bitv b <<< j) = shn (8 - j) (bitv b) := fun b j hj => by
    rw [show 8 = (8 - j) + j by omega, shn_add, hs b j (by omega)]
    rw [show 8 - j + j - j = 8 - j by omega]
  simp only [shn_xor, hs8 _ 1 (by omega), hs8 _ 2 (by omega), hs8 _ 3 (by omega), hs8 _ 4 (by omega), hs8 _ 5 (by omega), hs8 _ 6 (by omega), hs8 _ 7 (by omega)]
  simp only [shn, sh1_xor]
  simp only [BitVec.ofFin_toFin] 
  ac_rfl
theorem crcR_dif (l m : List B) (hl : l.length = m.length) : ∀ n, n ≤ l.length → crcR (l.take n) ^^^ crcR (m.take n) = dif (fun k => bt l k ^^ bt m k) (8 * n)
  | 0, _ => by simp [dif]
  | n + 1, h => by
    have ih := crcR_dif l m hl n (by omega)
    rw [dif_byte l m n _ ih.symm.symm]
    have h1 : l.take (n + 1) = l.take n ++ [l.getD n 0#8] := by
      rw [List.take_add_one, List.getD, List.getElem?_eq_getElem (by omega)]; rfl
    have h2 : m.take (n + 1) = m.take n ++ [m.getD n 0#8] := by
      rw [List.take_add_one, List.getD, List.getElem?_eq_getElem (by omega)]; rfl
    unfold crcR at ih ⊢
    rw [h1, h2, List.foldl_append, List.foldl_append]
    simp only [List.foldl_cons, List.foldl_nil, cb]
    rw [← shn_xor, show (l.getD n 0#8 ^^^ m.getD n 0#8).setWidth 32 = (l.getD n 0#8).setWidth 32 ^^^ (m.getD n 0#8).setWidth 32 from BitVec.setWidth_xor]
    congr 1
    ac_rfl
/-- Where bits are turned within 32 that follow one another, the check is another one. -/
theorem crc_burst (l m : List B) (hl : l.length = m.length) (k0 : Nat) (h : bt l k0 ≠ bt m k0) (hin : ∀ k, bt l k ≠ bt m k → k0 ≤ k ∧ k < k0 + 32) : crc l ≠ crc m := by
  have hk : k0 < 8 * l.length := by
    rcases Nat.lt_or_ge k0 (8 * l.length) with hk | hk
    · exact hk
    · exfalso
      apply h
      unfold bt
      rw [List.getD, List.getElem?_eq_none (by omega), List.getD, List.getElem?_eq_none (by omega)]
  have h1 := crcR_dif l m hl l.length (Nat.le_refl _)
  rw [List.take_length, hl, List.take_length] at h1
  have hne : ∀ k, (bt l k ^^ bt m k) = true ↔ bt l k ≠ bt m k := fun k => by cases bt l k <;> cases bt m k <;> simp
  have h2 := dif_burst (fun k => bt l k ^^ bt m k) k0 (8 * m.length) (by omega) ((hne k0).2 h) (fun k hk => hin k ((hne k).1 hk))
  intro e
  apply h2
  rw [← h1]
  have : crcR l = crcR m := by
    have := congrArg (fun x => ~~~ x) e
    simpa [crc] using this
  rw [this, BitVec.xor_self]
end Go.Proofs.YtndfhmlcfaaaiaaGreatDoor
