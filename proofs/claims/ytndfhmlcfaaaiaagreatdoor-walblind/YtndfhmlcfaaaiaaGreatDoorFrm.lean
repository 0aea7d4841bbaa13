/- Frames: sectors made of a head and a page, and what is read of them. -/
import Derived.Test.YtndfhmlcfaaaiaaGreatDoorCrc
namespace Go.Proofs.YtndfhmlcfaaaiaaGreatDoor
/-- A page's bytes. -/
structure Pg where
  l : List B
  h : l.length = 480
theorem pg_ext {s t : Pg} (h : s.l = t.l) : s = t := by cases s; cases t; cases h; rfl
instance : DecidableEq Pg := fun s t => if h : s.l = t.l then isTrue (pg_ext h) else isFalse (fun e => h (by rw [e]))
def zp : Pg := ⟨List.replicate 480 0#8, List.length_replicate⟩
/-- A number's bytes, the highest first. -/
def beb : Nat → Nat → List B
  | 0, _ => []
  | k + 1, n => beb k (n / 256) ++ [BitVec.ofNat 8 n]
theorem beb_length (k n : Nat) : (beb k n).length = k := by
  induction k generalizing n with
  | zero => rfl
  | succ k ih => simp [beb, ih]
/-- The number of bytes. -/
def nub (l : List B) : Nat := l.foldl (fun a b => 256 * a + b.toNat) 0
theorem nub_snoc (l : List B) (b : B) : nub (l ++ [b]) = 256 * nub l + b.toNat := by simp [nub]
theorem nub_beb (k n : Nat) : nub (beb k n) = n % 256 ^ k := by
  induction k generalizing n with
  | zero => simp [beb, nub, Nat.mod_one]
  | succ k ih =>
    rw [beb, nub_snoc, ih, Nat.pow_succ, BitVec.toNat_ofNat, Nat.mul_comm (256 ^ k) 256, Nat.mod_mul]
    omega
theorem nub_from (l : List B) : ∀ a, l.foldl (fun a b => 256 * a + b.toNat) a < (a + 1) * 256 ^ l.length := by
  induction l with
  | nil => intro a; simp
  | cons b l ih =>
    intro a
    have h := ih (256 * a + b.toNat)
    have hb := b.isLt
    simp only [List.foldl_cons, List.length_cons, Nat.pow_succ]
    refine Nat.lt_of_lt_of_le h ?_
    rw [Nat.mul_comm (256 ^ l.length) 256, ← Nat.mul_assoc]
    exact Nat.mul_le_mul_right _ (by omega)
theorem nub_lt (l : List B) : nub l < 256 ^ l.length := by simpa [nub] using nub_from l 0
theorem beb_nub (l : List B) : ∀ k, l.length = k → beb k (nub l) = l := by
  intro k
  induction k generalizing l with
  | zero => intro h; rw [List.length_eq_zero_iff.1 h]; rfl
  | succ k ih =>
    intro h
    have hne : l ≠ [] := by intro e; subst e; simp at h
    have e := List.dropLast_concat_getLast hne
    rw [← e, nub_snoc, beb]
    have h2 := (l.getLast hne).isLt
    rw [show (256 * nub l.dropLast + (l.getLast hne).toNat) / 256 = nub l.dropLast by omega, ih l.dropLast (by simp [h])]
    congr 1
    have : BitVec.ofNat 8 (256 * nub l.dropLast + (l.getLast hne).toNat) = l.getLast hne := by
      apply BitVec.eq_of_toNat_eq
      rw [BitVec.toNat_ofNat]
      omega
    rw [this]

/-- The bytes from o on, n of them. -/
def seg (l : List B) (o n : Nat) : List B := (l.drop o).take n
theorem seg_length (l : List B) (o n : Nat) (h : o + n ≤ l.length) : (seg l o n).length = n := by simp [seg]; omega
theorem seg_mid (a b c : List B) (o n : Nat) (ho : o = a.length) (hn : n = b.length) : seg (a ++ (b ++ c)) o n = b := by
  subst ho; subst hn; simp [seg]
def mrk : List B := [0x63#8, 0x69#8, 0x62#8, 0x6f#8]
/-- The head but its check. -/
def hd28 (k : B) (g s ix : Nat) : List B := mrk ++ ([k, 0#8, 0#8, 0#8] ++ (beb 8 g ++ (beb 8 s ++ beb 4 ix)))
theorem hd28_length (k : B) (g s ix : Nat) : (hd28 k g s ix).length = 28 := by simp [hd28, mrk, beb_length]
def bare (k : B) (g s ix : Nat) (x : Pg) : List B := hd28 k g s ix ++ ([0#8, 0#8, 0#8, 0#8] ++ x.l)
theorem bare_length (k : B) (g s ix : Nat) (x : Pg) : (bare k g s ix x).length = 512 := by simp [bare, hd28_length, x.h]
def chk (k : B) (g s ix : Nat) (x : Pg) : Nat := (crc (bare k g s ix x)).toNat
def frm (k : B) (g s ix : Nat) (x : Pg) : Sec := ⟨hd28 k g s ix ++ (beb 4 (chk k g s ix x) ++ x.l), by simp [hd28_length, beb_length, x.h]⟩

def kin (s : Sec) : B := s.l.getD 4 0#8
def gin (s : Sec) : Nat := nub (seg s.l 8 8)
def sin (s : Sec) : Nat := nub (seg s.l 16 8)
def xin (s : Sec) : Nat := nub (seg s.l 24 4)
def pin (s : Sec) : Pg := ⟨s.l.drop 32, by simp [s.h]⟩
theorem gin_lt (s : Sec) : gin s < 18446744073709551616 := by
  have := nub_lt (seg s.l 8 8)
  rw [seg_length _ _ _ (by rw [s.h]; omega)] at this
  exact this
theorem sin_lt (s : Sec) : sin s < 18446744073709551616 := by
  have := nub_lt (seg s.l 16 8)
  rw [seg_length _ _ _ (by rw [s.h]; omega)] at this
  exact this
theorem xin_lt (s : Sec) : xin s < 4294967296 := by
  have := nub_lt (seg s.l 24 4)
  rw [seg_length _ _ _ (by rw [s.h]; omega)] at this
  exact this
section
variable (k : B) (g s ix : Nat) (x : Pg)
theorem kin_frm : kin (frm k g s ix x) = k := by simp [kin, frm, hd28, mrk]
theorem gin_frm : gin (frm k g s ix x) = g % 18446744073709551616 := by
  unfold gin frm hd28
  simp only [List.append_assoc]
  rw [← List.append_assoc mrk, seg_mid _ _ _ 8 8 (by simp [mrk]) (by rw [beb_length]), nub_beb]
theorem sin_frm : sin (frm k g s ix x) = s % 18446744073709551616 := by
  unfold sin frm hd28
  simp only [List.append_assoc]
  rw [← List.append_assoc mrk, ← List.append_assoc (mrk ++ _), seg_mid _ _ _ 16 8 (by simp [mrk, beb_length]) (by rw [beb_length]), nub_beb]
theorem xin_frm : xin (frm k g s ix x) = ix % 4294967296 := by
  unfold xin frm hd28
  simp only [List.append_assoc]
  rw [← List.append_assoc mrk, ← List.append_assoc (mrk ++ _), ← List.append_assoc (mrk ++ _ ++ _), seg_mid _ _ _ 24 4 (by simp [mrk, beb_length]) (by rw [beb_length]), nub_beb]
theorem pin_frm : pin (frm k g s ix x) = x := by
  apply pg_ext
  unfold pin frm
  simp only [← List.append_assoc]
  rw [List.drop_append_of_le_length (by simp [hd28_length, beb_length]), List.drop_of_length_le (by simp [hd28_length, beb_length]), List.nil_append]
end
/-- A sector that is a frame. -/
def isF (s : Sec) : Prop := s = frm (kin s) (gin s) (sin s) (xin s) (pin s)
theorem isF_frm (k : B) (g s ix : Nat) (x : Pg) (hg : g < 18446744073709551616) (hs : s < 18446744073709551616) (hx : ix < 4294967296) : isF (frm k g s ix x) := by
  unfold isF
  rw [kin_frm, gin_frm, sin_frm, xin_frm, pin_frm, Nat.mod_eq_of_lt hg, Nat.mod_eq_of_lt hs, Nat.mod_eq_of_lt hx]
theorem zs_notF : ¬ isF zs := by
  intro h
  have h1 := congrArg (fun s => s.l.getD 0 0#8) h
  have h2 : zs.l.getD 0 0#8 = 0#8 := rfl
  rw [h2] at h1
  simp [frm, hd28, mrk] at h1
theorem beb_mod (k n m : Nat) (h : n % 256 ^ k = m % 256 ^ k) : beb k n = beb k m := by
  induction k generalizing n m with
  | zero => rfl
  | succ k ih =>
    have h2 : (n / 256) % 256 ^ k = (m / 256) % 256 ^ k := by
      rw [Nat.pow_succ, Nat.mul_comm] at h
      rw [Nat.mod_mul, Nat.mod_mul] at h
      omega
    have h3 : n % 256 = m % 256 := by
      rw [Nat.pow_succ, Nat.mul_comm] at h
      rw [Nat.mod_mul, Nat.mod_mul] at h
      omega
    rw [beb, beb, ih _ _ h2]
    congr 2
    apply BitVec.eq_of_toNat_eq
    simpa using h3
/-- What is told twice is told alike. -/
theorem frm_of_isF {t : Sec} (h : isF t) {k : B} {g s ix : Nat} {x : Pg} (hk : kin t = k) (hg : gin t = g) (hs : sin t = s) (hx : xin t = ix) (hp : pin t = x) : t = frm k g s ix x := by
  subst hk; subst hg; subst hs; subst hx; subst hp; exact h
end Go.Proofs.YtndfhmlcfaaaiaaGreatDoor
