/- SHA-256 as lists of numbers: the words of a block, the 64 steps, what a block makes of eight words. -/
import Derived.Test.YtmnembhcfkcmnaaDoorArr
namespace Go.Proofs.YtmnembhcfkcmnaaDoor
open Go.RowKit

def kTab : List Int := [1116352408, 1899447441, 3049323471, 3921009573, 961987163, 1508970993, 2453635748, 2870763221, 3624381080, 310598401, 607225278, 1426881987, 1925078388, 2162078206, 2614888103, 3248222580, 3835390401, 4022224774, 264347078, 604807628, 770255983, 1249150122, 1555081692, 1996064986, 2554220882, 2821834349, 2952996808, 3210313671, 3336571891, 3584528711, 113926993, 338241895, 666307205, 773529912, 1294757372, 1396182291, 1695183700, 1986661051, 2177026350, 2456956037, 2730485921, 2820302411, 3259730800, 3345764771, 3516065817, 3600352804, 4094571909, 275423344, 430227734, 506948616, 659060556, 883997877, 958139571, 1322822218, 1537002063, 1747873779, 1955562222, 2024104815, 2227730452, 2361852424, 2428436474, 2756734187, 3204031479, 3329325298]
def hTab : List Int := [1779033703, 3144134277, 1013904242, 2773480762, 1359893119, 2600822924, 528734635, 1541459225]

/-- Four bytes as a word, the highest first. -/
def word4 (b : List Int) (j : Nat) : Int := ((b.getD (4 * j) 0 * 256 + b.getD (4 * j + 1) 0) * 256 + b.getD (4 * j + 2) 0) * 256 + b.getD (4 * j + 3) 0
def first16 (b : List Int) : List Int := (List.range 16).map (word4 b)
def nxt (l : List Int) : Int := (((ss1 (l.getD (l.length - 2) 0) + l.getD (l.length - 7) 0) % 4294967296 + ss0 (l.getD (l.length - 15) 0)) % 4294967296 + l.getD (l.length - 16) 0) % 4294967296
def ext : Nat → List Int → List Int
  | 0, l => l
  | n + 1, l => ext n (l ++ [nxt l])
def sched (b : List Int) : List Int := ext 48 (first16 b)

theorem ext_length (n : Nat) : ∀ l : List Int, (ext n l).length = l.length + n := by
  induction n with
  | zero => intro l; rfl
  | succ n ih => intro l; rw [ext, ih]; simp; omega
theorem ext_take (n : Nat) : ∀ l : List Int, (ext n l).take l.length = l := by
  induction n with
  | zero => intro l; simp [ext]
  | succ n ih =>
    intro l
    have h := congrArg (List.take l.length) (ih (l ++ [nxt l]))
    rw [List.take_take, show min l.length (l ++ [nxt l]).length = l.length by simp] at h
    rw [ext, h]
    simp
theorem getD_take (l : List Int) (n i : Nat) (h : i < n) : (l.take n).getD i 0 = l.getD i 0 := by
  simp [List.getD, h]
theorem ext_at (n : Nat) : ∀ (l : List Int) (t : Nat), l.length ≤ t → t < l.length + n → (ext n l).getD t 0 = nxt ((ext n l).take t) := by
  induction n with
  | zero => intro l t h1 h2; omega
  | succ n ih =>
    intro l t h1 h2
    rw [ext]
    by_cases h : t = l.length
    · have e := ext_take n (l ++ [nxt l])
      have e1 : (ext n (l ++ [nxt l])).getD t 0 = nxt l := by
        rw [← getD_take _ (l ++ [nxt l]).length t (by simp; omega), e, h]
        simp [List.getD]
      have e2 : (ext n (l ++ [nxt l])).take t = l := by
        have := congrArg (List.take t) e
        rw [List.take_take, show min t (l ++ [nxt l]).length = t by simp; omega] at this
        rw [this, h]; simp
      rw [e1, e2]
    · exact ih _ t (by simp; omega) (by simp; omega)
theorem first16_length (b : List Int) : (first16 b).length = 16 := by simp [first16]
theorem sched_length (b : List Int) : (sched b).length = 64 := by rw [sched, ext_length, first16_length]
theorem sched_low (b : List Int) (t : Nat) (h : t < 16) : (sched b).getD t 0 = word4 b t := by
  have e := ext_take 48 (first16 b)
  rw [first16_length] at e
  rw [sched, ← getD_take _ 16 t h, e, first16]
  simp [List.getD, h]
theorem sched_high (b : List Int) (t : Nat) (h1 : 16 ≤ t) (h2 : t < 64) : (sched b).getD t 0 =
    (((ss1 ((sched b).getD (t - 2) 0) + (sched b).getD (t - 7) 0) % 4294967296 + ss0 ((sched b).getD (t - 15) 0)) % 4294967296 + (sched b).getD (t - 16) 0) % 4294967296 := by
  have e := ext_at 48 (first16 b) t (by rw [first16_length]; exact h1) (by rw [first16_length]; omega)
  have hl : ((ext 48 (first16 b)).take t).length = t := by rw [List.length_take, ext_length, first16_length]; omega
  rw [sched, e]
  unfold nxt
  rw [hl, getD_take _ _ _ (by omega), getD_take _ _ _ (by omega), getD_take _ _ _ (by omega), getD_take _ _ _ (by omega)]

/-- The eight words a to h. -/
structure St where
  (a b c d e f g h : Int)
def t1 (s : St) (k x : Int) : Int := (s.h + bs1 s.e + chc s.e s.f s.g + k + x) % 4294967296
def t2 (s : St) : Int := (bs0 s.a + mjr s.a s.b s.c) % 4294967296
def rnd (s : St) (k x : Int) : St := ⟨(t1 s k x + t2 s) % 4294967296, s.a, s.b, s.c, (s.d + t1 s k x) % 4294967296, s.e, s.f, s.g⟩
def rounds (s : St) (ws : List Int) : Nat → St
  | 0 => s
  | t + 1 => rnd (rounds s ws t) (kTab.getD t 0) (ws.getD t 0)
def St.l (s : St) : List Int := [s.a, s.b, s.c, s.d, s.e, s.f, s.g, s.h]
def St.plus (s r : St) : St := ⟨(s.a + r.a) % 4294967296, (s.b + r.b) % 4294967296, (s.c + r.c) % 4294967296, (s.d + r.d) % 4294967296, (s.e + r.e) % 4294967296, (s.f + r.f) % 4294967296, (s.g + r.g) % 4294967296, (s.h + r.h) % 4294967296⟩
/-- What a block of 64 bytes makes of eight words. -/
def mix (s : St) (b : List Int) : St := s.plus (rounds s (sched b) 64)

theorem kTab_length : kTab.length = 64 := by decide
end Go.Proofs.YtmnembhcfkcmnaaDoor
