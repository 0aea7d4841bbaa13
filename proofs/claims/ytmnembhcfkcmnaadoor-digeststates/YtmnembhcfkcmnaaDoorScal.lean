/- The small functions on words: turns, sums without carry, the choice and the majority, by the program and by the document's answer. -/
import Derived.Test.YtmnembhcfkcmnaaDoorRows
import Derived.WalkKit
import Derived.WalkSpells
import Derived.WalkLawsBesides
import Derived.Laws.BitsAll
import Derived.Laws.ShiftsVar
namespace Go.Proofs.YtmnembhcfkcmnaaDoor
open Go.RowKit

theorem bits_or_comm (a b : Int) : bits .or .u32 a b = bits .or .u32 b a := by
  show IntKind.u32.wrap ((BitVec.ofInt 32 a ||| BitVec.ofInt 32 b).toNat : Int) = IntKind.u32.wrap ((BitVec.ofInt 32 b ||| BitVec.ofInt 32 a).toNat : Int)
  rw [BitVec.or_comm]

/-- A word turned n bits to the right. -/
def rr (n : Nat) (x : Int) : Int := bits .or .u32 (x / 2 ^ n) (x * 2 ^ (32 - n) % 4294967296)

theorem rotl_any (x k : Int) (w : World) (s : Nat) (hs : bits .and .u64 (IntKind.u64.wrap k) 31 = s) (h1 : 1 ≤ s) (h2 : s ≤ 31) :
    Calls Tryd.prog 40 #[.int .u32 x, .int .i64 k] w fun e w' => e = .returned (.int .u32 (rr (32 - s) x)) ∧ w = w' := by
  have he : rr (32 - s) x = bits .or .u32 (x * 2 ^ s % 4294967296) (x / 2 ^ (32 - s)) := by
    rw [bits_or_comm, rr, show 32 - (32 - s) = s by omega]
  rw [he]
  go_enter Tryd.func40, Tryd.ntmps40
  go_wp2
  go_ret
  exact ⟨rfl, rfl⟩

theorem and31 : ∀ n : Nat, 1 ≤ n → n ≤ 31 → bits .and .u64 (IntKind.u64.wrap (-(n : Int))) 31 = ((32 - n : Nat) : Int) := by
  intro n h1 h2
  have : ∀ n : Nat, n < 32 → 1 ≤ n → bits .and .u64 (IntKind.u64.wrap (-(n : Int))) 31 = ((32 - n : Nat) : Int) := by decide +kernel
  exact this n (by omega) h1

theorem rotr_any (x : Int) (n : Nat) (w : World) (h1 : 1 ≤ n) (h2 : n ≤ 31) :
    Calls Tryd.prog 39 #[.int .u32 x, .int .i64 n] w fun e w' => e = .returned (.int .u32 (rr n x)) ∧ w = w' := by
  have hw : IntKind.i64.wrap (-(n : Int)) = -(n : Int) := by simp [IntKind.wrap, IntKind.bits, IntKind.signed]; omega
  have ha := and31 n h1 h2
  have hc := rotl_any x (-(n : Int)) w (32 - n) ha (by omega) (by omega)
  rw [show 32 - (32 - n) = n by omega] at hc
  go_enter Tryd.func39, Tryd.ntmps39
  go_wp2_with (go_at_call 40; refine hc.mono ?_; rintro e w' ⟨rfl, rfl⟩)
  go_ret
  exact ⟨rfl, rfl⟩

/-- The same, the count as the program spells it. -/
theorem rotr_of (x k : Int) (w : World) (h1 : 1 ≤ k) (h2 : k ≤ 31) :
    Calls Tryd.prog 39 #[.int .u32 x, .int .i64 k] w fun e w' => e = .returned (.int .u32 (rr k.toNat x)) ∧ w = w' := by
  have h := rotr_any x k.toNat w (by omega) (by omega)
  rwa [show ((k.toNat : Nat) : Int) = k by omega] at h

def xo (a b : Int) : Int := bits .xor .u32 a b
def an (a b : Int) : Int := bits .and .u32 a b
def ss0 (x : Int) : Int := xo (xo (rr 7 x) (rr 18 x)) (x / 8)
def ss1 (x : Int) : Int := xo (xo (rr 17 x) (rr 19 x)) (x / 1024)
def bs0 (x : Int) : Int := xo (xo (rr 2 x) (rr 13 x)) (rr 22 x)
def bs1 (x : Int) : Int := xo (xo (rr 6 x) (rr 11 x)) (rr 25 x)
def chc (x y z : Int) : Int := xo (an x y) (an (xo 4294967295 x) z)
def mjr (x y z : Int) : Int := xo (xo (an x y) (an x z)) (an y z)

theorem smallS0_any (x : Int) (w : World) : Calls Tryd.prog 38 #[.int .u32 x] w fun e w' => e = .returned (.int .u32 (ss0 x)) ∧ w = w' := by
  go_enter Tryd.func38, Tryd.ntmps38
  go_wp2_with (go_at_call 39; refine (rotr_of x _ w (by decide) (by decide)).mono ?_; rintro e w' ⟨rfl, rfl⟩)
  go_ret
  exact ⟨rfl, rfl⟩
theorem smallS1_any (x : Int) (w : World) : Calls Tryd.prog 37 #[.int .u32 x] w fun e w' => e = .returned (.int .u32 (ss1 x)) ∧ w = w' := by
  go_enter Tryd.func37, Tryd.ntmps37
  go_wp2_with (go_at_call 39; refine (rotr_of x _ w (by decide) (by decide)).mono ?_; rintro e w' ⟨rfl, rfl⟩)
  go_ret
  exact ⟨rfl, rfl⟩
theorem bigS0_any (x : Int) (w : World) : Calls Tryd.prog 35 #[.int .u32 x] w fun e w' => e = .returned (.int .u32 (bs0 x)) ∧ w = w' := by
  go_enter Tryd.func35, Tryd.ntmps35
  go_wp2_with (go_at_call 39; refine (rotr_of x _ w (by decide) (by decide)).mono ?_; rintro e w' ⟨rfl, rfl⟩)
  go_ret
  exact ⟨rfl, rfl⟩
theorem bigS1_any (x : Int) (w : World) : Calls Tryd.prog 33 #[.int .u32 x] w fun e w' => e = .returned (.int .u32 (bs1 x)) ∧ w = w' := by
  go_enter Tryd.func33, Tryd.ntmps33
  go_wp2_with (go_at_call 39; refine (rotr_of x _ w (by decide) (by decide)).mono ?_; rintro e w' ⟨rfl, rfl⟩)
  go_ret
  exact ⟨rfl, rfl⟩
theorem majority_any (x y z : Int) (w : World) :
    Calls Tryd.prog 36 #[.int .u32 x, .int .u32 y, .int .u32 z] w fun e w' => e = .returned (.int .u32 (mjr x y z)) ∧ w = w' := by
  go_enter Tryd.func36, Tryd.ntmps36
  go_wp2
  go_ret
  exact ⟨rfl, rfl⟩
theorem choice_any (x y z : Int) (w : World) :
    Calls Tryd.prog 34 #[.int .u32 x, .int .u32 y, .int .u32 z] w fun e w' => e = .returned (.int .u32 (chc x y z)) ∧ w = w' := by
  go_enter Tryd.func34, Tryd.ntmps34
  go_wp2
  go_ret
  exact ⟨rfl, rfl⟩
/-- The same, as the document's own answer turns a word: the order of two reads is drawn. -/
theorem refRotr_nat (x : Int) (n : Nat) (w : World)  (h1 : 1 ≤ n) (h2 : n ≤ 31) :
    Calls Tryd.prog 30 #[.int .u32 x, .int .i64 n] w fun e w' => e = .returned (.int .u32 (rr n x)) ∧ w.drew = w' := by
  go_enter Tryd.func30, Tryd.ntmps30
  go_wp2
  go_region
  go_wp2
  go_ret
  exact ⟨rfl, rfl⟩
theorem refRotr_any (x k : Int) (w : World) (h1 : 1 ≤ k) (h2 : k ≤ 31) :
    Calls Tryd.prog 30 #[.int .u32 x, .int .i64 k] w fun e w' => e = .returned (.int .u32 (rr k.toNat x)) ∧ w.drew = w' := by
  have h := refRotr_nat x k.toNat w (by omega) (by omega)
  rwa [show ((k.toNat : Nat) : Int) = k by omega] at h
end Go.Proofs.YtmnembhcfkcmnaaDoor
