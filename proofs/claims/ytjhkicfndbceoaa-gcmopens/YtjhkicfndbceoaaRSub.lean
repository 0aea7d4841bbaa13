/- The document's sub. -/
import Derived.Test.YtjhkicfndbceoaaExp
import Derived.BigQuiet
namespace Go.Proofs.Ytjhkicfndbceoaa
open Go.RowKit

/-- The bit number k of what stands for the byte whose inverse is y. -/
def sob (y : B) (k : Nat) : Bool := y.getLsbD k ^^ y.getLsbD ((k + 4) % 8) ^^ y.getLsbD ((k + 5) % 8) ^^ y.getLsbD ((k + 6) % 8) ^^ y.getLsbD ((k + 7) % 8) ^^ (99#8).getLsbD k
/-- The first k bits of it. -/
def so (y : B) : Nat → B
  | 0 => 0#8
  | k + 1 => so y k ||| (if sob y k then 1#8 <<< k else 0#8)
/-- The same as a number. -/
def sobN (y : B) (k : Nat) : Int := (bits BinOp.xor IntKind.u8 (bits BinOp.xor IntKind.u8 (bits BinOp.xor IntKind.u8 (bits BinOp.xor IntKind.u8 (bits BinOp.xor IntKind.u8 (v8 y / 2 ^ k) (v8 y / 2 ^ ((k + 4) % 8))) (v8 y / 2 ^ ((k + 5) % 8))) (v8 y / 2 ^ ((k + 6) % 8))) (v8 y / 2 ^ ((k + 7) % 8))) (99 / 2 ^ k)).tmod 2
theorem sobN_is (y : B) (k : Nat) (h : k < 8) : sobN y k = if sob y k then 1 else 0 :=
  all_of (P := fun y => ∀ k, k < 8 → sobN y k = if sob y k then 1 else 0) (by decide +kernel) y k h
theorem or_in (z : B) (k : Nat) (b : Bool) (h : k < 8) : bits BinOp.or IntKind.u8 (v8 z) ((if b then 1 else 0) * 2 ^ k % 256) = v8 (z ||| (if b then 1#8 <<< k else 0#8)) :=
  all_of (P := fun z => ∀ k, k < 8 → ∀ b : Bool, bits BinOp.or IntKind.u8 (v8 z) ((if b then 1 else 0) * 2 ^ k % 256) = v8 (z ||| (if b then 1#8 <<< k else 0#8))) (by decide +kernel) z k h b
theorem so_step (y : B) (k : Nat) (h : k < 8) : bits BinOp.or IntKind.u8 (v8 (so y k)) (sobN y k * 2 ^ k % 256) = v8 (so y (k + 1)) := by
  rw [sobN_is y k h, or_in _ k _ h]
  rfl
theorem so_full (x : B) : so (inv x) 8 = sb x := all_of (P := fun x => so (inv x) 8 = sb x) (by decide +kernel) x
theorem below_drewN {n : Nat} {w v : World} (h : Below n w v) (k : Nat) : Below n w (v.drewN k) := ⟨h.os, h.tape, h.output, h.size, h.block⟩
set_option maxRecDepth 100000 in
set_option maxHeartbeats 1000000 in
theorem refSub_any (x : B) (a : Int) (w : World) (ha : a = v8 x) :
    Calls Try.prog 31 #[.int .u8 a] w fun e w' => e = .returned (.int .u8 (v8 (sb x))) ∧ Below w.heap.size w w' := by
  subst ha
  have hc := refInv_any x (v8 x) w rfl
  have HF : Hid (so (inv x) 8 = sb x) := so_full x
  obtain ⟨s, es⟩ : ∃ s, s = sb x := ⟨_, rfl⟩
  rw [← es] at HF ⊢
  obtain ⟨y, ey⟩ : ∃ y, y = inv x := ⟨_, rfl⟩
  rw [← ey] at hc HF
  clear ey es
  have hy0 := v8_nn y
  have hy1 := v8_le y
  go_enter Try.func31, Try.ntmps31
  go_wp2_with (go_at_call 44; refine hc.mono ?_; rintro e w' ⟨rfl, rfl⟩)
  go_loopw [4, 5] (fun p i wr => ∃ k : Nat, k ≤ 8 ∧ i = .int .i64 k ∧ p = .int .u8 (v8 (so y k)) ∧ Below w.heap.size w wr) (fun _ i _ => 8 - (intOf i).toNat)
  case atStart => exact ⟨0, by omega, rfl, rfl, Below.refl _ w⟩
  case round =>
    obtain ⟨k, hk, rfl, rfl, hb⟩ := hrel
    have HS : Hid (k < 8 → bits BinOp.or IntKind.u8 (v8 (so y k)) (sobN y k * 2 ^ k % 256) = v8 (so y (k + 1))) := so_step y k
    by_cases hlt : k < 8
    · have hk0 : (0 : Int) ≤ k := by omega
      have hk1 : (k : Int) < 8 := by omega
      obtain ⟨z, ez⟩ : ∃ z, z = so y k := ⟨_, rfl⟩
      rw [← ez] at HS ⊢
      have hz0 := v8_nn z
      have hz1 := v8_le z
      clear ez
      go_wp2_with fail
      go_quiet (fail)
      go_wp2
      refine ⟨⟨k + 1, by omega, by go_num, ?_, below_drewN hb _⟩, by simp [intOf]; omega⟩
      rw [← HS.out hlt]
      rfl
    · have hk8 : k = 8 := by omega
      subst hk8
      rw [show ((8 : Nat) : Int) = 8 from rfl, HF.out]
      go_wp2
      go_ret
      exact ⟨rfl, hb⟩
end Go.Proofs.Ytjhkicfndbceoaa
