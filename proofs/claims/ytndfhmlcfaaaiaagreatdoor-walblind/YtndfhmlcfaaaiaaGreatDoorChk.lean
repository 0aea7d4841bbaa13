/- The check of a sector, by the program's two tables. -/
import Derived.Test.YtndfhmlcfaaaiaaGreatDoorMod
import Derived.Test.YtndfhmlcfaaaiaaGreatDoorORead
import Derived.Deep.QuietTactic
namespace Go.Proofs.YtndfhmlcfaaaiaaGreatDoor
open Go.RowKit

/-- A register, or a number of 32 bits, as the program's. -/
def v32 (x : BitVec 32) : Int := (x.toNat : Int)
theorem v32_nn (x : BitVec 32) : 0 ≤ v32 x := by unfold v32; omega
theorem v32_le (x : BitVec 32) : v32 x ≤ 4294967295 := by unfold v32; have := x.isLt; omega
theorem v32_xor (x y : BitVec 32) : bits .xor .u32 (v32 x) (v32 y) = v32 (x ^^^ y) := by
  unfold v32
  rw [u32_xor_nat _ _ x.isLt y.isLt, BitVec.toNat_xor]
theorem v8_xor (x y : B) : bits .xor .u8 (v8 x) (v8 y) = v8 (x ^^^ y) := by
  unfold v8
  rw [u8_xor_nat _ _ x.isLt y.isLt, BitVec.toNat_xor]
theorem low_of (c : BitVec 32) : v32 c % 256 = v8 (c.setWidth 8) := by
  unfold v32 v8
  rw [BitVec.toNat_setWidth]
  omega
theorem and_of (o : B) : bits .and .u8 (v8 o) 15 = (((o &&& 15#8).toNat : Nat) : Int) := by
  unfold v8
  rw [show (15 : Int) = ((15 : Nat) : Int) from rfl, u8_and_nat _ _ o.isLt (by decide), BitVec.toNat_and]
  rfl
theorem shr_of (o : B) : v8 o / 16 = (((o >>> 4).toNat : Nat) : Int) := by
  unfold v8
  rw [BitVec.toNat_ushiftRight, Nat.shiftRight_eq_div_pow]
  rfl
theorem shr8_of (c : BitVec 32) : v32 c / 256 = v32 (c >>> 8) := by
  unfold v32
  rw [BitVec.toNat_ushiftRight, Nat.shiftRight_eq_div_pow]
  rfl
/-- Both tables lie in blocks 0 and 1. -/
structure Tabs (w : World) : Prop where
  lo : ∀ i : Nat, i < 16 → w.cell? ⟨0, i, none⟩ = some (.int .u32 (v32 (lows.getD i 0#32)))
  hi : ∀ i : Nat, i < 16 → w.cell? ⟨1, i, none⟩ = some (.int .u32 (v32 (highs.getD i 0#32)))
  two : 2 ≤ w.heap.size
theorem Tabs.later {w w' : World} (h : Tabs w) {n : Nat} (hb : Below n w w') (hn : 2 ≤ n) : Tabs w' :=
  ⟨fun i hi => by rw [World.cell?_of_block (w := w) (w' := w') (a := ⟨0, i, none⟩) (hb.block 0 (by omega))]; exact h.lo i hi, fun i hi => by rw [World.cell?_of_block (w := w) (w' := w') (a := ⟨1, i, none⟩) (hb.block 1 (by omega))]; exact h.hi i hi, Nat.le_trans h.two hb.size⟩
theorem Tabs.next {w w' : World} (h : Tabs w) (hb : Below w.heap.size w w') : Tabs w' := h.later hb h.two
theorem Tabs.fr {X : Nat → Prop} {w w' : World} (h : Tabs w) (hf : Fr X w w') (hX : ∀ k, X k → 2 ≤ k) : Tabs w' := by
  have h2 := h.two
  refine ⟨fun i hi => ?_, fun i hi => ?_, Nat.le_trans h.two hf.size⟩
  · rw [World.cell?_of_block (w := w) (w' := w') (a := ⟨0, i, none⟩) (hf.block 0 (by omega) (fun hx => by have := hX _ hx; omega))]; exact h.lo i hi
  · rw [World.cell?_of_block (w := w) (w' := w') (a := ⟨1, i, none⟩) (hf.block 1 (by omega) (fun hx => by have := hX _ hx; omega))]; exact h.hi i hi
theorem Tabs.alloc {w : World} (h : Tabs w) (o : Obj) : Tabs (w.alloc o) := h.next ((Below.refl _ w).alloc (Nat.le_refl _) o)

theorem sec_at (s : Sec) (i : Nat) (h : i < 512) : (sb s)[i]? = some (.int .u8 (v8 (s.l.getD i 0#8))) := bys_get s.l i (by rw [s.h]; exact h)

/-- An array of bytes is read at a place. -/
theorem index_at (t n : Nat) (hu : Tryz.prog.underlying t = some (.array n 5)) (l : List B) (hl : l.length = n) (i : Nat) (hi : i < n) (w : World) :
    (Instr.index t (.agg (bys l).toArray) (.int .i64 (i : Int))).run Tryz.prog w = .ok (.int .u8 (v8 (l.getD i 0#8))) w := by
  unfold Instr.index
  simp only [asIntOf, Sem.run_bind, Sem.run_pure, Result.andThen_ok, run_underlying hu]
  rw [if_pos (by omega)]
  simp only [Sem.run_bind, sizeOf5, Result.andThen_ok, Int.toNat_natCast, Nat.mul_one]
  exact part5 l i (by omega) w
set_option maxRecDepth 100000 in
set_option maxHeartbeats 1000000 in
theorem check_any (s : Sec) (w : World) (hT : Tabs w) : Calls Tryz.prog 116 #[.agg (sb s).toArray] w fun e w' => e = .returned (.int .u32 (v32 (crc s.l))) ∧ Below w.heap.size w w' := by
  have hA := Blk.new w 26 (sb s)
  have hB := (Below.refl w.heap.size w).alloc (Nat.le_refl _) (.cells (sb s).toArray 26)
  have hsl := s.h
  go_enter Tryz.func116, Tryz.ntmps116
  go_wp2_with (refine load_sec rfl _ rfl w.heap.size s hA rfl ?_)
  go_loopw [3, 8] (fun r i wr => ∃ k : Nat, k ≤ 512 ∧ i = .int .i64 k ∧ r = .int .u32 (v32 (crcR (s.l.take k))) ∧ Tabs wr ∧ Below w.heap.size w wr) (fun _ i _ => 512 - (intOf i).toNat)
  case atStart => exact ⟨0, by omega, rfl, rfl, hT.next hB, hB⟩
  case round =>
    obtain ⟨k, hk, rfl, rfl, hT1, hb⟩ := hrel
    by_cases hlt : k < 512
    · have hkI : (k : Int) < 512 := by omega
      have hk0 : (0 : Int) ≤ k := by omega
      have hat := sec_at s k hlt
      obtain ⟨c, ec⟩ : ∃ c, c = crcR (s.l.take k) := ⟨_, rfl⟩
      rw [← ec]
      obtain ⟨x, ex⟩ : ∃ x, x = s.l.getD k 0#8 := ⟨_, rfl⟩
      rw [← ex] at hat
      have hix : ∀ W : World, (Instr.index 26 (sv s) (.int .i64 (k : Int))).run Tryz.prog W = .ok (.int .u8 (v8 x)) W := fun W => by
        rw [ex]; exact index_at 26 512 Tryz.underlying26 s.l s.h k hlt W
      have hlo := hT1.lo
      have hhi := hT1.hi
      have hstep : v32 (cb c x) = v32 (crcR (s.l.take (k + 1))) := by
        have h1 : s.l.take (k + 1) = s.l.take k ++ [x] := by
          rw [ex, List.take_add_one, List.getD, List.getElem?_eq_getElem (show k < s.l.length by omega)]; rfl
        rw [ec, h1]
        simp [crcR]
      have HS : Hid (v32 (cb c x) = v32 (crcR (s.l.take (k + 1)))) := hstep
      rw [cb_tabs] at HS
      obtain ⟨o, eo⟩ : ∃ o, o = c.setWidth 8 ^^^ x := ⟨_, rfl⟩
      have hq : bits BinOp.xor IntKind.u8 (v32 c % 256) (v8 x) = v8 o := by rw [low_of, v8_xor, eo]
      rw [← eo] at HS
      obtain ⟨na, hna⟩ : ∃ na, na = (o &&& 15#8).toNat := ⟨_, rfl⟩
      obtain ⟨nb, hnb⟩ : ∃ nb, nb = (o >>> 4).toNat := ⟨_, rfl⟩
      have ha16 : na < 16 := by rw [hna, BitVec.toNat_and]; exact Nat.lt_of_le_of_lt Nat.and_le_right (by decide)
      have hb16 : nb < 16 := by rw [hnb, BitVec.toNat_ushiftRight, Nat.shiftRight_eq_div_pow]; have := o.isLt; omega
      have e1 : bits .and .u8 (v8 o) 15 = (na : Int) := by rw [hna]; exact and_of o
      have e2 : v8 o / 16 = (nb : Int) := by rw [hnb]; exact shr_of o
      have ca := hT1.lo na ha16
      have cb' := hT1.hi nb hb16
      rw [← hna, ← hnb] at HS
      obtain ⟨A, eA⟩ : ∃ A, A = lows.getD na 0#32 := ⟨_, rfl⟩
      obtain ⟨C, eC⟩ : ∃ C, C = highs.getD nb 0#32 := ⟨_, rfl⟩
      rw [← eA] at HS ca
      rw [← eC] at HS cb'
      have e3 := shr8_of c
      have e4 : bits .xor .u32 (bits .xor .u32 (v32 (c >>> 8)) (v32 A)) (v32 C) = v32 (c >>> 8 ^^^ A ^^^ C) := by rw [v32_xor, v32_xor]
      obtain ⟨D, eD⟩ : ∃ D, D = c >>> 8 ^^^ A ^^^ C := ⟨_, rfl⟩
      rw [← eD] at HS e4
      obtain ⟨E, eE⟩ : ∃ E, E = c >>> 8 := ⟨_, rfl⟩
      rw [← eE] at e3 e4
      have haI : (na : Int) < 16 := by omega
      have hbI : (nb : Int) < 16 := by omega
      have haI0 : (0 : Int) ≤ na := by omega
      have hbI0 : (0 : Int) ≤ nb := by omega
      clear ec ex hat hA hstep hlo hhi eo hna hnb eA eC eD eE
      go_wp2_with fail
      go_quiet (fail)
      go_wp2
      refine ⟨⟨k + 1, by omega, by go_num, ?_, hT1.next ⟨rfl, rfl, rfl, Nat.le_refl _, fun _ _ => rfl⟩, ⟨hb.os, hb.tape, hb.output, hb.size, hb.block⟩⟩, by simp [intOf]; omega⟩
      rw [show v32 c / 256 = v32 E from e3, e4, HS.out]
    · have hk8 : k = 512 := by omega
      subst hk8
      have hn : bits BinOp.xor IntKind.u32 IntKind.u32.max (v32 (crcR (List.take 512 s.l))) = v32 (crc s.l) := by
        rw [show List.take 512 s.l = s.l from List.take_of_length_le (by omega)]
        rw [show IntKind.u32.max = v32 4294967295#32 by decide, v32_xor, crc]
        rfl
      rw [show ((512 : Nat) : Int) = 512 from rfl]
      go_wp2
      go_ret
      exact ⟨rfl, hb⟩
end Go.Proofs.YtndfhmlcfaaaiaaGreatDoor
