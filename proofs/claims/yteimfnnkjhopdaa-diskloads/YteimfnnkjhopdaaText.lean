/- A text as a sector. -/
import Derived.Test.YteimfnnkjhopdaaPend
namespace Go.Proofs.Yteimfnnkjhopdaa
open Go.RowKit

/-- A text's byte; behind its end 0. -/
def sby (s : ByteArray) (i : Nat) : B := if h : i < s.size then (s[i]'h).toBitVec else 0#8
/-- The first k bytes of a text, and zeros. -/
def tk (s : ByteArray) (k : Nat) : List B := (List.range 512).map fun i => if i < k then sby s i else 0#8
theorem tk_length (s : ByteArray) (k : Nat) : (tk s k).length = 512 := by unfold tk; rw [List.length_map, List.length_range]
def tks (s : ByteArray) (k : Nat) : Sec := ⟨tk s k, tk_length s k⟩
/-- A text as a sector. -/
def textSec (s : ByteArray) : Sec := tks s 512
theorem tk_get (s : ByteArray) (k i : Nat) (h : i < 512) : (tk s k)[i]? = some (if i < k then sby s i else 0#8) := by
  unfold tk
  rw [List.getElem?_map, List.getElem?_range h]
  rfl
theorem tk_set (s : ByteArray) (k : Nat) : (tk s k).set k (sby s k) = tk s (k + 1) := by
  refine List.ext_getElem? fun i => ?_
  by_cases hi : i < 512
  · rw [tk_get s (k + 1) i hi]
    by_cases e : k = i
    · subst e
      rw [List.getElem?_set_self (by rw [tk_length]; exact hi), if_pos (by omega)]
    · rw [List.getElem?_set_ne e, tk_get s k i hi]
      by_cases h1 : i < k
      · rw [if_pos h1, if_pos (by omega)]
      · rw [if_neg h1, if_neg (by omega)]
  · rw [List.getElem?_eq_none (by rw [List.length_set, tk_length]; omega), List.getElem?_eq_none (by rw [tk_length]; omega)]
set_option maxRecDepth 100000 in
theorem tks_zero (s : ByteArray) : tks s 0 = zs := by
  refine sec_ext ?_
  show tk s 0 = List.replicate 512 0#8
  refine List.ext_getElem? fun i => ?_
  by_cases hi : i < 512
  · rw [tk_get s 0 i hi, List.getElem?_replicate, if_pos hi, if_neg (by omega)]
  · rw [List.getElem?_eq_none (by rw [tk_length]; omega), List.getElem?_eq_none (by rw [List.length_replicate]; omega)]
set_option maxRecDepth 100000 in
theorem tks_end (s : ByteArray) (k : Nat) (h : k = 512 ∨ s.size ≤ k) : tks s k = textSec s := by
  refine sec_ext ?_
  show tk s k = tk s 512
  refine List.ext_getElem? fun i => ?_
  by_cases hi : i < 512
  · rw [tk_get s k i hi, tk_get s 512 i hi, if_pos hi]
    by_cases h1 : i < k
    · rw [if_pos h1]
    · rw [if_neg h1]
      have h2 : ¬ i < s.size := by omega
      unfold sby
      rw [dif_neg h2]
  · rw [List.getElem?_eq_none (by rw [tk_length]; omega), List.getElem?_eq_none (by rw [tk_length]; omega)]
theorem Blk.put {w : World} {g : Nat} {t : TypeId} {l : List B} (h : Blk w g t (bys l)) (i : Nat) (x : B) : Blk (w.setCell ⟨g, i, none⟩ (.int .u8 (v8 x))) g t (bys (l.set i x)) := by
  have := h.set i (.int .u8 (v8 x))
  rwa [bys_set] at this

set_option maxRecDepth 100000 in
set_option maxHeartbeats 1000000 in
theorem text_any (s : ByteArray) (hs : s.size ≤ maxLen) (w : World) : Calls Try.prog 14 #[.string s] w fun e w' => e = .returned (.agg (sb (textSec s)).toArray) ∧ Below w.heap.size w w' := by
  have hz := zero39
  have hmx : (s.size : Int) ≤ 9223372036854775807 := by unfold maxLen at hs; omega
  have hB0 := Blk.new (w.alloc (.cells (sb zs).toArray 39)) 39 (sb zs)
  have hA0 := (Blk.new w 39 (sb zs)).alloc (.cells (sb zs).toArray 39)
  rw [World.size_alloc] at hB0
  have hb0 : Below w.heap.size w ((w.alloc (.cells (sb zs).toArray 39)).alloc (.cells (sb zs).toArray 39)) := ((Below.refl _ w).alloc (Nat.le_refl _) _).alloc (by simp) _
  go_enter Try.func14, Try.ntmps14
  go_wp2
  go_loopw [4] (fun v wr => ∃ k : Nat, k ≤ 512 ∧ k ≤ s.size ∧ v = .int .i64 (k : Int) ∧ Blk wr (w.heap.size + 1) 39 (sb (tks s k)) ∧ Blk wr w.heap.size 39 (sb zs) ∧ Below w.heap.size w wr) (fun v _ => 512 - (intOf v).toNat)
  case atStart => exact ⟨0, by omega, by omega, rfl, by rw [tks_zero]; exact hB0, hA0, hb0⟩
  case round =>
    obtain ⟨k, hk, hks, rfl, hB, hA, hb⟩ := hrel
    clear hB0 hA0 hb0
    have i3 : 0 ≤ (k : Int) := by omega
    by_cases h1 : k < s.size
    · by_cases h2 : k < 512
      · have i1 : (k : Int) < s.size := by omega
        have i2 : (k : Int) < 512 := by omega
        have hx : ((s[k]'h1).toNat : Int) = v8 (sby s k) := by
          unfold sby v8
          rw [dif_pos h1]
          rfl
        obtain ⟨x, ex⟩ : ∃ x, x = sby s k := ⟨_, rfl⟩
        rw [← ex] at hx
        have cB := hB.cell k _ (show (sb (tks s k))[k]? = some (.int .u8 (v8 0#8)) by
          show (bys (tk s k))[k]? = _
          unfold bys
          rw [List.getElem?_map, tk_get s k k h2, if_neg (by omega)]
          rfl)
        have fB := hB.fz k
        go_wp2
        go_roundw
        case rel =>
          refine ⟨k + 1, by omega, by omega, by go_num, ?_, hA.beside _ (by simp), hb.setCell (by simp) _⟩
          have := Blk.put (l := tk s k) hB k (sby s k)
          rw [tk_set s k] at this
          exact this
        case measure => simp [intOf]; omega
      · have i1 : (k : Int) < s.size := by omega
        have i2 : ¬ (k : Int) < 512 := by omega
        rw [tks_end s k (by omega)] at hB
        go_wp2_with (first
          | (refine load_sec rfl _ rfl (w.heap.size + 1) (textSec s) hB rfl ?_)
          | (refine store_sec rfl _ _ rfl w.heap.size zs (textSec s) hA rfl rfl ?_; intro hA2))
        refine bodyPost_ret (results_cell_row rfl _ _ w.heap.size 39 _ (0, 0) _ rfl hA2 Try.underlying39 rfl (by rw [List.size_toArray, sb_length]; kernel_rfl)) rfl ⟨rfl, ?_⟩
        exact Fr.below (X := fun k => w.heap.size ≤ k) ((Fr.of_below hb (Nat.le_refl _)).setRow _ _ (.inl (Nat.le_refl _))) (fun _ h => h) (Nat.le_refl _)
    · have i1 : ¬ (k : Int) < s.size := by omega
      rw [tks_end s k (by omega)] at hB
      go_wp2_with (first
        | (refine load_sec rfl _ rfl (w.heap.size + 1) (textSec s) hB rfl ?_)
        | (refine store_sec rfl _ _ rfl w.heap.size zs (textSec s) hA rfl rfl ?_; intro hA2))
      refine bodyPost_ret (results_cell_row rfl _ _ w.heap.size 39 _ (0, 0) _ rfl hA2 Try.underlying39 rfl (by rw [List.size_toArray, sb_length]; kernel_rfl)) rfl ⟨rfl, ?_⟩
      exact Fr.below (X := fun k => w.heap.size ≤ k) ((Fr.of_below hb (Nat.le_refl _)).setRow _ _ (.inl (Nat.le_refl _))) (fun _ h => h) (Nat.le_refl _)
end Go.Proofs.Yteimfnnkjhopdaa
