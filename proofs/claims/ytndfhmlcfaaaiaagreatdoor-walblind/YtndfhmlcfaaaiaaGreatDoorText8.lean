/- A text as a page. -/
import Derived.Test.YtndfhmlcfaaaiaaGreatDoorImIn
namespace Go.Proofs.YtndfhmlcfaaaiaaGreatDoor
open Go.RowKit

/-- A text's byte; behind its end 0. -/
def sby (s : ByteArray) (i : Nat) : B := if h : i < s.size then (s[i]'h).toBitVec else 0#8
/-- The first k bytes of a text, and zeros. -/
def tk (s : ByteArray) (k : Nat) : List B := (List.range 480).map fun i => if i < k then sby s i else 0#8
theorem tk_length (s : ByteArray) (k : Nat) : (tk s k).length = 480 := by unfold tk; rw [List.length_map, List.length_range]
def tks (s : ByteArray) (k : Nat) : Pg := ⟨tk s k, tk_length s k⟩
/-- A text as a page. -/
def textPg (s : ByteArray) : Pg := tks s 480
theorem tk_get (s : ByteArray) (k i : Nat) (h : i < 480) : (tk s k)[i]? = some (if i < k then sby s i else 0#8) := by
  unfold tk
  rw [List.getElem?_map, List.getElem?_range h]
  rfl
theorem tk_set (s : ByteArray) (k : Nat) : (tk s k).set k (sby s k) = tk s (k + 1) := by
  refine List.ext_getElem? fun i => ?_
  by_cases hi : i < 480
  · rw [tk_get s (k + 1) i hi]
    by_cases e : k = i
    · subst e
      rw [List.getElem?_set_self (by rw [tk_length]; exact hi), if_pos (by omega)]
    · rw [List.getElem?_set_ne e, tk_get s k i hi]
      by_cases h1 : i < k
      · rw [if_pos h1, if_pos (by omega)]
      · rw [if_neg h1, if_neg (by omega)]
  · rw [List.getElem?_eq_none (by rw [List.length_set, tk_length]; omega), List.getElem?_eq_none (by rw [tk_length]; omega)]
set_option maxRecDepth 100000 in
theorem tks_zero (s : ByteArray) : tks s 0 = zp := by
  refine pg_ext ?_
  show tk s 0 = List.replicate 480 0#8
  refine List.ext_getElem? fun i => ?_
  by_cases hi : i < 480
  · rw [tk_get s 0 i hi, List.getElem?_replicate, if_pos hi, if_neg (by omega)]
  · rw [List.getElem?_eq_none (by rw [tk_length]; omega), List.getElem?_eq_none (by rw [List.length_replicate]; omega)]
set_option maxRecDepth 100000 in
theorem tks_end (s : ByteArray) (k : Nat) (h : k = 480 ∨ s.size ≤ k) : tks s k = textPg s := by
  refine pg_ext ?_
  show tk s k = tk s 480
  refine List.ext_getElem? fun i => ?_
  by_cases hi : i < 480
  · rw [tk_get s k i hi, tk_get s 480 i hi, if_pos hi]
    by_cases h1 : i < k
    · rw [if_pos h1]
    · rw [if_neg h1]
      have h2 : ¬ i < s.size := by omega
      unfold sby
      rw [dif_neg h2]
  · rw [List.getElem?_eq_none (by rw [tk_length]; omega), List.getElem?_eq_none (by rw [tk_length]; omega)]
theorem Blk.put {w : World} {g : Nat} {t : TypeId} {l : List B} (h : Blk w g t (bys l)) (i : Nat) (x : B) : Blk (w.setCell ⟨g, i, none⟩ (.int .u8 (v8 x))) g t (bys (l.set i x)) := by
  have := h.set i (.int .u8 (v8 x))
  rwa [bys_set] at this

set_option maxRecDepth 100000 in
set_option maxHeartbeats 1000000 in
theorem text_any (s : ByteArray) (hs : s.size ≤ maxLen) (w : World) : Calls Tryz.prog 25 #[.string s] w fun e w' => e = .returned (.agg (pb (textPg s)).toArray) ∧ Below w.heap.size w w' := by
  have hz := zero31
  have hmx : (s.size : Int) ≤ 9223372036854775807 := by unfold maxLen at hs; omega
  have hB0 := Blk.new (w.alloc (.cells (pb zp).toArray 66)) 66 (pb zp)
  have hA0 := (Blk.new w 66 (pb zp)).alloc (.cells (pb zp).toArray 66)
  rw [World.size_alloc] at hB0
  have hb0 : Below w.heap.size w ((w.alloc (.cells (pb zp).toArray 66)).alloc (.cells (pb zp).toArray 66)) := ((Below.refl _ w).alloc (Nat.le_refl _) _).alloc (by simp) _
  go_enter Tryz.func25, Tryz.ntmps25
  go_wp2
  go_loopw [4] (fun v wr => ∃ k : Nat, k ≤ 480 ∧ k ≤ s.size ∧ v = .int .i64 (k : Int) ∧ Blk wr (w.heap.size + 1) 66 (pb (tks s k)) ∧ Blk wr w.heap.size 66 (pb zp) ∧ Below w.heap.size w wr) (fun v _ => 480 - (intOf v).toNat)
  case atStart => exact ⟨0, by omega, by omega, rfl, by rw [tks_zero]; exact hB0, hA0, hb0⟩
  case round =>
    obtain ⟨k, hk, hks, rfl, hB, hA, hb⟩ := hrel
    clear hB0 hA0 hb0
    have i3 : 0 ≤ (k : Int) := by omega
    by_cases h1 : k < s.size
    · by_cases h2 : k < 480
      · have i1 : (k : Int) < s.size := by omega
        have i2 : (k : Int) < 480 := by omega
        have hx : ((s[k]'h1).toNat : Int) = v8 (sby s k) := by
          unfold sby v8
          rw [dif_pos h1]
          rfl
        obtain ⟨x, ex⟩ : ∃ x, x = sby s k := ⟨_, rfl⟩
        rw [← ex] at hx
        have cB := hB.cell k _ (show (pb (tks s k))[k]? = some (.int .u8 (v8 0#8)) by
          show (bys (tk s k))[k]? = _
          unfold bys
          rw [List.getElem?_map, tk_get s k k h2, if_neg (by omega)]
          rfl)
        have fB := hB.fz k
        go_wp2
        go_roundw
        case rel =>
          refine ⟨k + 1, by omega, by omega, by go_num, ?_, hA.beside _ (by simp), hb.setCell (by simp) _⟩
          have := Blk.put (l := tk s k) hB k (sby s k)
          rw [tk_set s k] at this
          exact this
        case measure => simp [intOf]; omega
      · have i1 : (k : Int) < s.size := by omega
        have i2 : ¬ (k : Int) < 480 := by omega
        rw [tks_end s k (by omega)] at hB
        go_wp2_with (first
          | (refine load_pg rfl _ rfl (w.heap.size + 1) (textPg s) hB rfl ?_)
          | (refine store_pg rfl _ _ rfl w.heap.size zp (textPg s) hA rfl rfl ?_; intro hA2))
        refine bodyPost_ret (results_cell_row rfl _ _ w.heap.size 66 _ (0, 0) _ rfl hA2 Tryz.underlying66 rfl (by rw [List.size_toArray, pb_length]; kernel_rfl)) rfl ⟨rfl, ?_⟩
        exact Fr.below (X := fun k => w.heap.size ≤ k) ((Fr.of_below hb (Nat.le_refl _)).setRow _ _ (.inl (Nat.le_refl _))) (fun _ h => h) (Nat.le_refl _)
    · have i1 : ¬ (k : Int) < s.size := by omega
      rw [tks_end s k (by omega)] at hB
      go_wp2_with (first
        | (refine load_pg rfl _ rfl (w.heap.size + 1) (textPg s) hB rfl ?_)
        | (refine store_pg rfl _ _ rfl w.heap.size zp (textPg s) hA rfl rfl ?_; intro hA2))
      refine bodyPost_ret (results_cell_row rfl _ _ w.heap.size 66 _ (0, 0) _ rfl hA2 Tryz.underlying66 rfl (by rw [List.size_toArray, pb_length]; kernel_rfl)) rfl ⟨rfl, ?_⟩
      exact Fr.below (X := fun k => w.heap.size ≤ k) ((Fr.of_below hb (Nat.le_refl _)).setRow _ _ (.inl (Nat.le_refl _))) (fun _ h => h) (Nat.le_refl _)
theorem open_nil (w : World) : Calls Tryz.prog 17 #[.pointer none] w fun e w' => e = .returned (.tuple #[.pointer none, .int .i64 1]) ∧ w = w' := by
  go_enter Tryz.func17, Tryz.ntmps17
  go_wp2
  go_ret2
  exact ⟨rfl, rfl⟩
end Go.Proofs.YtndfhmlcfaaaiaaGreatDoor
