/- A block's rows turned. -/
import Derived.Test.YtjhkicfndbceoaaKeyed
namespace Go.Proofs.Ytjhkicfndbceoaa
open Go.RowKit

/-- Where the byte stood that is number i of a turned block. -/
def tf (i : Nat) : Nat := (i + 4 * (i % 4)) % 16
theorem tf_lt (i : Nat) : tf i < 16 := Nat.mod_lt _ (by decide)
/-- A block with its rows turned. -/
def turnL (b : List B) : List B := (List.range 16).map fun i => b.getD (tf i) 0#8
theorem turnL_length (b : List B) : (turnL b).length = 16 := by simp [turnL]

theorem from_any (i : Nat) (hi : i < 16) (w : World) : Calls Try.prog 63 #[.int .i64 (i : Int)] w fun e w' => e = .returned (.int .i64 (tf i : Int)) ∧ w = w' := by
  have h0 : (0 : Int) ≤ i := by omega
  have h1 : (i : Int) < 16 := by omega
  have e : Hid (((i : Int) + 4 * ((i : Int) % 4)) % 16 = (tf i : Int)) := by unfold tf; show _ = _; omega
  go_enter Try.func63, Try.ntmps63
  go_wp2
  go_ret
  exact ⟨by rw [← e.out]; rfl, rfl⟩

theorem zeros16 : List.replicate 16 (Value.int .u8 0) = bys (List.replicate 16 0#8) := (bys_zeros 16).symm

set_option maxHeartbeats 1000000 in
set_option maxRecDepth 100000 in
/-- A block's rows turned. -/
theorem turned_any (bs : List B) (hl : bs.length = 16) (rv : List Value) (w : World) :
    Calls Try.prog 50 #[.agg (bys bs).toArray, .agg rv.toArray] w fun e w' => e = .returned (.agg (bys (turnL bs)).toArray) ∧ Below w.heap.size w w' := by
  obtain ⟨L, eL⟩ : ∃ L, L = turnL bs := ⟨_, rfl⟩
  have hL : L.length = 16 := by rw [eL]; exact turnL_length bs
  have HS : Hid (∀ i, i < 16 → bs.getD (tf i) 0#8 = L.getD i 0#8) := fun i hi => by rw [eL]; unfold turnL; rw [getD_range _ 16 i hi]
  rw [← eL]
  clear eL
  obtain ⟨M, eM⟩ : ∃ M : List B, M = List.replicate 16 0#8 := ⟨_, rfl⟩
  have hM : M.length = 16 := by rw [eM, List.length_replicate]
  have hB0 : Blk ((((w.alloc (.cells (bys bs).toArray 85)).alloc (.cells rv.toArray 88)).alloc (.cells (List.replicate 16 (Value.int .u8 0)).toArray 85)).alloc (.cells (List.replicate 16 (Value.int .u8 0)).toArray 85)) w.heap.size 85 (bys bs) := (((Blk.new w 85 (bys bs)).alloc _).alloc _).alloc _
  have hB2 : Blk ((((w.alloc (.cells (bys bs).toArray 85)).alloc (.cells rv.toArray 88)).alloc (.cells (List.replicate 16 (Value.int .u8 0)).toArray 85)).alloc (.cells (List.replicate 16 (Value.int .u8 0)).toArray 85)) (w.heap.size + 1 + 1) 85 (List.replicate 16 (Value.int .u8 0)) := by
    have h := (Blk.new ((w.alloc (.cells (bys bs).toArray 85)).alloc (.cells rv.toArray 88)) 85 (List.replicate 16 (Value.int .u8 0))).alloc (.cells (List.replicate 16 (Value.int .u8 0)).toArray 85)
    rwa [World.size_alloc, World.size_alloc] at h
  have hB3 : Blk ((((w.alloc (.cells (bys bs).toArray 85)).alloc (.cells rv.toArray 88)).alloc (.cells (List.replicate 16 (Value.int .u8 0)).toArray 85)).alloc (.cells (List.replicate 16 (Value.int .u8 0)).toArray 85)) (w.heap.size + 1 + 1 + 1) 85 (bys M) := by
    have h := Blk.new (((w.alloc (.cells (bys bs).toArray 85)).alloc (.cells rv.toArray 88)).alloc (.cells (List.replicate 16 (Value.int .u8 0)).toArray 85)) 85 (List.replicate 16 (Value.int .u8 0))
    rw [World.size_alloc, World.size_alloc, World.size_alloc] at h
    rw [eM, ← zeros16]
    exact h
  clear eM
  have hbB : Below w.heap.size w ((((w.alloc (.cells (bys bs).toArray 85)).alloc (.cells rv.toArray 88)).alloc (.cells (List.replicate 16 (Value.int .u8 0)).toArray 85)).alloc (.cells (List.replicate 16 (Value.int .u8 0)).toArray 85)) :=
    ((((Below.refl _ w).alloc (Nat.le_refl _) _).alloc (by simp) _).alloc (by simp; omega) _).alloc (by simp; omega) _
  go_enter Try.func50, Try.ntmps50
  go_wp2
  go_loopw [7] (fun i wr => ∃ j : Nat, j ≤ 16 ∧ i = .int .i64 j ∧ Blk wr w.heap.size 85 (bys bs) ∧ Blk wr (w.heap.size + 1 + 1 + 1) 85 (bys (mid L M j)) ∧ Blk wr (w.heap.size + 1 + 1) 85 (List.replicate 16 (Value.int .u8 0)) ∧ Below w.heap.size w wr) (fun i _ => 16 - (intOf i).toNat)
  case atStart => exact ⟨0, by omega, rfl, hB0, by rw [mid_zero]; exact hB3, hB2, hbB⟩
  case round =>
    obtain ⟨j, hj, rfl, hA, hO, hZ, hbr⟩ := hrel
    clear hB0 hB2 hB3 hbB
    have hml := mid_length L M 16 j hL hM
    by_cases hlt : j < 16
    · have hst := hO.put j (L.getD j 0#8)
      rw [mid_step L M j 16 hL hM hlt] at hst
      have ht := tf_lt j
      have hc := hA.byte (tf j) (by omega)
      have c0 := hO.byte j (by omega)
      have f0 := hO.fz j
      rw [HS.out j hlt] at hc
      have hcl := from_any j hlt
      obtain ⟨q, eq⟩ : ∃ q, q = tf j := ⟨_, rfl⟩
      obtain ⟨y, ey⟩ : ∃ y, y = L.getD j 0#8 := ⟨_, rfl⟩
      rw [← eq] at ht hc hcl
      rw [← ey] at hst hc
      have hq : (q : Int) < 16 := by omega
      clear HS eq ey
      go_wp2_with (go_at_call 63; refine (hcl _).mono ?_; rintro e w' ⟨rfl, rfl⟩)
      refine ⟨⟨j + 1, by omega, by go_num, hA.beside _ (by simp <;> omega), hst, hZ.beside _ (by simp <;> omega), hbr.setCell (by simp <;> omega) _⟩, by simp [intOf]; omega⟩
    · have hj16 : j = 16 := by omega
      subst hj16
      rw [mid_full L M 16 hL hM] at hO
      clear HS
      go_wp2_with (first | (refine law_load rfl 85 _ rfl _ rfl 85 _ hO _ Try.underlying85 rfl (by rw [bys_length, hL]; kernel_rfl) ?_) | (refine law_store rfl 85 _ _ rfl _ (bys L) rfl rfl 85 _ hZ (by rw [bys_length, hL, List.length_replicate]) (by rw [bys_length, hL]; kernel_rfl) (bys_one L) ?_; intro wF hoF hAF))
      refine bodyPost_ret (v := .agg (bys L).toArray) (results_cell_row rfl _ _ (w.heap.size + 1 + 1) 85 _ _ _ rfl hAF Try.underlying85 rfl (by rw [List.size_toArray, bys_length, hL]; kernel_rfl)) rfl ⟨rfl, hoF.below hbr (by omega)⟩

/-- Where the byte comes to that is number i of a block that is turned back. -/
def uf (i : Nat) : Nat := (i + 12 * (i % 4)) % 16
theorem uf_lt (i : Nat) : uf i < 16 := Nat.mod_lt _ (by decide)
theorem uf_tf : ∀ j, j < 16 → uf (tf j) = j := by decide
theorem tf_uf : ∀ j, j < 16 → tf (uf j) = j := by decide
/-- A block with its rows turned back. -/
def unturnL (b : List B) : List B := (List.range 16).map fun i => b.getD (uf i) 0#8
theorem unturnL_length (b : List B) : (unturnL b).length = 16 := by simp [unturnL]
/-- The same, when j bytes have come. -/
def untJ (b : List B) (j : Nat) : List B := (List.range 16).map fun i => if uf i < j then b.getD (uf i) 0#8 else 0#8
theorem untJ_length (b : List B) (j : Nat) : (untJ b j).length = 16 := by simp [untJ]
theorem untJ_zero (b : List B) : untJ b 0 = List.replicate 16 0#8 := by
  refine List.ext_getElem (by simp [untJ]) fun i h1 h2 => ?_
  rw [List.getElem_replicate]
  simp [untJ]
theorem untJ_full (b : List B) : untJ b 16 = unturnL b := by
  refine List.ext_getElem (by simp [untJ, unturnL]) fun i h1 h2 => ?_
  simp [untJ, unturnL, uf_lt]
theorem untJ_step (b : List B) (j : Nat) (hj : j < 16) : (untJ b j).set (tf j) (b.getD j 0#8) = untJ b (j + 1) := by
  refine List.ext_getElem (by simp [untJ]) fun i h1 h2 => ?_
  have hi : i < 16 := by simpa [untJ] using h2
  rw [List.getElem_set]
  by_cases e : tf j = i
  · rw [if_pos e]
    subst e
    simp [untJ, uf_tf j hj]
  · rw [if_neg e]
    have hne : uf i ≠ j := fun h => e (by rw [← h]; exact tf_uf i hi)
    simp only [untJ, List.getElem_map, List.getElem_range]
    by_cases h : uf i < j
    · rw [if_pos h, if_pos (by omega)]
    · rw [if_neg h, if_neg (by omega)]
theorem unturn_turn (b : List B) (h : b.length = 16) : unturnL (turnL b) = b := by
  refine List.ext_getElem (by simp [unturnL, h]) fun i h1 h2 => ?_
  have hi : i < 16 := by omega
  have := getD_range (fun i => b.getD (tf i) 0#8) 16 (uf i) (uf_lt i)
  simp only [unturnL, turnL, List.getElem_map, List.getElem_range]
  rw [this, tf_uf i hi]
  simp [List.getD, List.getElem?_eq_getElem h2]
theorem turn_unturn (b : List B) (h : b.length = 16) : turnL (unturnL b) = b := by
  refine List.ext_getElem (by simp [turnL, h]) fun i h1 h2 => ?_
  have hi : i < 16 := by omega
  have := getD_range (fun i => b.getD (uf i) 0#8) 16 (tf i) (tf_lt i)
  simp only [unturnL, turnL, List.getElem_map, List.getElem_range]
  rw [this, uf_tf i hi]
  simp [List.getD, List.getElem?_eq_getElem h2]

end Go.Proofs.Ytjhkicfndbceoaa
