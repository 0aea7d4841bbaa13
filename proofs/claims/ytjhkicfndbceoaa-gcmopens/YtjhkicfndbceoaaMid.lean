/- Lists that are changed from the front on. -/
import Derived.Test.YtjhkicfndbceoaaSbox
import Derived.Deep.RegionHeld3
import Derived.Deep.QuietTactic
import Derived.BigQuiet
namespace Go.Proofs.Ytjhkicfndbceoaa
open Go.RowKit

/-- The first j of L, behind them what stood in M. -/
def mid (L M : List B) (j : Nat) : List B := L.take j ++ M.drop j
theorem mid_zero (L M : List B) : mid L M 0 = M := by simp [mid]
theorem mid_full (L M : List B) (n : Nat) (hL : L.length = n) (hM : M.length = n) : mid L M n = L := by
  unfold mid
  rw [List.take_of_length_le (by omega), List.drop_eq_nil_of_le (by omega), List.append_nil]
theorem mid_length (L M : List B) (n j : Nat) (hL : L.length = n) (hM : M.length = n) : (mid L M j).length = n := by simp [mid]; omega
theorem mid_step (L M : List B) (j n : Nat) (hL : L.length = n) (hM : M.length = n) (hj : j < n) : (mid L M j).set j (L.getD j 0#8) = mid L M (j + 1) := by
  unfold mid
  rw [List.set_append_right _ _ (by simp; omega)]
  have e0 : j - (L.take j).length = 0 := by simp; omega
  have e1 : L.take (j + 1) = L.take j ++ [L.getD j 0#8] := by
    rw [List.take_add_one, List.getElem?_eq_getElem (by omega)]
    simp [List.getD, List.getElem?_eq_getElem (show j < L.length by omega)]
  have e2 : M.drop j = M.getD j 0#8 :: M.drop (j + 1) := by
    rw [List.drop_eq_getElem_cons (by omega)]
    simp [List.getD, List.getElem?_eq_getElem (show j < M.length by omega)]
  rw [e0, e1, e2, List.set_cons_zero]
  simp
theorem mid_at (L M : List B) (j i n : Nat) (hL : L.length = n) (hM : M.length = n) (hi : j ≤ i) (hn : i < n) : (mid L M j).getD i 0#8 = M.getD i 0#8 := by
  unfold mid
  simp only [List.getD]
  rw [List.getElem?_append_right (by simp; omega), List.getElem?_drop]
  congr 2
  simp
  omega
theorem getD_map (f : B → B) (l : List B) (i : Nat) (h : i < l.length) : (l.map f).getD i 0#8 = f (l.getD i 0#8) := by
  simp [List.getD, List.getElem?_eq_getElem h]
theorem getD_range (f : Nat → B) (n i : Nat) (h : i < n) : ((List.range n).map f).getD i 0#8 = f i := by
  simp [List.getD, h]

set_option maxHeartbeats 1000000 in
set_option maxRecDepth 100000 in
/-- Each byte of a block by sub. -/
theorem subbed_any (bs : List B) (hl : bs.length = 16) (rv : List Value) (w : World) :
    Calls Try.prog 49 #[.agg (bys bs).toArray, .agg rv.toArray] w fun e w' => e = .returned (.agg (bys (bs.map sb)).toArray) ∧ Below w.heap.size w w' := by
  have hix := index_at 85 16 Try.underlying85 bs hl
  obtain ⟨L, eL⟩ : ∃ L, L = bs.map sb := ⟨_, rfl⟩
  have hL : L.length = 16 := by rw [eL, List.length_map, hl]
  have HS : Hid (∀ i, i < 16 → sb (bs.getD i 0#8) = L.getD i 0#8) := fun i hi => by rw [eL, getD_map sb bs i (by omega)]
  rw [← eL]
  clear eL
  have hB0 : Blk (((w.alloc (.cells (bys bs).toArray 85)).alloc (.cells rv.toArray 88)).alloc (.cells (List.replicate 16 (Value.int .u8 0)).toArray 85)) w.heap.size 85 (bys bs) := ((Blk.new w 85 (bys bs)).alloc _).alloc _
  have hB2 : Blk (((w.alloc (.cells (bys bs).toArray 85)).alloc (.cells rv.toArray 88)).alloc (.cells (List.replicate 16 (Value.int .u8 0)).toArray 85)) (w.heap.size + 1 + 1) 85 (List.replicate 16 (Value.int .u8 0)) := by
    have h := Blk.new ((w.alloc (.cells (bys bs).toArray 85)).alloc (.cells rv.toArray 88)) 85 (List.replicate 16 (Value.int .u8 0))
    rwa [World.size_alloc, World.size_alloc] at h
  have hbB : Below w.heap.size w (((w.alloc (.cells (bys bs).toArray 85)).alloc (.cells rv.toArray 88)).alloc (.cells (List.replicate 16 (Value.int .u8 0)).toArray 85)) :=
    (((Below.refl _ w).alloc (Nat.le_refl _) _).alloc (by simp) _).alloc (by simp; omega) _
  go_enter Try.func49, Try.ntmps49
  go_wp2_with (refine law_load rfl 85 _ rfl _ rfl 85 _ hB0 _ Try.underlying85 rfl (by rw [bys_length, hl]; kernel_rfl) ?_)
  go_loopw [8] (fun i wr => ∃ j : Nat, j ≤ 16 ∧ i = .int .i64 j ∧ Blk wr w.heap.size 85 (bys (mid L bs j)) ∧ Blk wr (w.heap.size + 1 + 1) 85 (List.replicate 16 (Value.int .u8 0)) ∧ Below w.heap.size w wr) (fun i _ => 16 - (intOf i).toNat)
  case atStart => exact ⟨0, by omega, rfl, by rw [mid_zero]; exact hB0, hB2, hbB⟩
  case round =>
    obtain ⟨j, hj, rfl, hA, hZ, hbr⟩ := hrel
    clear hB0 hB2 hbB
    have hml := mid_length L bs 16 j hL hl
    by_cases hlt : j < 16
    · have hx := hix j hlt
      have hst := hA.put j (L.getD j 0#8)
      rw [mid_step L bs j 16 hL hl hlt] at hst
      have HJ : Hid (sb (bs.getD j 0#8) = L.getD j 0#8) := HS.out j hlt
      have c0 := hA.byte j (by omega)
      have f0 := hA.fz j
      obtain ⟨x, ex⟩ : ∃ x, x = bs.getD j 0#8 := ⟨_, rfl⟩
      obtain ⟨y, ey⟩ : ∃ y, y = L.getD j 0#8 := ⟨_, rfl⟩
      rw [← ex] at hx HJ
      rw [← ey] at hst HJ
      clear hix HS ex ey
      go_wp2_with (go_at_call 59; refine (sub_any x _ _ rfl).mono ?_; rintro e w' ⟨rfl, rfl⟩; rw [HJ.out])
      refine ⟨⟨j + 1, by omega, by go_num, hst, hZ.beside _ (by simp <;> omega), hbr.setCell (by simp) _⟩, by simp [intOf]; omega⟩
    · have hj16 : j = 16 := by omega
      subst hj16
      rw [mid_full L bs 16 hL hl] at hA
      clear hix HS
      go_wp2_with (first | (refine law_load rfl 85 _ rfl _ rfl 85 _ hA _ Try.underlying85 rfl (by rw [bys_length, hL]; kernel_rfl) ?_) | (refine law_store rfl 85 _ _ rfl _ (bys L) rfl rfl 85 _ hZ (by rw [bys_length, hL, List.length_replicate]) (by rw [bys_length, hL]; kernel_rfl) (bys_one L) ?_; intro wF hoF hAF))
      refine bodyPost_ret (v := .agg (bys L).toArray) (results_cell_row rfl _ _ (w.heap.size + 1 + 1) 85 _ _ _ rfl hAF Try.underlying85 rfl (by rw [List.size_toArray, bys_length, hL]; kernel_rfl)) rfl ⟨rfl, hoF.below hbr (by omega)⟩
set_option maxHeartbeats 1000000 in
set_option maxRecDepth 100000 in
/-- Each byte of a word by sub. -/
theorem wsubbed_any (bs : List B) (hl : bs.length = 4) (w : World) :
    Calls Try.prog 47 #[.agg (bys bs).toArray] w fun e w' => e = .returned (.agg (bys (bs.map sb)).toArray) ∧ Below w.heap.size w w' := by
  have hix := index_at 52 4 Try.underlying52 bs hl
  obtain ⟨L, eL⟩ : ∃ L, L = bs.map sb := ⟨_, rfl⟩
  have hL : L.length = 4 := by rw [eL, List.length_map, hl]
  have HS : Hid (∀ i, i < 4 → sb (bs.getD i 0#8) = L.getD i 0#8) := fun i hi => by rw [eL, getD_map sb bs i (by omega)]
  rw [← eL]
  clear eL
  have hB0 : Blk ((w.alloc (.cells (bys bs).toArray 52)).alloc (.cells (List.replicate 4 (Value.int .u8 0)).toArray 52)) w.heap.size 52 (bys bs) := (Blk.new w 52 (bys bs)).alloc _
  have hB2 : Blk ((w.alloc (.cells (bys bs).toArray 52)).alloc (.cells (List.replicate 4 (Value.int .u8 0)).toArray 52)) (w.heap.size + 1) 52 (List.replicate 4 (Value.int .u8 0)) := by
    have h := Blk.new (w.alloc (.cells (bys bs).toArray 52)) 52 (List.replicate 4 (Value.int .u8 0))
    rwa [World.size_alloc] at h
  have hbB : Below w.heap.size w ((w.alloc (.cells (bys bs).toArray 52)).alloc (.cells (List.replicate 4 (Value.int .u8 0)).toArray 52)) :=
    ((Below.refl _ w).alloc (Nat.le_refl _) _).alloc (by simp) _
  go_enter Try.func47, Try.ntmps47
  go_wp2_with (refine law_load rfl 52 _ rfl _ rfl 52 _ hB0 _ Try.underlying52 rfl (by rw [bys_length, hl]; kernel_rfl) ?_)
  go_loopw [6] (fun i wr => ∃ j : Nat, j ≤ 4 ∧ i = .int .i64 j ∧ Blk wr w.heap.size 52 (bys (mid L bs j)) ∧ Blk wr (w.heap.size + 1) 52 (List.replicate 4 (Value.int .u8 0)) ∧ Below w.heap.size w wr) (fun i _ => 4 - (intOf i).toNat)
  case atStart => exact ⟨0, by omega, rfl, by rw [mid_zero]; exact hB0, hB2, hbB⟩
  case round =>
    obtain ⟨j, hj, rfl, hA, hZ, hbr⟩ := hrel
    clear hB0 hB2 hbB
    have hml := mid_length L bs 4 j hL hl
    by_cases hlt : j < 4
    · have hx := hix j hlt
      have hst := hA.put j (L.getD j 0#8)
      rw [mid_step L bs j 4 hL hl hlt] at hst
      have HJ : Hid (sb (bs.getD j 0#8) = L.getD j 0#8) := HS.out j hlt
      have c0 := hA.byte j (by omega)
      have f0 := hA.fz j
      obtain ⟨x, ex⟩ : ∃ x, x = bs.getD j 0#8 := ⟨_, rfl⟩
      obtain ⟨y, ey⟩ : ∃ y, y = L.getD j 0#8 := ⟨_, rfl⟩
      rw [← ex] at hx HJ
      rw [← ey] at hst HJ
      clear hix HS ex ey
      go_wp2_with (go_at_call 59; refine (sub_any x _ _ rfl).mono ?_; rintro e w' ⟨rfl, rfl⟩; rw [HJ.out])
      refine ⟨⟨j + 1, by omega, by go_num, hst, hZ.beside _ (by simp <;> omega), hbr.setCell (by simp) _⟩, by simp [intOf]; omega⟩
    · have hj4 : j = 4 := by omega
      subst hj4
      rw [mid_full L bs 4 hL hl] at hA
      clear hix HS
      go_wp2_with (first | (refine law_load rfl 52 _ rfl _ rfl 52 _ hA _ Try.underlying52 rfl (by rw [bys_length, hL]; kernel_rfl) ?_) | (refine law_store rfl 52 _ _ rfl _ (bys L) rfl rfl 52 _ hZ (by rw [bys_length, hL, List.length_replicate]) (by rw [bys_length, hL]; kernel_rfl) (bys_one L) ?_; intro wF hoF hAF))
      refine bodyPost_ret (v := .agg (bys L).toArray) (results_cell_row rfl _ _ (w.heap.size + 1) 52 _ _ _ rfl hAF Try.underlying52 rfl (by rw [List.size_toArray, bys_length, hL]; kernel_rfl)) rfl ⟨rfl, hoF.below hbr (by omega)⟩
end Go.Proofs.Ytjhkicfndbceoaa
