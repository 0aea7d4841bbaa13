/- A round's key added to a block; two words added. -/
import Derived.Test.YtjhkicfndbceoaaMid
namespace Go.Proofs.Ytjhkicfndbceoaa
open Go.RowKit

/-- A round, as the steps are handed it. -/
def rnd (ks : List B) (last : Bool) : List Value := bys ks ++ [.bool last]
theorem rnd_length (ks : List B) (last : Bool) : (rnd ks last).length = ks.length + 1 := by simp [rnd, bys_length]
theorem Blk.keys {w : World} {g : Nat} {t : TypeId} {ks : List B} {last : Bool} (h : Blk w g t (rnd ks last)) : w.rangeAt g 0 (bys ks) := by
  intro j v hv
  rw [Nat.zero_add]
  refine h.cell j v ?_
  unfold rnd
  rw [List.getElem?_append_left (List.getElem?_eq_some_iff.1 hv).1]
  exact hv
/-- Two lists added. -/
def addL (b k : List B) : List B := List.zipWith (· ^^^ ·) b k
theorem addL_length (b k : List B) (n : Nat) (hb : b.length = n) (hk : k.length = n) : (addL b k).length = n := by simp [addL, hb, hk]
theorem addL_at (b k : List B) (i : Nat) (hb : i < b.length) (hk : i < k.length) : (addL b k).getD i 0#8 = b.getD i 0#8 ^^^ k.getD i 0#8 := by
  simp [addL, List.getD, List.getElem?_zipWith, List.getElem?_eq_getElem hb, List.getElem?_eq_getElem hk]

set_option maxHeartbeats 1000000 in
set_option maxRecDepth 100000 in
/-- A block with a round's key. -/
theorem keyed_any (bs ks : List B) (last : Bool) (hl : bs.length = 16) (hk : ks.length = 16) (w : World) :
    Calls Try.prog 52 #[.agg (bys bs).toArray, .agg (rnd ks last).toArray] w fun e w' => e = .returned (.agg (bys (addL bs ks)).toArray) ∧ Below w.heap.size w w' := by
  have hix := index_at 85 16 Try.underlying85 ks hk
  obtain ⟨L, eL⟩ : ∃ L, L = addL bs ks := ⟨_, rfl⟩
  have hL : L.length = 16 := by rw [eL]; exact addL_length bs ks 16 hl hk
  have HS : Hid (∀ i, i < 16 → bs.getD i 0#8 ^^^ ks.getD i 0#8 = L.getD i 0#8) := fun i hi => by rw [eL, addL_at bs ks i (by omega) (by omega)]
  rw [← eL]
  clear eL
  have hB0 : Blk (((w.alloc (.cells (bys bs).toArray 85)).alloc (.cells (rnd ks last).toArray 88)).alloc (.cells (List.replicate 16 (Value.int .u8 0)).toArray 85)) w.heap.size 85 (bys bs) := ((Blk.new w 85 (bys bs)).alloc _).alloc _
  have hB1 : Blk (((w.alloc (.cells (bys bs).toArray 85)).alloc (.cells (rnd ks last).toArray 88)).alloc (.cells (List.replicate 16 (Value.int .u8 0)).toArray 85)) (w.heap.size + 1) 88 (rnd ks last) := by
    have h := (Blk.new (w.alloc (.cells (bys bs).toArray 85)) 88 (rnd ks last)).alloc (.cells (List.replicate 16 (Value.int .u8 0)).toArray 85)
    rwa [World.size_alloc] at h
  have hB2 : Blk (((w.alloc (.cells (bys bs).toArray 85)).alloc (.cells (rnd ks last).toArray 88)).alloc (.cells (List.replicate 16 (Value.int .u8 0)).toArray 85)) (w.heap.size + 1 + 1) 85 (List.replicate 16 (Value.int .u8 0)) := by
    have h := Blk.new ((w.alloc (.cells (bys bs).toArray 85)).alloc (.cells (rnd ks last).toArray 88)) 85 (List.replicate 16 (Value.int .u8 0))
    rwa [World.size_alloc, World.size_alloc] at h
  have hbB : Below w.heap.size w (((w.alloc (.cells (bys bs).toArray 85)).alloc (.cells (rnd ks last).toArray 88)).alloc (.cells (List.replicate 16 (Value.int .u8 0)).toArray 85)) :=
    (((Below.refl _ w).alloc (Nat.le_refl _) _).alloc (by simp) _).alloc (by simp; omega) _
  go_enter Try.func52, Try.ntmps52
  go_wp2_with (refine wpList_load_mid rfl 85 _ rfl (w.heap.size + 1) 0 rfl (bys ks) _ hB1.keys Try.underlying85 rfl (by rw [bys_length, hk]; kernel_rfl) ?_)
  go_loopw [9] (fun i wr => ∃ j : Nat, j ≤ 16 ∧ i = .int .i64 j ∧ Blk wr w.heap.size 85 (bys (mid L bs j)) ∧ Blk wr (w.heap.size + 1 + 1) 85 (List.replicate 16 (Value.int .u8 0)) ∧ Below w.heap.size w wr) (fun i _ => 16 - (intOf i).toNat)
  case atStart => exact ⟨0, by omega, rfl, by rw [mid_zero]; exact hB0, hB2, hbB⟩
  case round =>
    obtain ⟨j, hj, rfl, hA, hZ, hbr⟩ := hrel
    clear hB0 hB1 hB2 hbB
    have hml := mid_length L bs 16 j hL hl
    by_cases hlt : j < 16
    · have hx := hix j hlt
      have hst := hA.put j (L.getD j 0#8)
      rw [mid_step L bs j 16 hL hl hlt] at hst
      have HJ : Hid (bs.getD j 0#8 ^^^ ks.getD j 0#8 = L.getD j 0#8) := HS.out j hlt
      have c0 := hA.byte j (by omega)
      rw [mid_at L bs j j 16 hL hl (Nat.le_refl _) hlt] at c0
      have f0 := hA.fz j
      obtain ⟨x, ex⟩ : ∃ x, x = ks.getD j 0#8 := ⟨_, rfl⟩
      obtain ⟨y, ey⟩ : ∃ y, y = L.getD j 0#8 := ⟨_, rfl⟩
      obtain ⟨z, ez⟩ : ∃ z, z = bs.getD j 0#8 := ⟨_, rfl⟩
      rw [← ex] at hx HJ
      rw [← ey] at hst HJ
      rw [← ez] at c0 HJ
      clear hix HS ex ey ez
      go_wp2_with (go_at_call 46; refine (add_any z x _ _ _ rfl rfl).mono ?_; rintro e w' ⟨rfl, rfl⟩; rw [HJ.out])
      refine ⟨⟨j + 1, by omega, by go_num, hst, hZ.beside _ (by simp <;> omega), hbr.setCell (by simp) _⟩, by simp [intOf]; omega⟩
    · have hj16 : j = 16 := by omega
      subst hj16
      rw [mid_full L bs 16 hL hl] at hA
      clear hix HS
      go_wp2_with (first | (refine law_load rfl 85 _ rfl _ rfl 85 _ hA _ Try.underlying85 rfl (by rw [bys_length, hL]; kernel_rfl) ?_) | (refine law_store rfl 85 _ _ rfl _ (bys L) rfl rfl 85 _ hZ (by rw [bys_length, hL, List.length_replicate]) (by rw [bys_length, hL]; kernel_rfl) (bys_one L) ?_; intro wF hoF hAF))
      refine bodyPost_ret (v := .agg (bys L).toArray) (results_cell_row rfl _ _ (w.heap.size + 1 + 1) 85 _ _ _ rfl hAF Try.underlying85 rfl (by rw [List.size_toArray, bys_length, hL]; kernel_rfl)) rfl ⟨rfl, hoF.below hbr (by omega)⟩
set_option maxHeartbeats 1000000 in
set_option maxRecDepth 100000 in
/-- Two words added. -/
theorem plus_any (bs ks : List B) (hl : bs.length = 4) (hk : ks.length = 4) (w : World) :
    Calls Try.prog 35 #[.agg (bys bs).toArray, .agg (bys ks).toArray] w fun e w' => e = .returned (.agg (bys (addL bs ks)).toArray) ∧ Below w.heap.size w w' := by
  have hix := index_at 52 4 Try.underlying52 ks hk
  obtain ⟨L, eL⟩ : ∃ L, L = addL bs ks := ⟨_, rfl⟩
  have hL : L.length = 4 := by rw [eL]; exact addL_length bs ks 4 hl hk
  have HS : Hid (∀ i, i < 4 → bs.getD i 0#8 ^^^ ks.getD i 0#8 = L.getD i 0#8) := fun i hi => by rw [eL, addL_at bs ks i (by omega) (by omega)]
  rw [← eL]
  clear eL
  have hB0 : Blk (((w.alloc (.cells (bys bs).toArray 52)).alloc (.cells (bys ks).toArray 52)).alloc (.cells (List.replicate 4 (Value.int .u8 0)).toArray 52)) w.heap.size 52 (bys bs) := ((Blk.new w 52 (bys bs)).alloc _).alloc _
  have hB1 : Blk (((w.alloc (.cells (bys bs).toArray 52)).alloc (.cells (bys ks).toArray 52)).alloc (.cells (List.replicate 4 (Value.int .u8 0)).toArray 52)) (w.heap.size + 1) 52 (bys ks) := by
    have h := (Blk.new (w.alloc (.cells (bys bs).toArray 52)) 52 (bys ks)).alloc (.cells (List.replicate 4 (Value.int .u8 0)).toArray 52)
    rwa [World.size_alloc] at h
  have hB2 : Blk (((w.alloc (.cells (bys bs).toArray 52)).alloc (.cells (bys ks).toArray 52)).alloc (.cells (List.replicate 4 (Value.int .u8 0)).toArray 52)) (w.heap.size + 1 + 1) 52 (List.replicate 4 (Value.int .u8 0)) := by
    have h := Blk.new ((w.alloc (.cells (bys bs).toArray 52)).alloc (.cells (bys ks).toArray 52)) 52 (List.replicate 4 (Value.int .u8 0))
    rwa [World.size_alloc, World.size_alloc] at h
  have hbB : Below w.heap.size w (((w.alloc (.cells (bys bs).toArray 52)).alloc (.cells (bys ks).toArray 52)).alloc (.cells (List.replicate 4 (Value.int .u8 0)).toArray 52)) :=
    (((Below.refl _ w).alloc (Nat.le_refl _) _).alloc (by simp) _).alloc (by simp; omega) _
  go_enter Try.func35, Try.ntmps35
  go_wp2_with (refine wpList_load_mid rfl 52 _ rfl (w.heap.size + 1) 0 rfl (bys ks) _ hB1.whole Try.underlying52 rfl (by rw [bys_length, hk]; kernel_rfl) ?_)
  go_loopw [8] (fun i wr => ∃ j : Nat, j ≤ 4 ∧ i = .int .i64 j ∧ Blk wr w.heap.size 52 (bys (mid L bs j)) ∧ Blk wr (w.heap.size + 1 + 1) 52 (List.replicate 4 (Value.int .u8 0)) ∧ Below w.heap.size w wr) (fun i _ => 4 - (intOf i).toNat)
  case atStart => exact ⟨0, by omega, rfl, by rw [mid_zero]; exact hB0, hB2, hbB⟩
  case round =>
    obtain ⟨j, hj, rfl, hA, hZ, hbr⟩ := hrel
    clear hB0 hB1 hB2 hbB
    have hml := mid_length L bs 4 j hL hl
    by_cases hlt : j < 4
    · have hx := hix j hlt
      have hst := hA.put j (L.getD j 0#8)
      rw [mid_step L bs j 4 hL hl hlt] at hst
      have HJ : Hid (bs.getD j 0#8 ^^^ ks.getD j 0#8 = L.getD j 0#8) := HS.out j hlt
      have c0 := hA.byte j (by omega)
      rw [mid_at L bs j j 4 hL hl (Nat.le_refl _) hlt] at c0
      have f0 := hA.fz j
      obtain ⟨x, ex⟩ : ∃ x, x = ks.getD j 0#8 := ⟨_, rfl⟩
      obtain ⟨y, ey⟩ : ∃ y, y = L.getD j 0#8 := ⟨_, rfl⟩
      obtain ⟨z, ez⟩ : ∃ z, z = bs.getD j 0#8 := ⟨_, rfl⟩
      rw [← ex] at hx HJ
      rw [← ey] at hst HJ
      rw [← ez] at c0 HJ
      clear hix HS ex ey ez
      go_wp2_with (go_at_call 46; refine (add_any z x _ _ _ rfl rfl).mono ?_; rintro e w' ⟨rfl, rfl⟩; rw [HJ.out])
      refine ⟨⟨j + 1, by omega, by go_num, hst, hZ.beside _ (by simp <;> omega), hbr.setCell (by simp) _⟩, by simp [intOf]; omega⟩
    · have hj4 : j = 4 := by omega
      subst hj4
      rw [mid_full L bs 4 hL hl] at hA
      clear hix HS
      go_wp2_with (first | (refine law_load rfl 52 _ rfl _ rfl 52 _ hA _ Try.underlying52 rfl (by rw [bys_length, hL]; kernel_rfl) ?_) | (refine law_store rfl 52 _ _ rfl _ (bys L) rfl rfl 52 _ hZ (by rw [bys_length, hL, List.length_replicate]) (by rw [bys_length, hL]; kernel_rfl) (bys_one L) ?_; intro wF hoF hAF))
      refine bodyPost_ret (v := .agg (bys L).toArray) (results_cell_row rfl _ _ (w.heap.size + 1 + 1) 52 _ _ _ rfl hAF Try.underlying52 rfl (by rw [List.size_toArray, bys_length, hL]; kernel_rfl)) rfl ⟨rfl, hoF.below hbr (by omega)⟩
end Go.Proofs.Ytjhkicfndbceoaa
