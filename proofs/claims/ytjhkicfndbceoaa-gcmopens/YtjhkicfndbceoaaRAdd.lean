/- The document's: a block with a round's key. -/
import Derived.Test.YtjhkicfndbceoaaRSub
namespace Go.Proofs.Ytjhkicfndbceoaa
open Go.RowKit

theorem rk_at (ws : List B) (n i : Nat) (hi : i < 16) : (rk ws n).getD i 0#8 = ws.getD (16 * n + i) 0#8 := by
  simp [rk, List.getD, hi]

set_option maxHeartbeats 1000000 in
set_option maxRecDepth 100000 in
theorem radded_any (KL bs : List B) (r : Nat) (m : Int) (hK : KL.length = 752) (hl : bs.length = 16) (hr : r ≤ 14) (hm : m = r) (w : World) :
    Calls Try.prog 33 #[.agg (bys KL).toArray, .agg (bys bs).toArray, .int .i64 m] w fun e w' => e = .returned (.agg (bys (addL bs (rk KL r))).toArray) ∧ Below w.heap.size w w' := by
  subst hm
  obtain ⟨L, eL⟩ : ∃ L, L = addL bs (rk KL r) := ⟨_, rfl⟩
  have hk : (rk KL r).length = 16 := by simp [rk]; omega
  have hL : L.length = 16 := by rw [eL]; exact addL_length bs _ 16 hl hk
  have HS : Hid (∀ i, i < 16 → bs.getD i 0#8 ^^^ KL.getD (16 * r + i) 0#8 = L.getD i 0#8) := fun i hi => by rw [eL, addL_at bs _ i (by omega) (by omega), rk_at _ _ _ hi]
  rw [← eL]
  clear eL hk
  obtain ⟨Z, hZ, hz, -⟩ := zeroed37
  have hB0 : Blk (((w.alloc (.cells (bys KL).toArray 46)).alloc (.cells (bys bs).toArray 37)).alloc (.cells (bys Z).toArray 37)) w.heap.size 46 (bys KL) := ((Blk.new w 46 (bys KL)).alloc _).alloc _
  have hB1 : Blk (((w.alloc (.cells (bys KL).toArray 46)).alloc (.cells (bys bs).toArray 37)).alloc (.cells (bys Z).toArray 37)) (w.heap.size + 1) 37 (bys bs) := by
    have h := (Blk.new (w.alloc (.cells (bys KL).toArray 46)) 37 (bys bs)).alloc (.cells (bys Z).toArray 37)
    rwa [World.size_alloc] at h
  have hB2 : Blk (((w.alloc (.cells (bys KL).toArray 46)).alloc (.cells (bys bs).toArray 37)).alloc (.cells (bys Z).toArray 37)) (w.heap.size + 1 + 1) 37 (bys Z) := by
    have h := Blk.new ((w.alloc (.cells (bys KL).toArray 46)).alloc (.cells (bys bs).toArray 37)) 37 (bys Z)
    rwa [World.size_alloc, World.size_alloc] at h
  have hbB : Below w.heap.size w (((w.alloc (.cells (bys KL).toArray 46)).alloc (.cells (bys bs).toArray 37)).alloc (.cells (bys Z).toArray 37)) :=
    (((Below.refl _ w).alloc (Nat.le_refl _) _).alloc (by simp) _).alloc (by simp; omega) _
  go_enter Try.func33, Try.ntmps33
  go_wp2
  go_loopw [7] (fun i wr => ∃ j : Nat, j ≤ 16 ∧ i = .int .i64 j ∧ Blk wr w.heap.size 46 (bys KL) ∧ Blk wr (w.heap.size + 1) 37 (bys (mid L bs j)) ∧ Blk wr (w.heap.size + 1 + 1) 37 (bys Z) ∧ Below w.heap.size w wr) (fun i _ => 16 - (intOf i).toNat)
  case atStart => exact ⟨0, by omega, rfl, hB0, by rw [mid_zero]; exact hB1, hB2, hbB⟩
  case round =>
    obtain ⟨j, hj, rfl, hA, hO, hZr, hbr⟩ := hrel
    clear hB0 hB1 hB2 hbB
    have hml := mid_length L bs 16 j hL hl
    by_cases hlt : j < 16
    · have hst := hO.put j (L.getD j 0#8)
      rw [mid_step L bs j 16 hL hl hlt] at hst
      have HJ : Hid (bs.getD j 0#8 ^^^ KL.getD (16 * r + j) 0#8 = L.getD j 0#8) := HS.out j hlt
      have c0 := hO.byte j (by omega)
      rw [mid_at L bs j j 16 hL hl (Nat.le_refl _) hlt] at c0
      have f0 := hO.fz j
      have c1 := hA.byte (16 * r + j) (by omega)
      obtain ⟨x, ex⟩ : ∃ x, x = KL.getD (16 * r + j) 0#8 := ⟨_, rfl⟩
      obtain ⟨y, ey⟩ : ∃ y, y = L.getD j 0#8 := ⟨_, rfl⟩
      obtain ⟨z, ez⟩ : ∃ z, z = bs.getD j 0#8 := ⟨_, rfl⟩
      rw [← ex] at c1 HJ
      rw [← ey] at hst HJ
      rw [← ez] at c0 HJ
      have hwx := v8_xor z x
      rw [HJ.out] at hwx
      have q0 : (0 : Int) ≤ 16 * (r : Int) + j := by omega
      have q1 : 16 * (r : Int) + j < 240 := by omega
      have q2 : (16 * (r : Int) + j).toNat = 16 * r + j := by omega
      have q3 : (r : Int) ≤ 14 := by omega
      clear HS ex ey ez HJ
      go_wp2_with fail
      go_region
      go_wp2
      refine ⟨⟨j + 1, by omega, by go_num, (hA.beside _ (by simp <;> omega)).drew, hst.drew, (hZr.beside _ (by simp <;> omega)).drew, (hbr.setCell (by simp <;> omega) _).drew⟩, by simp [intOf]; omega⟩
    · have hj16 : j = 16 := by omega
      subst hj16
      rw [mid_full L bs 16 hL hl] at hO
      clear HS
      go_wp2_with (first | (refine law_load rfl 37 _ rfl _ rfl 37 _ hO _ Try.underlying37 rfl (by rw [bys_length, hL]; kernel_rfl) ?_) | (refine law_store rfl 37 _ _ rfl _ (bys L) rfl rfl 37 _ hZr (by rw [bys_length, bys_length, hL, hZ]) (by rw [bys_length, hL]; kernel_rfl) (bys_one L) ?_; intro wF hoF hAF))
      refine bodyPost_ret (v := .agg (bys L).toArray) (results_cell_row rfl _ _ (w.heap.size + 1 + 1) 37 _ _ _ rfl hAF Try.underlying37 rfl (by rw [List.size_toArray, bys_length, hL]; kernel_rfl)) rfl ⟨rfl, hoF.below hbr (by omega)⟩
end Go.Proofs.Ytjhkicfndbceoaa
