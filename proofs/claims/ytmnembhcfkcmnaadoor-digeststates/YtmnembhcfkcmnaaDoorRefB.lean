/- The words of a block, as the document's answer makes them. -/
import Derived.Test.YtmnembhcfkcmnaaDoorRefA
namespace Go.Proofs.YtmnembhcfkcmnaaDoor
open Go.RowKit

set_option maxHeartbeats 2000000 in
set_option maxRecDepth 100000 in
theorem words_walk (ad : Addr) (c : Nat) (bs S : List Int) (hS : S.length = 64) (hlo : ∀ t, t < 16 → S.getD t 0 = word4 bs t)
    (hhi : ∀ t, 16 ≤ t → t < 64 → S.getD t 0 = (((ss1 (S.getD (t - 2) 0) + S.getD (t - 7) 0) % 4294967296 + ss0 (S.getD (t - 15) 0)) % 4294967296 + S.getD (t - 16) 0) % 4294967296) (w : World) (hs : Shows w (some ad) 64 bs) :
    Calls Tryd.prog 29 #[.slice (some ad) 64 c] w fun e w' => e = .returned (.agg (nums .u32 S)) ∧ Below w.heap.size w w' := by
  have hadb : ad.block < w.heap.size := by
    have := World.block_lt_of_cell? _ _ (hs.cell ad rfl 0 (by decide))
    simpa [Addr.add] using this
  go_enter Tryd.func29, Tryd.ntmps29
  go_wp2_with fail
  go_loopw [4] (fun i wr => ∃ j : Nat, j ≤ 16 ∧ i = .int .i64 j ∧ Arr wr w.heap.size .u32 57 (List.replicate 64 0) ∧ Arr wr (w.heap.size + 1) .u32 57 (fill S 64 j) ∧ Below w.heap.size w wr) (fun i _ => 16 - (intOf i).toNat)
  case atStart =>
    refine ⟨0, by omega, rfl, (Arr.new w .u32 57 (List.replicate 64 0)).alloc _, ?_, ?_⟩
    · have h := Arr.new (w.alloc (.cells (nums .u32 (List.replicate 64 0)) 57)) .u32 57 (List.replicate 64 0)
      rw [World.size_alloc] at h
      rw [fill_zero]
      exact h
    · exact ((Below.refl _ w).alloc (Nat.le_refl _) _).alloc (by simp) _
  case round =>
    obtain ⟨j, hj, rfl, hA1, hA3, hb⟩ := hrel
    by_cases hlt : j < 16
    · have hsr := hs.later hb
      have hw4 := hlo j hlt
      have x0 := hsr.cell ad rfl (4 * j) (by omega)
      have x1 := hsr.cell ad rfl (4 * j + 1) (by omega)
      have x2 := hsr.cell ad rfl (4 * j + 2) (by omega)
      have x3 := hsr.cell ad rfl (4 * j + 3) (by omega)
      have hor := or_four (bs.getD (4 * j) 0) (bs.getD (4 * j + 1) 0) (bs.getD (4 * j + 2) 0) (bs.getD (4 * j + 3) 0) (byte_at bs hs.rng _) (byte_at bs hs.rng _) (byte_at bs hs.rng _) (byte_at bs hs.rng _)
      have b0 := byte_at bs hs.rng (4 * j)
      have b1 := byte_at bs hs.rng (4 * j + 1)
      have b2 := byte_at bs hs.rng (4 * j + 2)
      have b3 := byte_at bs hs.rng (4 * j + 3)
      unfold word4 at hw4
      rw [← hw4] at hor
      obtain ⟨y0, z0⟩ : ∃ x, x = bs.getD (4 * j) 0 := ⟨_, rfl⟩
      obtain ⟨y1, z1⟩ : ∃ x, x = bs.getD (4 * j + 1) 0 := ⟨_, rfl⟩
      obtain ⟨y2, z2⟩ : ∃ x, x = bs.getD (4 * j + 2) 0 := ⟨_, rfl⟩
      obtain ⟨y3, z3⟩ : ∃ x, x = bs.getD (4 * j + 3) 0 := ⟨_, rfl⟩
      rw [← z0] at x0 b0 hor
      rw [← z1] at x1 b1 hor
      rw [← z2] at x2 b2 hor
      rw [← z3] at x3 b3 hor
      rw [show y0 * 16777216 % 4294967296 = y0 * 16777216 by omega, show y1 * 65536 % 4294967296 = y1 * 65536 by omega, show y2 * 256 % 4294967296 = y2 * 256 by omega] at hor
      have HO : Hid (bits .or .u32 (bits .or .u32 (bits .or .u32 (y0 * 16777216) (y1 * 65536)) (y2 * 256)) y3 = S.getD j 0) := hor
      have m0 : y0 % 4294967296 = y0 := by omega
      have m1 : y1 % 4294967296 = y1 := by omega
      have m2 : y2 % 4294967296 = y2 := by omega
      have m3 : y3 % 4294967296 = y3 := by omega
      obtain ⟨i0, e0⟩ : ∃ n, n = 4 * j := ⟨_, rfl⟩
      obtain ⟨i1, e1⟩ : ∃ n, n = 4 * j + 1 := ⟨_, rfl⟩
      obtain ⟨i2, e2⟩ : ∃ n, n = 4 * j + 2 := ⟨_, rfl⟩
      obtain ⟨i3, e3⟩ : ∃ n, n = 4 * j + 3 := ⟨_, rfl⟩
      rw [← e0] at x0
      rw [← e1] at x1
      rw [← e2] at x2
      rw [← e3] at x3
      have w0 : IntKind.i64.wrap (4 * (j : Int)) = (i0 : Int) := by simp [IntKind.wrap, IntKind.bits, IntKind.signed]; omega
      have w1 : IntKind.i64.wrap ((i0 : Int) + 1) = (i1 : Int) := by simp [IntKind.wrap, IntKind.bits, IntKind.signed]; omega
      have w2 : IntKind.i64.wrap ((i0 : Int) + 2) = (i2 : Int) := by simp [IntKind.wrap, IntKind.bits, IntKind.signed]; omega
      have w3 : IntKind.i64.wrap ((i0 : Int) + 3) = (i3 : Int) := by simp [IntKind.wrap, IntKind.bits, IntKind.signed]; omega
      have q0 : (i0 : Int) < 64 := by omega
      have q1 : (i1 : Int) < 64 := by omega
      have q2 : (i2 : Int) < 64 := by omega
      have q3 : (i3 : Int) < 64 := by omega
      have r0 : (0 : Int) ≤ (i0 : Int) := by omega
      have r1 : (0 : Int) ≤ (i1 : Int) := by omega
      have r2 : (0 : Int) ≤ (i2 : Int) := by omega
      have r3 : (0 : Int) ≤ (i3 : Int) := by omega
      have j0 : (0 : Int) ≤ (j : Int) := by omega
      have j1 : (j : Int) < 64 := by omega
      have cj := hA3.cell j (by rw [fsl S hS j (by omega)]; omega)
      have fj := hA3.fz j
      obtain ⟨xj, exj⟩ : ∃ x, x = (fill S 64 j).getD j 0 := ⟨_, rfl⟩
      rw [← exj] at cj
      have HA1 : Hid (Arr wr w.heap.size .u32 57 (List.replicate 64 0)) := hA1
      have HA3 : Hid (Arr wr (w.heap.size + 1) .u32 57 (fill S 64 j)) := hA3
      have Hb : Hid (Below w.heap.size w wr) := hb
      have n0 : (ad.add i0).block ≠ w.heap.size + 1 := by rw [add_block]; omega
      have n1 : (ad.add i1).block ≠ w.heap.size + 1 := by rw [add_block]; omega
      have n2 : (ad.add i2).block ≠ w.heap.size + 1 := by rw [add_block]; omega
      have n3 : (ad.add i3).block ≠ w.heap.size + 1 := by rw [add_block]; omega
      clear z0 z1 z2 z3 e0 e1 e2 e3 exj hlo hhi hor hw4 hsr hs hA1 hA3 hb
      go_wp2_with fail
      go_region_held3 (fun w' => w'.cell? (ad.add i0) = some (.int .u8 y0) ∧ w'.cell? (ad.add i1) = some (.int .u8 y1) ∧ w'.cell? (ad.add i2) = some (.int .u8 y2) ∧ w'.cell? (ad.add i3) = some (.int .u8 y3)) (first | exact ⟨cell_beside x0 n0, cell_beside x1 n1, cell_beside x2 n2, cell_beside x3 n3⟩ | go_keep) (fail)
      go_wp2
      rw [HO.out]
      refine ⟨⟨j + 1, by omega, by go_num, ?_, ?_, ?_⟩, by simp [intOf]; omega⟩
      · exact HA1.out.beside (a := ⟨w.heap.size + 1, j, none⟩) _ (by simp)
      · have h3 := HA3.out.set j (S.getD j 0)
        rw [fill_step S 64 j (by omega) (by omega)] at h3
        exact h3
      · exact (Hb.out.setCell (p := ⟨w.heap.size + 1, j, none⟩) (by simp) _).drew
    · have hj16 : j = 16 := by omega
      subst hj16
      rw [show ((16 : Nat) : Int) = 16 from rfl]
      go_wp2_with fail
      go_loopw [5] (fun i wr => ∃ t : Nat, 16 ≤ t ∧ t ≤ 64 ∧ i = .int .i64 t ∧ Arr wr w.heap.size .u32 57 (List.replicate 64 0) ∧ Arr wr (w.heap.size + 1) .u32 57 (fill S 64 t) ∧ Below w.heap.size w wr) (fun i _ => 64 - (intOf i).toNat)
      case atStart => exact ⟨16, by omega, by omega, rfl, hA1, hA3, hb⟩
      case round =>
        obtain ⟨t, ht1, ht2, rfl, hB2, hB3, hbB⟩ := hrel
        by_cases hlt2 : t < 64
        · have hst := hhi t ht1 hlt2
          have c2 := hB3.cell (t - 2) (by rw [fsl S hS t (by omega)]; omega)
          have c7 := hB3.cell (t - 7) (by rw [fsl S hS t (by omega)]; omega)
          have c15 := hB3.cell (t - 15) (by rw [fsl S hS t (by omega)]; omega)
          have c16 := hB3.cell (t - 16) (by rw [fsl S hS t (by omega)]; omega)
          have c0 := hB3.cell t (by rw [fsl S hS t (by omega)]; omega)
          rw [fill_get _ _ _ _ (by omega) (by rw [hS]; omega)] at c2 c7 c15 c16
          have f0 := hB3.fz t
          obtain ⟨x2, e2⟩ : ∃ x, x = S.getD (t - 2) 0 := ⟨_, rfl⟩
          obtain ⟨x7, e7⟩ : ∃ x, x = S.getD (t - 7) 0 := ⟨_, rfl⟩
          obtain ⟨x15, e15⟩ : ∃ x, x = S.getD (t - 15) 0 := ⟨_, rfl⟩
          obtain ⟨x16, e16⟩ : ∃ x, x = S.getD (t - 16) 0 := ⟨_, rfl⟩
          obtain ⟨x0, e0⟩ : ∃ x, x = (fill S 64 t).getD t 0 := ⟨_, rfl⟩
          rw [← e2] at c2
          rw [← e7] at c7
          rw [← e15] at c15
          rw [← e16] at c16
          rw [← e0] at c0
          rw [← e2, ← e7, ← e15, ← e16] at hst
          have HS : Hid (S.getD t 0 = (((ss1 x2 + x7) % 4294967296 + ss0 x15) % 4294967296 + x16) % 4294967296) := hst
          clear hst e2 e7 e15 e16 e0
          have HB2 : Hid (Arr wr w.heap.size .u32 57 (List.replicate 64 0)) := hB2
          have HB3 : Hid (Arr wr (w.heap.size + 1) .u32 57 (fill S 64 t)) := hB3
          have HbB : Hid (Below w.heap.size w wr) := hbB
          clear hA1 hA3 hb hhi hlo hB2 hB3 hbB hs
          obtain ⟨n2, m2⟩ : ∃ n, n = t - 2 := ⟨_, rfl⟩
          obtain ⟨n7, m7⟩ : ∃ n, n = t - 7 := ⟨_, rfl⟩
          obtain ⟨n15, m15⟩ : ∃ n, n = t - 15 := ⟨_, rfl⟩
          obtain ⟨n16, m16⟩ : ∃ n, n = t - 16 := ⟨_, rfl⟩
          rw [← m2] at c2
          rw [← m7] at c7
          rw [← m15] at c15
          rw [← m16] at c16
          have w2 : IntKind.i64.wrap ((t : Int) - 2) = (n2 : Int) := by simp [IntKind.wrap, IntKind.bits, IntKind.signed]; omega
          have a2 : (0 : Int) ≤ (n2 : Int) := by omega
          have b2 : (n2 : Int) < 64 := by omega
          have d2 : t ≠ n2 := by omega
          have w7 : IntKind.i64.wrap ((t : Int) - 7) = (n7 : Int) := by simp [IntKind.wrap, IntKind.bits, IntKind.signed]; omega
          have a7 : (0 : Int) ≤ (n7 : Int) := by omega
          have b7 : (n7 : Int) < 64 := by omega
          have d7 : t ≠ n7 := by omega
          have w15 : IntKind.i64.wrap ((t : Int) - 15) = (n15 : Int) := by simp [IntKind.wrap, IntKind.bits, IntKind.signed]; omega
          have a15 : (0 : Int) ≤ (n15 : Int) := by omega
          have b15 : (n15 : Int) < 64 := by omega
          have d15 : t ≠ n15 := by omega
          have w16 : IntKind.i64.wrap ((t : Int) - 16) = (n16 : Int) := by simp [IntKind.wrap, IntKind.bits, IntKind.signed]; omega
          have a16 : (0 : Int) ≤ (n16 : Int) := by omega
          have b16 : (n16 : Int) < 64 := by omega
          have d16 : t ≠ n16 := by omega
          have a0 : (0 : Int) ≤ (t : Int) := by omega
          clear m2 m7 m15 m16
          have hs0 : bits .xor .u32 (bits .xor .u32 (rr 7 x15) (rr 18 x15)) (x15 / 8) = ss0 x15 := rfl
          have hs1 : bits .xor .u32 (bits .xor .u32 (rr 17 x2) (rr 19 x2)) (x2 / 1024) = ss1 x2 := rfl
          go_wp2_with (go_at_call 30; refine (refRotr_any _ _ _ (by decide) (by decide)).mono ?_; rintro e w' ⟨rfl, rfl⟩)
          obtain ⟨wD, eD⟩ : ∃ x, x = wr.drew.drew.drew.drew := ⟨_, rfl⟩
          have C7 : wD.cell? ⟨w.heap.size + 1, n7, none⟩ = some (.int .u32 x7) := by rw [eD]; exact c7
          have C16 : wD.cell? ⟨w.heap.size + 1, n16, none⟩ = some (.int .u32 x16) := by rw [eD]; exact c16
          have C0 : wD.cell? ⟨w.heap.size + 1, t, none⟩ = some (.int .u32 x0) := by rw [eD]; exact c0
          have F0 : wD.frozen? ⟨w.heap.size + 1, t, none⟩ = false := by rw [eD]; exact f0
          have HD2 : Hid (Arr wD w.heap.size .u32 57 (List.replicate 64 0)) := by rw [eD]; exact HB2.out
          have HD3 : Hid (Arr wD (w.heap.size + 1) .u32 57 (fill S 64 t)) := by rw [eD]; exact HB3.out
          have HbD : Hid (Below w.heap.size w wD) := by rw [eD]; exact HbB.out.drew.drew.drew.drew
          rw [← eD]
          clear eD c2 c7 c15 c16 c0 f0 HB2 HB3 HbB hs0 hs1 w2 w15 a2 a15 b2 b15 d2 d15
          go_region_held3 (fun w' => w'.cell? ⟨w.heap.size + 1, n7, none⟩ = some (.int .u32 x7) ∧ w'.cell? ⟨w.heap.size + 1, n16, none⟩ = some (.int .u32 x16)) (first | exact ⟨cell_set_off' C7 d7, cell_set_off' C16 d16⟩ | go_keep) (fail)
          go_wp2
          rw [← HS.out]
          refine ⟨⟨t + 1, by omega, by omega, by go_num, ?_, ?_, ?_⟩, by simp [intOf]; omega⟩
          · exact HD2.out.beside (a := ⟨w.heap.size + 1, t, none⟩) _ (by simp)
          · have h3 := HD3.out.set t (S.getD t 0)
            rw [fill_step S 64 t (by omega) (by omega)] at h3
            exact h3
          · exact (HbD.out.setCell (p := ⟨w.heap.size + 1, t, none⟩) (by simp) _).drew
        · have ht64 : t = 64 := by omega
          subst ht64
          rw [fill_full S 64 hS] at hB3
          clear hlo hhi
          go_wp2_with (first | (refine law_load rfl 57 _ rfl _ rfl .u32 57 S hB3 64 44 Tryd.underlying57 (by rw [hS]; kernel_rfl) ?_) | (refine law_store rfl 57 _ _ rfl _ .u32 S rfl rfl 57 _ hB2 (by simp [hS]) (by rw [hS]; kernel_rfl) ?_; intro wF hoF hAF))
          refine bodyPost_ret (v := .agg (nums .u32 S)) (results_cell_row rfl _ _ w.heap.size 57 _ _ _ rfl hAF Tryd.underlying57 rfl (by rw [nums_size, hS]; kernel_rfl)) rfl ⟨rfl, hoF.below hbB (Nat.le_refl _)⟩
theorem words_any (ad : Addr) (c : Nat) (bs : List Int) (w : World) (hs : Shows w (some ad) 64 bs) :
    Calls Tryd.prog 29 #[.slice (some ad) 64 c] w fun e w' => e = .returned (.agg (nums .u32 (sched bs))) ∧ Below w.heap.size w w' :=
  words_walk ad c bs (sched bs) (sched_length bs) (sched_low bs) (sched_high bs) w hs
end Go.Proofs.YtmnembhcfkcmnaaDoor
