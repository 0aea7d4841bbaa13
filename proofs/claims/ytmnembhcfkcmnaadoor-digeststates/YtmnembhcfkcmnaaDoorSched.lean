/- The words w0 to w63 of a block, as the program makes them. -/
import Derived.Test.YtmnembhcfkcmnaaDoorWords
import Derived.Deep.RegionHeld3
namespace Go.Proofs.YtmnembhcfkcmnaaDoor
open Go.RowKit

theorem fsl (S : List Int) (hS : S.length = 64) (j : Nat) (h : j ≤ 64) : (fill S 64 j).length = 64 := fill_length _ _ _ h (by rw [hS]; exact h)
theorem cell_set_off {w : World} {g i j : Nat} {v u : Value} (h : w.cell? ⟨g, j, none⟩ = some u) (hn : i ≠ j) : (w.setCell ⟨g, i, none⟩ v).cell? ⟨g, j, none⟩ = some u := by
  rw [World.cell?_setCell_other _ _ _ _ (by intro e; cases e; exact hn rfl)]
  exact h
theorem cell_set_off' {w : World} {g i j : Nat} {v u : Value} (h : w.cell? ⟨g, j, none⟩ = some u) (hn : i ≠ j) : (w.setCell ⟨g, i, none⟩ v).drew.cell? ⟨g, j, none⟩ = some u := cell_set_off h hn
set_option maxHeartbeats 1000000 in
set_option maxRecDepth 100000 in
theorem schedule_walk (bs S : List Int) (hl : bs.length = 64) (hr : ∀ x ∈ bs, 0 ≤ x ∧ x ≤ 255) (hS : S.length = 64) (hlo : ∀ t, t < 16 → S.getD t 0 = word4 bs t)
    (hhi : ∀ t, 16 ≤ t → t < 64 → S.getD t 0 = (((ss1 (S.getD (t - 2) 0) + S.getD (t - 7) 0) % 4294967296 + ss0 (S.getD (t - 15) 0)) % 4294967296 + S.getD (t - 16) 0) % 4294967296) (w : World) :
    Calls Tryd.prog 32 #[.agg (nums .u8 bs)] w fun e w' => e = .returned (.agg (nums .u32 S)) ∧ Below w.heap.size w w' := by
  go_enter Tryd.func32, Tryd.ntmps32
  go_wp2
  go_loopw [8] (fun i wr => ∃ j : Nat, j ≤ 16 ∧ i = .int .i64 j ∧ Arr wr w.heap.size .u8 47 bs ∧ Arr wr (w.heap.size + 1) .u32 57 (List.replicate 64 0) ∧ Arr wr (w.heap.size + 1 + 1) .u32 57 (fill S 64 j) ∧ Below w.heap.size w wr) (fun i _ => 16 - (intOf i).toNat)
  case atStart =>
    refine ⟨0, by omega, rfl, ((Arr.new w .u8 47 bs).alloc _).alloc _, ?_, ?_, ?_⟩
    · have h := (Arr.new (w.alloc (.cells (nums .u8 bs) 47)) .u32 57 (List.replicate 64 0)).alloc (.cells (nums .u32 (List.replicate 64 0)) 57)
      rw [World.size_alloc] at h
      exact h
    · have h := Arr.new ((w.alloc (.cells (nums .u8 bs) 47)).alloc (.cells (nums .u32 (List.replicate 64 0)) 57)) .u32 57 (List.replicate 64 0)
      rw [World.size_alloc, World.size_alloc] at h
      rw [fill_zero]
      exact h
    · exact (((Below.refl _ w).alloc (Nat.le_refl _) _).alloc (by simp) _).alloc (by simp; omega) _
  case round =>
    obtain ⟨j, hj, rfl, hA1, hA2, hA3, hb⟩ := hrel
    obtain ⟨wA, h⟩ : ∃ x, x = wr := ⟨_, rfl⟩; subst h
    by_cases hlt : j < 16
    · have hsl : ∀ W : World, _ := fun W => slice_lh W w.heap.size 0 (4 * j) (4 * j + 4) (4 * (j : Int)) (4 * (j : Int) + 4) (by omega) (by omega) (by omega) (by omega) (by omega)
      rw [show 4 * j + 4 - 4 * j = 4 by omega] at hsl
      go_wp2
      go_loopw [18] (fun i wr => ∃ k : Nat, k ≤ 4 ∧ i = .int .i64 k ∧ Arr wr w.heap.size .u8 47 bs ∧ Arr wr (w.heap.size + 1) .u32 57 (List.replicate 64 0) ∧ Arr wr (w.heap.size + 1 + 1) .u32 57 ((fill S 64 j).set j (part bs j k)) ∧ Below w.heap.size w wr) (fun i _ => 4 - (intOf i).toNat)
      case atStart =>
        refine ⟨0, by omega, rfl, hA1, hA2, ?_, hb⟩
        have e := set_getD (fill S 64 j) j
        rw [fill_at _ _ _ (by rw [hS]; omega)] at e
        show Arr _ _ _ _ ((fill S 64 j).set j 0)
        rw [e]
        exact hA3
      case round =>
        obtain ⟨k, hk, rfl, hB1, hB2, hB3, hbB⟩ := hrel
        by_cases hlk : k < 4
        · have hc1 := hB1.cell (4 * j + k) (by omega)
          have hc3 := hB3.cell j (by rw [List.length_set, fsl S hS j (by omega)]; omega)
          rw [getD_set_same _ _ _ (by rw [fsl S hS j (by omega)]; omega)] at hc3
          have hf3 := hB3.fz j
          have hstep := part_step bs j k hlk hr
          have hx := byte_at bs hr (4 * j + k)
          obtain ⟨x, ex⟩ : ∃ x, x = bs.getD (4 * j + k) 0 := ⟨_, rfl⟩
          rw [← ex] at hc1 hx hstep
          have HX : Hid (bits .or .u32 (part bs j k * 256 % 4294967296) x = part bs j (k + 1)) := hstep
          clear hstep ex
          have hx0 := hx.1
          have hx1 := hx.2
          have hxm : x % 4294967296 = x := by omega
          go_wp2
          rw [HX.out]
          refine ⟨⟨k + 1, by omega, by go_num, hB1.beside _ (by simp; omega), hB2.beside _ (by simp), ?_, hbB.setCell (by simp; omega) _⟩, by simp [intOf]; omega⟩
          have := hB3.set j (part bs j (k + 1))
          rwa [List.set_set] at this
        · have hk4 : k = 4 := by omega
          subst hk4
          go_wp2
          refine ⟨⟨j + 1, by omega, by go_num, hB1, hB2, ?_, hbB⟩, by simp [intOf]; omega⟩
          rw [part_four, ← hlo j hlt, fill_step _ _ _ (by omega) (by rw [hS]; omega)] at hB3
          exact hB3
    · have hj16 : j = 16 := by omega
      subst hj16
      rw [show ((16 : Nat) : Int) = 16 from rfl]
      go_wp2
      go_loopw [7] (fun i wr => ∃ j : Nat, 16 ≤ j ∧ j ≤ 64 ∧ i = .int .i64 j ∧ Arr wr (w.heap.size + 1) .u32 57 (List.replicate 64 0) ∧ Arr wr (w.heap.size + 1 + 1) .u32 57 (fill S 64 j) ∧ Below w.heap.size w wr) (fun i _ => 64 - (intOf i).toNat)
      case atStart => exact ⟨16, by omega, by omega, rfl, hA2, hA3, hb⟩
      case round =>
        obtain ⟨t, ht1, ht2, rfl, hB2, hB3, hbB⟩ := hrel
        by_cases hlt2 : t < 64
        · have hst := hhi t ht1 hlt2
          have c2 := hB3.cell (t - 2) (by rw [fsl S hS t (by omega)]; omega)
          have c7 := hB3.cell (t - 7) (by rw [fsl S hS t (by omega)]; omega)
          have c15 := hB3.cell (t - 15) (by rw [fsl S hS t (by omega)]; omega)
          have c16 := hB3.cell (t - 16) (by rw [fsl S hS t (by omega)]; omega)
          have c0 := hB3.cell t (by rw [fsl S hS t (by omega)]; omega)
          rw [fill_get _ _ _ _ (by omega) (by rw [hS]; omega)] at c2 c7 c15 c16
          have f0 := hB3.fz t
          obtain ⟨x2, e2⟩ : ∃ x, x = S.getD (t - 2) 0 := ⟨_, rfl⟩
          obtain ⟨x7, e7⟩ : ∃ x, x = S.getD (t - 7) 0 := ⟨_, rfl⟩
          obtain ⟨x15, e15⟩ : ∃ x, x = S.getD (t - 15) 0 := ⟨_, rfl⟩
          obtain ⟨x16, e16⟩ : ∃ x, x = S.getD (t - 16) 0 := ⟨_, rfl⟩
          obtain ⟨x0, e0⟩ : ∃ x, x = (fill S 64 t).getD t 0 := ⟨_, rfl⟩
          rw [← e2] at c2
          rw [← e7] at c7
          rw [← e15] at c15
          rw [← e16] at c16
          rw [← e0] at c0
          rw [← e2, ← e7, ← e15, ← e16] at hst
          have HS : Hid (S.getD t 0 = (((ss1 x2 + x7) % 4294967296 + ss0 x15) % 4294967296 + x16) % 4294967296) := hst
          clear hst e2 e7 e15 e16 e0
          go_wp2_with fail
          have HB2 : Hid (Arr wr (w.heap.size + 1) .u32 57 (List.replicate 64 0)) := hB2
          have HB3 : Hid (Arr wr (w.heap.size + 1 + 1) .u32 57 (fill S 64 t)) := hB3
          have HbB : Hid (Below w.heap.size w wr) := hbB
          clear hA1 hA2 hA3 hb hhi hlo hB2 hB3 hbB hr
          obtain ⟨n2, m2⟩ : ∃ n, n = t - 2 := ⟨_, rfl⟩
          obtain ⟨n7, m7⟩ : ∃ n, n = t - 7 := ⟨_, rfl⟩
          obtain ⟨n15, m15⟩ : ∃ n, n = t - 15 := ⟨_, rfl⟩
          obtain ⟨n16, m16⟩ : ∃ n, n = t - 16 := ⟨_, rfl⟩
          rw [← m2] at c2
          rw [← m7] at c7
          rw [← m15] at c15
          rw [← m16] at c16
          have w2 : IntKind.i64.wrap ((t : Int) - 2) = (n2 : Int) := by simp [IntKind.wrap, IntKind.bits, IntKind.signed]; omega
          have a2 : (0 : Int) ≤ (n2 : Int) := by omega
          have b2 : (n2 : Int) < 64 := by omega
          have d2 : t ≠ n2 := by omega
          have w7 : IntKind.i64.wrap ((t : Int) - 7) = (n7 : Int) := by simp [IntKind.wrap, IntKind.bits, IntKind.signed]; omega
          have a7 : (0 : Int) ≤ (n7 : Int) := by omega
          have b7 : (n7 : Int) < 64 := by omega
          have d7 : t ≠ n7 := by omega
          have w15 : IntKind.i64.wrap ((t : Int) - 15) = (n15 : Int) := by simp [IntKind.wrap, IntKind.bits, IntKind.signed]; omega
          have a15 : (0 : Int) ≤ (n15 : Int) := by omega
          have b15 : (n15 : Int) < 64 := by omega
          have d15 : t ≠ n15 := by omega
          have w16 : IntKind.i64.wrap ((t : Int) - 16) = (n16 : Int) := by simp [IntKind.wrap, IntKind.bits, IntKind.signed]; omega
          have a16 : (0 : Int) ≤ (n16 : Int) := by omega
          have b16 : (n16 : Int) < 64 := by omega
          have d16 : t ≠ n16 := by omega
          have a0 : (0 : Int) ≤ (t : Int) := by omega
          clear m2 m7 m15 m16
          go_region_held3 (fun w' => w'.cell? ⟨w.heap.size + 1 + 1, n2, none⟩ = some (.int .u32 x2) ∧ w'.cell? ⟨w.heap.size + 1 + 1, n7, none⟩ = some (.int .u32 x7) ∧ w'.cell? ⟨w.heap.size + 1 + 1, n15, none⟩ = some (.int .u32 x15) ∧ w'.cell? ⟨w.heap.size + 1 + 1, n16, none⟩ = some (.int .u32 x16)) (first | exact ⟨cell_set_off' c2 d2, cell_set_off' c7 d7, cell_set_off' c15 d15, cell_set_off' c16 d16⟩ | go_keep) ((first | (go_at_call 37; refine (smallS1_any _ _).mono ?_; rintro e w' ⟨rfl, rfl⟩) | (go_at_call 38; refine (smallS0_any _ _).mono ?_; rintro e w' ⟨rfl, rfl⟩)))
          go_wp2
          rw [← HS.out]
          refine ⟨⟨t + 1, by omega, by omega, by go_num, ?_, ?_, ?_⟩, by simp [intOf]; omega⟩
          · exact HB2.out.beside (a := ⟨w.heap.size + 1 + 1, t, none⟩) _ (by simp)
          · have h3 := HB3.out.set t (S.getD t 0)
            rw [fill_step S 64 t (by omega) (by omega)] at h3
            exact h3
          · exact (HbB.out.setCell (p := ⟨w.heap.size + 1 + 1, t, none⟩) (by simp; omega) _).drew
        · have ht64 : t = 64 := by omega
          subst ht64
          rw [fill_full S 64 hS] at hB3
          go_wp2_with (first | (refine law_load rfl 57 _ rfl _ rfl .u32 57 S hB3 64 44 Tryd.underlying57 (by rw [hS]; kernel_rfl) ?_) | (refine law_store rfl 57 _ _ rfl _ .u32 S rfl rfl 57 _ hB2 (by simp [hS]) (by rw [hS]; kernel_rfl) ?_; intro wF hoF hAF))
          refine bodyPost_ret (v := .agg (nums .u32 S)) (results_cell_row rfl _ _ (w.heap.size + 1) 57 _ _ _ rfl hAF Tryd.underlying57 rfl (by rw [nums_size, hS]; kernel_rfl)) rfl ⟨rfl, hoF.below hbB (by omega)⟩

theorem schedule_any (bs : List Int) (hl : bs.length = 64) (hr : ∀ x ∈ bs, 0 ≤ x ∧ x ≤ 255) (w : World) :
    Calls Tryd.prog 32 #[.agg (nums .u8 bs)] w fun e w' => e = .returned (.agg (nums .u32 (sched bs))) ∧ Below w.heap.size w w' :=
  schedule_walk bs (sched bs) hl hr (sched_length bs) (sched_low bs) (sched_high bs) w
end Go.Proofs.YtmnembhcfkcmnaaDoor
