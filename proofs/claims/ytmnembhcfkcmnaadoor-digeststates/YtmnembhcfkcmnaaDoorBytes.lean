/- The bytes of eight words. -/
import Derived.Test.YtmnembhcfkcmnaaDoorMixed
namespace Go.Proofs.YtmnembhcfkcmnaaDoor
open Go.RowKit

def bytesOf (s : St) : List Int := (List.range 32).map fun i => s.l.getD (i / 4) 0 / 2 ^ (24 - 8 * (i % 4)) % 256
theorem bytesOf_length (s : St) : (bytesOf s).length = 32 := by simp [bytesOf]
theorem bytesOf_at (s : St) (i : Nat) (h : i < 32) : (bytesOf s).getD i 0 = s.l.getD (i / 4) 0 / 2 ^ (24 - 8 * (i % 4)) % 256 := by
  simp [bytesOf, List.getD, h]
theorem bytesOf_rng (s : St) : ∀ x ∈ bytesOf s, 0 ≤ x ∧ x ≤ 255 := by
  intro x hx
  obtain ⟨i, _, rfl⟩ := List.mem_map.1 hx
  omega

set_option maxHeartbeats 1000000 in
set_option maxRecDepth 100000 in
theorem wordBytes_walk (s : St) (L : List Int) (hL : L.length = 32) (hat : ∀ i, i < 32 → L.getD i 0 = s.l.getD (i / 4) 0 / 2 ^ (24 - 8 * (i % 4)) % 256) (w : World) :
    Calls Tryd.prog 28 #[.agg (nums .u32 s.l)] w fun e w' => e = .returned (.agg (nums .u8 L)) ∧ Below w.heap.size w w' := by
  have hix : ∀ n : Nat, n < 8 → ∀ W : World, (Instr.index 45 (.agg (nums .u32 s.l)) (.int .i64 n)).run Tryd.prog W = .ok (.int .u32 (s.l.getD n 0)) W := index45 s
  have hB0 : Arr (((w.alloc (.cells (nums .u32 s.l) 45)).alloc (.cells (nums .u8 (List.replicate 32 0)) 25)).alloc (.cells (nums .u8 (List.replicate 32 0)) 25)) w.heap.size .u32 45 s.l := ((Arr.new w .u32 45 s.l).alloc _).alloc _
  have hB1 : Arr (((w.alloc (.cells (nums .u32 s.l) 45)).alloc (.cells (nums .u8 (List.replicate 32 0)) 25)).alloc (.cells (nums .u8 (List.replicate 32 0)) 25)) (w.heap.size + 1) .u8 25 (List.replicate 32 0) := by
    have h := (Arr.new (w.alloc (.cells (nums .u32 s.l) 45)) .u8 25 (List.replicate 32 0)).alloc (.cells (nums .u8 (List.replicate 32 0)) 25)
    rw [World.size_alloc] at h
    exact h
  have hB2 : Arr (((w.alloc (.cells (nums .u32 s.l) 45)).alloc (.cells (nums .u8 (List.replicate 32 0)) 25)).alloc (.cells (nums .u8 (List.replicate 32 0)) 25)) (w.heap.size + 1 + 1) .u8 25 (List.replicate 32 0) := by
    have h := Arr.new ((w.alloc (.cells (nums .u32 s.l) 45)).alloc (.cells (nums .u8 (List.replicate 32 0)) 25)) .u8 25 (List.replicate 32 0)
    rw [World.size_alloc, World.size_alloc] at h
    exact h
  have hbB : Below w.heap.size w (((w.alloc (.cells (nums .u32 s.l) 45)).alloc (.cells (nums .u8 (List.replicate 32 0)) 25)).alloc (.cells (nums .u8 (List.replicate 32 0)) 25)) :=
    (((Below.refl _ w).alloc (Nat.le_refl _) _).alloc (by simp) _).alloc (by simp; omega) _
  go_enter Tryd.func28, Tryd.ntmps28
  go_wp2_with (refine law_load rfl 45 _ rfl _ rfl .u32 45 _ hB0 8 44 Tryd.underlying45 (by kernel_rfl) ?_)
  go_loopw [7] (fun i wr => ∃ j : Nat, j ≤ 8 ∧ i = .int .i64 j ∧ Arr wr (w.heap.size + 1) .u8 25 (List.replicate 32 0) ∧ Arr wr (w.heap.size + 1 + 1) .u8 25 (fill L 32 (4 * j)) ∧ Below w.heap.size w wr) (fun i _ => 8 - (intOf i).toNat)
  case atStart => exact ⟨0, by omega, rfl, hB1, by rw [Nat.mul_zero, fill_zero]; exact hB2, hbB⟩
  case round =>
    obtain ⟨j, hj, rfl, hA1, hA2, hbr⟩ := hrel
    clear hB0 hB1 hB2 hbB
    by_cases hlt : j < 8
    · have hx := hix j hlt
      have l0 := hat (4 * j) (by omega)
      have l1 := hat (4 * j + 1) (by omega)
      have l2 := hat (4 * j + 2) (by omega)
      have l3 := hat (4 * j + 3) (by omega)
      rw [show 4 * j / 4 = j by omega, show 4 * j % 4 = 0 by omega] at l0
      rw [show (4 * j + 1) / 4 = j by omega, show (4 * j + 1) % 4 = 1 by omega] at l1
      rw [show (4 * j + 2) / 4 = j by omega, show (4 * j + 2) % 4 = 2 by omega] at l2
      rw [show (4 * j + 3) / 4 = j by omega, show (4 * j + 3) % 4 = 3 by omega] at l3
      obtain ⟨x, ex⟩ : ∃ x, x = s.l.getD j 0 := ⟨_, rfl⟩
      rw [← ex] at hx l0 l1 l2 l3
      clear hix ex hat
      have H0 : Hid (L.getD (4 * j) 0 = x / 16777216 % 256) := l0
      have H1 : Hid (L.getD (4 * j + 1) 0 = x / 65536 % 256) := l1
      have H2 : Hid (L.getD (4 * j + 2) 0 = x / 256 % 256) := l2
      have H3 : Hid (L.getD (4 * j + 3) 0 = x % 256) := by
        have e : x / 2 ^ (24 - 8 * 3) = x := by simp
        rw [e] at l3
        exact l3
      clear l0 l1 l2 l3
      have hl0 : (fill L 32 (4 * j)).length = 32 := fill_length _ _ _ (by omega) (by omega)
      have c0 := hA2.cell (4 * j) (by omega)
      have c1 := hA2.cell (4 * j + 1) (by omega)
      have c2 := hA2.cell (4 * j + 2) (by omega)
      have c3 := hA2.cell (4 * j + 3) (by omega)
      have f0 := hA2.fz (4 * j)
      have f1 := hA2.fz (4 * j + 1)
      have f2 := hA2.fz (4 * j + 2)
      have f3 := hA2.fz (4 * j + 3)
      go_wp2
      rw [← H0.out, ← H1.out, ← H2.out, ← H3.out]
      refine ⟨⟨j + 1, by omega, by go_num, ?_, ?_, ?_⟩, by simp [intOf]; omega⟩
      · exact (((hA1.beside _ (by simp)).beside _ (by simp)).beside _ (by simp)).beside _ (by simp)
      · have h := (((hA2.set (4 * j) (L.getD (4 * j) 0)).set (4 * j + 1) (L.getD (4 * j + 1) 0)).set (4 * j + 2) (L.getD (4 * j + 2) 0)).set (4 * j + 3) (L.getD (4 * j + 3) 0)
        rw [fill_step L 32 (4 * j) (by omega) (by omega), fill_step L 32 (4 * j + 1) (by omega) (by omega), fill_step L 32 (4 * j + 2) (by omega) (by omega), fill_step L 32 (4 * j + 3) (by omega) (by omega)] at h
        exact h
      · exact (((hbr.setCell (by simp; omega) _).setCell (by simp; omega) _).setCell (by simp; omega) _).setCell (by simp; omega) _
    · have hj8 : j = 8 := by omega
      subst hj8
      have hA2' : Arr wr (w.heap.size + 1 + 1) .u8 25 L := by rw [fill_full L 32 hL] at hA2; exact hA2
      clear hA2 hix hat
      go_wp2_with (first | (refine law_load rfl 25 _ rfl _ rfl .u8 25 _ hA2' 32 5 Tryd.underlying25 (by rw [hL]; kernel_rfl) ?_) | (refine law_store rfl 25 _ _ rfl _ .u8 L rfl rfl 25 _ hA1 (by simp [hL]) (by rw [hL]; kernel_rfl) ?_; intro wF hoF hAF))
      refine bodyPost_ret (v := .agg (nums .u8 L)) (results_cell_row rfl _ _ (w.heap.size + 1) 25 _ _ _ rfl hAF Tryd.underlying25 rfl (by rw [nums_size, hL]; kernel_rfl)) rfl ⟨rfl, hoF.below hbr (by omega)⟩
theorem wordBytes_any (s : St) (w : World) : Calls Tryd.prog 28 #[.agg (nums .u32 s.l)] w fun e w' => e = .returned (.agg (nums .u8 (bytesOf s))) ∧ Below w.heap.size w w' :=
  wordBytes_walk s (bytesOf s) (bytesOf_length s) (bytesOf_at s) w
end Go.Proofs.YtmnembhcfkcmnaaDoor
