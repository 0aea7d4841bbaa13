/- What a block makes of eight words, as the program does it. -/
import Derived.Test.YtmnembhcfkcmnaaDoorSched
import Derived.BigQuiet
namespace Go.Proofs.YtmnembhcfkcmnaaDoor
open Go.RowKit

/-- The two tables lie where the program's variables are. -/
structure Tabs (w : World) : Prop where
  k : ∀ i, i < 64 → w.cell? ⟨1, i, none⟩ = some (.int .u32 (kTab.getD i 0))
  h : ∀ i, i < 8 → w.cell? ⟨0, i, none⟩ = some (.int .u32 (hTab.getD i 0))
  sz : 2 ≤ w.heap.size
theorem Tabs.later {w w' : World} (h : Tabs w) {B : Nat} (hb : Below B w w') (hB : 2 ≤ B) : Tabs w' :=
  ⟨fun i hi => (hb.cell (by show 1 < B; omega)).trans (h.k i hi), fun i hi => (hb.cell (by show 0 < B; omega)).trans (h.h i hi), Nat.le_trans h.sz hb.size⟩
theorem Tabs.next {w w' : World} (h : Tabs w) (hb : Below w.heap.size w w') : Tabs w' := h.later hb h.sz

theorem zero57 (w : World) : Arr (w.alloc (.cells (nums .u32 (List.replicate 64 0)) 57)) w.heap.size .u32 57 (List.replicate 64 0) := Arr.new w .u32 57 _

def psum (s r : St) (i : Nat) : List Int := (s.plus r).l.take i ++ s.l.drop i
theorem psum_length (s r : St) (i : Nat) (h : i ≤ 8) : (psum s r i).length = 8 := by simp [psum, St.l]; omega
theorem psum_step (s r : St) (i : Nat) (h : i < 8) : (psum s r i).set i (((psum s r i).getD i 0 + r.l.getD i 0) % 4294967296) = psum s r (i + 1) := by
  have : i = 0 ∨ i = 1 ∨ i = 2 ∨ i = 3 ∨ i = 4 ∨ i = 5 ∨ i = 6 ∨ i = 7 := by omega
  rcases this with rfl | rfl | rfl | rfl | rfl | rfl | rfl | rfl <;> rfl
theorem index45 (r : St) : ∀ n : Nat, n < 8 → ∀ W : World, (Instr.index 45 (.agg #[.int .u32 r.a, .int .u32 r.b, .int .u32 r.c, .int .u32 r.d, .int .u32 r.e, .int .u32 r.f, .int .u32 r.g, .int .u32 r.h]) (.int .i64 n)).run Tryd.prog W = .ok (.int .u32 (r.l.getD n 0)) W := by
  intro n hn W
  have h0 : (Instr.index 45 (.agg #[.int .u32 r.a, .int .u32 r.b, .int .u32 r.c, .int .u32 r.d, .int .u32 r.e, .int .u32 r.f, .int .u32 r.g, .int .u32 r.h]) (.int .i64 0)).run Tryd.prog W = .ok (.int .u32 r.a) W := by kernel_rfl
  have h1 : (Instr.index 45 (.agg #[.int .u32 r.a, .int .u32 r.b, .int .u32 r.c, .int .u32 r.d, .int .u32 r.e, .int .u32 r.f, .int .u32 r.g, .int .u32 r.h]) (.int .i64 1)).run Tryd.prog W = .ok (.int .u32 r.b) W := by kernel_rfl
  have h2 : (Instr.index 45 (.agg #[.int .u32 r.a, .int .u32 r.b, .int .u32 r.c, .int .u32 r.d, .int .u32 r.e, .int .u32 r.f, .int .u32 r.g, .int .u32 r.h]) (.int .i64 2)).run Tryd.prog W = .ok (.int .u32 r.c) W := by kernel_rfl
  have h3 : (Instr.index 45 (.agg #[.int .u32 r.a, .int .u32 r.b, .int .u32 r.c, .int .u32 r.d, .int .u32 r.e, .int .u32 r.f, .int .u32 r.g, .int .u32 r.h]) (.int .i64 3)).run Tryd.prog W = .ok (.int .u32 r.d) W := by kernel_rfl
  have h4 : (Instr.index 45 (.agg #[.int .u32 r.a, .int .u32 r.b, .int .u32 r.c, .int .u32 r.d, .int .u32 r.e, .int .u32 r.f, .int .u32 r.g, .int .u32 r.h]) (.int .i64 4)).run Tryd.prog W = .ok (.int .u32 r.e) W := by kernel_rfl
  have h5 : (Instr.index 45 (.agg #[.int .u32 r.a, .int .u32 r.b, .int .u32 r.c, .int .u32 r.d, .int .u32 r.e, .int .u32 r.f, .int .u32 r.g, .int .u32 r.h]) (.int .i64 5)).run Tryd.prog W = .ok (.int .u32 r.f) W := by kernel_rfl
  have h6 : (Instr.index 45 (.agg #[.int .u32 r.a, .int .u32 r.b, .int .u32 r.c, .int .u32 r.d, .int .u32 r.e, .int .u32 r.f, .int .u32 r.g, .int .u32 r.h]) (.int .i64 6)).run Tryd.prog W = .ok (.int .u32 r.g) W := by kernel_rfl
  have h7 : (Instr.index 45 (.agg #[.int .u32 r.a, .int .u32 r.b, .int .u32 r.c, .int .u32 r.d, .int .u32 r.e, .int .u32 r.f, .int .u32 r.g, .int .u32 r.h]) (.int .i64 7)).run Tryd.prog W = .ok (.int .u32 r.h) W := by kernel_rfl
  have : n = 0 ∨ n = 1 ∨ n = 2 ∨ n = 3 ∨ n = 4 ∨ n = 5 ∨ n = 6 ∨ n = 7 := by omega
  rcases this with rfl | rfl | rfl | rfl | rfl | rfl | rfl | rfl
  · exact h0
  · exact h1
  · exact h2
  · exact h3
  · exact h4
  · exact h5
  · exact h6
  · exact h7

set_option maxHeartbeats 1000000 in
set_option maxRecDepth 100000 in
theorem mixed_walk (s : St) (bs ws : List Int) (hl : bs.length = 64) (hr : ∀ x ∈ bs, 0 ≤ x ∧ x ≤ 255) (hws : sched bs = ws) (hwl : ws.length = 64) (w : World) (hT : Tabs w) :
    Calls Tryd.prog 27 #[.agg (nums .u32 s.l), .agg (nums .u8 bs)] w fun e w' => e = .returned (.agg (nums .u32 (s.plus (rounds s ws 64)).l)) ∧ Below w.heap.size w w' := by
  obtain ⟨wB, hwB⟩ : ∃ x, x = ((w.alloc (.cells (nums .u32 s.l) 45)).alloc (.cells (nums .u8 bs) 47)).alloc (.cells (nums .u32 (List.replicate 8 0)) 45) := ⟨_, rfl⟩
  have hB1 : Arr wB (w.heap.size + 1) .u8 47 bs := by
    have h := (Arr.new (w.alloc (.cells (nums .u32 s.l) 45)) .u8 47 bs).alloc (.cells (nums .u32 (List.replicate 8 0)) 45)
    rw [World.size_alloc, ← hwB] at h
    exact h
  have hB0 : Arr wB w.heap.size .u32 45 s.l := by
    have h := ((Arr.new w .u32 45 s.l).alloc (.cells (nums .u8 bs) 47)).alloc (.cells (nums .u32 (List.replicate 8 0)) 45)
    rw [← hwB] at h
    exact h
  have hB2 : Arr wB (w.heap.size + 1 + 1) .u32 45 (List.replicate 8 0) := by
    have h := Arr.new ((w.alloc (.cells (nums .u32 s.l) 45)).alloc (.cells (nums .u8 bs) 47)) .u32 45 (List.replicate 8 0)
    rw [World.size_alloc, World.size_alloc, ← hwB] at h
    exact h
  have hbB : Below w.heap.size w wB := by
    rw [hwB]
    exact (((Below.refl _ w).alloc (Nat.le_refl _) _).alloc (by simp) _).alloc (by simp; omega) _
  have hszB : wB.heap.size = w.heap.size + 1 + 1 + 1 := by rw [hwB]; simp
  have hcall := schedule_any bs hl hr wB
  rw [hws] at hcall
  clear hws hr
  have hrep : nums .u32 (List.replicate 8 0) = #[Value.int .u32 0, Value.int .u32 0, Value.int .u32 0, Value.int .u32 0, Value.int .u32 0, Value.int .u32 0, Value.int .u32 0, Value.int .u32 0] := rfl
  rw [hrep] at hwB
  have HW : Hid (wB = ((w.alloc (.cells (nums .u32 s.l) 45)).alloc (.cells (nums .u8 bs) 47)).alloc (.cells #[Value.int .u32 0, Value.int .u32 0, Value.int .u32 0, Value.int .u32 0, Value.int .u32 0, Value.int .u32 0, Value.int .u32 0, Value.int .u32 0] 45)) := hwB
  clear hwB hrep
  go_enter Tryd.func27, Tryd.ntmps27
  go_wp2_with (first
    | (rw [← HW.out]; refine law_load rfl 47 _ rfl _ rfl .u8 47 bs hB1 64 5 Tryd.underlying47 (by rw [hl]; kernel_rfl) ?_)
    | (go_at_call 32; refine hcall.mono ?_; rintro e w1 ⟨rfl, hb1⟩)
    | (refine law_store rfl 57 _ _ rfl _ .u32 ws rfl rfl 57 _ (zero57 w1) (by simp [hwl]) (by rw [hwl]; kernel_rfl) ?_; intro w2 ho2 hA2))
  have hsz1 := hb1.size
  have hC0 : Arr w2 w.heap.size .u32 45 s.l := ((hB0.next hb1).alloc _).on ho2 (by omega)
  have hC2 : Arr w2 (w.heap.size + 1 + 1) .u32 45 (List.replicate 8 0) := ((hB2.next hb1).alloc _).on ho2 (by omega)
  have hbC : Below w.heap.size w w2 := ho2.below ((hbB.trans (hb1.mono (by omega))).alloc (by omega) _) (by omega)
  have hTC : Tabs w2 := hT.later hbC hT.sz
  clear hcall HW hB0 hB1 hB2 hbB ho2 hb1
  have k0 : w2.cell? ⟨w.heap.size, 0, none⟩ = some (.int .u32 s.a) := hC0.cell 0 (by simp [St.l])
  have k1 : w2.cell? ⟨w.heap.size, 1, none⟩ = some (.int .u32 s.b) := hC0.cell 1 (by simp [St.l])
  have k2 : w2.cell? ⟨w.heap.size, 2, none⟩ = some (.int .u32 s.c) := hC0.cell 2 (by simp [St.l])
  have k3 : w2.cell? ⟨w.heap.size, 3, none⟩ = some (.int .u32 s.d) := hC0.cell 3 (by simp [St.l])
  have k4 : w2.cell? ⟨w.heap.size, 4, none⟩ = some (.int .u32 s.e) := hC0.cell 4 (by simp [St.l])
  have k5 : w2.cell? ⟨w.heap.size, 5, none⟩ = some (.int .u32 s.f) := hC0.cell 5 (by simp [St.l])
  have k6 : w2.cell? ⟨w.heap.size, 6, none⟩ = some (.int .u32 s.g) := hC0.cell 6 (by simp [St.l])
  have k7 : w2.cell? ⟨w.heap.size, 7, none⟩ = some (.int .u32 s.h) := hC0.cell 7 (by simp [St.l])
  go_wp2_with fail
  go_quiet (fail)
  clear k0 k1 k2 k3 k4 k5 k6 k7
  go_wp2_with fail
  go_loopw [6, 7, 8, 9, 10, 11, 12, 13, 37] (fun xa xb xc xd xe xf xg xh i wr => ∃ t : Nat, t ≤ 64 ∧ i = .int .i64 t ∧ xa = .int .u32 (rounds s ws t).a ∧ xb = .int .u32 (rounds s ws t).b ∧ xc = .int .u32 (rounds s ws t).c ∧ xd = .int .u32 (rounds s ws t).d ∧ xe = .int .u32 (rounds s ws t).e ∧ xf = .int .u32 (rounds s ws t).f ∧ xg = .int .u32 (rounds s ws t).g ∧ xh = .int .u32 (rounds s ws t).h ∧ Arr wr w.heap.size .u32 45 s.l ∧ Arr wr (w.heap.size + 1 + 1) .u32 45 (List.replicate 8 0) ∧ Arr wr w1.heap.size .u32 57 ws ∧ Tabs wr ∧ Below w.heap.size w wr) (fun _ _ _ _ _ _ _ _ i _ => 64 - (intOf i).toNat)
  case atStart => exact ⟨0, by omega, rfl, rfl, rfl, rfl, rfl, rfl, rfl, rfl, rfl, hC0, hC2, hA2, ⟨hTC.k, hTC.h, hTC.sz⟩, ⟨hbC.os, hbC.tape, hbC.output, hbC.size, hbC.block⟩⟩
  case round =>
    obtain ⟨t, ht, rfl, rfl, rfl, rfl, rfl, rfl, rfl, rfl, rfl, hD0, hD2, hD5, hTD, hbD⟩ := hrel
    by_cases hlt : t < 64
    · have ck := hTD.k t hlt
      have cw := hD5.cell t (by omega)
      obtain ⟨kt, ek⟩ : ∃ x, x = kTab.getD t 0 := ⟨_, rfl⟩
      obtain ⟨wt, ew⟩ : ∃ x, x = ws.getD t 0 := ⟨_, rfl⟩
      rw [← ek] at ck
      rw [← ew] at cw
      have b0 : (0 : Int) ≤ (t : Int) := by omega
      have b1 : (t : Int) < 64 := by omega
      have hrs : Hid (rounds s ws (t + 1) = rnd (rounds s ws t) kt wt) := by rw [ek, ew]; exact rfl
      clear ek ew
      obtain ⟨r, er⟩ : ∃ x, x = rounds s ws t := ⟨_, rfl⟩
      rw [← er]
      rw [← er] at hrs
      clear er
      go_wp2_with fail
      go_quiet ((first | (go_at_call 33; exact Calls.quiet_of_same ((bigS1_any _ _).mono (fun e w' h => ⟨h.1, h.2.symm⟩))) | (go_at_call 34; exact Calls.quiet_of_same ((choice_any _ _ _ _).mono (fun e w' h => ⟨h.1, h.2.symm⟩)))))
      go_wp2_with (first | (go_at_call 35; refine (bigS0_any _ _).mono ?_; rintro e w' ⟨rfl, rfl⟩) | (go_at_call 36; refine (majority_any _ _ _ _).mono ?_; rintro e w' ⟨rfl, rfl⟩))
      refine ⟨⟨t + 1, by omega, by go_num, ?_⟩, by simp [intOf]; omega⟩
      rw [hrs.out]
      exact ⟨rfl, rfl, rfl, rfl, rfl, rfl, rfl, rfl, hD0, hD2, hD5, ⟨hTD.k, hTD.h, hTD.sz⟩, ⟨hbD.os, hbD.tape, hbD.output, hbD.size, hbD.block⟩⟩
    · have ht64 : t = 64 := by omega
      subst ht64
      rw [show ((64 : Nat) : Int) = 64 from rfl]
      obtain ⟨R, eR⟩ : ∃ x, x = rounds s ws 64 := ⟨_, rfl⟩
      rw [← eR]
      have HR : Hid (R = rounds s ws 64) := eR
      clear eR
      have hix := index45 R
      go_wp2_with fail
      go_loopw [86] (fun i wr => ∃ j : Nat, j ≤ 8 ∧ i = .int .i64 j ∧ Arr wr w.heap.size .u32 45 (psum s R j) ∧ Arr wr (w.heap.size + 1 + 1) .u32 45 (List.replicate 8 0) ∧ Below w.heap.size w wr) (fun i _ => 8 - (intOf i).toNat)
      case atStart => exact ⟨0, by omega, rfl, hD0, hD2, hbD⟩
      case round =>
        obtain ⟨j, hj, rfl, hE0, hE2, hbE⟩ := hrel
        by_cases hlj : j < 8
        · have hx := hix j hlj
          have hc := hE0.cell j (by rw [psum_length _ _ _ hj]; exact hlj)
          have hf := hE0.fz j
          have hst := psum_step s R j hlj
          obtain ⟨x, ex⟩ : ∃ x, x = R.l.getD j 0 := ⟨_, rfl⟩
          obtain ⟨y, ey⟩ : ∃ y, y = (psum s R j).getD j 0 := ⟨_, rfl⟩
          rw [← ex] at hx hst
          rw [← ey] at hc hst
          obtain ⟨p, ep⟩ : ∃ x, x = psum s R j := ⟨_, rfl⟩
          obtain ⟨q, eq⟩ : ∃ x, x = psum s R (j + 1) := ⟨_, rfl⟩
          rw [← ep] at hst hE0
          rw [← eq] at hst
          have HQ : Hid (q = psum s R (j + 1)) := eq
          have HS : Hid (p.set j ((y + x) % 4294967296) = q) := hst
          have HE : Hid (Arr wr w.heap.size .u32 45 p) := hE0
          clear ex ey hst hE0 hix ep eq
          go_wp2
          refine ⟨⟨j + 1, by omega, by go_num, ?_, hE2.beside _ (by simp; omega), hbE.setCell (by simp) _⟩, by simp [intOf]; omega⟩
          have := HE.out.set j ((y + x) % 4294967296)
          rw [HS.out, HQ.out] at this
          exact this
        · have hj8 : j = 8 := by omega
          subst hj8
          have hE0' : Arr wr w.heap.size .u32 45 (s.plus R).l := hE0
          clear hix
          go_wp2_with (first | (refine law_load rfl 45 _ rfl _ rfl .u32 45 _ hE0' 8 44 Tryd.underlying45 (by kernel_rfl) ?_) | (refine law_store rfl 45 _ _ rfl _ .u32 (s.plus R).l rfl rfl 45 _ hE2 (by rfl) (by kernel_rfl) ?_; intro wF hoF hAF))
          refine bodyPost_ret (v := .agg (nums .u32 (s.plus R).l)) (results_cell_row rfl _ _ (w.heap.size + 1 + 1) 45 _ _ _ rfl hAF Tryd.underlying45 rfl (by rw [nums_size]; kernel_rfl)) rfl ⟨by rw [← HR.out], hoF.below hbE (by omega)⟩

theorem mixed_any (s : St) (bs : List Int) (hl : bs.length = 64) (hr : ∀ x ∈ bs, 0 ≤ x ∧ x ≤ 255) (w : World) (hT : Tabs w) :
    Calls Tryd.prog 27 #[.agg (nums .u32 s.l), .agg (nums .u8 bs)] w fun e w' => e = .returned (.agg (nums .u32 (mix s bs).l)) ∧ Below w.heap.size w w' :=
  mixed_walk s bs (sched bs) hl hr rfl (sched_length bs) w hT
end Go.Proofs.YtmnembhcfkcmnaaDoor
