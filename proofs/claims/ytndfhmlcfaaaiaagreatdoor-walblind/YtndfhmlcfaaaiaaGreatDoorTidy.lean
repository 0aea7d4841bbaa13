/- An empty log on a disk of a place that may be. -/
import Derived.Test.YtndfhmlcfaaaiaaGreatDoorFrame8
namespace Go.Proofs.YtndfhmlcfaaaiaaGreatDoor
open Go.RowKit

/-- A number from 0 to 19. -/
def td (l : Int) : Nat := ((l.tmod 20 + 20).tmod 20).toNat
theorem td_lt (l : Int) : td l < 20 := by
  unfold td
  have h1 := Int.tmod_lt_of_pos (l.tmod 20 + 20) (show (0 : Int) < 20 by decide)
  omega
theorem tm_bounds (l : Int) : -20 < l.tmod 20 ∧ l.tmod 20 < 20 := by
  refine ⟨?_, Int.tmod_lt_of_pos l (by decide)⟩
  rcases Int.le_total 0 l with h | h
  · have := Int.tmod_nonneg 20 h; omega
  · have h1 := Int.tmod_lt_of_pos (-l) (show (0 : Int) < 20 by decide)
    rw [Int.neg_tmod] at h1
    omega
theorem td_eq (l : Int) : ((td l : Nat) : Int) = (l.tmod 20 + 20).tmod 20 := by
  unfold td
  have h := tm_bounds l
  have h1 := Int.tmod_nonneg 20 (show 0 ≤ l.tmod 20 + 20 by omega)
  omega
def tL (l : Int) : Nat := 3 + td l
def tN (s l : Int) : Nat := 3 + tL l + td s
theorem tL_def (l : Int) : tL l = 3 + td l := rfl
theorem tN_def (s l : Int) : tN s l = 3 + tL l + td s := rfl
set_option maxRecDepth 100000 in
set_option maxHeartbeats 600000 in
theorem tidy_any (w : World) (s l : Int) : Calls Tryz.prog 13 #[.agg #[.int .i64 s, .int .i64 l]] w fun e w' => e = .returned (.tuple #[.int .i64 (tL l : Int), .int .i64 (tN s l : Int)]) ∧ Below w.heap.size w w' := by
  have hO := Blk.new w 59 [.int .i64 s, .int .i64 l]
  have kb : Below w.heap.size w (w.alloc (.cells ([.int .i64 s, .int .i64 l] : List Value).toArray 59)) := (Below.refl w.heap.size w).alloc (Nat.le_refl _) _
  have c0 := hO.cell 0 _ rfl
  have c1 := hO.cell 1 _ rfl
  obtain ⟨a, ha⟩ : ∃ a, a = l.tmod 20 := ⟨_, rfl⟩
  obtain ⟨a2, ha2⟩ : ∃ a, a = s.tmod 20 := ⟨_, rfl⟩
  have hb := td_eq l
  have hb2 := td_eq s
  have hab := tm_bounds l
  have hab2 := tm_bounds s
  rw [← ha] at hb hab
  rw [← ha2] at hb2 hab2
  have hl1 := td_lt l
  have hl2 := td_lt s
  obtain ⟨L, hL⟩ : ∃ L, L = tL l := ⟨_, rfl⟩
  obtain ⟨M, hM⟩ : ∃ M, M = tN s l := ⟨_, rfl⟩
  have hLe : L = 3 + td l := hL
  have hMe : M = 3 + L + td s := by rw [hM, hL]; rfl
  rw [← hL, ← hM]
  have e0 : IntKind.i64.wrap a = a := by rw [IntKind.wrap_i64]; omega
  have e1 : IntKind.i64.wrap (a + 20) = a + 20 := by rw [IntKind.wrap_i64]; omega
  have e2 : (a + 20).tmod 20 = ((td l : Nat) : Int) := hb.symm
  have e3 : IntKind.i64.wrap (3 + ((td l : Nat) : Int)) = (L : Int) := by rw [IntKind.wrap_i64]; omega
  have e4 : IntKind.i64.wrap a2 = a2 := by rw [IntKind.wrap_i64]; omega
  have e5 : IntKind.i64.wrap (a2 + 20) = a2 + 20 := by rw [IntKind.wrap_i64]; omega
  have e6 : (a2 + 20).tmod 20 = ((td s : Nat) : Int) := hb2.symm
  have e7 : IntKind.i64.wrap (2 + (L : Int)) = 2 + (L : Int) := by rw [IntKind.wrap_i64]; omega
  have e8 : IntKind.i64.wrap (2 + (L : Int) + 1) = 2 + (L : Int) + 1 := by rw [IntKind.wrap_i64]; omega
  have e9 : IntKind.i64.wrap (2 + (L : Int) + 1 + ((td s : Nat) : Int)) = (M : Int) := by rw [IntKind.wrap_i64]; omega
  have e10 : IntKind.i64.wrap ((td l : Nat) : Int) = ((td l : Nat) : Int) := by rw [IntKind.wrap_i64]; omega
  have e11 : IntKind.i64.wrap ((td s : Nat) : Int) = ((td s : Nat) : Int) := by rw [IntKind.wrap_i64]; omega
  have f1 : l.tmod 20 = a := ha.symm
  have f2 : s.tmod 20 = a2 := ha2.symm
  clear hb hb2 hab hab2 hl1 hl2 hL hM hLe hMe ha ha2
  go_enter Tryz.func13, Tryz.ntmps13
  go_wp2_with fail
  go_quiet (fail)
  go_wp2_with fail
  go_ret2
  exact ⟨rfl, ⟨kb.os, kb.tape, kb.output, kb.size, kb.block⟩⟩
set_option maxRecDepth 100000 in
set_option maxHeartbeats 600000 in
/-- 'begun'. -/
theorem begun_any (B : Nat) (w v : World) (s l : Int) (hB : B ≤ v.heap.size) (h2 : 2 ≤ B) (hT : Tabs v) (hbl : Below B w v) :
    Calls Tryz.prog 14 #[.agg #[.int .i64 s, .int .i64 l]] v fun e v' => ∃ q r mm f m cap x d, e = .returned (.tuple #[.pointer (some ⟨r, 0, none⟩), .pointer (some ⟨q, 0, none⟩)]) ∧ LB B w v' q r mm f m cap x d ∧ Lv d x 2 (fun _ => zp) ∧ Wk d 2 ∧ x.L = tL l ∧ x.H = td s + 1 ∧ d.armed = 0 ∧ Below v.heap.size v v' ∧ (∀ k, fp r f m k → v.heap.size ≤ k) ∧ (∀ k, lp q mm k → v.heap.size ≤ k) := by
  have hO := Blk.new v 59 [.int .i64 s, .int .i64 l]
  have kb : Below v.heap.size v (v.alloc (.cells ([.int .i64 s, .int .i64 l] : List Value).toArray 59)) := (Below.refl v.heap.size v).alloc (Nat.le_refl _) _
  have hT1 := hT.next kb
  have hl1 := td_lt l
  have hl2 := td_lt s
  have hl3 := tL_def l
  have hl4 := tN_def s l
  have htd := fun W => tidy_any W s l
  obtain ⟨L, hL⟩ : ∃ L, L = tL l := ⟨_, rfl⟩
  obtain ⟨M, hM⟩ : ∃ M, M = tN s l := ⟨_, rfl⟩
  rw [← hL, ← hM] at htd
  rw [← hL, ← hM] at hl4
  rw [← hL] at hl3
  obtain ⟨H, hH⟩ : ∃ H, H = td s + 1 := ⟨_, rfl⟩
  have hMe : M = 2 + L + H := by omega
  have HME : Hid (M = 2 + L + H) := hMe
  rw [← hL, ← hH]
  have b1 : 3 ≤ L := by omega
  have b2 : L ≤ 4000 := by omega
  have b3 : 1 ≤ H := by omega
  have b4 : H ≤ 16384 := by omega
  have hb1 := hbl.trans (kb.mono hB)
  obtain ⟨C, hC⟩ : ∃ C, C = v.heap.size := ⟨_, rfl⟩
  have hCB : B ≤ C := by omega
  have hnew := fun (u : World) (hu : C ≤ u.heap.size) (hTu : Tabs u) (hb : Below C v u) => new_b M v u C hu (by omega) hTu hb (by omega) (by omega)
  have hfmt := fun (u : World) (r f m cap : Nat) (h : DB C v u r f m cap (St.start M fun _ => zs)) => format_b C v u r f m cap L H _ h b1 b2 b3 b4 (by rw [hMe])
  have hop := fun (u : World) (r f m cap : Nat) (d : St) (h : DB C v u r f m cap d) (hR : Rs d L H 1 fun _ => zp) (hW : Wk d 1) (ha : d.armed = 0) => open_sure C v u r f m cap d L H 1 _ h hR hW (by omega) b1 b2 b3 b4 ha
  have hM2 : (M : Int) - 2 = ((L + H : Nat) : Int) := by omega
  have hM3 : ((L + H : Nat) : Int) - (L : Int) = (H : Int) := by omega
  have w1 : IntKind.i64.wrap ((L + H : Nat) : Int) = ((L + H : Nat) : Int) := by rw [IntKind.wrap_i64]; omega
  have w2 : IntKind.i64.wrap (H : Int) = (H : Int) := by rw [IntKind.wrap_i64]; omega
  have w0 : IntKind.i64.wrap ((M : Int) - 2) = (M : Int) - 2 := by rw [IntKind.wrap_i64]; omega
  have w3 : IntKind.i64.wrap ((M : Int) - 2 - (L : Int)) = (H : Int) := by rw [IntKind.wrap_i64]; omega
  rw [← hC] at kb hO ⊢
  have hs1 : C ≤ (v.alloc (.cells ([.int .i64 s, .int .i64 l] : List Value).toArray 59)).heap.size := by rw [hC]; exact kb.size
  have HC : Hid (C = v.heap.size) := hC
  clear hC hl1 hl2 hl3 hl4 hL hM hH hM2 hM3 hT hMe
  go_enter Tryz.func14, Tryz.ntmps14
  go_upto_region 1 with fail
  rw [← HC.out]
  obtain ⟨u0, hu0⟩ : ∃ u, u = v.alloc (.cells ([.int .i64 s, .int .i64 l] : List Value).toArray 59) := ⟨_, rfl⟩
  rw [← hu0] at hO hT1 kb hb1 hs1 ⊢
  clear hu0
  go_wp2_with (first
    | (refine wpList_load_mid rfl 59 _ rfl C 0 rfl [.int .i64 s, .int .i64 l] _ hO.whole Tryz.underlying59 rfl (by kernel_rfl) ?_)
    | (go_at_call 13; refine (htd _).mono ?_; rintro e u1 ⟨rfl, k1⟩
       have hb2 := kb.trans (k1.mono hs1)
       have hs2 := Nat.le_trans hs1 k1.size)
    | (go_at_call 22; refine (hnew u1 hs2 (hT1.next k1) hb2).mono ?_; rintro e u2 ⟨r, f, m, cap, rfl, k2, hr, hD2⟩)
    | (go_at_call 23; refine (hfmt u2 r f m cap hD2).mono ?_; rintro e u3 ⟨rfl, m3, d3, hm3, hF3, hD3, hR3, hW3, ha3⟩)
    | (go_at_call 17; refine (hop u3 r f m3 cap d3 hD3 hR3 hW3 ha3).mono ?_; rintro e u4 ⟨q, mm, m4, x4, d4, rfl, hm4, hF4, hW4, hL4, hV4, hxL, hxH, ha4, hq4, hmm4⟩)
    | (go_at_call 24; refine (pages_any u4 q r mm x4 hL4.dl.l hV4.alive).mono ?_; rintro e u5 ⟨rfl, rfl⟩; rw [hxH]))
  go_ret2
  exact ⟨q, r, mm, f, m4, cap, x4, d4, rfl, ⟨hL4.dl, fun j hj => Nat.le_trans hCB (hL4.fpB j hj), fun j hj => Nat.le_trans hCB (hL4.lpB j hj), hbl.trans (hL4.below.mono hCB), h2⟩, hV4, hW4, hxL, hxH, ha4, hL4.below, hL4.fpB, hL4.lpB⟩
end Go.Proofs.YtndfhmlcfaaaiaaGreatDoor
