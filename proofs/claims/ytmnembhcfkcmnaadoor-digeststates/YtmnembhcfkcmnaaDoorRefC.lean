/- What a block makes of eight words, as the document's answer has it. -/
import Derived.Test.YtmnembhcfkcmnaaDoorRefB
import Derived.Deep.RegionHeld3
import Derived.BigRegion
namespace Go.Proofs.YtmnembhcfkcmnaaDoor
open Go.RowKit

theorem rnd_ref (r : St) (k x : Int) : rnd r k x = ⟨(t1 r k x + bs0 r.a + mjr r.a r.b r.c) % 4294967296, r.a, r.b, r.c, (r.d + t1 r k x) % 4294967296, r.e, r.f, r.g⟩ := by
  unfold rnd t2
  have : (t1 r k x + (bs0 r.a + mjr r.a r.b r.c) % 4294967296) % 4294967296 = (t1 r k x + bs0 r.a + mjr r.a r.b r.c) % 4294967296 := by omega
  rw [this]

set_option maxHeartbeats 2000000 in
set_option maxRecDepth 100000 in
theorem step_walk (s : St) (ad : Addr) (c : Nat) (bs ws : List Int) (hwl : ws.length = 64) (w : World) (hs : Shows w (some ad) 64 bs)
    (hcall : ∀ w1 : World, Shows w1 (some ad) 64 bs → Calls Tryd.prog 29 #[.slice (some ad) 64 c] w1 fun e w' => e = .returned (.agg (nums .u32 ws)) ∧ Below w1.heap.size w1 w') :
    Calls Tryd.prog 22 #[.agg (nums .u32 s.l), .slice (some ad) 64 c] w fun e w' => e = .returned (.agg (nums .u32 (s.plus (rounds s ws 64)).l)) ∧ Below w.heap.size w w' := by
  have hB2 : Arr ((w.alloc (.cells (nums .u32 s.l) 45)).alloc (.cells (nums .u32 (List.replicate 8 0)) 45)) w.heap.size .u32 45 s.l := (Arr.new w .u32 45 s.l).alloc _
  have hB4 : Arr ((w.alloc (.cells (nums .u32 s.l) 45)).alloc (.cells (nums .u32 (List.replicate 8 0)) 45)) (w.heap.size + 1) .u32 45 (List.replicate 8 0) := by
    have h := Arr.new (w.alloc (.cells (nums .u32 s.l) 45)) .u32 45 (List.replicate 8 0)
    rw [World.size_alloc] at h
    exact h
  have hbB : Below w.heap.size w ((w.alloc (.cells (nums .u32 s.l) 45)).alloc (.cells (nums .u32 (List.replicate 8 0)) 45)) := ((Below.refl _ w).alloc (Nat.le_refl _) _).alloc (by simp) _
  have hcB := hcall _ (hs.later hbB)
  clear hcall
  go_enter Tryd.func22, Tryd.ntmps22
  go_wp2_with (first
    | (go_at_call 29; refine hcB.mono ?_; rintro e w1 ⟨rfl, hb1⟩; have hC2 := hB2.next hb1; have hC4 := hB4.next hb1; have hbC := hbB.trans (hb1.mono hbB.size))
    | (refine law_store rfl 57 _ _ rfl w1.heap.size .u32 ws rfl rfl 57 _ (Arr.new w1 .u32 57 (List.replicate 64 0)) (by simp [hwl]) (by rw [hwl]; kernel_rfl) ?_; intro w2 ho2 hD5; have hlt1 := hC2.lt; have hlt4 := hC4.lt; have hD2 := (hC2.alloc (.cells (nums .u32 (List.replicate 64 0)) 57)).on ho2 (by omega); have hD4 := (hC4.alloc (.cells (nums .u32 (List.replicate 64 0)) 57)).on ho2 (by omega); have hbD : Below w.heap.size w w2 := ho2.below (hbC.alloc hbC.size _) hbC.size)
    | (refine law_load rfl 45 _ rfl _ rfl .u32 45 _ hD2 8 44 Tryd.underlying45 (by kernel_rfl) ?_)
    | (refine law_store rfl 45 _ _ rfl w2.heap.size .u32 s.l rfl rfl 45 _ (Arr.new w2 .u32 45 (List.replicate 8 0)) (by simp [St.l]) (by kernel_rfl) ?_; intro w3 ho3 hE6))
  have hz5 := hD5.lt
  have hE2 : Arr w3 w.heap.size .u32 45 s.l := (hD2.alloc _).on ho3 (by omega)
  have hE4 : Arr w3 (w.heap.size + 1) .u32 45 (List.replicate 8 0) := (hD4.alloc _).on ho3 (by omega)
  have hE5 : Arr w3 w1.heap.size .u32 57 ws := (hD5.alloc _).on ho3 (by omega)
  have hbE : Below w.heap.size w w3 := ho3.below (hbD.alloc hbD.size _) hbD.size
  obtain ⟨g5, eg5⟩ : ∃ g, g = w1.heap.size := ⟨_, rfl⟩
  obtain ⟨g6, eg6⟩ : ∃ g, g = w2.heap.size := ⟨_, rfl⟩
  rw [← eg5] at hE5
  rw [← eg6] at hE6
  rw [← eg5, ← eg6]
  have n5 : w.heap.size + 1 < g5 := by omega
  have n6 : g5 < g6 := by omega
  clear eg5 eg6 hD2 hD4 hD5 hbD hC2 hC4 hbC hB2 hB4 hbB hcB ho2 ho3 hb1 hz5 hlt1 hlt4 hs
  go_loopw [7] (fun i wr => ∃ t : Nat, t ≤ 64 ∧ i = .int .i64 t ∧ Arr wr w.heap.size .u32 45 s.l ∧ Arr wr (w.heap.size + 1) .u32 45 (List.replicate 8 0) ∧ Arr wr g5 .u32 57 ws ∧ Arr wr g6 .u32 45 (rounds s ws t).l ∧ Below w.heap.size w wr) (fun i _ => 64 - (intOf i).toNat)
  case atStart => exact ⟨0, by omega, rfl, hE2, hE4, hE5, hE6, hbE⟩
  case round =>
    obtain ⟨t, ht, rfl, hF2, hF4, hF5, hF6, hbF⟩ := hrel
    clear hE2 hE4 hE5 hE6 hbE
    by_cases hlt : t < 64
    · have cw := hF5.cell t (by omega)
      obtain ⟨wt, ew⟩ : ∃ x, x = ws.getD t 0 := ⟨_, rfl⟩
      obtain ⟨kt, ek⟩ : ∃ x, x = kTab.getD t 0 := ⟨_, rfl⟩
      rw [← ew] at cw
      have hrs : Hid (rounds s ws (t + 1) = rnd (rounds s ws t) kt wt) := by rw [ek, ew]; exact rfl
      have hcc : ∀ W : World, _ := fun W => constant_any t hlt W
      rw [← ek] at hcc
      obtain ⟨r, er⟩ : ∃ x, x = rounds s ws t := ⟨_, rfl⟩
      rw [← er] at hrs hF6
      rw [rnd_ref] at hrs
      have t0 : (0 : Int) ≤ (t : Int) := by omega
      have t64 : (t : Int) < 64 := by omega
      have k0 : wr.cell? ⟨g6, 0, none⟩ = some (.int .u32 r.a) := hF6.cell 0 (by simp [St.l])
      have k1 : wr.cell? ⟨g6, 1, none⟩ = some (.int .u32 r.b) := hF6.cell 1 (by simp [St.l])
      have k2 : wr.cell? ⟨g6, 2, none⟩ = some (.int .u32 r.c) := hF6.cell 2 (by simp [St.l])
      have k3 : wr.cell? ⟨g6, 3, none⟩ = some (.int .u32 r.d) := hF6.cell 3 (by simp [St.l])
      have k4 : wr.cell? ⟨g6, 4, none⟩ = some (.int .u32 r.e) := hF6.cell 4 (by simp [St.l])
      have k5 : wr.cell? ⟨g6, 5, none⟩ = some (.int .u32 r.f) := hF6.cell 5 (by simp [St.l])
      have k6 : wr.cell? ⟨g6, 6, none⟩ = some (.int .u32 r.g) := hF6.cell 6 (by simp [St.l])
      have k7 : wr.cell? ⟨g6, 7, none⟩ = some (.int .u32 r.h) := hF6.cell 7 (by simp [St.l])
      have f6 := hF6.fz
      have hbs1 : bits .xor .u32 (bits .xor .u32 (rr 6 r.e) (rr 11 r.e)) (rr 25 r.e) = bs1 r.e := rfl
      have hbs0 : bits .xor .u32 (bits .xor .u32 (rr 2 r.a) (rr 13 r.a)) (rr 22 r.a) = bs0 r.a := rfl
      have hch : bits .xor .u32 (bits .and .u32 r.e r.f) (bits .and .u32 (bits .xor .u32 IntKind.u32.max r.e) r.g) = chc r.e r.f r.g := rfl
      have hmj : bits .xor .u32 (bits .xor .u32 (bits .and .u32 r.a r.b) (bits .and .u32 r.a r.c)) (bits .and .u32 r.b r.c) = mjr r.a r.b r.c := rfl
      have H2 : Hid (Arr wr w.heap.size .u32 45 s.l) := hF2
      have H4 : Hid (Arr wr (w.heap.size + 1) .u32 45 (List.replicate 8 0)) := hF4
      have H5 : Hid (Arr wr g5 .u32 57 ws) := hF5
      have H6 : Hid (Arr wr g6 .u32 45 r.l) := hF6
      have Hb : Hid (Below w.heap.size w wr) := hbF
      clear ew ek er hF2 hF4 hF5 hF6 hbF
      go_wp2_with (go_at_call 30; refine (refRotr_any _ _ _ (by decide) (by decide)).mono ?_; rintro e w' ⟨rfl, rfl⟩)
      obtain ⟨wA, eA⟩ : ∃ x, x = wr.drew.drew.drew := ⟨_, rfl⟩
      have I2 : Arr wA w.heap.size .u32 45 s.l := by rw [eA]; exact H2.out
      have I4 : Arr wA (w.heap.size + 1) .u32 45 (List.replicate 8 0) := by rw [eA]; exact H4.out
      have I5 : Arr wA g5 .u32 57 ws := by rw [eA]; exact H5.out
      have I6 : Arr wA g6 .u32 45 r.l := by rw [eA]; exact H6.out
      have Ib : Below w.heap.size w wA := by rw [eA]; exact Hb.out.drew.drew.drew
      have cA : wA.cell? ⟨g5, t, none⟩ = some (.int .u32 wt) := by rw [eA]; exact cw
      have kA : wA.cell? ⟨g6, 7, none⟩ = some (.int .u32 r.h) := by rw [eA]; exact k7
      rw [← eA]
      have hcA := hcc wA.drew
      clear eA H2 H4 H5 H6 Hb cw k0 k1 k2 k3 k4 k5 k6 k7 f6 hcc hbs1 hch
      have HI2 : Hid (Arr wA w.heap.size .u32 45 s.l) := I2
      have HI4 : Hid (Arr wA (w.heap.size + 1) .u32 45 (List.replicate 8 0)) := I4
      have HI5 : Hid (Arr wA g5 .u32 57 ws) := I5
      have HI6 : Hid (Arr wA g6 .u32 45 r.l) := I6
      have HIb : Hid (Below w.heap.size w wA) := Ib
      clear I2 I4 I5 I6 Ib
      go_region_held3 (fun w' => w'.cell? ⟨g6, 7, none⟩ = some (.int .u32 r.h) ∧ w'.cell? ⟨g5, t, none⟩ = some (.int .u32 wt)) (first | exact ⟨cell_later hbB kA, cell_later hbB cA⟩ | go_keep) ((first | (go_at_call 31; refine hcA.mono ?_; rintro e wB ⟨rfl, hbB⟩)))
      have J2 : Arr wB w.heap.size .u32 45 s.l := Arr.next (w := wA.drew) HI2.out hbB
      have J4 : Arr wB (w.heap.size + 1) .u32 45 (List.replicate 8 0) := Arr.next (w := wA.drew) HI4.out hbB
      have J5 : Arr wB g5 .u32 57 ws := Arr.next (w := wA.drew) HI5.out hbB
      have J6 : Arr wB g6 .u32 45 r.l := Arr.next (w := wA.drew) HI6.out hbB
      have Jb : Below w.heap.size w wB := HIb.out.drew.trans (hbB.mono HIb.out.drew.size)
      have m0 : wB.cell? ⟨g6, 0, none⟩ = some (.int .u32 r.a) := J6.cell 0 (by simp [St.l])
      have HJ2 : Hid (Arr wB w.heap.size .u32 45 s.l) := J2
      have HJ4 : Hid (Arr wB (w.heap.size + 1) .u32 45 (List.replicate 8 0)) := J4
      have HJ5 : Hid (Arr wB g5 .u32 57 ws) := J5
      have HJ6 : Hid (Arr wB g6 .u32 45 r.l) := J6
      have HJb : Hid (Below w.heap.size w wB) := Jb
      clear HI2 HI4 HI5 HI6 HIb cA kA hbB J2 J4 J5 J6 Jb hcA
      go_wp2_with fail
      go_region_held3 (fun w' => w'.cell? ⟨g6, 0, none⟩ = some (.int .u32 r.a)) (go_keep) ((first | (go_at_call 30; refine (refRotr_any _ _ _ (by decide) (by decide)).mono ?_; rintro e w' ⟨rfl, rfl⟩)))
      have hT1 : IntKind.u32.wrap (IntKind.u32.wrap (IntKind.u32.wrap (IntKind.u32.wrap (r.h + bs1 r.e) + chc r.e r.f r.g) + kt) + wt) = t1 r kt wt := by
        rw [IntKind.wrap_u32', IntKind.wrap_u32', IntKind.wrap_u32', IntKind.wrap_u32', t1]
        omega
      rw [hT1]
      clear hT1 m0
      obtain ⟨wC, eC⟩ : ∃ x, x = wB.drew.drew.drew.drew := ⟨_, rfl⟩
      have J2 : Arr wC w.heap.size .u32 45 s.l := by rw [eC]; exact HJ2.out
      have J4 : Arr wC (w.heap.size + 1) .u32 45 (List.replicate 8 0) := by rw [eC]; exact HJ4.out
      have J5 : Arr wC g5 .u32 57 ws := by rw [eC]; exact HJ5.out
      have J6 : Arr wC g6 .u32 45 r.l := by rw [eC]; exact HJ6.out
      have Jb : Below w.heap.size w wC := by rw [eC]; exact HJb.out.drew.drew.drew.drew
      rw [← eC]
      obtain ⟨q1, eq1⟩ : ∃ x, x = t1 r kt wt := ⟨_, rfl⟩
      rw [← eq1] at hrs
      rw [← eq1]
      clear eC eq1 HJ2 HJ4 HJ5 HJ6 HJb hbs0
      have m0 : wC.cell? ⟨g6, 0, none⟩ = some (.int .u32 r.a) := J6.cell 0 (by simp [St.l])
      have m1 : wC.cell? ⟨g6, 1, none⟩ = some (.int .u32 r.b) := J6.cell 1 (by simp [St.l])
      have m2 : wC.cell? ⟨g6, 2, none⟩ = some (.int .u32 r.c) := J6.cell 2 (by simp [St.l])
      have m3 : wC.cell? ⟨g6, 3, none⟩ = some (.int .u32 r.d) := J6.cell 3 (by simp [St.l])
      have m4 : wC.cell? ⟨g6, 4, none⟩ = some (.int .u32 r.e) := J6.cell 4 (by simp [St.l])
      have m5 : wC.cell? ⟨g6, 5, none⟩ = some (.int .u32 r.f) := J6.cell 5 (by simp [St.l])
      have m6 : wC.cell? ⟨g6, 6, none⟩ = some (.int .u32 r.g) := J6.cell 6 (by simp [St.l])
      have m7 : wC.cell? ⟨g6, 7, none⟩ = some (.int .u32 r.h) := J6.cell 7 (by simp [St.l])
      go_wp2_with (refine law_store rfl 45 _ _ rfl g6 .u32 [_, _, _, _, _, _, _, _] rfl rfl 45 _ J6 (by simp [St.l]) (by kernel_rfl) ?_; intro wD hoD hD6)
      refine ⟨⟨t + 1, by omega, by go_num, J2.on hoD (by omega), J4.on hoD (by omega), J5.on hoD (by omega), ?_, hoD.below Jb (by omega)⟩, by simp [intOf]; omega⟩
      rw [hrs.out]
      exact hD6
    · have ht64 : t = 64 := by omega
      subst ht64
      rw [show ((64 : Nat) : Int) = 64 from rfl]
      obtain ⟨R, eR⟩ : ∃ x, x = rounds s ws 64 := ⟨_, rfl⟩
      rw [← eR] at hF6
      have HR : Hid (R = rounds s ws 64) := eR
      clear eR hF5
      go_wp2_with fail
      go_loopw [14] (fun i wr => ∃ j : Nat, j ≤ 8 ∧ i = .int .i64 j ∧ Arr wr w.heap.size .u32 45 (psum s R j) ∧ Arr wr (w.heap.size + 1) .u32 45 (List.replicate 8 0) ∧ Arr wr g6 .u32 45 R.l ∧ Below w.heap.size w wr) (fun i _ => 8 - (intOf i).toNat)
      case atStart => exact ⟨0, by omega, rfl, hF2, hF4, hF6, hbF⟩
      case round =>
        obtain ⟨j, hj, rfl, hG2, hG4, hG6, hbG⟩ := hrel
        clear hF2 hF4 hF6 hbF
        by_cases hlj : j < 8
        · have cx := hG6.cell j (by simp [St.l]; omega)
          have cy := hG2.cell j (by rw [psum_length _ _ _ hj]; exact hlj)
          have fy := hG2.fz j
          have hst := psum_step s R j hlj
          obtain ⟨x, ex⟩ : ∃ x, x = R.l.getD j 0 := ⟨_, rfl⟩
          obtain ⟨y, ey⟩ : ∃ y, y = (psum s R j).getD j 0 := ⟨_, rfl⟩
          rw [← ex] at cx hst
          rw [← ey] at cy hst
          obtain ⟨p, ep⟩ : ∃ x, x = psum s R j := ⟨_, rfl⟩
          obtain ⟨q, eq⟩ : ∃ x, x = psum s R (j + 1) := ⟨_, rfl⟩
          rw [← ep] at hst hG2
          rw [← eq] at hst
          have HQ : Hid (q = psum s R (j + 1)) := eq
          have HS : Hid (p.set j ((y + x) % 4294967296) = q) := hst
          have HE : Hid (Arr wr w.heap.size .u32 45 p) := hG2
          have j0 : (0 : Int) ≤ (j : Int) := by omega
          have j8 : (j : Int) < 8 := by omega
          have ng : w.heap.size ≠ g6 := by omega
          have HG4 : Hid (Arr wr (w.heap.size + 1) .u32 45 (List.replicate 8 0)) := hG4
          have HG6 : Hid (Arr wr g6 .u32 45 R.l) := hG6
          have HGb : Hid (Below w.heap.size w wr) := hbG
          clear ex ey hst hG2 ep eq hG4 hG6 hbG
          go_wp2_with fail
          go_region
          all_goals go_wp2
          all_goals (
            refine ⟨⟨j + 1, by omega, by go_num, ?_, HG4.out.beside (a := ⟨w.heap.size, j, none⟩) _ (by simp), HG6.out.beside (a := ⟨w.heap.size, j, none⟩) _ (by simp; omega), (HGb.out.setCell (p := ⟨w.heap.size, j, none⟩) (by simp) _).drew⟩, by simp [intOf]; omega⟩
            have h3 := HE.out.set j ((y + x) % 4294967296)
            rw [HS.out, HQ.out] at h3
            exact h3)
        · have hj8 : j = 8 := by omega
          subst hj8
          have hG2' : Arr wr w.heap.size .u32 45 (s.plus R).l := hG2
          go_wp2_with (first | (refine law_load rfl 45 _ rfl _ rfl .u32 45 _ hG2' 8 44 Tryd.underlying45 (by kernel_rfl) ?_) | (refine law_store rfl 45 _ _ rfl _ .u32 (s.plus R).l rfl rfl 45 _ hG4 (by rfl) (by kernel_rfl) ?_; intro wF hoF hAF))
          refine bodyPost_ret (v := .agg (nums .u32 (s.plus R).l)) (results_cell_row rfl _ _ (w.heap.size + 1) 45 _ _ _ rfl hAF Tryd.underlying45 rfl (by rw [nums_size]; kernel_rfl)) rfl ⟨by rw [← HR.out], hoF.below hbG (by omega)⟩

theorem step_any (s : St) (ad : Addr) (c : Nat) (bs : List Int) (w : World) (hs : Shows w (some ad) 64 bs) :
    Calls Tryd.prog 22 #[.agg (nums .u32 s.l), .slice (some ad) 64 c] w fun e w' => e = .returned (.agg (nums .u32 (mix s bs).l)) ∧ Below w.heap.size w w' :=
  step_walk s ad c bs (sched bs) (sched_length bs) w hs (fun w1 h1 => words_any ad c bs w1 h1)
end Go.Proofs.YtmnembhcfkcmnaaDoor
