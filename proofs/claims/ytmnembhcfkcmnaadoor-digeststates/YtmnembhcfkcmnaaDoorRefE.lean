/- The document's answer: the sum of bytes. -/
import Derived.Test.YtmnembhcfkcmnaaDoorRefC
import Derived.Test.YtmnembhcfkcmnaaDoorRefD
import Derived.Test.YtmnembhcfkcmnaaDoorPieces
import Derived.Deep.RegionHeld3
namespace Go.Proofs.YtmnembhcfkcmnaaDoor
open Go.RowKit

theorem own_next {w w' : World} {base : Nat} {v : Value} {n : Nat} {xs : List Value} (h : w.ownsRow base 5 1 v n xs) (hb : Below w.heap.size w w') : w'.ownsRow base 5 1 v n xs := by
  obtain ⟨h1, h2⟩ := h
  refine ⟨h1, ?_⟩
  rcases h2 with h2 | ⟨g, cap, cur, hv, hg, hh, r⟩
  · exact Or.inl h2
  · exact Or.inr ⟨g, cap, cur, hv, hg, (hb.block g (lt_of_block hh)).trans hh, r⟩

theorem fromAt_in (ad : Addr) (c k : Nat) (h : k < c) : fromAt (some ad) c k = some (ad.add k) := by unfold fromAt; rw [if_neg (by omega)]; rfl

set_option maxHeartbeats 2000000 in
set_option maxRecDepth 100000 in
theorem refSum_walk (ao : Option Addr) (n c : Nat) (pads R : List Int) (B L : Nat) (hL : pads.length = L) (hLB : L = 64 * B) (hB0 : 0 < B) (hLb : L ≤ 2000000) (hpr : ∀ x ∈ pads, 0 ≤ x ∧ x ≤ 255) (hRl : R.length = 32) (hRat : ∀ i, i < 32 → R.getD i 0 = (absorb pads B).l.getD (i / 4) 0 / 2 ^ (24 - 8 * (i % 4)) % 256) (w : World)
    (hpad : ∀ w1 : World, Below w.heap.size w w1 → Calls Tryd.prog 21 #[.slice ao n c] w1 fun e w' => ∃ v, e = .returned v ∧ w'.ownsRow w1.heap.size 5 1 v L (u8s pads) ∧ Below w1.heap.size w1 w') :
    Calls Tryd.prog 11 #[.slice ao n c] w fun e w' => e = .returned (.agg (nums .u8 R)) ∧ Below w.heap.size w w' := by
  have hA0 := (Arr.new w .u8 25 (List.replicate 32 0)).alloc (.cells (nums .u32 (List.replicate 8 0)) 45)
  have hA1 := Arr.new (w.alloc (.cells (nums .u8 (List.replicate 32 0)) 25)) .u32 45 (List.replicate 8 0)
  rw [World.size_alloc] at hA1
  have hbA : Below w.heap.size w ((w.alloc (.cells (nums .u8 (List.replicate 32 0)) 25)).alloc (.cells (nums .u32 (List.replicate 8 0)) 45)) := ((Below.refl _ w).alloc (Nat.le_refl _) _).alloc (by simp) _
  have HLB : Hid (L = 64 * B) := hLB
  have hL0 : 0 < L := by omega
  clear hLB
  go_enter Tryd.func11, Tryd.ntmps11
  go_wp2_with (refine law_store rfl 45 _ _ rfl (w.heap.size + 1) .u32 H0.l rfl rfl 45 _ hA1 (by rfl) (by kernel_rfl) ?_; intro w1 ho1 hC1)
  have hC0 : Arr w1 w.heap.size .u8 25 (List.replicate 32 0) := hA0.on ho1 (by omega)
  have hbC : Below w.heap.size w w1 := ho1.below hbA (by omega)
  have hcp := hpad w1 hbC
  clear hpad hA0 hA1 hbA ho1
  go_at_call 21
  refine hcp.mono ?_
  rintro e w2 ⟨v, rfl, hown, hb2⟩
  obtain ⟨ao2, c2, rfl, hs2, hLc, hcm, hbare2, hblk2⟩ := own_shape hown hpr
  obtain ⟨ad, rfl⟩ : ∃ ad, ao2 = some ad := by
    cases ao2 with
    | none => have := hs2.bare rfl; omega
    | some ad => exact ⟨ad, rfl⟩
  have hblk := (hblk2 ad rfl).1
  have hD1 := hC1.next hb2
  have hD0 := hC0.next hb2
  have hbD : Below w.heap.size w w2 := hbC.trans (hb2.mono hbC.size)
  have hlt1 := hC1.lt
  unfold maxLen at hcm
  clear hblk2 hown hbare2 hcp hC0 hC1
  go_wp2_with fail
  go_loopw [5] (fun i wr => ∃ (k m : Nat), k ≤ B ∧ m = 64 * k ∧ i = .int .i64 (m : Int) ∧ Arr wr w.heap.size .u8 25 (List.replicate 32 0) ∧ Arr wr (w.heap.size + 1) .u32 45 (absorb pads k).l ∧ Shows wr (some ad) L pads ∧ Below w.heap.size w wr) (fun i _ => L - (intOf i).toNat)
  case atStart => exact ⟨0, 0, by omega, rfl, rfl, hD0, hD1, hs2, hbD⟩
  case round =>
    obtain ⟨k, m, hk, hm, rfl, hA0, hA1, hs, hbr⟩ := hrel
    clear hD0 hD1 hs2 hbD
    by_cases hlt : k < B
    · have hmL : m + 64 ≤ L := by have := HLB.out; omega
      have hs64 : Shows wr (some (ad.add m)) 64 ((pads.drop m).take 64) := by
        have h1 := (hs.drop (k := m) (by omega) hLc).take (k := 64) (by omega)
        rwa [fromAt_in ad c2 m (by omega)] at h1
      have hsl : ∀ W : World, (Instr.sliceAt 22 (.slice (some ad) L c2) (some (.int .i64 (m : Int))) (some (.int .i64 ((m : Int) + 64))) none).run Tryd.prog W = .ok (.slice (some (ad.add m)) 64 (c2 - m)) W := fun W => by
        have := slice22_lh W (some ad) L c2 m (m + 64) (by omega) (by omega)
        rw [fromAt_in ad c2 m (by omega), show m + 64 - m = 64 by omega, show ((m + 64 : Nat) : Int) = (m : Int) + 64 by omega] at this
        exact this
      obtain ⟨r, er⟩ : ∃ r, r = absorb pads k := ⟨_, rfl⟩
      have HS : Hid (absorb pads (k + 1) = mix r ((pads.drop m).take 64)) := by rw [er, hm]; exact rfl
      rw [← er] at hA1
      have hA1d : Arr wr.drew (w.heap.size + 1) .u32 45 r.l := hA1
      have hcall := step_any r (ad.add m) (c2 - m) ((pads.drop m).take 64) wr.drew ⟨hs64.len, hs64.bare, hs64.cell, hs64.rng⟩
      obtain ⟨S', eS⟩ : ∃ x, x = mix r ((pads.drop m).take 64) := ⟨_, rfl⟩
      rw [← eS] at hcall HS
      have hm64 : IntKind.i64.wrap ((m : Int) + 64) = (m : Int) + 64 := by simp [IntKind.wrap, IntKind.bits, IntKind.signed]; omega
      have mL : (m : Int) < (L : Int) := by omega
      have HM : Hid (m = 64 * k) := hm
      have f1 : (0 : Int) ≤ (m : Int) + 64 := by omega
      have f2 : (m : Int) + 64 ≤ (c2 : Int) := by omega
      have f3 : ((m : Int) + 64).toNat = m + 64 := by omega
      have f4 : ¬ c2 = m := by omega
      clear er eS hs64 hm
      go_wp2_with fail
      refine wp_region_noPanic ?_
      refine wp_region_held_drew (S := fun _ => True) (by kernel_rfl) trivial (fun hHeld => ?_)
      refine wpAnyH_take (i := 1) (v := ?v1a) (show _ = some _ by simp only [List.getElem?_toArray, List.getElem?_cons_succ, List.getElem?_cons_zero]; exact rfl) (by kernel_rfl) (by kernel_rfl) (by kernel_rfl) (fun _ _ _ h => h) (Or.inl ⟨by rfl, ?hy1a⟩) (trivial) ?r1a
      case hy1a => (intro w hSw; (try dsimp only at hSw); go_simp; try with_reducible rfl)
      (try simp only [Act.put]); (try simp only [List.setIfInBounds_toArray]); (repeat (first | simp only [List.set_cons_succ] | simp only [List.set_cons_zero]))
      refine wpAnyH_take (i := 2) (v := ?v2a) (show _ = some _ by simp only [List.getElem?_toArray, List.getElem?_cons_succ, List.getElem?_cons_zero]; exact rfl) (by kernel_rfl) (by kernel_rfl) (by kernel_rfl) (fun _ _ _ h => h) (Or.inl ⟨by rfl, ?hy2a⟩) (trivial) ?r2a
      case hy2a => (intro w hSw; (try dsimp only at hSw); go_simp; try with_reducible rfl)
      (try simp only [Act.put]); (try simp only [List.setIfInBounds_toArray]); (repeat (first | simp only [List.set_cons_succ] | simp only [List.set_cons_zero]))
      refine wpAnyH_take (i := 3) (v := ?v3a) (show _ = some _ by simp only [List.getElem?_toArray, List.getElem?_cons_succ, List.getElem?_cons_zero]; exact rfl) (by kernel_rfl) (by kernel_rfl) (by kernel_rfl) (fun _ _ _ h => h) (Or.inl ⟨by rfl, ?hy3a⟩) (trivial) ?r3a
      case hy3a => (intro w hSw; (try dsimp only at hSw); go_simp; try with_reducible rfl)
      (try simp only [Act.put]); (try simp only [List.setIfInBounds_toArray]); (repeat (first | simp only [List.set_cons_succ] | simp only [List.set_cons_zero]))
      refine wpAnyH_take (i := 4) (v := ?v4a) (show _ = some _ by simp only [List.getElem?_toArray, List.getElem?_cons_succ, List.getElem?_cons_zero]; exact rfl) (by kernel_rfl) (by kernel_rfl) (by kernel_rfl) (fun _ _ _ h => h) (Or.inl ⟨by rfl, ?hy4a⟩) (trivial) ?r4a
      case hy4a => (intro w hSw; (try dsimp only at hSw); go_simp; try with_reducible rfl)
      (try simp only [Act.put]); (try simp only [List.setIfInBounds_toArray]); (repeat (first | simp only [List.set_cons_succ] | simp only [List.set_cons_zero]))
      refine wpAnyH_take (i := 5) (v := ?v5a) (show _ = some _ by simp only [List.getElem?_toArray, List.getElem?_cons_succ, List.getElem?_cons_zero]; exact rfl) (by kernel_rfl) (by kernel_rfl) (by kernel_rfl) (fun _ _ _ h => h) (Or.inl ⟨by rfl, ?hy5a⟩) (trivial) ?r5a
      case hy5a => (intro w hSw; (try dsimp only at hSw); go_simp; try with_reducible rfl)
      (try simp only [Act.put]); (try simp only [List.setIfInBounds_toArray]); (repeat (first | simp only [List.set_cons_succ] | simp only [List.set_cons_zero]))
      refine wpAnyH_ready (rs := [0]) (by kernel_rfl) (by simp) ?_
      refine AllReadyH.cons (show _ = some _ by simp only [List.getElem?_toArray, List.getElem?_cons_zero]; exact rfl) (fun K hK => ?_) AllReadyH.nil
      rw [if_pos (by rfl)]
      refine wp_load_row 45 _ rfl (w.heap.size + 1) rfl 45 _ _ _ hA1d Tryd.underlying45 rfl (by rw [nums_size]; kernel_rfl) ?_
      refine hK.out _ _ trivial (fun hHeld2 => ?_)
      clear hK K
      (try simp only [Act.put]); (try simp only [List.setIfInBounds_toArray]); (repeat (first | simp only [List.set_cons_succ] | simp only [List.set_cons_zero]))
      refine wpAnyH_ready (rs := [6]) (by kernel_rfl) (by simp) ?_
      refine AllReadyH.cons (show _ = some _ by simp only [List.getElem?_toArray, List.getElem?_cons_succ, List.getElem?_cons_zero]; exact rfl) (fun K hK => ?_) AllReadyH.nil
      go_simp
      refine hcall.mono ?_
      rintro e w3 ⟨rfl, hb3⟩
      have hA13 : Arr w3 (w.heap.size + 1) .u32 45 r.l := Arr.next (w := wr.drew) hA1d hb3
      (try go_wp2_with fail)
      refine hK.out _ _ trivial (fun hHeld3 => ?_)
      clear hK K
      (try simp only [Act.put]); (try simp only [List.setIfInBounds_toArray]); (repeat (first | simp only [List.set_cons_succ] | simp only [List.set_cons_zero]))
      refine wpAnyH_ready (rs := [7]) (by kernel_rfl) (by simp) ?_
      refine AllReadyH.cons (show _ = some _ by simp only [List.getElem?_toArray, List.getElem?_cons_succ, List.getElem?_cons_zero]; exact rfl) (fun K hK => ?_) AllReadyH.nil
      rw [if_pos (by rfl)]
      refine wp_store_row 45 _ _ rfl (w.heap.size + 1) (nums .u32 S'.l) rfl rfl 45 _ hA13 (by rw [nums_size]; kernel_rfl) (by rw [nums_size, nums_size]; rfl) (nums_one _ _) ?_
      have hA14 : Arr (w3.setRow (w.heap.size + 1) (nums .u32 S'.l)) (w.heap.size + 1) .u32 45 S'.l := setRow_heap _ _ _ _ 45 _ hA13
      have ho4 := On.setRow w3 (w.heap.size + 1) (nums .u32 S'.l)
      obtain ⟨w4, ew4⟩ : ∃ x, x = w3.setRow (w.heap.size + 1) (nums .u32 S'.l) := ⟨_, rfl⟩
      rw [← ew4] at hA14 ho4
      rw [← ew4]
      clear ew4
      refine hK.out _ _ trivial (fun hHeld4 => ?_)
      clear hK K
      (try simp only [Act.put]); (try simp only [List.setIfInBounds_toArray]); (repeat (first | simp only [List.set_cons_succ] | simp only [List.set_cons_zero]))
      refine wpAnyH_done (by kernel_rfl) ?_ _
      refine NoPanic.normal ?_
      go_wp2_with fail
      have hb34 : Below w.heap.size w w4 := ho4.below (hbr.drew.trans (hb3.mono hbr.drew.size)) (by omega)
      have hs4 : Shows w4 (some ad) L pads := by
        have h3 : Shows w3 (some ad) L pads := Shows.later (w := wr.drew) ⟨hs.len, hs.bare, hs.cell, hs.rng⟩ hb3
        refine ⟨h3.len, h3.bare, fun a' ha' j hj => ?_, h3.rng⟩
        rw [← h3.cell a' ha' j hj]
        cases ha'
        exact World.cell?_of_block (ho4.block _ (by rw [add_block]; omega))
      rw [← HS.out] at hA14
      exact ⟨⟨k + 1, m + 64, by have := HLB.out; omega, by have := HM.out; omega, by go_num, (Arr.next (w := wr.drew) hA0 hb3).on ho4 (by omega), hA14, hs4, hb34⟩, by simp [intOf]; omega⟩
    · have hkB : k = B := by omega
      subst hkB
      have hmL : m = L := by have := HLB.out; omega
      obtain ⟨r, er⟩ : ∃ r, r = absorb pads k := ⟨_, rfl⟩
      rw [← er] at hA1 hRat
      clear er hs hm
      subst hmL
      go_wp2_with fail
      have hE := Arr.new wr .u8 25 (List.replicate 32 0)
      have hE0 := hA0.alloc (.cells (nums .u8 (List.replicate 32 0)) 25)
      have hE1 := hA1.alloc (.cells (nums .u8 (List.replicate 32 0)) 25)
      have hbE : Below w.heap.size w (wr.alloc (.cells (nums .u8 (List.replicate 32 0)) 25)) := hbr.alloc hbr.size _
      have hgl := hA1.lt
      obtain ⟨g, eg⟩ : ∃ g, g = wr.heap.size := ⟨_, rfl⟩
      rw [← eg] at hE
      rw [← eg]
      have hgw : w.heap.size + 1 < g := by omega
      clear eg hA0 hA1 hbr
      go_loopw [7] (fun i wr => ∃ j : Nat, j ≤ 32 ∧ i = .int .i64 (j : Int) ∧ Arr wr w.heap.size .u8 25 (List.replicate 32 0) ∧ Arr wr (w.heap.size + 1) .u32 45 r.l ∧ Arr wr g .u8 25 (fill R 32 j) ∧ Below w.heap.size w wr) (fun i _ => 32 - (intOf i).toNat)
      case atStart => exact ⟨0, by omega, rfl, hE0, hE1, by rw [fill_zero]; exact hE, hbE⟩
      case round =>
        obtain ⟨j, hj, rfl, hF0, hF1, hF, hbF⟩ := hrel
        clear hE hE0 hE1 hbE
        by_cases hlj : j < 32
        · have hx := hRat j hlj
          have cx := hF1.cell (j / 4) (by simp [St.l]; omega)
          have cj := hF.cell j (by rw [fill_length _ _ _ (by omega) (by omega)]; exact hlj)
          have fj := hF.fz j
          obtain ⟨i4, e4⟩ : ∃ x, x = j / 4 := ⟨_, rfl⟩
          obtain ⟨im, em⟩ : ∃ x, x = j % 4 := ⟨_, rfl⟩
          rw [← e4] at hx cx
          rw [← em] at hx
          obtain ⟨x, ex⟩ : ∃ x, x = r.l.getD i4 0 := ⟨_, rfl⟩
          rw [← ex] at hx cx
          have d4 : (j : Int) / 4 = (i4 : Int) := by omega
          have dm : (j : Int) % 4 = (im : Int) := by omega
          have q4 : (i4 : Int) < 8 := by omega
          have im3 : im ≤ 3 := by omega
          have HX : Hid (R.getD j 0 = x / 2 ^ (24 - 8 * im) % 256) := hx
          clear hx e4 em ex hRat
          go_wp2
          rw [← HX.out]
          refine ⟨⟨j + 1, by omega, by go_num, hF0.beside _ (by simp; omega), hF1.beside _ (by simp; omega), ?_, hbF.setCell (by simp; omega) _⟩, by simp [intOf]; omega⟩
          have h3 := hF.set j (R.getD j 0)
          rw [fill_step R 32 j (by omega) (by omega)] at h3
          exact h3
        · have hj32 : j = 32 := by omega
          subst hj32
          rw [fill_full R 32 hRl] at hF
          clear hRat
          go_wp2_with (first | (refine law_load rfl 25 _ rfl _ rfl .u8 25 _ hF 32 5 Tryd.underlying25 (by rw [hRl]; kernel_rfl) ?_) | (refine law_store rfl 25 _ _ rfl _ .u8 R rfl rfl 25 _ hF0 (by simp [hRl]) (by rw [hRl]; kernel_rfl) ?_; intro wF hoF hAF))
          refine bodyPost_ret (v := .agg (nums .u8 R)) (results_cell_row rfl _ _ w.heap.size 25 _ _ _ rfl hAF Tryd.underlying25 rfl (by rw [nums_size, hRl]; kernel_rfl)) rfl ⟨rfl, hoF.below hbF (Nat.le_refl _)⟩

theorem padded_rng (xs : List Int) (h : ∀ x ∈ xs, 0 ≤ x ∧ x ≤ 255) : ∀ x ∈ padded xs, 0 ≤ x ∧ x ≤ 255 := by
  intro x hx
  simp only [padded, List.mem_append, List.mem_cons, List.mem_replicate] at hx
  rcases hx with hx | rfl | ⟨_, rfl⟩ | hx
  · exact h x hx
  · decide
  · decide
  · exact be8_rng _ x hx

theorem refSum_any (ao : Option Addr) (n c : Nat) (xs : List Int) (w : World) (hs : Shows w ao n xs) (hc : ao = none → c = 0) (hbig : n ≤ 1000000) :
    Calls Tryd.prog 11 #[.slice ao n c] w fun e w' => e = .returned (.agg (nums .u8 (sumOf xs))) ∧ Below w.heap.size w w' := by
  have hl := hs.len
  have hpl := padded_length xs
  exact refSum_walk ao n c (padded xs) (sumOf xs) ((xs.length + 8) / 64 + 1) (padded xs).length rfl hpl (by omega) (by omega) (padded_rng xs hs.rng) (sumOf_length xs) (bytesOf_at _) w
    (fun w1 hb1 => padded_any ao n c xs w1 (hs.later hb1) hc hbig)
end Go.Proofs.YtmnembhcfkcmnaaDoor
