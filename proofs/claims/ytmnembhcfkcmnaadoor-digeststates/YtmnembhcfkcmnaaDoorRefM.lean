/- The Mac of a key and bytes, as the document's answer has it. -/
import Derived.Test.YtmnembhcfkcmnaaDoorTwo
namespace Go.Proofs.YtmnembhcfkcmnaaDoor
open Go.RowKit

theorem own_on {w w' : World} {base g : Nat} {v : Value} {n : Nat} {xs : List Value} (h : w.ownsRow base 5 1 v n xs) (ho : On w w' g) (hn : v.ownBlock ≠ some g) : w'.ownsRow base 5 1 v n xs := by
  obtain ⟨h1, h2⟩ := h
  refine ⟨h1, ?_⟩
  rcases h2 with h2 | ⟨b, cap, cur, hv, hg, hh, r⟩
  · exact Or.inl h2
  · refine Or.inr ⟨b, cap, cur, hv, hg, (ho.block b ?_).trans hh, r⟩
    intro e
    rw [hv, e] at hn
    exact hn rfl

set_option maxHeartbeats 4000000 in
set_option maxRecDepth 100000 in
theorem refMac_small (ka bo : Option Addr) (kn kc n c : Nat) (ks xs K A1 A2 I R : List Int) (w : World) (hk : Shows w ka kn ks) (hkn : (kn : Int) ≤ 64) (hKK : K = ks ++ List.replicate (64 - kn) 0) (hs : Shows w bo n xs) (hcn : bo = none → c = 0) (hbig : n ≤ 70000)
    (hK : K.length = 64) (hA1l : A1.length = 64) (hA2l : A2.length = 64) (hA1r : ∀ x ∈ A1, 0 ≤ x ∧ x ≤ 255) (hA2r : ∀ x ∈ A2, 0 ≤ x ∧ x ≤ 255) (hI : I.length = 32) (hIr : ∀ x ∈ I, 0 ≤ x ∧ x ≤ 255) (hR : R.length = 32)
    (hA1a : ∀ j, j < 64 → bits .xor .u8 (K.getD j 0) 54 = A1.getD j 0) (hA2a : ∀ j, j < 64 → bits .xor .u8 (K.getD j 0) 92 = A2.getD j 0)
    (hsum : ∀ (ao : Option Addr) (m d : Nat) (ys : List Int) (w1 : World), Below w.heap.size w w1 → Shows w1 ao m ys → (ao = none → d = 0) → m ≤ d → d ≤ maxLen → m ≤ 200000 → Calls Tryd.prog 11 #[.slice ao m d] w1 fun e w' => e = .returned (.agg (nums .u8 (sumOf ys))) ∧ Below w1.heap.size w1 w')
    (hsI : sumOf (A1 ++ xs) = I) (hsR : sumOf (A2 ++ I) = R) :
    Calls Tryd.prog 14 #[.slice ka kn kc, .slice bo n c] w fun e w' => e = .returned (.agg (nums .u8 R)) ∧ Below w.heap.size w w' := by
  have HsI : Hid (sumOf (A1 ++ xs) = I) := hsI
  have HsR : Hid (sumOf (A2 ++ I) = R) := hsR
  clear hsI hsR
  have hG0 := (Arr.new w .u8 25 (List.replicate 32 0)).alloc (.cells (nums .u8 (List.replicate 64 0)) 47)
  have hG1 := Arr.new (w.alloc (.cells (nums .u8 (List.replicate 32 0)) 25)) .u8 47 (List.replicate 64 0)
  rw [World.size_alloc] at hG1
  have hGb : Below w.heap.size w ((w.alloc (.cells (nums .u8 (List.replicate 32 0)) 25)).alloc (.cells (nums .u8 (List.replicate 64 0)) 47)) := ((Below.refl _ w).alloc (Nat.le_refl _) _).alloc (by simp) _
  have hkl := hk.len
  have HF : Hid (fill K 64 kn = K) := by
    show fill K 64 kn = K
    unfold fill
    rw [hKK, List.take_append_of_le_length (by omega), List.take_of_length_le (by omega)]
  have HAT : Hid (∀ i, i < kn → K.getD i 0 = ks.getD i 0) := by
    show ∀ i, i < kn → K.getD i 0 = ks.getD i 0
    intro i hi
    rw [hKK]
    simp only [List.getD]
    rw [List.getElem?_append_left (by omega)]
  clear hKK
  go_enter Tryd.func14, Tryd.ntmps14
  go_wp2_with fail
  go_loopw [8] (fun i wr => ∃ j : Nat, j ≤ kn ∧ i = .int .i64 (j : Int) ∧ Arr wr w.heap.size .u8 25 (List.replicate 32 0) ∧ Arr wr (w.heap.size + 1) .u8 47 (fill K 64 j) ∧ Below w.heap.size w wr) (fun i _ => kn - (intOf i).toNat)
  case atStart => exact ⟨0, by omega, rfl, hG0, by rw [fill_zero]; exact hG1, hGb⟩
  case round =>
    obtain ⟨j, hj, rfl, hF0, hF1, hFb⟩ := hrel
    clear hG0 hG1 hGb
    by_cases hlt : j < kn
    · obtain ⟨kd, rfl⟩ : ∃ kd, ka = some kd := by
        cases ka with
        | none => have := hk.bare rfl; omega
        | some kd => exact ⟨kd, rfl⟩
      have cx := (hk.later hFb).cell kd rfl j hlt
      have hx := HAT.out j hlt
      obtain ⟨x, ex⟩ : ∃ x, x = ks.getD j 0 := ⟨_, rfl⟩
      rw [← ex] at cx hx
      have cj := hF1.cell j (by rw [fill_length _ _ _ (by omega) (by omega)]; omega)
      have fj := hF1.fz j
      have jk : (j : Int) < (kn : Int) := by omega
      have HX : Hid (K.getD j 0 = x) := hx
      clear ex hx hA1a hA2a
      go_wp2
      rw [← HX.out]
      refine ⟨⟨j + 1, by omega, by go_num, hF0.beside _ (by simp), ?_, hFb.setCell (by simp) _⟩, by simp [intOf]; omega⟩
      have h3 := hF1.set j (K.getD j 0)
      rw [fill_step K 64 j (by omega) (by omega)] at h3
      exact h3
    · have hjk : kn = j := by omega
      subst hjk
      rw [HF.out] at hF1
      have hX0 := hF0
      have hX1 := hF1
      have hXb := hFb
      clear hF0 hF1 hFb
      go_wp2_with fail
      go_loopw [9, 10, 11] (fun v u i wr => ∃ j : Nat, j ≤ 64 ∧ i = .int .i64 (j : Int) ∧ wr.ownsRow (w.heap.size + 1 + 1) 5 1 v j (u8s (A1.take j)) ∧ wr.ownsRow (w.heap.size + 1 + 1) 5 1 u j (u8s (A2.take j)) ∧ Ap v u ∧ Arr wr w.heap.size .u8 25 (List.replicate 32 0) ∧ Arr wr (w.heap.size + 1) .u8 47 K ∧ Below w.heap.size w wr) (fun _ _ i _ => 64 - (intOf i).toNat)
      case atStart => exact ⟨0, by omega, rfl, World.ownsRow_nil _ _ _ _, World.ownsRow_nil _ _ _ _, (fun g hg => by cases hg), hX0, hX1, hXb⟩
      case round =>
        obtain ⟨j, hj, rfl, ho1, ho2, hap, hY0, hY1, hYb⟩ := hrel
        clear hX0 hX1 hXb
        have hYz := hYb.size
        have hY1l := hY1.lt
        by_cases hlj : j < 64
        · have cK := hY1.cell j (by omega)
          have x1 := hA1a j hlj
          have x2 := hA2a j hlj
          obtain ⟨x, ex⟩ : ∃ x, x = K.getD j 0 := ⟨_, rfl⟩
          rw [← ex] at cK x1 x2
          obtain ⟨y1, ey1⟩ : ∃ y, y = A1.getD j 0 := ⟨_, rfl⟩
          obtain ⟨y2, ey2⟩ : ∃ y, y = A2.getD j 0 := ⟨_, rfl⟩
          have hr1 : ∀ z ∈ [y1], 0 ≤ z ∧ z ≤ 255 := by intro z hz; rw [List.mem_singleton] at hz; rw [hz, ey1]; exact byte_at A1 hA1r j
          have hr2 : ∀ z ∈ [y2], 0 ≤ z ∧ z ≤ 255 := by intro z hz; rw [List.mem_singleton] at hz; rw [hz, ey2]; exact byte_at A2 hA2r j
          have HT1 : Hid (A1.take (j + 1) = A1.take j ++ [y1]) := by rw [ey1]; exact take_next A1 j (by omega)
          have HT2 : Hid (A2.take (j + 1) = A2.take j ++ [y2]) := by rw [ey2]; exact take_next A2 j (by omega)
          rw [← ey1] at x1
          rw [← ey2] at x2
          have hKx : Hid (K.getD j 0 = x) := ex.symm
          clear ex ey1 ey2 hA1a hA2a
          go_wp2_with (at_builtin; first
            | (refine law_two rfl _ _ rfl (w.heap.size + 1 + 1) _ _ j j _ _ rfl (ho1.alloc _) (ho2.alloc _) hap ⟨wr.heap.size, 0, none⟩ [y1] 1 1 rfl (shows_new wr [y1] hr1) (by decide) (by omega) (by simp; omega) ?_; intro v1 w1 hv1 hu1 hap1 hg1; have hY01 : Arr w1 w.heap.size .u8 25 (List.replicate 32 0) := (hY0.alloc (.cells (u8s [y1]).toArray 5)).far hg1 (ho1.alloc _) (by omega); have hY11 : Arr w1 (w.heap.size + 1) .u8 47 K := (hY1.alloc (.cells (u8s [y1]).toArray 5)).far hg1 (ho1.alloc _) (by omega); have hYb1 : Below w.heap.size w w1 := (hYb.alloc hYz _).grown hg1 (by simp; omega) (fun b hb => by have := (ho1.lt b hb).1; omega); have hY11l := hY11.lt; have cK1 := hY11.cell j (by omega); rw [hKx.out] at cK1)
            | (refine law_two rfl _ _ rfl (w.heap.size + 1 + 1) _ _ j (j + 1) _ _ rfl (hu1.alloc _) (hv1.alloc _) (fun g hg hu => hap1 g hu hg) ⟨w1.heap.size, 0, none⟩ [y2] 1 1 rfl (shows_new w1 [y2] hr2) (by decide) (by omega) (by simp; omega) ?_; intro v2 w2 hv2 hu2 hap2 hg2; have hY02 : Arr w2 w.heap.size .u8 25 (List.replicate 32 0) := (hY01.alloc (.cells (u8s [y2]).toArray 5)).far hg2 (hu1.alloc _) (by omega); have hY12 : Arr w2 (w.heap.size + 1) .u8 47 K := (hY11.alloc (.cells (u8s [y2]).toArray 5)).far hg2 (hu1.alloc _) (by omega); have hYb2 : Below w.heap.size w w2 := (hYb1.alloc hYb1.size _).grown hg2 (by have := hYb1.size; simp; omega) (fun b hb => by have := (hu1.lt b hb).1; omega)))
          go_wp2
          go_roundw
          case rel =>
            refine ⟨j + 1, by omega, by go_num, ?_, ?_, fun g hg hu => hap2 g hu hg, hY02, hY12, hYb2⟩
            · rw [HT1.out]; exact hu2
            · rw [HT2.out]; exact hv2
          case measure => simp [intOf]; omega
        · have hj64 : j = 64 := by omega
          subst hj64
          rw [List.take_of_length_le (by omega)] at ho1 ho2
          obtain ⟨g1, cap1, hv1, _, _⟩ := ho1.form (by omega)
          subst hv1
          obtain ⟨g2, cap2, hv2, _, _⟩ := ho2.form (by omega)
          subst hv2
          clear hA1a hA2a
          have hsY := hs.later hYb
          go_wp2_with (at_builtin; first
            | (refine law_append rfl _ _ rfl (w.heap.size + 1 + 1) _ 64 A1 rfl ho1 bo n c xs rfl hsY hcn (by omega) (by omega) ?_; intro v3 w3 hv3 hg3 _; have hu3 := ho2.kept hg3 (Or.inr (by intro e; exact hap g2 e.symm rfl)); have hZ0 := hY0.far hg3 ho1 (by omega); have hZb : Below w.heap.size w w3 := hYb.grown hg3 hYb.size (fun b hb => by have := (ho1.lt b hb).1; omega))
            | fail)
          obtain ⟨a3, c3, rfl, hs3, hc3, hm3, hb3, hk3⟩ := own_shape hv3 (fun z hz => (List.mem_append.1 hz).elim (hA1r z) (hs.rng z))
          have hcI := hsum a3 (64 + n) c3 (A1 ++ xs) w3 hZb hs3 hb3 hc3 hm3 (by omega)
          rw [HsI.out] at hcI
          clear ho1 ho2 hY0 hY1 hYb hsY hg3
          go_wp2_with fail
          go_at_call 11
          refine hcI.mono ?_
          rintro e w4 ⟨rfl, hb4⟩
          have hu4 := own_next hu3 hb4
          have hZ04 := hZ0.next hb4
          have hZb4 := hZb.trans (hb4.mono hZb.size)
          have hz4 := hZ04.lt
          clear hcI
          go_wp2_with (first
            | (refine law_store rfl 25 _ _ rfl w4.heap.size .u8 I rfl rfl 25 _ (Arr.new w4 .u8 25 (List.replicate 32 0)) (by simp [hI]) (by rw [hI]; kernel_rfl) ?_; intro w5 ho5 hI5; have hZ05 : Arr w5 w.heap.size .u8 25 (List.replicate 32 0) := (hZ04.alloc _).on ho5 (by omega); have hZb5 : Below w.heap.size w w5 := ho5.below (hZb4.alloc hZb4.size _) hZb4.size; have hu5 : w5.ownsRow (w.heap.size + 1 + 1) 5 1 (.slice (some ⟨g2, 0, none⟩) 64 cap2) 64 (u8s A2) := own_on (hu4.alloc _) ho5 (by have := (hu4.lt g2 rfl).2; intro e; have e2 : g2 = w4.heap.size := Option.some.inj e; omega); have hs5 : Shows w5 (some ⟨w4.heap.size, 0, none⟩) 32 I := hI5.shows hIr hI; have hsl := fun W : World => slice_all32 W w4.heap.size 0)
            | (at_builtin; refine law_append rfl _ _ rfl (w.heap.size + 1 + 1) _ 64 A2 rfl hu5 _ 32 32 I rfl hs5 (by intro h; cases h) (by omega) (by have := hu5.lt g2 rfl; omega) ?_; intro v6 w6 hv6 hg6 _; have hZ06 := hZ05.far hg6 hu5 (by omega); have hZb6 : Below w.heap.size w w6 := hZb5.grown hg6 hZb5.size (fun b hb => by have := (hu5.lt b hb).1; omega)))
          obtain ⟨a6, c6, rfl, hs6, hc6, hm6, hb6, hk6⟩ := own_shape hv6 (fun z hz => (List.mem_append.1 hz).elim (hA2r z) (hIr z))
          have hcR := hsum a6 (64 + 32) c6 (A2 ++ I) w6 hZb6 hs6 hb6 hc6 hm6 (by omega)
          rw [HsR.out] at hcR
          go_wp2_with (first
            | (go_at_call 11; refine hcR.mono ?_; rintro e w7 ⟨rfl, hb7⟩)
            | (refine law_store rfl 25 _ _ rfl w.heap.size .u8 R rfl rfl 25 _ (hZ06.next hb7) (by simp [hR]) (by rw [hR]; kernel_rfl) ?_; intro wF hoF hAF))
          refine bodyPost_ret (v := .agg (nums .u8 R)) (results_cell_row rfl _ _ w.heap.size 25 _ _ _ rfl hAF Tryd.underlying25 rfl (by rw [nums_size, hR]; kernel_rfl)) rfl ⟨rfl, hoF.below (hZb6.trans (hb7.mono hZb6.size)) (Nat.le_refl _)⟩
set_option maxHeartbeats 4000000 in
set_option maxRecDepth 100000 in
theorem refMac_big (ka bo : Option Addr) (kn kc n c : Nat) (ks xs Z K A1 A2 I R : List Int) (w : World) (hk : Shows w ka kn ks) (hkc : ka = none → kc = 0) (hkn : (64 : Int) < kn) (hkb : kn ≤ 70000) (hknc : kn ≤ kc) (hkm : kc ≤ maxLen) (hZl : Z.length = 32) (hKK : K = Z ++ List.replicate 32 0) (hsZ : sumOf ks = Z) (hs : Shows w bo n xs) (hcn : bo = none → c = 0) (hbig : n ≤ 70000)
    (hK : K.length = 64) (hA1l : A1.length = 64) (hA2l : A2.length = 64) (hA1r : ∀ x ∈ A1, 0 ≤ x ∧ x ≤ 255) (hA2r : ∀ x ∈ A2, 0 ≤ x ∧ x ≤ 255) (hI : I.length = 32) (hIr : ∀ x ∈ I, 0 ≤ x ∧ x ≤ 255) (hR : R.length = 32)
    (hA1a : ∀ j, j < 64 → bits .xor .u8 (K.getD j 0) 54 = A1.getD j 0) (hA2a : ∀ j, j < 64 → bits .xor .u8 (K.getD j 0) 92 = A2.getD j 0)
    (hsum : ∀ (ao : Option Addr) (m d : Nat) (ys : List Int) (w1 : World), Below w.heap.size w w1 → Shows w1 ao m ys → (ao = none → d = 0) → m ≤ d → d ≤ maxLen → m ≤ 200000 → Calls Tryd.prog 11 #[.slice ao m d] w1 fun e w' => e = .returned (.agg (nums .u8 (sumOf ys))) ∧ Below w1.heap.size w1 w')
    (hsI : sumOf (A1 ++ xs) = I) (hsR : sumOf (A2 ++ I) = R) :
    Calls Tryd.prog 14 #[.slice ka kn kc, .slice bo n c] w fun e w' => e = .returned (.agg (nums .u8 R)) ∧ Below w.heap.size w w' := by
  have HsI : Hid (sumOf (A1 ++ xs) = I) := hsI
  have HsR : Hid (sumOf (A2 ++ I) = R) := hsR
  clear hsI hsR
  have hG0 := (Arr.new w .u8 25 (List.replicate 32 0)).alloc (.cells (nums .u8 (List.replicate 64 0)) 47)
  have hG1 := Arr.new (w.alloc (.cells (nums .u8 (List.replicate 32 0)) 25)) .u8 47 (List.replicate 64 0)
  rw [World.size_alloc] at hG1
  have hGb : Below w.heap.size w ((w.alloc (.cells (nums .u8 (List.replicate 32 0)) 25)).alloc (.cells (nums .u8 (List.replicate 64 0)) 47)) := ((Below.refl _ w).alloc (Nat.le_refl _) _).alloc (by simp) _
  have HF : Hid (fill K 64 32 = K) := by
    show fill K 64 32 = K
    unfold fill
    rw [hKK, List.take_append_of_le_length (by omega), List.take_of_length_le (by omega)]
  have HAT : Hid (∀ i, i < 32 → K.getD i 0 = Z.getD i 0) := by
    show ∀ i, i < 32 → K.getD i 0 = Z.getD i 0
    intro i hi
    rw [hKK]
    simp only [List.getD]
    rw [List.getElem?_append_left (by omega)]
  have hcZ := hsum ka kn kc ks _ hGb (hk.later hGb) hkc hknc hkm (by omega)
  rw [hsZ] at hcZ
  clear hKK hsZ
  go_enter Tryd.func14, Tryd.ntmps14
  go_wp2_with (first
    | (go_at_call 11; refine hcZ.mono ?_; rintro e w1 ⟨rfl, hb1⟩; have hH0 := hG0.next hb1; have hH1 := hG1.next hb1; have hHb := hGb.trans (hb1.mono hGb.size); have hHl := hH1.lt)
    | (refine law_store rfl 25 _ _ rfl w1.heap.size .u8 Z rfl rfl 25 _ (Arr.new w1 .u8 25 (List.replicate 32 0)) (by simp [hZl]) (by rw [hZl]; kernel_rfl) ?_; intro w2 ho2 hJ2))
  have hJ0 : Arr w2 w.heap.size .u8 25 (List.replicate 32 0) := (hH0.alloc _).on ho2 (by omega)
  have hJ1 : Arr w2 (w.heap.size + 1) .u8 47 (List.replicate 64 0) := (hH1.alloc _).on ho2 (by omega)
  have hJb : Below w.heap.size w w2 := ho2.below (hHb.alloc hHb.size _) hHb.size
  obtain ⟨gz, egz⟩ : ∃ g, g = w1.heap.size := ⟨_, rfl⟩
  rw [← egz] at hJ2
  rw [← egz]
  have hgz : w.heap.size + 1 < gz := by omega
  clear egz ho2 hcZ hG0 hG1 hGb hH0 hH1 hHb hb1
  go_loopw [7] (fun i wr => ∃ j : Nat, j ≤ 32 ∧ i = .int .i64 (j : Int) ∧ Arr wr w.heap.size .u8 25 (List.replicate 32 0) ∧ Arr wr (w.heap.size + 1) .u8 47 (fill K 64 j) ∧ Arr wr gz .u8 25 Z ∧ Below w.heap.size w wr) (fun i _ => 32 - (intOf i).toNat)
  case atStart => exact ⟨0, by omega, rfl, hJ0, by rw [fill_zero]; exact hJ1, hJ2, hJb⟩
  case round =>
    obtain ⟨j, hj, rfl, hF0, hF1, hF2, hFb⟩ := hrel
    clear hJ0 hJ1 hJ2 hJb
    by_cases hlt : j < 32
    · have cx := hF2.cell j (by omega)
      have hx := HAT.out j hlt
      obtain ⟨x, ex⟩ : ∃ x, x = Z.getD j 0 := ⟨_, rfl⟩
      rw [← ex] at cx hx
      have cj := hF1.cell j (by rw [fill_length _ _ _ (by omega) (by omega)]; omega)
      have fj := hF1.fz j
      have HX : Hid (K.getD j 0 = x) := hx
      clear ex hx hA1a hA2a
      go_wp2
      rw [← HX.out]
      refine ⟨⟨j + 1, by omega, by go_num, hF0.beside _ (by simp), ?_, hF2.beside _ (by simp; omega), hFb.setCell (by simp) _⟩, by simp [intOf]; omega⟩
      have h3 := hF1.set j (K.getD j 0)
      rw [fill_step K 64 j (by omega) (by omega)] at h3
      exact h3
    · have hjk : j = 32 := by omega
      subst hjk
      rw [show ((32 : Nat) : Int) = 32 from rfl]
      rw [HF.out] at hF1
      have hX0 := hF0
      have hX1 := hF1
      have hXb := hFb
      clear hF0 hF1 hFb hF2
      go_wp2_with fail
      go_loopw [9, 10, 11] (fun v u i wr => ∃ j : Nat, j ≤ 64 ∧ i = .int .i64 (j : Int) ∧ wr.ownsRow (w.heap.size + 1 + 1) 5 1 v j (u8s (A1.take j)) ∧ wr.ownsRow (w.heap.size + 1 + 1) 5 1 u j (u8s (A2.take j)) ∧ Ap v u ∧ Arr wr w.heap.size .u8 25 (List.replicate 32 0) ∧ Arr wr (w.heap.size + 1) .u8 47 K ∧ Below w.heap.size w wr) (fun _ _ i _ => 64 - (intOf i).toNat)
      case atStart => exact ⟨0, by omega, rfl, World.ownsRow_nil _ _ _ _, World.ownsRow_nil _ _ _ _, (fun g hg => by cases hg), hX0, hX1, hXb⟩
      case round =>
        obtain ⟨j, hj, rfl, ho1, ho2, hap, hY0, hY1, hYb⟩ := hrel
        clear hX0 hX1 hXb
        have hYz := hYb.size
        have hY1l := hY1.lt
        by_cases hlj : j < 64
        · have cK := hY1.cell j (by omega)
          have x1 := hA1a j hlj
          have x2 := hA2a j hlj
          obtain ⟨x, ex⟩ : ∃ x, x = K.getD j 0 := ⟨_, rfl⟩
          rw [← ex] at cK x1 x2
          obtain ⟨y1, ey1⟩ : ∃ y, y = A1.getD j 0 := ⟨_, rfl⟩
          obtain ⟨y2, ey2⟩ : ∃ y, y = A2.getD j 0 := ⟨_, rfl⟩
          have hr1 : ∀ z ∈ [y1], 0 ≤ z ∧ z ≤ 255 := by intro z hz; rw [List.mem_singleton] at hz; rw [hz, ey1]; exact byte_at A1 hA1r j
          have hr2 : ∀ z ∈ [y2], 0 ≤ z ∧ z ≤ 255 := by intro z hz; rw [List.mem_singleton] at hz; rw [hz, ey2]; exact byte_at A2 hA2r j
          have HT1 : Hid (A1.take (j + 1) = A1.take j ++ [y1]) := by rw [ey1]; exact take_next A1 j (by omega)
          have HT2 : Hid (A2.take (j + 1) = A2.take j ++ [y2]) := by rw [ey2]; exact take_next A2 j (by omega)
          rw [← ey1] at x1
          rw [← ey2] at x2
          have hKx : Hid (K.getD j 0 = x) := ex.symm
          clear ex ey1 ey2 hA1a hA2a
          go_wp2_with (at_builtin; first
            | (refine law_two rfl _ _ rfl (w.heap.size + 1 + 1) _ _ j j _ _ rfl (ho1.alloc _) (ho2.alloc _) hap ⟨wr.heap.size, 0, none⟩ [y1] 1 1 rfl (shows_new wr [y1] hr1) (by decide) (by omega) (by simp; omega) ?_; intro v1 w1 hv1 hu1 hap1 hg1; have hY01 : Arr w1 w.heap.size .u8 25 (List.replicate 32 0) := (hY0.alloc (.cells (u8s [y1]).toArray 5)).far hg1 (ho1.alloc _) (by omega); have hY11 : Arr w1 (w.heap.size + 1) .u8 47 K := (hY1.alloc (.cells (u8s [y1]).toArray 5)).far hg1 (ho1.alloc _) (by omega); have hYb1 : Below w.heap.size w w1 := (hYb.alloc hYz _).grown hg1 (by simp; omega) (fun b hb => by have := (ho1.lt b hb).1; omega); have hY11l := hY11.lt; have cK1 := hY11.cell j (by omega); rw [hKx.out] at cK1)
            | (refine law_two rfl _ _ rfl (w.heap.size + 1 + 1) _ _ j (j + 1) _ _ rfl (hu1.alloc _) (hv1.alloc _) (fun g hg hu => hap1 g hu hg) ⟨w1.heap.size, 0, none⟩ [y2] 1 1 rfl (shows_new w1 [y2] hr2) (by decide) (by omega) (by simp; omega) ?_; intro v2 w2 hv2 hu2 hap2 hg2; have hY02 : Arr w2 w.heap.size .u8 25 (List.replicate 32 0) := (hY01.alloc (.cells (u8s [y2]).toArray 5)).far hg2 (hu1.alloc _) (by omega); have hY12 : Arr w2 (w.heap.size + 1) .u8 47 K := (hY11.alloc (.cells (u8s [y2]).toArray 5)).far hg2 (hu1.alloc _) (by omega); have hYb2 : Below w.heap.size w w2 := (hYb1.alloc hYb1.size _).grown hg2 (by have := hYb1.size; simp; omega) (fun b hb => by have := (hu1.lt b hb).1; omega)))
          go_wp2
          go_roundw
          case rel =>
            refine ⟨j + 1, by omega, by go_num, ?_, ?_, fun g hg hu => hap2 g hu hg, hY02, hY12, hYb2⟩
            · rw [HT1.out]; exact hu2
            · rw [HT2.out]; exact hv2
          case measure => simp [intOf]; omega
        · have hj64 : j = 64 := by omega
          subst hj64
          rw [List.take_of_length_le (by omega)] at ho1 ho2
          obtain ⟨g1, cap1, hv1, _, _⟩ := ho1.form (by omega)
          subst hv1
          obtain ⟨g2, cap2, hv2, _, _⟩ := ho2.form (by omega)
          subst hv2
          clear hA1a hA2a
          have hsY := hs.later hYb
          go_wp2_with (at_builtin; first
            | (refine law_append rfl _ _ rfl (w.heap.size + 1 + 1) _ 64 A1 rfl ho1 bo n c xs rfl hsY hcn (by omega) (by omega) ?_; intro v3 w3 hv3 hg3 _; have hu3 := ho2.kept hg3 (Or.inr (by intro e; exact hap g2 e.symm rfl)); have hZ0 := hY0.far hg3 ho1 (by omega); have hZb : Below w.heap.size w w3 := hYb.grown hg3 hYb.size (fun b hb => by have := (ho1.lt b hb).1; omega))
            | fail)
          obtain ⟨a3, c3, rfl, hs3, hc3, hm3, hb3, hk3⟩ := own_shape hv3 (fun z hz => (List.mem_append.1 hz).elim (hA1r z) (hs.rng z))
          have hcI := hsum a3 (64 + n) c3 (A1 ++ xs) w3 hZb hs3 hb3 hc3 hm3 (by omega)
          rw [HsI.out] at hcI
          clear ho1 ho2 hY0 hY1 hYb hsY hg3
          go_wp2_with fail
          go_at_call 11
          refine hcI.mono ?_
          rintro e w4 ⟨rfl, hb4⟩
          have hu4 := own_next hu3 hb4
          have hZ04 := hZ0.next hb4
          have hZb4 := hZb.trans (hb4.mono hZb.size)
          have hz4 := hZ04.lt
          clear hcI
          go_wp2_with (first
            | (refine law_store rfl 25 _ _ rfl w4.heap.size .u8 I rfl rfl 25 _ (Arr.new w4 .u8 25 (List.replicate 32 0)) (by simp [hI]) (by rw [hI]; kernel_rfl) ?_; intro w5 ho5 hI5; have hZ05 : Arr w5 w.heap.size .u8 25 (List.replicate 32 0) := (hZ04.alloc _).on ho5 (by omega); have hZb5 : Below w.heap.size w w5 := ho5.below (hZb4.alloc hZb4.size _) hZb4.size; have hu5 : w5.ownsRow (w.heap.size + 1 + 1) 5 1 (.slice (some ⟨g2, 0, none⟩) 64 cap2) 64 (u8s A2) := own_on (hu4.alloc _) ho5 (by have := (hu4.lt g2 rfl).2; intro e; have e2 : g2 = w4.heap.size := Option.some.inj e; omega); have hs5 : Shows w5 (some ⟨w4.heap.size, 0, none⟩) 32 I := hI5.shows hIr hI; have hsl := fun W : World => slice_all32 W w4.heap.size 0)
            | (at_builtin; refine law_append rfl _ _ rfl (w.heap.size + 1 + 1) _ 64 A2 rfl hu5 _ 32 32 I rfl hs5 (by intro h; cases h) (by omega) (by have := hu5.lt g2 rfl; omega) ?_; intro v6 w6 hv6 hg6 _; have hZ06 := hZ05.far hg6 hu5 (by omega); have hZb6 : Below w.heap.size w w6 := hZb5.grown hg6 hZb5.size (fun b hb => by have := (hu5.lt b hb).1; omega)))
          obtain ⟨a6, c6, rfl, hs6, hc6, hm6, hb6, hk6⟩ := own_shape hv6 (fun z hz => (List.mem_append.1 hz).elim (hA2r z) (hIr z))
          have hcR := hsum a6 (64 + 32) c6 (A2 ++ I) w6 hZb6 hs6 hb6 hc6 hm6 (by omega)
          rw [HsR.out] at hcR
          go_wp2_with (first
            | (go_at_call 11; refine hcR.mono ?_; rintro e w7 ⟨rfl, hb7⟩)
            | (refine law_store rfl 25 _ _ rfl w.heap.size .u8 R rfl rfl 25 _ (hZ06.next hb7) (by simp [hR]) (by rw [hR]; kernel_rfl) ?_; intro wF hoF hAF))
          refine bodyPost_ret (v := .agg (nums .u8 R)) (results_cell_row rfl _ _ w.heap.size 25 _ _ _ rfl hAF Tryd.underlying25 rfl (by rw [nums_size, hR]; kernel_rfl)) rfl ⟨rfl, hoF.below (hZb6.trans (hb7.mono hZb6.size)) (Nat.le_refl _)⟩

theorem refMac_any (ka bo : Option Addr) (kn kc n c : Nat) (ks xs : List Int) (w : World) (hk : Shows w ka kn ks) (hkc : ka = none → kc = 0) (hknc : kn ≤ kc) (hkm : kc ≤ maxLen) (hkb : kn ≤ 70000) (hs : Shows w bo n xs) (hcn : bo = none → c = 0) (hbig : n ≤ 70000) :
    Calls Tryd.prog 14 #[.slice ka kn kc, .slice bo n c] w fun e w' => e = .returned (.agg (nums .u8 (macOf ks xs))) ∧ Below w.heap.size w w' := by
  have hKl := keyOf_length ks
  have hKr := keyOf_rng ks hk.rng
  have hl := hk.len
  have hsum : ∀ (ao : Option Addr) (m d : Nat) (ys : List Int) (w1 : World), Below w.heap.size w w1 → Shows w1 ao m ys → (ao = none → d = 0) → m ≤ d → d ≤ maxLen → m ≤ 200000 → Calls Tryd.prog 11 #[.slice ao m d] w1 fun e w' => e = .returned (.agg (nums .u8 (sumOf ys))) ∧ Below w1.heap.size w1 w' :=
    fun ao m d ys w1 _ h1 h2 _ _ h3 => refSum_any ao m d ys w1 h1 h2 (by omega)
  by_cases hn : kn ≤ 64
  · have e : keyOf ks = ks ++ List.replicate (64 - kn) 0 := by unfold keyOf; rw [if_neg (by omega), hl]
    exact refMac_small ka bo kn kc n c ks xs (keyOf ks) (xk 54 (keyOf ks)) (xk 92 (keyOf ks)) (sumOf (xk 54 (keyOf ks) ++ xs)) (macOf ks xs) w hk (by omega) e hs hcn hbig hKl (by rw [xk_length]; exact hKl) (by rw [xk_length]; exact hKl)
      (xk_rng _ _ hKr (by decide) (by decide)) (xk_rng _ _ hKr (by decide) (by decide)) (sumOf_length _) (sumOf_rng _) (sumOf_length _) (fun j hj => (xk_at 54 _ j (by omega)).symm) (fun j hj => (xk_at 92 _ j (by omega)).symm) hsum rfl rfl
  · have e : keyOf ks = sumOf ks ++ List.replicate 32 0 := by unfold keyOf; rw [if_pos (by omega)]
    exact refMac_big ka bo kn kc n c ks xs (sumOf ks) (keyOf ks) (xk 54 (keyOf ks)) (xk 92 (keyOf ks)) (sumOf (xk 54 (keyOf ks) ++ xs)) (macOf ks xs) w hk hkc (by omega) hkb hknc hkm (sumOf_length _) e rfl hs hcn hbig hKl (by rw [xk_length]; exact hKl) (by rw [xk_length]; exact hKl)
      (xk_rng _ _ hKr (by decide) (by decide)) (xk_rng _ _ hKr (by decide) (by decide)) (sumOf_length _) (sumOf_rng _) (sumOf_length _) (fun j hj => (xk_at 54 _ j (by omega)).symm) (fun j hj => (xk_at 92 _ j (by omega)).symm) hsum rfl rfl
end Go.Proofs.YtmnembhcfkcmnaaDoor
