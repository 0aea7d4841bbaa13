/- DigestKeys: a key of 64 bytes; the whole. -/
import Derived.Test.YtmnembhcfkcmnaaDoorKeysB
import Derived.BigQuiet
namespace Go.Proofs.YtmnembhcfkcmnaaDoor
open Go.RowKit

set_option maxHeartbeats 2000000 in
set_option maxRecDepth 100000 in
theorem keys_just (ka bo : Option Addr) (kn kc n c : Nat) (ks xs K A1 A2 I : List Int) (w : World) (hk : Shows w ka kn ks) (hknc : kn ≤ kc) (hkm : kc ≤ maxLen) (hs : Shows w bo n xs) (hcn : bo = none → c = 0) (hnc : n ≤ c) (hc : c ≤ maxLen) (hT : Tabs w) (hn : (n : Int) ≤ 16384) (h64 : (kn : Int) = 64)
    (hK1 : ∀ j, j < kn → K.getD j 0 = ks.getD j 0) (_ : ∀ j, kn ≤ j → j < 64 → K.getD j 0 = 0) (hA1l : A1.length = 64) (hA2l : A2.length = 64) (hA1r : ∀ x ∈ A1, 0 ≤ x ∧ x ≤ 255) (hA2r : ∀ x ∈ A2, 0 ≤ x ∧ x ≤ 255) (hI : I.length = 32) (hIr : ∀ x ∈ I, 0 ≤ x ∧ x ≤ 255)
    (hA1a : ∀ j, j < 64 → bits .xor .u8 (K.getD j 0) 54 = A1.getD j 0) (hA2a : ∀ j, j < 64 → bits .xor .u8 (K.getD j 0) 92 = A2.getD j 0)
    (hsI : sumOf (A1 ++ xs) = I) (hsR : sumOf (A2 ++ I) = macOf ks xs) :
    Calls Tryd.prog 7 #[.slice ka kn kc, .slice bo n c] w fun e w' => e = .returned (.bool true) ∧ Below w.heap.size w w' := by
  have hc1 := mac_any ka bo kn kc n c ks xs w hk hknc hkm (by omega) hs hnc hc (by omega) hT
  have hRl : (macOf ks xs).length = 32 := sumOf_length _
  obtain ⟨R, eR⟩ : ∃ x, x = macOf ks xs := ⟨_, rfl⟩
  rw [← eR] at hRl hc1 hsR
  have HsI : Hid (sumOf (A1 ++ xs) = I) := hsI
  have HsR : Hid (sumOf (A2 ++ I) = R) := hsR
  clear hsI hsR eR
  have heq' : ∀ W : World, (Op.equalIn 10000 25 (.agg (nums .u8 R)) (.agg (R.map (Value.int .u8)).toArray)).run Tryd.prog W = .ok true W := eq25 R hRl
  have hgd := guard25
  have u25 := Tryd.underlying25
  have i25 : (Tryd.prog.info? 25).map (·.size) = some (R.map (Value.int .u8)).length := by rw [List.length_map, hRl]; kernel_rfl
  have k1 : ¬ (16384 : Int) < (kn : Int) := by omega
  have k2 : ¬ (64 : Int) < (kn : Int) := by omega
  have k3 : decide ((kn : Int) < 64) = false := by simp; omega
  have hkn1 : 64 ≤ kn := by omega
  have hkn2 : kn ≤ 64 := by omega
  clear h64
  go_enter Tryd.func7, Tryd.ntmps7
  go_wp2_with fail
  go_at_call 13
  refine hc1.mono ?_
  rintro e w1 ⟨rfl, hb1⟩
  go_wp2_with (refine law_store rfl 25 _ _ rfl w1.heap.size .u8 R rfl rfl 25 _ (Arr.new w1 .u8 25 (List.replicate 32 0)) (by simp [hRl]) (by rw [hRl]; kernel_rfl) ?_; intro w2 ho2 hA2)
  have hB2 : Below w.heap.size w w2 := ho2.below (hb1.alloc hb1.size _) hb1.size
  obtain ⟨gm, egm⟩ : ∃ g, g = w1.heap.size := ⟨_, rfl⟩
  rw [← egm] at hA2
  rw [← egm]
  have hgml := hA2.lt
  clear egm ho2 hc1
  have hr2 : w2.rangeAt gm 0 (R.map (Value.int .u8)) := arr_range hA2
  have hr2d : w2.drew.rangeAt gm 0 (R.map (Value.int .u8)) := hr2
  go_wp2_with fail
  go_quiet (fail)
  have hBX : Below w.heap.size w (w2.drewN nq) := ⟨hB2.os, hB2.tape, hB2.output, hB2.size, hB2.block⟩
  have hrX : (w2.drewN nq).rangeAt gm 0 (R.map (Value.int .u8)) := hr2
  obtain ⟨wX, eX⟩ : ∃ x, x = w2.drewN nq := ⟨_, rfl⟩
  have hdz : wX.heap.size = w2.heap.size := by rw [eX]; rfl
  rw [← eX] at hBX hrX
  rw [← eX]
  obtain ⟨B, eB⟩ : ∃ B, B = wX.heap.size := ⟨_, rfl⟩
  have hzX : B ≤ wX.heap.size := by omega
  have hgB : gm < B := by omega
  have hwB : w.heap.size ≤ B := by have := hB2.size; omega
  clear hr2 hr2d eB hA2 eX
  go_wp2_with fail
  go_loopw [7, 8, 9] (fun v u i wr => ∃ j : Nat, j ≤ 64 ∧ i = .int .i64 (j : Int) ∧ wr.ownsRow B 5 1 v j (u8s (A1.take j)) ∧ wr.ownsRow B 5 1 u j (u8s (A2.take j)) ∧ Ap v u ∧ wr.rangeAt gm 0 (R.map (Value.int .u8)) ∧ Below w.heap.size w wr ∧ B ≤ wr.heap.size) (fun _ _ i _ => 64 - (intOf i).toNat)
  case atStart => exact ⟨0, by omega, rfl, World.ownsRow_nil _ _ _ _, World.ownsRow_nil _ _ _ _, (fun g hg => by cases hg), hrX, hBX, hzX⟩
  case round =>
    obtain ⟨j, hj, rfl, ho1, ho2, hap, hY, hYb, hYz⟩ := hrel
    clear hrX hBX hzX
    by_cases hlj : j < 64
    · have x1 := hA1a j hlj
      have x2 := hA2a j hlj
      by_cases hjk : j < kn
      · obtain ⟨kd, rfl⟩ : ∃ kd, ka = some kd := by
          cases ka with
          | none => have := hk.bare rfl; omega
          | some kd => exact ⟨kd, rfl⟩
        have cx := (hk.later hYb).cell kd rfl j hjk
        rw [hK1 j hjk] at x1 x2
        obtain ⟨x, ex⟩ : ∃ x, x = ks.getD j 0 := ⟨_, rfl⟩
        rw [← ex] at cx x1 x2
        obtain ⟨y1, ey1⟩ : ∃ y, y = A1.getD j 0 := ⟨_, rfl⟩
        obtain ⟨y2, ey2⟩ : ∃ y, y = A2.getD j 0 := ⟨_, rfl⟩
        have hr1 : ∀ z ∈ [y1], 0 ≤ z ∧ z ≤ 255 := by intro z hz; rw [List.mem_singleton] at hz; rw [hz, ey1]; exact byte_at A1 hA1r j
        have hr2 : ∀ z ∈ [y2], 0 ≤ z ∧ z ≤ 255 := by intro z hz; rw [List.mem_singleton] at hz; rw [hz, ey2]; exact byte_at A2 hA2r j
        have HT1 : Hid (A1.take (j + 1) = A1.take j ++ [y1]) := by rw [ey1]; exact take_next A1 j (by omega)
        have HT2 : Hid (A2.take (j + 1) = A2.take j ++ [y2]) := by rw [ey2]; exact take_next A2 j (by omega)
        rw [← ey1] at x1
        rw [← ey2] at x2
        have jk : (j : Int) < (kn : Int) := by omega
        clear ex ey1 ey2 hA1a hA2a hK1
        go_wp2_with (at_builtin; first
          | (refine law_two rfl _ _ rfl B _ _ j j _ _ rfl (ho1.alloc _) (ho2.alloc _) hap ⟨wr.heap.size, 0, none⟩ [y1] 1 1 rfl (shows_new wr [y1] hr1) (by decide) (by omega) (by simp; omega) ?_; intro v1 w1 hv1 hu1 hap1 hg1; have hY1 : w1.rangeAt gm 0 (R.map (Value.int .u8)) := range_far (range_alloc hY _) hg1 (by simp; omega) (fun e => by have := (ho1.lt gm e.symm).1; omega); have hYb1 : Below w.heap.size w w1 := (hYb.alloc hYb.size _).grown hg1 (by have := hYb.size; simp; omega) (fun b hb => by have := (ho1.lt b hb).1; omega); have hz1' : B ≤ w1.heap.size := by (have := hg1.size; simp at this; omega))
          | (refine law_two rfl _ _ rfl B _ _ j (j + 1) _ _ rfl (hu1.alloc _) (hv1.alloc _) (fun g hg hu => hap1 g hu hg) ⟨w1.heap.size, 0, none⟩ [y2] 1 1 rfl (shows_new w1 [y2] hr2) (by decide) (by omega) (by simp; omega) ?_; intro v2 w2' hv2 hu2 hap2 hg2; have hY2 : w2'.rangeAt gm 0 (R.map (Value.int .u8)) := range_far (range_alloc hY1 _) hg2 (by simp; omega) (fun e => by have := (hu1.lt gm e.symm).1; omega); have hYb2 : Below w.heap.size w w2' := (hYb1.alloc hYb1.size _).grown hg2 (by have := hYb1.size; simp; omega) (fun b hb => by have := (hu1.lt b hb).1; omega); have hz2' : B ≤ w2'.heap.size := by (have := hg2.size; simp at this; omega)))
        go_wp2
        go_roundw
        case rel =>
          refine ⟨j + 1, by omega, by go_num, ?_, ?_, fun g hg hu => hap2 g hu hg, hY2, hYb2, hz2'⟩
          · rw [HT1.out]; exact hu2
          · rw [HT2.out]; exact hv2
        case measure => simp [intOf]; omega
      · exact absurd hlj (by omega)
    · have hj64 : j = 64 := by omega
      subst hj64
      rw [List.take_of_length_le (by omega)] at ho1 ho2
      obtain ⟨g1, cap1, hv1, _, _⟩ := ho1.form (by omega)
      subst hv1
      obtain ⟨g2, cap2, hv2, _, _⟩ := ho2.form (by omega)
      subst hv2
      clear hA1a hA2a hK1
      have hsY := hs.later hYb
      go_wp2_with (at_builtin; first
        | (refine law_append rfl _ _ rfl B _ 64 A1 rfl ho1 bo n c xs rfl hsY hcn (by omega) hYz ?_; intro v3 w3' hv3 hg3 _; have hu3 := ho2.kept hg3 (Or.inr (by intro e; exact hap g2 e.symm rfl)); have hZ : w3'.rangeAt gm 0 (R.map (Value.int .u8)) := range_far hY hg3 (by omega) (fun e => by have := (ho1.lt gm e.symm).1; omega); have hZb : Below w.heap.size w w3' := hYb.grown hg3 hYb.size (fun b hb => by have := (ho1.lt b hb).1; omega))
        | fail)
      obtain ⟨a3, c3, rfl, hs3, hc3, hm3, hb3, hk3⟩ := own_shape hv3 (fun z hz => (List.mem_append.1 hz).elim (hA1r z) (hs.rng z))
      have hcI := digestSum_any a3 (64 + n) c3 (A1 ++ xs) w3' hs3 hc3 hm3 (by omega) (hT.later hZb hT.sz)
      rw [HsI.out] at hcI
      clear ho1 ho2 hY hYb hsY hg3
      go_wp2_with fail
      go_at_call 10
      refine hcI.mono ?_
      rintro e w4' ⟨rfl, hb4⟩
      have hu4 := own_next hu3 hb4
      have hZ4 := range_next hZ hb4
      have hZb4 := hZb.trans (hb4.mono hZb.size)
      have hz4 := (hu4.lt g2 rfl)
      clear hcI
      go_wp2_with (first
        | (refine law_store rfl 25 _ _ rfl w4'.heap.size .u8 I rfl rfl 25 _ (Arr.new w4' .u8 25 (List.replicate 32 0)) (by simp [hI]) (by rw [hI]; kernel_rfl) ?_; intro w5' ho5 hI5; have hZ5 : w5'.rangeAt gm 0 (R.map (Value.int .u8)) := range_on (range_alloc hZ4 _) ho5 (by omega); have hZb5 : Below w.heap.size w w5' := ho5.below (hZb4.alloc hZb4.size _) hZb4.size; have hu5 : w5'.ownsRow B 5 1 (.slice (some ⟨g2, 0, none⟩) 64 cap2) 64 (u8s A2) := own_on (hu4.alloc _) ho5 (by intro e; have e2 : g2 = w4'.heap.size := Option.some.inj e; omega); have hs5' : Shows w5' (some ⟨w4'.heap.size, 0, none⟩) 32 I := hI5.shows hIr hI; have hsl := fun W : World => slice_all32 W w4'.heap.size 0)
        | (at_builtin; refine law_append rfl _ _ rfl B _ 64 A2 rfl hu5 _ 32 32 I rfl hs5' (by intro h; cases h) (by omega) (by have := hu5.lt g2 rfl; omega) ?_; intro v6 w6' hv6 hg6 _; have hZ6 : w6'.rangeAt gm 0 (R.map (Value.int .u8)) := range_far hZ5 hg6 (by have := hu5.lt g2 rfl; omega) (fun e => by have := (hu5.lt gm e.symm).1; omega); have hZb6 : Below w.heap.size w w6' := hZb5.grown hg6 hZb5.size (fun b hb => by have := (hu5.lt b hb).1; omega)))
      obtain ⟨a6, c6, rfl, hs6, hc6, hm6, hb6', hk6⟩ := own_shape hv6 (fun z hz => (List.mem_append.1 hz).elim (hA2r z) (hIr z))
      have hZb6d : Below w.heap.size w w6'.drew := hZb6.drew
      have hcR := digestSum_any a6 (64 + 32) c6 (A2 ++ I) w6'.drew ⟨hs6.len, hs6.bare, hs6.cell, hs6.rng⟩ hc6 hm6 (by decide) (hT.later hZb6d hT.sz)
      rw [HsR.out] at hcR
      have hZ6d : w6'.drew.rangeAt gm 0 (R.map (Value.int .u8)) := hZ6
      have hwk : ∀ w7 : World, Below w6'.drew.heap.size w6'.drew w7 → _ := fun w7 hb => works_any w7 (hT.later (hZb6d.trans (hb.mono hZb6d.size)) hT.sz)
      clear hu5 hv6 hs6 hs5' hg6
      go_wp2_with fail
      go_region_held3 (fun w' => w'.rangeAt gm 0 (R.map (Value.int .u8))) (first | exact hr8 | exact hr7 | exact hZ6d | assumption) ((first | (go_at_call 10; refine hcR.mono ?_; rintro e w7 ⟨rfl, hb7⟩; have hr7 : w7.rangeAt gm 0 (R.map (Value.int .u8)) := range_next hZ6d hb7) | (go_at_call 8; refine (hwk w7 hb7).mono ?_; rintro e w8 ⟨rfl, hb8⟩; have hr8 : w8.rangeAt gm 0 (R.map (Value.int .u8)) := range_next hr7 hb8)))
      go_wp2
      go_ret
      have hB7 : Below w.heap.size w w7 := hZb6d.trans (hb7.mono hZb6d.size)
      exact ⟨rfl, hB7.trans (hb8.mono hB7.size)⟩
theorem keys_walk (ka bo : Option Addr) (kn kc n c : Nat) (ks xs : List Int) (w : World) (hk : Shows w ka kn ks) (hkc : ka = none → kc = 0) (hknc : kn ≤ kc) (hkm : kc ≤ maxLen) (hs : Shows w bo n xs) (hcn : bo = none → c = 0) (hnc : n ≤ c) (hc : c ≤ maxLen) (hT : Tabs w) (hkb : (kn : Int) ≤ 16384) (hn : (n : Int) ≤ 16384) :
    Calls Tryd.prog 7 #[.slice ka kn kc, .slice bo n c] w fun e w' => e = .returned (.bool true) ∧ Below w.heap.size w w' := by
  by_cases hlong : (64 : Int) < kn
  · exact keys_long ka bo kn kc n c ks xs w hk hknc hkm hs hnc hc hT hkb hn hlong
  · have hl := hk.len
    have hKl := keyOf_length ks
    have hKr := keyOf_rng ks hk.rng
    have e : keyOf ks = ks ++ List.replicate (64 - kn) 0 := by unfold keyOf; rw [if_neg (by omega), hl]
    have hK1 : ∀ j, j < kn → (keyOf ks).getD j 0 = ks.getD j 0 := fun j hj => by
      rw [e]; simp only [List.getD]; rw [List.getElem?_append_left (by omega)]
    have hK2 : ∀ j, kn ≤ j → j < 64 → (keyOf ks).getD j 0 = 0 := fun j h1 h2 => by
      rw [e]; simp only [List.getD]; rw [List.getElem?_append_right (by omega), List.getElem?_replicate]; split <;> rfl
    by_cases hless : (kn : Int) < 64
    · exact keys_less ka bo kn kc n c ks xs (keyOf ks) (xk 54 (keyOf ks)) (xk 92 (keyOf ks)) (sumOf (xk 54 (keyOf ks) ++ xs)) w hk hkc hknc hkm hs hcn hnc hc hT hkb hn hless hK1 hK2 (by rw [xk_length]; exact hKl) (by rw [xk_length]; exact hKl) (xk_rng _ _ hKr (by decide) (by decide)) (xk_rng _ _ hKr (by decide) (by decide)) (sumOf_length _) (sumOf_rng _) (fun j hj => (xk_at 54 _ j (by omega)).symm) (fun j hj => (xk_at 92 _ j (by omega)).symm) rfl rfl
    · exact keys_just ka bo kn kc n c ks xs (keyOf ks) (xk 54 (keyOf ks)) (xk 92 (keyOf ks)) (sumOf (xk 54 (keyOf ks) ++ xs)) w hk hknc hkm hs hcn hnc hc hT hn (by omega) hK1 hK2 (by rw [xk_length]; exact hKl) (by rw [xk_length]; exact hKl) (xk_rng _ _ hKr (by decide) (by decide)) (xk_rng _ _ hKr (by decide) (by decide)) (sumOf_length _) (sumOf_rng _) (fun j hj => (xk_at 54 _ j (by omega)).symm) (fun j hj => (xk_at 92 _ j (by omega)).symm) rfl rfl

set_option maxHeartbeats 400000 in
theorem keys_big1 (ka bo : Option Addr) (kn kc n c : Nat) (w : World) (hT : Tabs w) (hn : (16384 : Int) < kn) :
    Calls Tryd.prog 7 #[.slice ka kn kc, .slice bo n c] w fun e w' => e = .returned (.bool true) ∧ Below w.heap.size w w' := by
  go_enter Tryd.func7, Tryd.ntmps7
  go_wp2_with (go_at_call 8; refine (works_any w hT).mono ?_; rintro e w' ⟨rfl, hb⟩)
  go_ret
  exact ⟨rfl, hb⟩
set_option maxHeartbeats 400000 in
theorem keys_big2 (ka bo : Option Addr) (kn kc n c : Nat) (w : World) (hT : Tabs w) (hk : (kn : Int) ≤ 16384) (hn : (16384 : Int) < n) :
    Calls Tryd.prog 7 #[.slice ka kn kc, .slice bo n c] w fun e w' => e = .returned (.bool true) ∧ Below w.heap.size w w' := by
  go_enter Tryd.func7, Tryd.ntmps7
  go_wp2_with (go_at_call 8; refine (works_any w hT).mono ?_; rintro e w' ⟨rfl, hb⟩)
  go_ret
  exact ⟨rfl, hb⟩
end Go.Proofs.YtmnembhcfkcmnaaDoor
