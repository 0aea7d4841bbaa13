/- FieldThrough: the places of the points, each once, and a polynomial's values at them. -/
import Derived.Test.YtokjlgafidcahaaTwo
import Derived.Test.YtokjlgafidcahaaAtZ
import Derived.Test.YtokjlgafidcahaaEvalB
namespace Go.Proofs.Ytokjlgafidcahaa
open Go.RowKit

theorem len_of' {w : World} {ao : Option Addr} {n : Nat} {cs : List B} (h : Shows w ao n (cs.map v8)) : cs.length = n := by have := h.len; rwa [List.length_map] at this
theorem rng_v8 (cs : List B) : ∀ x ∈ cs.map v8, 0 ≤ x ∧ x ≤ 255 := by
  intro x hx
  obtain ⟨c, _, rfl⟩ := List.mem_map.1 hx
  exact ⟨v8_nn c, v8_le c⟩

set_option maxRecDepth 100000 in
set_option maxHeartbeats 2000000 in
theorem thru_walk (ao bo : Option Addr) (n c m d : Nat) (cs ps : List B) (t : B) (w : World) (hs : Shows w ao n (cs.map v8)) (ht : Shows w bo m (ps.map v8)) (hn : (n : Int) ≤ 255) (hm : (m : Int) ≤ 1024) :
    Calls Try.prog 8 #[.slice ao n c, .slice bo m d, .int .u8 (v8 t)] w fun e w' => e = .returned (.bool true) ∧ Below w.heap.size w w' := by
  have hn' : decide ((255 : Int) < (n : Int)) = false := by simp; omega
  have hm' : decide ((1024 : Int) < (m : Int)) = false := by simp; omega
  have HL : Hid (cs.length = n) := len_of' hs
  have HM : Hid (ps.length = m) := len_of' ht
  have hz := zero38
  have hz0 := Blk.new w 38 (List.replicate 256 (Value.bool false))
  have hz1 := markV_nil
  obtain ⟨zs, hzs⟩ : ∃ zs, zs = List.replicate 256 (Value.bool false) := ⟨_, rfl⟩
  rw [← hzs] at hz hz0 hz1
  rw [hz1] at hz0
  clear hzs
  obtain ⟨B0, eB⟩ : ∃ b, b = w.heap.size + 1 := ⟨_, rfl⟩
  have hB0 : w.heap.size < B0 := by omega
  have hB1 : B0 ≤ w.heap.size + 1 := by omega
  clear eB
  go_enter Try.func8, Try.ntmps8
  go_wp2_with fail
  have hw1 : Below w.heap.size w (w.alloc (.cells (markV []).toArray 38)) := (Below.refl _ w).alloc (Nat.le_refl _) _
  go_loopw [8, 9, 10] (fun a b i wr => ∃ j : Nat, j ≤ m ∧ i = .int .i64 j ∧ wr.ownsRow B0 5 1 a (uqT ps j).length (u8s ((uqT ps j).map v8)) ∧ wr.ownsRow B0 5 1 b (uqT ps j).length (u8s (((uqT ps j).map (ev cs)).map v8)) ∧ Ap a b ∧ Blk wr w.heap.size 38 (markV (uqT ps j)) ∧ Below w.heap.size w wr ∧ B0 ≤ wr.heap.size) (fun _ _ i _ => m - (intOf i).toNat)
  case atStart =>
    refine ⟨0, Nat.zero_le _, rfl, World.ownsRow_nil _ _ _ _, World.ownsRow_nil _ _ _ _, fun g hg => (by cases hg), ?_, hw1, ?_⟩
    · exact hz0
    · rw [World.size_alloc]; exact hB1
  case round =>
    obtain ⟨k, hk, rfl, ho1, ho2, hap, hBk, hb, hsz⟩ := hrel
    by_cases hlt : k < m
    · obtain ⟨bd, rfl⟩ := ht.some (by omega)
      have hx := (ht.later hb).elem k hlt
      have HU : Hid (uqT ps (k + 1) = if ps.getD k 0#8 = 0#8 ∨ ps.getD k 0#8 ∈ uqT ps k then uqT ps k else uqT ps k ++ [ps.getD k 0#8]) := rfl
      have hUl := good_short _ (uqT_good ps k)
      obtain ⟨x, ex⟩ : ∃ x, x = ps.getD k 0#8 := ⟨_, rfl⟩
      rw [← ex] at hx HU
      clear ex
      obtain ⟨U, eU⟩ : ∃ U, U = uqT ps k := ⟨_, rfl⟩
      rw [← eU] at HU ho1 ho2 hBk hUl
      clear eU
      have hkm : (k : Int) < (m : Int) := by omega
      by_cases hx0 : x = 0#8
      · rw [if_pos (Or.inl hx0)] at HU
        rw [hx0, v8_zero] at hx
        go_wp2
        refine ⟨⟨k + 1, by omega, by go_num, ?_⟩, by simp [intOf]; omega⟩
        rw [HU.out]
        exact ⟨ho1, ho2, hap, hBk, hb, hsz⟩
      · have hv : (v8 x == 0) = false := by have := v8_pos hx0; simp; omega
        have hv0 := v8_nn x
        have hv1 := v8_le x
        have hcl := hBk.cell x.toNat _ (markV_at U x.toNat x.isLt)
        have hfz := hBk.fz x.toNat
        have hst := hBk.set x.toNat (.bool true)
        rw [markV_snoc] at hst
        rw [← v8_toNat] at hcl hfz hst
        have hmi := markB_iff U x
        rw [← v8_toNat] at hmi
        by_cases hxU : x ∈ U
        · rw [if_pos (Or.inr hxU)] at HU
          rw [hmi.2 hxU] at hcl
          clear hmi hst
          go_wp2
          refine ⟨⟨k + 1, by omega, by go_num, ?_⟩, by simp [intOf]; omega⟩
          rw [HU.out]
          exact ⟨ho1, ho2, hap, hBk, hb, hsz⟩
        · rw [if_neg (fun h => h.elim hx0 hxU)] at HU
          have hmf : markB U (v8 x).toNat = false := by
            cases h : markB U (v8 x).toNat
            · rfl
            · exact absurd (hmi.1 h) hxU
          rw [hmf] at hcl
          clear hmi hmf hxU hBk
          have hb1 := hb.setCell (p := ⟨w.heap.size, (v8 x).toNat, none⟩) (Nat.le_refl _) (.bool true)
          have ho1' := own_beside ho1 ⟨w.heap.size, (v8 x).toNat, none⟩ (.bool true) hB0
          have ho2' := own_beside ho2 ⟨w.heap.size, (v8 x).toNat, none⟩ (.bool true) hB0
          have hszs : (wr.setCell ⟨w.heap.size, (v8 x).toNat, none⟩ (.bool true)).heap.size = wr.heap.size := by simp
          have hr1 : ∀ z ∈ [v8 x], 0 ≤ z ∧ z ≤ 255 := by intro z hz; rw [List.mem_singleton] at hz; rw [hz]; exact ⟨hv0, hv1⟩
          have hr2 : ∀ z ∈ [v8 (ev cs x)], 0 ≤ z ∧ z ≤ 255 := by intro z hz; rw [List.mem_singleton] at hz; rw [hz]; exact ⟨v8_nn _, v8_le _⟩
          have hsh := shows_new (wr.setCell ⟨w.heap.size, (v8 x).toNat, none⟩ (.bool true)) [v8 x] hr1
          rw [hszs] at hsh
          have cE : ∀ W, Below w.heap.size w W → _ := fun W hW => eval_any ao n c cs x W (hs.later hW) (by omega)
          clear ho1 ho2 hb
          have HSZ : Hid (_ = _) := hszs
          clear hszs
          go_wp2_with (first
            | (at_builtin; refine law_two rfl _ _ rfl B0 _ _ U.length U.length _ _ rfl (ho1'.alloc _) (ho2'.alloc _) hap ⟨wr.heap.size, 0, none⟩ [v8 x] 1 1 rfl hsh (by decide) (by omega) (by rw [World.size_alloc, HSZ.out]; omega) ?_; intro v1 w1 hv1' hu1 hap1 hg1))
          have hsA : w.heap.size ≤ ((wr.setCell ⟨w.heap.size, (v8 x).toNat, none⟩ (.bool true)).alloc (.cells (u8s [v8 x]).toArray 5)).heap.size := by rw [World.size_alloc, HSZ.out]; omega
          have hb2 : Below w.heap.size w w1 := (hb1.alloc hb1.size _).grown hg1 hsA (fun b hb => by have := (ho1'.lt b hb).1; omega)
          have hBk1 : Blk w1 w.heap.size 38 (markV (U ++ [x])) := (hst.alloc _).far hg1 (ho1'.alloc _) hB0
          have hsz1 : B0 ≤ w1.heap.size := by have := hg1.size; rw [World.size_alloc, HSZ.out] at this; omega
          clear hst hcl hfz hx hb1 ho1' ho2' hsh hap hsA HSZ hg1 hsz
          go_at_call 20
          refine (cE w1 hb2).mono ?_
          rintro e w2 ⟨rfl, hbE⟩
          clear cE
          have hb3 : Below w.heap.size w w2 := hb2.trans (hbE.mono hb2.size)
          have hv2 := own_next hv1' hbE
          have hu2 := own_next hu1 hbE
          have hBk2 := hBk1.next hbE
          have hsz2 : B0 ≤ w2.heap.size := by have := hbE.size; omega
          have hsh2 := shows_new w2 [v8 (ev cs x)] hr2
          clear hv1' hu1 hBk1 hbE hb2 hsz1
          go_wp2_with (first
            | (at_builtin; refine law_two rfl _ _ rfl B0 _ _ U.length (U.length + 1) _ _ rfl (hu2.alloc _) (hv2.alloc _) (fun g hg hu => hap1 g hu hg) ⟨w2.heap.size, 0, none⟩ [v8 (ev cs x)] 1 1 rfl hsh2 (by decide) (by omega) (by rw [World.size_alloc]; omega) ?_; intro v2 w3 hv3 hu3 hap3 hg3))
          have hb4 : Below w.heap.size w w3 := (hb3.alloc hb3.size _).grown hg3 (by rw [World.size_alloc]; omega) (fun b hb => by have := (hu2.lt b hb).1; omega)
          have hBk3 : Blk w3 w.heap.size 38 (markV (U ++ [x])) := (hBk2.alloc _).far hg3 (hu2.alloc _) hB0
          have hsz3 : B0 ≤ w3.heap.size := by have := hg3.size; rw [World.size_alloc] at this; omega
          refine ⟨⟨k + 1, by omega, by go_num, ?_⟩, by simp [intOf]; omega⟩
          rw [HU.out, List.length_append, List.map_append, List.map_append, List.map_append]
          exact ⟨hu3, hv3, fun g hg hu => hap3 g hu hg, hBk3, hb4, hsz3⟩
    · have hkm : k = m := by omega
      subst hkm
      have hG := uqT_good ps k
      obtain ⟨U, eU⟩ : ∃ U, U = uqT ps k := ⟨_, rfl⟩
      rw [← eU] at ho1 ho2 hG
      clear eU hBk hz hz0 hz1 hw1 hlt
      have hUl := good_short U hG
      have hr1 := rng_v8 U
      have hr2 := rng_v8 (U.map (ev cs))
      have HY : Hid (0 < U.length → cs.length ≤ U.length → atZ U (U.map (ev cs)) = cs.getD 0 0#8) := fun h1 h2 => by
        rw [atZ_AZ]
        exact AZ_ev cs U hG h1 h2
      have HT : Hid (t ≠ 0#8 → 0 < U.length → atZ U ((U.map (ev cs)).set 0 ((U.map (ev cs)).getD 0 0#8 ^^^ t)) ≠ atZ U (U.map (ev cs))) := fun h1 h2 =>
        atZ_turn U (U.map (ev cs)) t hG h2 (by rw [List.length_map]; exact h2) h1
      have HG : Hid (Good U) := hG
      clear hG
      rw [HL.out] at HY
      obtain ⟨L, eL⟩ : ∃ L, L = U.length := ⟨_, rfl⟩
      rw [← eL] at ho1 ho2 hUl HY HT
      have HLU : Hid (U.length = L) := eL.symm
      clear eL
      by_cases hL0 : L = 0
      · subst hL0
        obtain ⟨a1, c1, rfl, hS1, hc1, hm1, hnone1, hbl1⟩ := own_shape ho1 hr1
        clear ho1 ho2 hap HY HT HG HLU
        go_wp2_with (go_at_call 18; refine (works_any _).mono ?_; rintro e w' ⟨rfl, hbw⟩)
        go_ret
        exact ⟨rfl, hb.trans (hbw.mono hb.size)⟩
      · obtain ⟨g1, c1, rfl, _, _⟩ := ho1.form (by omega)
        obtain ⟨g2, c2, rfl, _, _⟩ := ho2.form (by omega)
        have hL1 : ((L : Int) == 0) = false := by simp; omega
        by_cases hnL : (L : Int) < (n : Int)
        · clear ho1 ho2 hap HY HT HG HLU
          go_wp2_with (go_at_call 18; refine (works_any _).mono ?_; rintro e w' ⟨rfl, hbw⟩)
          go_ret
          exact ⟨rfl, hb.trans (hbw.mono hb.size)⟩
        · have hnL' : decide ((L : Int) < (n : Int)) = false := by simp; omega
          have hY := HY.out (by omega) (by omega)
          have hown1 := fun W (hW : Below wr.heap.size wr W) => own_next ho1 hW
          have hown2 := fun W (hW : Below wr.heap.size wr W) => own_next ho2 hW
          have hsF : ∀ (W : World) (g cc : Nat) (xs : List B), xs.length = L → W.ownsRow B0 5 1 (.slice (some ⟨g, 0, none⟩) L cc) L (u8s (xs.map v8)) → Shows W (some ⟨g, 0, none⟩) L (xs.map v8) := fun W g cc xs hl h => by
            have h' : W.ownsRow B0 5 1 (.slice (some ⟨g, 0, none⟩) L cc) L (u8s (xs.map v8 ++ [])) := by rwa [List.append_nil]
            exact shows_first h' (by rw [List.length_map]; exact hl) (Nat.le_refl _) (rng_v8 xs)
          have hDl : (U.map (ev cs)).length = L := by rw [List.length_map]; exact HLU.out
          have cA := atz_good (some ⟨g1, 0, none⟩) (some ⟨g2, 0, none⟩) L c1 c2 U (U.map (ev cs)) wr (hsF wr g1 c1 U HLU.out ho1) (hsF wr g2 c2 _ hDl ho2) (by omega) (by omega) HG.out
          rw [hY] at cA
          have HT2 : Hid (t ≠ 0#8 → atZ U ((U.map (ev cs)).set 0 ((U.map (ev cs)).getD 0 0#8 ^^^ t)) ≠ cs.getD 0 0#8) := fun h => by
            have := HT.out h (by omega)
            rwa [hY] at this
          obtain ⟨D, eD⟩ : ∃ D, D = U.map (ev cs) := ⟨_, rfl⟩
          rw [← eD] at hown2 hDl HT2
          have HDl : Hid (D.length = L) := hDl
          obtain ⟨y0, ey⟩ : ∃ y, y = D.getD 0 0#8 := ⟨_, rfl⟩
          have HD0 : Hid (D.getD 0 0#8 = y0) := ey.symm
          rw [← ey] at HT2
          obtain ⟨q, eq⟩ : ∃ q, q = cs.getD 0 0#8 := ⟨_, rfl⟩
          rw [← eq] at cA HT2
          have HQ : Hid (cs.getD 0 0#8 = q) := eq.symm
          have hap' : g1 ≠ g2 := fun e => hap g1 rfl (by rw [e]; rfl)
          have hB2 := fun W (hW : Below wr.heap.size wr W) => hb.trans (hW.mono hb.size)
          clear eD ey eq hY HY HT hDl ho1 ho2 hap
          by_cases hn0 : n = 0
          · subst hn0
            have hq : v8 q = 0 := by
              rw [← HQ.out, List.eq_nil_of_length_eq_zero HL.out]
              exact v8_zero
            go_wp2_with fail
            go_at_call 23
            refine cA.mono ?_
            rintro e w2 ⟨rfl, hb2⟩
            clear cA
            have hO1 := hown1 w2 hb2
            have hO2 := hown2 w2 hb2
            have hBB := hB2 w2 hb2
            clear hown1 hown2 hB2 hb2 hb
            by_cases ht0 : t = 0#8
            · rw [ht0, v8_zero]
              go_wp2_with (go_at_call 18; refine (works_any _).mono ?_; rintro e w' ⟨rfl, hbw⟩)
              go_ret
              exact ⟨rfl, hBB.trans (hbw.mono hBB.size)⟩
            · have htv : (v8 t == 0) = false := by have := v8_pos ht0; simp; omega
              have hne := HT2.out ht0
              have hc2 := (hsF w2 g2 c2 D HDl.out hO2).elem 0 (by omega)
              rw [HD0.out] at hc2
              have hc2' : w2.cell? ⟨g2, 0, none⟩ = some (.int .u8 (v8 y0)) := hc2
              have hf2 := own_first hO2
              have hO1' := own_apart hO1 ⟨g2, 0, none⟩ (.int .u8 (v8 (y0 ^^^ t))) (by simp [Value.ownBlock]; exact hap')
              have hO2' := own_set hO2 (v8 (y0 ^^^ t))
              rw [← List.map_set] at hO2'
              have hBg : B0 ≤ g2 := (hO2.lt g2 rfl).1
              have hB3 := hBB.setCell (p := ⟨g2, 0, none⟩) (show w.heap.size ≤ g2 by omega) (.int .u8 (v8 (y0 ^^^ t)))
              have cA2 := atz_good (some ⟨g1, 0, none⟩) (some ⟨g2, 0, none⟩) L c1 c2 U (D.set 0 (y0 ^^^ t)) _ (hsF _ g1 c1 U HLU.out hO1') (hsF _ g2 c2 _ (by rw [List.length_set]; exact HDl.out) hO2') (by omega) (by omega) HG.out
              obtain ⟨z2, ez⟩ : ∃ z, z = atZ U (D.set 0 (y0 ^^^ t)) := ⟨_, rfl⟩
              rw [← ez] at cA2 hne
              have hv2 := v8_ne hne
              have hv2' : (v8 z2 == v8 q) = false := by simp [hv2]
              have hv4 : (v8 z2 != v8 q) = true := by simp [hv2]
              rw [hq] at hv2 hv2' hv4
              clear ez hne hc2 hO1 hO2 hO1' hO2'
              go_wp2_with fail
              go_at_call 11
              refine (add_any _ _ _ _ _ rfl rfl).mono ?_
              rintro e w' ⟨rfl, rfl⟩
              go_wp2_with fail
              go_at_call 23
              refine cA2.mono ?_
              rintro e w3 ⟨rfl, hb3⟩
              clear cA2
              go_wp2_with (go_at_call 18; refine (works_any _).mono ?_; rintro e w' ⟨rfl, hbw⟩)
              go_ret
              have hB4 : Below w.heap.size w w3 := hB3.trans (hb3.mono hB3.size)
              exact ⟨rfl, hB4.trans (hbw.mono hB4.size)⟩
          · obtain ⟨ad, rfl⟩ := hs.some (by omega)
            have hc0 := (hs.later hb).elem 0 (by omega)
            rw [HQ.out, show ad.add 0 = ad by simp [Addr.add]] at hc0
            have hn1 : (0 : Int) < (n : Int) := by omega
            go_wp2_with fail
            go_at_call 23
            refine cA.mono ?_
            rintro e w2 ⟨rfl, hb2⟩
            clear cA
            have hO1 := hown1 w2 hb2
            have hO2 := hown2 w2 hb2
            have hBB := hB2 w2 hb2
            clear hown1 hown2 hB2 hb2 hb
            by_cases ht0 : t = 0#8
            · rw [ht0, v8_zero]
              go_wp2_with (go_at_call 18; refine (works_any _).mono ?_; rintro e w' ⟨rfl, hbw⟩)
              go_ret
              exact ⟨rfl, hBB.trans (hbw.mono hBB.size)⟩
            · have htv : (v8 t == 0) = false := by have := v8_pos ht0; simp; omega
              have hne := HT2.out ht0
              have hc2 := (hsF w2 g2 c2 D HDl.out hO2).elem 0 (by omega)
              rw [HD0.out] at hc2
              have hc2' : w2.cell? ⟨g2, 0, none⟩ = some (.int .u8 (v8 y0)) := hc2
              have hf2 := own_first hO2
              have hO1' := own_apart hO1 ⟨g2, 0, none⟩ (.int .u8 (v8 (y0 ^^^ t))) (by simp [Value.ownBlock]; exact hap')
              have hO2' := own_set hO2 (v8 (y0 ^^^ t))
              rw [← List.map_set] at hO2'
              have hBg : B0 ≤ g2 := (hO2.lt g2 rfl).1
              have hB3 := hBB.setCell (p := ⟨g2, 0, none⟩) (show w.heap.size ≤ g2 by omega) (.int .u8 (v8 (y0 ^^^ t)))
              have cA2 := atz_good (some ⟨g1, 0, none⟩) (some ⟨g2, 0, none⟩) L c1 c2 U (D.set 0 (y0 ^^^ t)) _ (hsF _ g1 c1 U HLU.out hO1') (hsF _ g2 c2 _ (by rw [List.length_set]; exact HDl.out) hO2') (by omega) (by omega) HG.out
              obtain ⟨z2, ez⟩ : ∃ z, z = atZ U (D.set 0 (y0 ^^^ t)) := ⟨_, rfl⟩
              rw [← ez] at cA2 hne
              have hv2 := v8_ne hne
              have hv2' : (v8 z2 == v8 q) = false := by simp [hv2]
              have hv4 : (v8 z2 != v8 q) = true := by simp [hv2]
              clear ez hne hc2 hO1 hO2 hO1' hO2'
              go_wp2_with fail
              go_at_call 11
              refine (add_any _ _ _ _ _ rfl rfl).mono ?_
              rintro e w' ⟨rfl, rfl⟩
              go_wp2_with fail
              go_at_call 23
              refine cA2.mono ?_
              rintro e w3 ⟨rfl, hb3⟩
              clear cA2
              go_wp2_with (go_at_call 18; refine (works_any _).mono ?_; rintro e w' ⟨rfl, hbw⟩)
              go_ret
              have hB4 : Below w.heap.size w w3 := hB3.trans (hb3.mono hB3.size)
              exact ⟨rfl, hB4.trans (hbw.mono hB4.size)⟩

set_option maxRecDepth 100000 in
theorem thru_big1 (ao bo : Option Addr) (n c m d : Nat) (t : B) (w : World) (hn : (255 : Int) < n) :
    Calls Try.prog 8 #[.slice ao n c, .slice bo m d, .int .u8 (v8 t)] w fun e w' => e = .returned (.bool true) ∧ Below w.heap.size w w' := by
  go_enter Try.func8, Try.ntmps8
  go_wp2_with (go_at_call 18; refine (works_any w).mono ?_; rintro e w' ⟨rfl, hb⟩)
  go_ret
  exact ⟨rfl, hb⟩
set_option maxRecDepth 100000 in
theorem thru_big2 (ao bo : Option Addr) (n c m d : Nat) (t : B) (w : World) (hn : (n : Int) ≤ 255) (hm : (1024 : Int) < m) :
    Calls Try.prog 8 #[.slice ao n c, .slice bo m d, .int .u8 (v8 t)] w fun e w' => e = .returned (.bool true) ∧ Below w.heap.size w w' := by
  have hn' : decide ((255 : Int) < (n : Int)) = false := by simp; omega
  go_enter Try.func8, Try.ntmps8
  go_wp2_with (go_at_call 18; refine (works_any w).mono ?_; rintro e w' ⟨rfl, hb⟩)
  go_ret
  exact ⟨rfl, hb⟩
end Go.Proofs.Ytokjlgafidcahaa
