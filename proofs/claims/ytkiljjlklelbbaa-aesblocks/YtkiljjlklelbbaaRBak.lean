/- The document's: the block of which Block is this one. -/
import Derived.Test.YtkiljjlklelbbaaRBlk
namespace Go.Proofs.Ytkiljjlklelbbaa
open Go.RowKit

theorem zeroed23r : ∃ Z : List B, Z.length = 16 ∧ Z = List.replicate 16 0#8 ∧ ∀ W : World, (zeroValue 23).run Try.prog W = .ok (.agg (bys Z).toArray) W := ⟨_, by simp, rfl, zero23⟩
theorem unturn_map (b : List B) (hb : b.length = 16) : unturnL (b.map us) = (unturnL b).map us := by
  unfold unturnL
  rw [List.map_map]
  refine List.map_congr_left fun i hi => ?_
  simp only [Function.comp]
  rw [getD_map us b _ (by rw [hb]; exact uf_lt i)]

set_option maxHeartbeats 2000000 in
set_option maxRecDepth 100000 in
theorem rback_any (W T bs : List B) (hW : W.length = 240) (hT : T.length = 512) (hl : bs.length = 16) (HT : ∀ x : B, (W ++ T).getD (496 + x.toNat) 0#8 = us x) (w : World) :
    Calls Try.prog 13 #[.agg (bys (W ++ T)).toArray, .agg (bys bs).toArray] w fun e w' => e = .returned (.agg (bys (dec W 14 bs)).toArray) ∧ Below w.heap.size w w' := by
  have hK : (W ++ T).length = 752 := by rw [List.length_append, hW, hT]
  have h24 : ∀ (b : List B) (r : Nat) (m : Int) (_ : b.length = 16) (_ : r ≤ 14) (_ : m = r) (U : World), Calls Try.prog 24 #[.agg (bys (W ++ T)).toArray, .agg (bys b).toArray, .int .i64 m] U fun e w' => e = .returned (.agg (bys (addL b (rk W r))).toArray) ∧ Below U.heap.size U w' := fun b r m hb hr hm U => by
    have := radded_any (W ++ T) b r m hK hb hr hm U
    rwa [rk_append W T r hW hr] at this
  have HT' : Hid (∀ x : B, (W ++ T).getD (496 + x.toNat) 0#8 = us x) := HT
  clear HT
  obtain ⟨KL, eK⟩ : ∃ K, K = W ++ T := ⟨_, rfl⟩
  rw [← eK] at hK h24 HT' ⊢
  clear eK
  have H24 : Hid _ := h24
  clear h24
  have HR : Hid (∀ n, n ≤ 14 → (rk W n).length = 16) := fun n hn => rk_length W n hW hn
  obtain ⟨Z, hZ, hz0, hz⟩ := zeroed23r
  have HZ : Hid (Z = List.replicate 16 0#8) := hz0
  clear hz0
  have hSS : RbS w (((w.alloc (.cells (bys KL).toArray 33)).alloc (.cells (bys bs).toArray 23)).alloc (.cells (bys Z).toArray 23)) KL Z bs := by
    refine ⟨((Blk.new w 33 (bys KL)).alloc _).alloc _, ?_, ?_, (((Below.refl _ w).alloc (Nat.le_refl _) _).alloc (by simp) _).alloc (by simp; omega) _⟩
    · have h := (Blk.new (w.alloc (.cells (bys KL).toArray 33)) 23 (bys bs)).alloc (.cells (bys Z).toArray 23)
      rwa [World.size_alloc] at h
    · have h := Blk.new ((w.alloc (.cells (bys KL).toArray 33)).alloc (.cells (bys bs).toArray 23)) 23 (bys Z)
      rwa [World.size_alloc, World.size_alloc] at h
  obtain ⟨D, eD⟩ : ∃ L, L = dec W 14 bs := ⟨_, rfl⟩
  have hD : D.length = 16 := by rw [eD]; exact dec_length W hW 14 (by omega) bs hl
  have ED : Hid (dec W 14 bs = D) := eD.symm
  rw [← eD]
  clear eD hT
  go_enter Try.func13, Try.ntmps13
  go_wp2
  go_loopw [5] (fun i wr => ∃ n : Nat, n ≤ 14 ∧ i = .int .i64 (n : Int) ∧ ∃ cur : List B, cur.length = 16 ∧ Hid (dec W n cur = D) ∧ RbS w wr KL Z cur) (fun i _ => (intOf i).toNat)
  case atStart => exact ⟨14, by omega, rfl, bs, hl, ED, hSS⟩
  case round =>
    obtain ⟨n, hn, rfl, cur, hcl, hcur, hA⟩ := hrel
    clear hSS ED
    by_cases hlt : 1 ≤ n
    · have hnI : (1 : Int) ≤ (n : Int) := by omega
      have hnJ : (n : Int) ≤ 14 := by omega
      obtain ⟨A, eA⟩ : ∃ A, A = addL cur (rk W n) := ⟨_, rfl⟩
      have hAl : A.length = 16 := by rw [eA]; exact addL_length _ _ 16 hcl (HR.out n hn)
      have h24 := fun U => H24.out cur n (n : Int) hcl hn rfl U
      rw [← eA] at h24
      obtain ⟨M, eM⟩ : ∃ M, M = mixR (isL n) (mixR (isL n) (mixR (isL n) A)) := ⟨_, rfl⟩
      have hM : M.length = 16 := by rw [eM]; exact mixR_length _ _ (mixR_length _ _ (mixR_length _ _ hAl))
      obtain ⟨L, eL⟩ : ∃ L, L = unturnL (M.map us) := ⟨_, rfl⟩
      have hL : L.length = 16 := by rw [eL]; exact unturnL_length _
      have HD : Hid (dec W (n - 1) L = D) := by
        obtain ⟨m, rfl⟩ : ∃ m, n = m + 1 := ⟨n - 1, by omega⟩
        rw [eL, unturn_map M hM, eM, eA, ← hcur.out]
        rfl
      have hmid : ∃ U : List B, U = M.map us := ⟨_, rfl⟩
      obtain ⟨U, eU⟩ := hmid
      have hU : U.length = 16 := by rw [eU, List.length_map, hM]
      have HU : Hid (∀ i, i < 16 → us (M.getD i 0#8) = U.getD i 0#8) := fun i hi => by rw [eU, getD_map us M i (by omega)]
      rw [← eU] at eL
      have EL : Hid (L = unturnL U) := eL
      clear eL eU hcur eA
      by_cases h14 : n < 14
      · have hI : (n : Int) < 14 := by omega
        have e1 : isL n = false := by unfold isL; simp; omega
        rw [e1] at eM
        have hmx := fun V => rmixed_any [14#8, 11#8, 13#8, 9#8] A rfl hAl V
        rw [rmix_back A hAl, show mixL (mixL (mixL A)) = M from eM.symm] at hmx
        clear eM e1
        go_wp2_with (first
          | (refine law_load rfl 33 (.tmp 2) rfl _ rfl 33 _ hA.k _ Try.underlying33 rfl (by rw [bys_length, hK]; kernel_rfl) ?_)
          | (refine law_load rfl 23 (.tmp 3) rfl _ rfl 23 _ hA.b _ Try.underlying23 rfl (by rw [bys_length, hcl]; kernel_rfl) ?_)
          | (go_at_call 24; refine (h24 _).mono ?_; rintro e w1 ⟨rfl, k1⟩; have hS1 := hA.call k1; clear hA k1)
          | (refine law_store rfl 23 (.tmp 3) (.tmp 16) rfl _ (bys A) rfl rfl 23 _ hS1.b (by rw [bys_length, bys_length, hcl, hAl]) (by rw [bys_length, hAl]; kernel_rfl) (bys_one _) ?_; intro w2 ho2 hb2; have hS2 := hS1.put ho2 hb2; clear hS1 ho2 hb2)
          | (refine law_load rfl 23 (.tmp 3) rfl _ rfl 23 _ hS2.b _ Try.underlying23 rfl (by rw [bys_length, hAl]; kernel_rfl) ?_)
          | (refine law_four rfl _ _ _ _ rfl 14#8 11#8 13#8 9#8 rfl rfl rfl rfl ?_)
          | (go_at_call 25; refine (hmx _).mono ?_; rintro e w3 ⟨rfl, k3⟩; have hS3 := hS2.call k3; clear hS2 k3)
          | (refine law_store rfl 23 (.tmp 3) (.tmp 21) rfl _ (bys M) rfl rfl 23 _ hS3.b (by rw [bys_length, bys_length, hAl, hM]) (by rw [bys_length, hM]; kernel_rfl) (bys_one _) ?_; intro w4 ho4 hb4; have hS4 := hS3.put ho4 hb4; clear hS3 ho4 hb4))
        have hgl := hS4.lt
        have hA0 := hS4.alloc (.cells (bys Z).toArray 23)
        have hO0 := Blk.new w4 23 (bys Z)
        obtain ⟨g, eg⟩ : ∃ g, g = w4.heap.size := ⟨_, rfl⟩
        rw [← eg] at hgl hO0
        (try simp only [← eg])
        obtain ⟨wA, hwA⟩ : ∃ x, x = w4.alloc (.cells (bys Z).toArray 23) := ⟨_, rfl⟩
        rw [← hwA] at hA0 hO0 ⊢
        clear eg hwA hS4
        go_loopw [7] (fun i wr => ∃ c : Nat, c ≤ 4 ∧ i = .int .i64 c ∧ RbS w wr KL Z M ∧ Blk wr g 23 (bys (untJ U (4 * c)))) (fun i _ => 4 - (intOf i).toNat)
        case atStart => exact ⟨0, by omega, rfl, hA0, by rw [untJ_zero, ← HZ.out]; exact hO0⟩
        case round =>
          obtain ⟨c, hc4, rfl, hA, hO⟩ := hrel
          clear hA0 hO0
          by_cases hct : c < 4
          · have hcI : (c : Int) < 4 := by omega
            go_wp2
            obtain ⟨wB, hwB⟩ : ∃ x, x = wr := ⟨_, rfl⟩
            subst hwB
            go_loopw [8] (fun i wr => ∃ q : Nat, q ≤ 4 ∧ i = .int .i64 q ∧ RbS w wr KL Z M ∧ Blk wr g 23 (bys (untJ U (4 * c + q)))) (fun i _ => 4 - (intOf i).toNat)
            case atStart => exact ⟨0, by omega, rfl, hA, hO⟩
            case round =>
              clear hA hO
              obtain ⟨q, hq4, rfl, hA, hO⟩ := hrel
              by_cases hqt : q < 4
              · have hqI : (q : Int) < 4 := by omega
                have htf : tf (4 * c + q) = 4 * ((c + q) % 4) + q := by unfold tf; omega
                have hst := hO.put (tf (4 * c + q)) (U.getD (4 * c + q) 0#8)
                rw [untJ_step U (4 * c + q) (by omega), htf, ← HU.out (4 * c + q) (by omega)] at hst
                clear htf
                have hp4 : ((c : Int) + q) % 4 = ((c + q) % 4 : Nat) := by omega
                obtain ⟨p, ep⟩ : ∃ p, p = (c + q) % 4 := ⟨_, rfl⟩
                have hpl : p < 4 := by omega
                rw [← ep] at hst hp4
                have hA' := fun x : Value => hA.set ⟨g, 4 * p + q, none⟩ x hgl
                have d0 := hO.byte (4 * p + q) (by rw [untJ_length]; omega)
                have f0 := hO.fz (4 * p + q)
                have c0 := hA.b.byte (4 * c + q) (by omega)
                obtain ⟨x, ex⟩ : ∃ x, x = M.getD (4 * c + q) 0#8 := ⟨_, rfl⟩
                rw [← ex] at c0 hst
                have c1 := hA.k.byte (496 + x.toNat) (by have := x.isLt; omega)
                rw [HT'.out x, ← v8_toNat] at c1
                have x0 := v8_nn x
                have x1 := v8_le x
                obtain ⟨y, ey⟩ : ∃ y, y = us x := ⟨_, rfl⟩
                rw [← ey] at c1 hst
                have q0 : (0 : Int) ≤ 4 * (c : Int) + q := by omega
                have q1 : 4 * (c : Int) + q < 16 := by omega
                have q2 : (4 * (c : Int) + q).toNat = 4 * c + q := by omega
                have q3 : (0 : Int) ≤ 4 * (p : Int) + q := by omega
                have q4 : 4 * (p : Int) + q < 16 := by omega
                have q5 : (4 * (p : Int) + q).toNat = 4 * p + q := by omega
                have q6 : (p : Int) < 4 := by omega
                clear HU HT' H24 HR HD EL HZ hA hO ex ey ep h24
                go_wp2
                refine ⟨⟨q + 1, by omega, by go_num, hA' _, hst⟩, by simp [intOf]; omega⟩
              · have hq : q = 4 := by omega
                subst hq
                clear HU HT' H24 HR HD EL HZ h24
                go_wp2
                refine ⟨⟨c + 1, by omega, by go_num, hA, by rw [show 4 * (c + 1) = 4 * c + 4 by omega]; exact hO⟩, by simp [intOf]; omega⟩
          · have hc : c = 4 := by omega
            subst hc
            rw [show 4 * 4 = 16 from rfl, untJ_full, ← EL.out] at hO
            clear HU HT' H24 HR EL HZ h24
            go_wp2_with (first
              | (refine law_load rfl 23 (.tmp 6) rfl _ rfl 23 _ hO _ Try.underlying23 rfl (by rw [bys_length, hL]; kernel_rfl) ?_)
              | (refine law_store rfl 23 (.tmp 3) (.tmp 47) rfl _ (bys L) rfl rfl 23 _ hA.b (by rw [bys_length, bys_length, hL, hM]) (by rw [bys_length, hL]; kernel_rfl) (bys_one _) ?_; intro w7 ho7 hb7; have hS7 := hA.put ho7 hb7; clear hA hO ho7 hb7))
            refine ⟨⟨n - 1, by omega, by congr 1; omega, L, hL, HD, hS7⟩, by simp [intOf]; omega⟩
      · have hn14 : n = 14 := by omega
        subst hn14
        rw [show isL 14 = true from rfl] at eM
        have eM' : M = A := eM
        subst eM'
        clear eM
        rw [show ((14 : Nat) : Int) = 14 from rfl] at h24 ⊢
        go_wp2_with (first
          | (refine law_load rfl 33 (.tmp 2) rfl _ rfl 33 _ hA.k _ Try.underlying33 rfl (by rw [bys_length, hK]; kernel_rfl) ?_)
          | (refine law_load rfl 23 (.tmp 3) rfl _ rfl 23 _ hA.b _ Try.underlying23 rfl (by rw [bys_length, hcl]; kernel_rfl) ?_)
          | (go_at_call 24; refine (h24 _).mono ?_; rintro e w1 ⟨rfl, k1⟩; have hS1 := hA.call k1; clear hA k1)
          | (refine law_store rfl 23 (.tmp 3) (.tmp 16) rfl _ (bys M) rfl rfl 23 _ hS1.b (by rw [bys_length, bys_length, hcl, hAl]) (by rw [bys_length, hAl]; kernel_rfl) (bys_one _) ?_; intro w2 ho2 hb2; have hS2 := hS1.put ho2 hb2; clear hS1 ho2 hb2))
        have hS4 := hS2
        clear hS2
        have hgl := hS4.lt
        have hA0 := hS4.alloc (.cells (bys Z).toArray 23)
        have hO0 := Blk.new w2 23 (bys Z)
        obtain ⟨g, eg⟩ : ∃ g, g = w2.heap.size := ⟨_, rfl⟩
        rw [← eg] at hgl hO0
        (try simp only [← eg])
        obtain ⟨wA, hwA⟩ : ∃ x, x = w2.alloc (.cells (bys Z).toArray 23) := ⟨_, rfl⟩
        rw [← hwA] at hA0 hO0 ⊢
        clear eg hwA hS4
        go_loopw [7] (fun i wr => ∃ c : Nat, c ≤ 4 ∧ i = .int .i64 c ∧ RbS w wr KL Z M ∧ Blk wr g 23 (bys (untJ U (4 * c)))) (fun i _ => 4 - (intOf i).toNat)
        case atStart => exact ⟨0, by omega, rfl, hA0, by rw [untJ_zero, ← HZ.out]; exact hO0⟩
        case round =>
          obtain ⟨c, hc4, rfl, hA, hO⟩ := hrel
          clear hA0 hO0
          by_cases hct : c < 4
          · have hcI : (c : Int) < 4 := by omega
            go_wp2
            obtain ⟨wB, hwB⟩ : ∃ x, x = wr := ⟨_, rfl⟩
            subst hwB
            go_loopw [8] (fun i wr => ∃ q : Nat, q ≤ 4 ∧ i = .int .i64 q ∧ RbS w wr KL Z M ∧ Blk wr g 23 (bys (untJ U (4 * c + q)))) (fun i _ => 4 - (intOf i).toNat)
            case atStart => exact ⟨0, by omega, rfl, hA, hO⟩
            case round =>
              clear hA hO
              obtain ⟨q, hq4, rfl, hA, hO⟩ := hrel
              by_cases hqt : q < 4
              · have hqI : (q : Int) < 4 := by omega
                have htf : tf (4 * c + q) = 4 * ((c + q) % 4) + q := by unfold tf; omega
                have hst := hO.put (tf (4 * c + q)) (U.getD (4 * c + q) 0#8)
                rw [untJ_step U (4 * c + q) (by omega), htf, ← HU.out (4 * c + q) (by omega)] at hst
                clear htf
                have hp4 : ((c : Int) + q) % 4 = ((c + q) % 4 : Nat) := by omega
                obtain ⟨p, ep⟩ : ∃ p, p = (c + q) % 4 := ⟨_, rfl⟩
                have hpl : p < 4 := by omega
                rw [← ep] at hst hp4
                have hA' := fun x : Value => hA.set ⟨g, 4 * p + q, none⟩ x hgl
                have d0 := hO.byte (4 * p + q) (by rw [untJ_length]; omega)
                have f0 := hO.fz (4 * p + q)
                have c0 := hA.b.byte (4 * c + q) (by omega)
                obtain ⟨x, ex⟩ : ∃ x, x = M.getD (4 * c + q) 0#8 := ⟨_, rfl⟩
                rw [← ex] at c0 hst
                have c1 := hA.k.byte (496 + x.toNat) (by have := x.isLt; omega)
                rw [HT'.out x, ← v8_toNat] at c1
                have x0 := v8_nn x
                have x1 := v8_le x
                obtain ⟨y, ey⟩ : ∃ y, y = us x := ⟨_, rfl⟩
                rw [← ey] at c1 hst
                have q0 : (0 : Int) ≤ 4 * (c : Int) + q := by omega
                have q1 : 4 * (c : Int) + q < 16 := by omega
                have q2 : (4 * (c : Int) + q).toNat = 4 * c + q := by omega
                have q3 : (0 : Int) ≤ 4 * (p : Int) + q := by omega
                have q4 : 4 * (p : Int) + q < 16 := by omega
                have q5 : (4 * (p : Int) + q).toNat = 4 * p + q := by omega
                have q6 : (p : Int) < 4 := by omega
                clear HU HT' H24 HR HD EL HZ hA hO ex ey ep h24
                go_wp2
                refine ⟨⟨q + 1, by omega, by go_num, hA' _, hst⟩, by simp [intOf]; omega⟩
              · have hq : q = 4 := by omega
                subst hq
                clear HU HT' H24 HR HD EL HZ h24
                go_wp2
                refine ⟨⟨c + 1, by omega, by go_num, hA, by rw [show 4 * (c + 1) = 4 * c + 4 by omega]; exact hO⟩, by simp [intOf]; omega⟩
          · have hc : c = 4 := by omega
            subst hc
            rw [show 4 * 4 = 16 from rfl, untJ_full, ← EL.out] at hO
            clear HU HT' H24 HR EL HZ h24
            go_wp2_with (first
              | (refine law_load rfl 23 (.tmp 6) rfl _ rfl 23 _ hO _ Try.underlying23 rfl (by rw [bys_length, hL]; kernel_rfl) ?_)
              | (refine law_store rfl 23 (.tmp 3) (.tmp 47) rfl _ (bys L) rfl rfl 23 _ hA.b (by rw [bys_length, bys_length, hL, hM]) (by rw [bys_length, hL]; kernel_rfl) (bys_one _) ?_; intro w7 ho7 hb7; have hS7 := hA.put ho7 hb7; clear hA hO ho7 hb7))
            refine ⟨⟨14 - 1, by omega, by go_num, L, hL, HD, hS7⟩, by simp [intOf]⟩
    · have hn0 : n = 0 := by omega
      subst hn0
      have hc : Hid (addL cur (rk W 0) = D) := hcur
      have h0 := fun V => H24.out cur 0 0 hcl (by omega) rfl V
      rw [hc.out] at h0
      clear hc hcur H24 HR HZ HT'
      rw [show ((0 : Nat) : Int) = 0 from rfl]
      go_wp2_with (first
        | (refine law_load rfl 33 (.tmp 2) rfl _ rfl 33 _ hA.k _ Try.underlying33 rfl (by rw [bys_length, hK]; kernel_rfl) ?_)
        | (refine law_load rfl 23 (.tmp 3) rfl _ rfl 23 _ hA.b _ Try.underlying23 rfl (by rw [bys_length, hcl]; kernel_rfl) ?_)
        | (go_at_call 24; refine (h0 _).mono ?_; rintro e w1 ⟨rfl, k1⟩; have hS1 := hA.call k1; clear hA k1)
        | (refine law_store rfl 23 (.tmp 4) _ rfl _ (bys D) rfl rfl 23 _ hS1.r (by rw [bys_length, bys_length, hZ, hD]) (by rw [bys_length, hD]; kernel_rfl) (bys_one _) ?_; intro wF hoF hAF))
      refine bodyPost_ret (v := .agg (bys D).toArray) (results_cell_row rfl _ _ (w.heap.size + 1 + 1) 23 _ _ _ rfl hAF Try.underlying23 rfl (by rw [List.size_toArray, bys_length, hD]; kernel_rfl)) rfl ⟨rfl, hoF.below hS1.below (by omega)⟩
end Go.Proofs.Ytkiljjlklelbbaa
