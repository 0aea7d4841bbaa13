import Derived.Test.YtjhkicfndbceoaaRTim
import Derived.Test.YtjhkicfndbceoaaSeal
import Derived.Test.YtjhkicfndbceoaaRExp
import Derived.Deep.CutRange
import Derived.Deep.AppendLies
/- The document's: the hash. -/
namespace Go.Proofs.Ytjhkicfndbceoaa
open Go.RowKit

/-- All that is hashed. -/
def allM (ad text : List B) : List B := ((padM ad ++ padM text) ++ lenM ad.length) ++ lenM text.length
theorem allM_length (ad text : List B) (n m : Nat) (hn : ad.length = n) (hm : text.length = m) : (allM ad text).length = 16 * (nbl n + nbl m + 1) := by
  unfold allM
  simp only [List.length_append, padM_length, lenM_length, hn, hm]
  omega
theorem all_hash (H : Q) (ad text : List B) (n m : Nat) (hn : ad.length = n) (hm : text.length = m) (h1 : n ≤ 1000000) (h2 : m ≤ 1000000) : hashN H 0#128 (allM ad text) (nbl n + nbl m + 1) = hashM H ad text := by
  have e : allM ad text = padM ad ++ (padM text ++ (lenM n ++ lenM m)) := by
    unfold allM
    rw [hn, hm]
    simp only [List.append_assoc]
  have la : (padM ad).length = 16 * nbl n := by rw [padM_length, hn]
  have lt : (padM text).length = 16 * nbl m := by rw [padM_length, hm]
  rw [e, Nat.add_assoc, hashN_append H _ _ _ (nbl n) la, hashN_append H _ _ _ (nbl m) lt, padM_hash, padM_hash]
  unfold hashM
  rw [hn, hm, lenM_sizes n m h1 h2]
  have c : chunk (bq (sizesQ n m)) 0 = bq (sizesQ n m) := by
    refine ext_getD _ _ 16 (chunk_length _ _) (bq_length _) (fun i hi => ?_)
    rw [chunk_at _ _ _ hi, Nat.mul_zero, Nat.zero_add]
  show gm (hashN H (hashN H 0#128 ad (nbl n)) text (nbl m) ^^^ qb (chunk (bq (sizesQ n m)) 0)) H = _
  rw [c, qb_bq]

/-- What lies there while the document hashes. -/
structure HsS (w v : World) (hb ZB : List B) : Prop where
  h : Blk v w.heap.size 37 (bys hb)
  r : Blk v (w.heap.size + 1) 37 (bys ZB)
  k : Below w.heap.size w v
section
variable {w v v' : World} {hb ZB : List B}
theorem HsS.call (h : HsS w v hb ZB) (k : Below v.heap.size v v') : HsS w v' hb ZB := ⟨h.h.next k, h.r.next k, h.k.trans (k.mono h.k.size)⟩
theorem HsS.drew (h : HsS w v hb ZB) : HsS w v.drew hb ZB := h.call ((Below.refl _ v).drew)
theorem HsS.grown (h : HsS w v hb ZB) {r : Option Nat} (hg : v.grownBy v' r) (hr : ∀ b, r = some b → w.heap.size + 1 < b) : HsS w v' hb ZB := by
  have n0 : some w.heap.size ≠ r := fun e => by have := hr _ e.symm; omega
  have n1 : some (w.heap.size + 1) ≠ r := fun e => by have := hr _ e.symm; omega
  exact ⟨(hg.block _ h.h.lt n0).trans h.h, (hg.block _ h.r.lt n1).trans h.r, h.k.grown hg h.k.size (fun b e => by have := hr b e; omega)⟩
theorem HsS.set (h : HsS w v hb ZB) (a : Addr) (x : Value) (ha : w.heap.size + 1 < a.block) : HsS w (v.setCell a x) hb ZB := ⟨h.h.beside _ (by omega), h.r.beside _ (by omega), h.k.setCell (by omega) _⟩
theorem HsS.on (h : HsS w v hb ZB) {g : Nat} (ho : On v v' g) (hg : w.heap.size + 1 < g) : HsS w v' hb ZB := ⟨h.h.on ho (by omega), h.r.on ho (by omega), ho.below h.k (by omega)⟩
end

set_option maxHeartbeats 4000000 in
set_option maxRecDepth 100000 in
theorem rhash_any (H : Q) (ad text : List B) (ao bo : Option Addr) (n m c d : Nat) (w : World) (hs : Shows w ao n (v8s ad)) (ht : Shows w bo m (v8s text)) (hc : ao = none → c = 0) (hd : bo = none → d = 0) (hbn : n ≤ 100000) (hbm : m ≤ 100000) :
    Calls Try.prog 43 #[.agg (bys (bq H)).toArray, .slice ao n c, .slice bo m d] w fun e w' => e = .returned (.agg (bys (bq (hashM H ad text))).toArray) ∧ Below w.heap.size w w' := by
  have hln : ad.length = n := by have := hs.len; rw [v8s_length] at this; exact this
  have hlm : text.length = m := by have := ht.len; rw [v8s_length] at this; exact this
  obtain ⟨ZB, eZB, hzB⟩ : ∃ Z : List B, Z = List.replicate 16 0#8 ∧ ∀ W : World, (zeroValue 37).run Try.prog W = .ok (.agg (bys Z).toArray) W := ⟨_, rfl, zero37⟩
  have hZB : ZB.length = 16 := by rw [eZB]; simp
  have HF : Hid (hashM H ad text = hashN H 0#128 (allM ad text) (nbl n + nbl m + 1)) := (all_hash H ad text n m hln hlm (by omega) (by omega)).symm
  have hAL := allM_length ad text n m hln hlm
  have HAE : Hid (v8s (padM ad) ++ (v8s (padM text) ++ (v8s (lenM n) ++ v8s (lenM m))) = v8s (allM ad text)) := by show _ = _; unfold allM; rw [hln, hlm, v8s_append, v8s_append, v8s_append]; simp only [List.append_assoc]
  have hP1 : (padM ad).length = 16 * nbl n := by rw [padM_length, hln]
  have hP2 : (padM text).length = 16 * nbl m := by rw [padM_length, hlm]
  obtain ⟨AL, eAL⟩ : ∃ A, A = allM ad text := ⟨_, rfl⟩
  rw [← eAL] at HF hAL HAE
  have b1 : nbl n ≤ 6251 := by unfold nbl; omega
  have b2 : nbl m ≤ 6251 := by unfold nbl; omega
  obtain ⟨N1, eN1⟩ : ∃ N, N = nbl n := ⟨_, rfl⟩
  obtain ⟨N2, eN2⟩ : ∃ N, N = nbl m := ⟨_, rfl⟩
  have H56a : Hid (∀ W : World, Shows W ao n (v8s ad) → Calls Try.prog 56 #[.slice ao n c] W fun e w' => ∃ v, e = .returned v ∧ w'.ownsRow W.heap.size 5 1 v (16 * N1) (u8s (v8s (padM ad))) ∧ Below W.heap.size W w') := fun W hW => by rw [eN1]; exact padded_any ad ao n c W hW hc (by omega)
  have H56b : Hid (∀ W : World, Shows W bo m (v8s text) → Calls Try.prog 56 #[.slice bo m d] W fun e w' => ∃ v, e = .returned v ∧ w'.ownsRow W.heap.size 5 1 v (16 * N2) (u8s (v8s (padM text))) ∧ Below W.heap.size W w') := fun W hW => by rw [eN2]; exact padded_any text bo m d W hW hd (by omega)
  rw [← eN1] at HF hAL hP1 b1
  rw [← eN2] at HF hAL hP2 b2
  obtain ⟨P1, eP1⟩ : ∃ P, P = padM ad := ⟨_, rfl⟩
  obtain ⟨P2, eP2⟩ : ∃ P, P = padM text := ⟨_, rfl⟩
  obtain ⟨L1, eL1⟩ : ∃ P, P = lenM n := ⟨_, rfl⟩
  obtain ⟨L2, eL2⟩ : ∃ P, P = lenM m := ⟨_, rfl⟩
  have H57a : Hid (∀ W : World, Calls Try.prog 57 #[.int .i64 (n : Int)] W fun e w' => ∃ v, e = .returned v ∧ w'.ownsRow W.heap.size 5 1 v 8 (u8s (v8s L1)) ∧ Below W.heap.size W w') := fun W => by rw [eL1]; exact length_any n (by omega) _ rfl W
  have H57b : Hid (∀ W : World, Calls Try.prog 57 #[.int .i64 (m : Int)] W fun e w' => ∃ v, e = .returned v ∧ w'.ownsRow W.heap.size 5 1 v 8 (u8s (v8s L2)) ∧ Below W.heap.size W w') := fun W => by rw [eL2]; exact length_any m (by omega) _ rfl W
  rw [← eP1] at HAE hP1 H56a
  rw [← eP2] at HAE hP2 H56b
  rw [← eL1, ← eL2] at HAE
  clear eAL eN1 eN2 eP1 eP2 eL1 eL2 hln hlm
  rw [HF.out]
  clear HF
  have hlH := bq_length H
  have H58 : Hid (∀ (Y : Q) (W : World), Calls Try.prog 58 #[.agg (bys (bq Y)).toArray, .agg (bys (bq H)).toArray] W fun e w' => e = .returned (.agg (bys (bq (gm Y H))).toArray) ∧ Below W.heap.size W w') := fun Y W => rtimes_any Y H W
  obtain ⟨F, eF⟩ : ∃ F : Nat → Q, F = fun k => hashN H 0#128 AL k := ⟨_, rfl⟩
  have HF0 : Hid (bq (F 0) = ZB) := by rw [eF, eZB]; exact bq_zero
  have HFS : Hid (∀ k, F (k + 1) = gm (F k ^^^ qb (chunk AL k)) H) := by rw [eF]; exact fun k => rfl
  have HFE : Hid (hashN H 0#128 AL (N1 + N2 + 1) = F (N1 + N2 + 1)) := by rw [eF]; exact rfl
  rw [HFE.out]
  clear HFE eF eZB
  obtain ⟨K, eK⟩ : ∃ K, K = N1 + N2 + 1 := ⟨_, rfl⟩
  rw [← eK]
  have HK : Hid (N1 + N2 + 1 = K) := eK.symm
  have hKb : K ≤ 20000 := by omega
  clear eK
  obtain ⟨hB, ehB⟩ : ∃ l, l = bq H := ⟨_, rfl⟩
  rw [← ehB] at hlH H58 ⊢
  clear ehB
  obtain ⟨h1, h2, h3⟩ := blk2 w 37 37 (bys hB) (bys ZB)
  have hS : HsS w ((w.alloc (.cells (bys hB).toArray 37)).alloc (.cells (bys ZB).toArray 37)) hB ZB := ⟨h1, h2, h3⟩
  clear h1 h2 h3
  have hsz0 : ((w.alloc (.cells (bys hB).toArray 37)).alloc (.cells (bys ZB).toArray 37)).heap.size = w.heap.size + 2 := by simp
  go_enter Try.func43, Try.ntmps43
  go_wp2_with fail
  go_at_call 56; refine (H56a.out _ ((hs.alloc _).alloc _)).mono ?_; rintro e v1 ⟨va, rfl, own1, k1⟩
  have own1 := own_base' (base := w.heap.size + 2) own1 (by rw [hsz0]; omega)
  have hS1 := hS.call k1
  have hz1 : w.heap.size + 2 ≤ v1.heap.size := by have := k1.size; rw [hsz0] at this; exact this
  clear hS k1 hsz0
  go_wp2_with fail
  go_at_call 56; refine (H56b.out _ (ht.later hS1.k)).mono ?_; rintro e v2 ⟨vb, rfl, own2, k2⟩
  obtain ⟨ao2, c2, rfl, s2, -, -, hc2, -⟩ := own_shape own2 (v8s_rng _)
  have own1 := own_below own1 k2
  have hS2 := hS1.call k2
  have hz2 : w.heap.size + 2 ≤ v2.heap.size := by have := k2.size; omega
  clear own2 hS1 k2 hz1
  go_wp2_with (at_builtin; go_must (refine law_append rfl _ _ rfl (w.heap.size + 2) _ _ _ rfl own1 _ _ _ _ rfl s2 hc2 (by omega) hz2 ?_))
  intro v3 w3 own3 g3
  (try intro _)
  have hS3 := hS2.grown g3 (fun b hb => by have := (own1.lt b hb).1; omega)
  have hz3 : w.heap.size + 2 ≤ w3.heap.size := by have := g3.size; omega
  clear own1 g3 hS2 hz2 s2
  go_wp2_with fail
  go_at_call 57; refine (H57a.out _).mono ?_; rintro e v4 ⟨vc, rfl, own4, k4⟩
  obtain ⟨ao4, c4, rfl, s4, -, -, hc4, -⟩ := own_shape own4 (v8s_rng _)
  have own3 := own_below own3 k4
  have hS4 := hS3.call k4
  have hz4 : w.heap.size + 2 ≤ v4.heap.size := by have := k4.size; omega
  clear own4 hS3 k4 hz3
  go_wp2_with (at_builtin; go_must (refine law_append rfl _ _ rfl (w.heap.size + 2) _ _ _ rfl own3 _ _ _ _ rfl s4 hc4 (by omega) hz4 ?_))
  intro v5 w5 own5 g5
  (try intro _)
  have hS5 := hS4.grown g5 (fun b hb => by have := (own3.lt b hb).1; omega)
  have hz5 : w.heap.size + 2 ≤ w5.heap.size := by have := g5.size; omega
  clear own3 g5 hS4 hz4 s4
  go_wp2_with fail
  go_at_call 57; refine (H57b.out _).mono ?_; rintro e v6 ⟨vd, rfl, own6, k6⟩
  obtain ⟨ao6, c6, rfl, s6, -, -, hc6, -⟩ := own_shape own6 (v8s_rng _)
  have own5 := own_below own5 k6
  have hS6 := hS5.call k6
  have hz6 : w.heap.size + 2 ≤ v6.heap.size := by have := k6.size; omega
  clear own6 hS5 k6 hz5
  go_wp2_with (at_builtin; go_must (refine law_append rfl _ _ rfl (w.heap.size + 2) _ _ _ rfl own5 _ _ _ _ rfl s6 hc6 (by omega) hz6 ?_))
  intro v7 w7 own7 g7
  (try intro _)
  have hS7 := hS6.grown g7 (fun b hb => by have := (own5.lt b hb).1; omega)
  clear own5 g7 hS6 hz6 s6
  rw [HAE.out] at own7
  obtain ⟨A, eA⟩ : ∃ A, A = 16 * N1 + 16 * N2 + 8 + 8 := ⟨_, rfl⟩
  rw [← eA] at own7
  obtain ⟨ga, ca, rfl, -, -⟩ := own7.form (by omega)
  obtain ⟨ao', ca', ev, s7, hca, -, -, -⟩ := own_shape own7 (v8s_rng _)
  cases ev
  have hga := own7.lt ga rfl
  clear own7 HAE
  have HA : Hid (A = 16 * K) := by show A = 16 * K; have := HK.out; omega
  clear eA
  have hY0 : Blk (w7.alloc (.cells (bys ZB).toArray 37)) w7.heap.size 37 (bys ZB) := Blk.new _ _ _
  have hS8 := hS7.call ((Below.refl _ w7).alloc (Nat.le_refl _) (.cells (bys ZB).toArray 37))
  have s8 := s7.alloc (.cells (bys ZB).toArray 37)
  obtain ⟨g8, e8⟩ : ∃ g, g = w7.heap.size := ⟨_, rfl⟩
  have hg8 : w.heap.size + 1 < g8 := by have := hS7.r.lt; omega
  have hag : ga ≠ g8 := by omega
  go_wp2_with fail
  rw [← e8] at hY0 ⊢
  clear e8 hga
  clear HK hS7 s7 hP1 hP2 b1 b2 H56a H56b H57a H57b
  go_loopw [9] (fun i wr => ∃ k : Nat, k ≤ K ∧ i = .int .i64 (16 * (k : Int)) ∧ Blk wr g8 37 (bys (bq (F k))) ∧ Shows wr (some ⟨ga, 0, none⟩) A (v8s AL) ∧ HsS w wr hB ZB) (fun i _ => 16 * K - (intOf i).toNat)
  case atStart => exact ⟨0, by omega, rfl, by rw [HF0.out]; exact hY0, s8, hS8⟩
  case round =>
    obtain ⟨k, hk, rfl, hY, sA, hA⟩ := hrel
    clear hY0 s8 hS8
    by_cases hlt : k < K
    · have hAI : 16 * (k : Int) < (A : Int) := by have := HA.out; omega
      obtain ⟨O, eO⟩ : ∃ O, O = bq (F k) := ⟨_, rfl⟩
      obtain ⟨N, eN⟩ : ∃ N, N = bq (F k ^^^ qb (chunk AL k)) := ⟨_, rfl⟩
      have hO16 : O.length = 16 := by rw [eO]; exact bq_length _
      have hN16 : N.length = 16 := by rw [eN]; exact bq_length _
      have HX : Hid (∀ j, j < 16 → O.getD j 0#8 ^^^ AL.getD (16 * k + j) 0#8 = N.getD j 0#8) := fun j hj => by
        rw [eO, eN, ← chunk_at _ _ _ hj, bq_xor, bq_qb _ (chunk_length _ _), addL_at _ _ j (by rw [bq_length]; omega) (by rw [chunk_length]; omega)]
      have HC : Hid (∀ W : World, Calls Try.prog 58 #[.agg (bys N).toArray, .agg (bys hB).toArray] W fun e w' => e = .returned (.agg (bys (bq (F (k + 1)))).toArray) ∧ Below W.heap.size W w') := fun W => by rw [eN, HFS.out]; exact H58.out _ W
      rw [← eO] at hY
      clear eO eN
      have hF16 := bq_length (F (k + 1))
      go_wp2_with fail
      go_loopw [10] (fun i wr2 => ∃ j : Nat, j ≤ 16 ∧ i = .int .i64 (j : Int) ∧ Blk wr2 g8 37 (bys (mid N O j)) ∧ Shows wr2 (some ⟨ga, 0, none⟩) A (v8s AL) ∧ HsS w wr2 hB ZB) (fun i _ => 16 - (intOf i).toNat)
      case atStart => exact ⟨0, by omega, rfl, by rw [mid_zero]; exact hY, sA, hA⟩
      case round =>
        obtain ⟨j, hj, rfl, hYj, sAj, hAj⟩ := hrel
        clear hY sA hA
        have hml := mid_length N O 16 j hN16 hO16
        by_cases hj16 : j < 16
        · have hst := hYj.put j (N.getD j 0#8)
          rw [mid_step N O j 16 hN16 hO16 hj16] at hst
          have HJ : Hid _ := HX.out j hj16
          have c0 := hYj.byte j (by omega)
          rw [mid_at N O j j 16 hN16 hO16 (Nat.le_refl _) hj16] at c0
          have f0 := hYj.fz j
          have c1 := sAj.byteAt (16 * k + j) (by have := HA.out; omega)
          rw [show Addr.add ⟨ga, 0, none⟩ (16 * k + j) = ⟨ga, 16 * k + j, none⟩ by simp [Addr.add]; omega] at c1
          obtain ⟨x, ex⟩ : ∃ x, x = AL.getD (16 * k + j) 0#8 := ⟨_, rfl⟩
          obtain ⟨y, ey⟩ : ∃ y, y = N.getD j 0#8 := ⟨_, rfl⟩
          obtain ⟨z, ez⟩ : ∃ z, z = O.getD j 0#8 := ⟨_, rfl⟩
          rw [← ex] at c1 HJ
          rw [← ey] at hst HJ
          rw [← ez] at c0 HJ
          have hwx := v8_xor z x
          rw [HJ.out] at hwx
          have hsAn := sAj.beside (a := ⟨g8, j, none⟩) (fun a ha => by cases ha; exact hag) (.int .u8 (v8 y))
          have hAn := hAj.set ⟨g8, j, none⟩ (.int .u8 (v8 y)) hg8
          have q0 : (0 : Int) ≤ 16 * (k : Int) + j := by omega
          have q1 : 16 * (k : Int) + j < A := by have := HA.out; omega
          have q2 : (16 * (k : Int) + j).toNat = 16 * k + j := by omega
          have q3 : (k : Int) ≤ 20000 := by omega
          have q4 : IntKind.i64.wrap (16 * (k : Int) + j) = 16 * (k : Int) + j := by rw [IntKind.wrap_i64]; omega
          clear ex ey ez HJ HX
          go_wp2_with fail
          go_region
          go_wp2_with fail
          refine ⟨⟨j + 1, by omega, by go_num, hst.drew, shows_heap hsAn rfl, hAn.drew⟩, by simp [intOf]; omega⟩
        · have hje : j = 16 := by omega
          subst hje
          rw [mid_full N O 16 hN16 hO16] at hYj
          have q3 : (k : Int) ≤ 20000 := by omega
          go_wp2_with (first | (refine law_load rfl 37 _ rfl _ rfl 37 _ hYj _ Try.underlying37 rfl (by rw [bys_length, hN16]; kernel_rfl) ?_) | (refine law_load rfl 37 _ rfl _ rfl 37 _ hAj.h _ Try.underlying37 rfl (by rw [bys_length, hlH]; kernel_rfl) ?_))
          go_at_call 58; refine (HC.out _).mono ?_; rintro e v9 ⟨rfl, k9⟩
          have hY9 := hYj.next k9
          have hs9 := sAj.later k9
          have hA9 := hAj.call k9
          go_wp2_with (refine law_store rfl 37 _ _ rfl _ (bys (bq (F (k + 1)))) rfl rfl 37 _ hY9 (by rw [bys_length, bys_length, hF16, hN16]) (by rw [bys_length, hF16]; kernel_rfl) (bys_one _) ?_; intro wF hoF hAF)
          refine ⟨⟨k + 1, by omega, by go_num, hAF, hs9.on hoF (fun a ha => by cases ha; exact hag), hA9.on hoF hg8⟩, by simp [intOf]; omega⟩
    · have hkK : k = K := by omega
      subst hkK
      have hAI : ¬ (16 * (k : Int) < (A : Int)) := by have := HA.out; omega
      have hF16 := bq_length (F k)
      go_wp2_with (first | (refine law_load rfl 37 _ rfl _ rfl 37 _ hY _ Try.underlying37 rfl (by rw [bys_length, hF16]; kernel_rfl) ?_) | (refine law_store rfl 37 _ _ rfl _ (bys (bq (F k))) rfl rfl 37 _ hA.r (by rw [bys_length, bys_length, hF16, hZB]) (by rw [bys_length, hF16]; kernel_rfl) (bys_one _) ?_; intro wF hoF hAF))
      refine bodyPost_ret (v := .agg (bys (bq (F k))).toArray) (results_cell_row rfl _ _ (w.heap.size + 1) 37 _ _ _ rfl hAF Try.underlying37 rfl (by rw [List.size_toArray, bys_length, hF16]; kernel_rfl)) rfl ⟨rfl, hoF.below hA.k (by omega)⟩
end Go.Proofs.Ytjhkicfndbceoaa

/- The document's: the tag. -/
namespace Go.Proofs.Ytjhkicfndbceoaa
open Go.RowKit

/-- What lies there while the document makes a tag. -/
structure RgS (w v : World) (KL nonce ZB : List B) (gT : Nat) (O : List B) : Prop where
  key : Blk v w.heap.size 46 (bys KL)
  no : Blk v (w.heap.size + 1) 23 (bys nonce)
  r : Blk v (w.heap.size + 1 + 1) 37 (bys ZB)
  t : Blk v gT 37 (bys O)
  g : w.heap.size + 1 + 1 + 1 < gT
  k : Below w.heap.size w v
section
variable {w v v' : World} {KL nonce ZB O O' : List B} {gT g : Nat}
theorem RgS.call (a : RgS w v KL nonce ZB gT O) (hb : Below v.heap.size v v') : RgS w v' KL nonce ZB gT O := ⟨a.key.next hb, a.no.next hb, a.r.next hb, a.t.next hb, a.g, a.k.trans (hb.mono a.k.size)⟩
theorem RgS.drew (a : RgS w v KL nonce ZB gT O) : RgS w v.drew KL nonce ZB gT O := ⟨a.key, a.no, a.r, a.t, a.g, a.k.drew⟩
theorem RgS.lt (a : RgS w v KL nonce ZB gT O) : gT < v.heap.size := a.t.lt
theorem RgS.on (a : RgS w v KL nonce ZB gT O) (ho : On v v' g) (hg : gT < g) : RgS w v' KL nonce ZB gT O := by
  have := a.g
  exact ⟨a.key.on ho (by omega), a.no.on ho (by omega), a.r.on ho (by omega), a.t.on ho (by omega), a.g, ho.below a.k (by omega)⟩
theorem RgS.put (a : RgS w v KL nonce ZB gT O) (i : Nat) (b : B) : RgS w (v.setCell ⟨gT, i, none⟩ (.int .u8 (v8 b))) KL nonce ZB gT (O.set i b) := by
  have := a.g
  exact ⟨a.key.beside _ (by simp; omega), a.no.beside _ (by simp; omega), a.r.beside _ (by simp; omega), a.t.put i b, a.g, a.k.setCell (by simp; omega) _⟩
end

theorem rblock_of (key bs : List B) (hk : key.length = 32) (hb : bs.length = 16) (W : World) : Calls Try.prog 21 #[.agg (bys (ready key ++ tabs)).toArray, .agg (bys bs).toArray] W fun e w' => e = .returned (.agg (bys (enc (ready key) bs 14)).toArray) ∧ Below W.heap.size W w' :=
  rblock_any (ready key) tabs bs (ready_length key hk) tabs_length hb (tabs_there _ (ready_length key hk)) W

set_option maxHeartbeats 4000000 in
set_option maxRecDepth 100000 in
theorem rtag_any (key nonce ad text : List B) (hk : key.length = 32) (hn : nonce.length = 12) (ao bo : Option Addr) (n m c d : Nat) (w : World) (hs : Shows w ao n (v8s ad)) (ht : Shows w bo m (v8s text)) (hc : ao = none → c = 0) (hd : bo = none → d = 0) (hbn : n ≤ 100000) (hbm : m ≤ 100000) :
    Calls Try.prog 28 #[.agg (bys (ready key ++ tabs)).toArray, .agg (bys nonce).toArray, .slice ao n c, .slice bo m d] w fun e w' => e = .returned (.agg (bys (bq (tagM key nonce ad text))).toArray) ∧ Below w.heap.size w w' := by
  obtain ⟨ZB, eZB, hzB⟩ := zeroed37e
  have hZB : ZB.length = 16 := by rw [eZB]; simp
  have hC := ctr_length nonce hn 1
  have hE1 := strm_length key nonce hk hn 1
  have HK : Hid (bq (hkey key) = enc (ready key) ZB 14) := by
    show _ = _
    rw [eZB]
    unfold hkey
    rw [bq_qb _ (enc_length _ _ (ready_length key hk) (by simp) 14 (Nat.le_refl _))]
  clear eZB
  have H21z : Hid (∀ W : World, Calls Try.prog 21 #[.agg (bys (ready key ++ tabs)).toArray, .agg (bys ZB).toArray] W fun e w' => e = .returned (.agg (bys (bq (hkey key))).toArray) ∧ Below W.heap.size W w') := fun W => by rw [HK.out]; exact rblock_of key ZB hk hZB W
  have H21c : Hid (∀ W : World, Calls Try.prog 21 #[.agg (bys (ready key ++ tabs)).toArray, .agg (bys (ctr nonce 1)).toArray] W fun e w' => e = .returned (.agg (bys (strm key nonce 1)).toArray) ∧ Below W.heap.size W w') := fun W => rblock_of key _ hk hC W
  have H42 : Hid (∀ W : World, Calls Try.prog 42 #[.agg (bys nonce).toArray, .int .i64 1] W fun e w' => e = .returned (.agg (bys (ctr nonce 1)).toArray) ∧ Below W.heap.size W w') := fun W => rcounter_any nonce hn 1 1 rfl W
  have hKL : (ready key ++ tabs).length = 752 := by rw [List.length_append, ready_length key hk, tabs_length]
  have H43 : Hid (∀ W : World, Shows W ao n (v8s ad) → Shows W bo m (v8s text) → Calls Try.prog 43 #[.agg (bys (bq (hkey key))).toArray, .slice ao n c, .slice bo m d] W fun e w' => e = .returned (.agg (bys (bq (hashM (hkey key) ad text))).toArray) ∧ Below W.heap.size W w') := fun W h1 h2 => rhash_any (hkey key) ad text ao bo n m c d W h1 h2 hc hd hbn hbm
  have HX : Hid (∀ j, j < 16 → (bq (hashM (hkey key) ad text)).getD j 0#8 ^^^ (strm key nonce 1).getD j 0#8 = (bq (tagM key nonce ad text)).getD j 0#8) := fun j hj => by
    unfold tagM
    rw [bq_xor, bq_qb _ hE1, addL_at _ _ j (by rw [bq_length]; omega) (by rw [hE1]; omega)]
  have hO16 := bq_length (hashM (hkey key) ad text)
  have hN16 := bq_length (tagM key nonce ad text)
  have hH16 := bq_length (hkey key)
  obtain ⟨KL, eKL⟩ : ∃ l, l = ready key ++ tabs := ⟨_, rfl⟩
  obtain ⟨C1, eC1⟩ : ∃ l, l = ctr nonce 1 := ⟨_, rfl⟩
  obtain ⟨E1, eE1⟩ : ∃ l, l = strm key nonce 1 := ⟨_, rfl⟩
  obtain ⟨O, eO⟩ : ∃ l, l = bq (hashM (hkey key) ad text) := ⟨_, rfl⟩
  obtain ⟨NT, eN⟩ : ∃ l, l = bq (tagM key nonce ad text) := ⟨_, rfl⟩
  obtain ⟨HB, eH⟩ : ∃ l, l = bq (hkey key) := ⟨_, rfl⟩
  rw [← eKL] at H21z H21c hKL ⊢
  rw [← eC1] at H21c H42 hC
  rw [← eE1] at H21c HX hE1
  rw [← eH] at H21z H43 hH16
  rw [← eO] at H43 HX hO16
  rw [← eN] at HX hN16 ⊢
  clear eKL eC1 eE1 eO eN eH HK
  obtain ⟨h1, h2, h3, h4, h5⟩ := blk4 w 46 23 37 37 (bys KL) (bys nonce) (bys ZB) (bys ZB)
  go_enter Try.func28, Try.ntmps28
  go_wp2_with (first | (refine law_load rfl 46 _ rfl _ rfl 46 _ h1 _ Try.underlying46 rfl (by rw [bys_length, hKL]; kernel_rfl) ?_) | (refine law_load rfl 37 _ rfl _ rfl 37 _ h4 _ Try.underlying37 rfl (by rw [bys_length, hZB]; kernel_rfl) ?_))
  go_at_call 21; refine (H21z.out _).mono ?_; rintro e v1 ⟨rfl, k1⟩
  replace h1 := h1.next k1
  replace h2 := h2.next k1
  replace h3 := h3.next k1
  replace h4 := h4.next k1
  have hb1 : Below w.heap.size w v1 := h5.trans (k1.mono h5.size)
  clear h5 k1
  go_wp2_with fail
  go_at_call 43; refine (H43.out _ (hs.later hb1) (ht.later hb1)).mono ?_; rintro e v2 ⟨rfl, k2⟩
  replace h1 := h1.next k2
  replace h2 := h2.next k2
  replace h3 := h3.next k2
  replace h4 := h4.next k2
  have hb2 : Below w.heap.size w v2 := hb1.trans (k2.mono hb1.size)
  have hlt := h4.lt
  have hN := Blk.new v2 37 (bys ZB)
  clear k2 hb1
  go_wp2_with (refine law_store rfl 37 _ _ rfl _ (bys O) rfl rfl 37 _ hN (by rw [bys_length, bys_length, hO16, hZB]) (by rw [bys_length, hO16]; kernel_rfl) (bys_one _) ?_; intro W0 hoF hAF)
  have hX : RgS w W0 KL nonce ZB v2.heap.size O := ⟨(h1.alloc _).on hoF (by omega), (h2.alloc _).on hoF (by omega), (h3.alloc _).on hoF (by omega), hAF, by omega, hoF.below (hb2.alloc hb2.size _) hb2.size⟩
  obtain ⟨gT, eg⟩ : ∃ g, g = v2.heap.size := ⟨_, rfl⟩
  rw [← eg] at hX ⊢
  clear h1 h2 h3 h4 hb2 hlt hN hoF hAF eg
  (try simp only [Act.put])
  go_cut [11] from 19 to 22 (fun p wc => ∃ g, p = .pointer (some ⟨g, 0, none⟩) ∧ Blk wc g 37 (bys E1) ∧ RgS w wc KL nonce ZB gT O ∧ gT < g)
  case first =>
    refine wp_region_to (fun v => RgS w v KL nonce ZB gT O) 5 (by kernel_rfl) ?_
    have hS0 := hX.drew
    refine wpTo_take (i := 0) (show _ = some _ by simp only [List.getElem?_toArray, List.getElem?_cons_zero]; exact rfl) (by kernel_rfl) (by kernel_rfl) (by kernel_rfl) (by kernel_rfl) (by exact fun _ _ _ h => h) (yieldsIf_load_mid (by rfl) 46 (.tmp 4) rfl w.heap.size 0 rfl (bys KL) _ (fun v h => (RgS.key h).whole) Try.underlying46 rfl (by rw [bys_length, hKL]; kernel_rfl)) hS0 ?_
    (try simp only [Act.put]); (try simp only [List.setIfInBounds_toArray]); (repeat (first | simp only [List.set_cons_succ] | simp only [List.set_cons_zero]))
    refine wpTo_take (i := 1) (show _ = some _ by simp only [List.getElem?_toArray, List.getElem?_cons_succ, List.getElem?_cons_zero]; exact rfl) (by kernel_rfl) (by kernel_rfl) (by kernel_rfl) (by kernel_rfl) (by exact fun _ _ _ h => h) (yieldsIf_load_mid (by rfl) 23 (.tmp 5) rfl (w.heap.size + 1) 0 rfl (bys nonce) _ (fun v h => (RgS.no h).whole) Try.underlying23 rfl (by rw [bys_length, hn]; kernel_rfl)) hS0 ?_
    (try simp only [Act.put]); (try simp only [List.setIfInBounds_toArray]); (repeat (first | simp only [List.set_cons_succ] | simp only [List.set_cons_zero]))
    refine wpTo_two (i := 2) (j := 4) (by kernel_rfl) (show _ = some _ by simp only [List.getElem?_toArray, List.getElem?_cons_succ, List.getElem?_cons_zero]; exact rfl) (show _ = some _ by simp only [List.getElem?_toArray, List.getElem?_cons_succ, List.getElem?_cons_zero]; exact rfl) (fun K hK => ?_) (fun K hK => ?_)
    · go_simp
      go_at_call 42; refine (H42.out _).mono ?_; rintro e v1 ⟨rfl, k1⟩
      (try simp only [])
      refine hK.out _ _ (RgS.call hS0 k1) (fun hS1 => ?_)
      clear hK K
      (try simp only [Act.put]); (try simp only [List.setIfInBounds_toArray]); (repeat (first | simp only [List.set_cons_succ] | simp only [List.set_cons_zero]))
      refine wpTo_two (i := 3) (j := 4) (by kernel_rfl) (show _ = some _ by simp only [List.getElem?_toArray, List.getElem?_cons_succ, List.getElem?_cons_zero]; exact rfl) (show _ = some _ by simp only [List.getElem?_toArray, List.getElem?_cons_succ, List.getElem?_cons_zero]; exact rfl) (fun K hK => ?_) (fun K hK => ?_)
      · go_simp
        go_at_call 21; refine (H21c.out _).mono ?_; rintro e v2 ⟨rfl, k2⟩
        (try simp only [])
        refine hK.out _ _ (RgS.call hS1 k2) (fun hS2 => ?_)
        clear hK K
        (try simp only [Act.put]); (try simp only [List.setIfInBounds_toArray]); (repeat (first | simp only [List.set_cons_succ] | simp only [List.set_cons_zero]))
        refine wpTo_one (i := 4) (by kernel_rfl) (show _ = some _ by simp only [List.getElem?_toArray, List.getElem?_cons_succ, List.getElem?_cons_zero]; exact rfl) (fun K hK => ?_)
        go_simp
        refine hK.out _ _ (RgS.call hS2 ((Below.refl _ _).alloc (Nat.le_refl _) _)) (fun hS3 => ?_)
        clear hK K
        (try simp only [Act.put]); (try simp only [List.setIfInBounds_toArray]); (repeat (first | simp only [List.set_cons_succ] | simp only [List.set_cons_zero]))
        have hO := Blk.new v2 37 (bys ZB)
        refine wpTo_last (by kernel_rfl) (show _ = some _ by simp only [List.getElem?_toArray, List.getElem?_cons_succ, List.getElem?_cons_zero]; exact rfl) (by kernel_rfl) (fun K hK => ?_)
        rw [if_pos (by rfl)]
        refine wp_store_row 37 (.tmp 11) (.tmp 22) rfl v2.heap.size (bys E1).toArray rfl rfl 37 _ hO (by rw [List.size_toArray, bys_length, hE1]; kernel_rfl) (by simp only [List.size_toArray, bys_length, hE1, hZB]) (bys_one _) ?_
        refine hK.out _ _ ?_
        clear hK K
        (try simp only [Act.put]); (try simp only [List.setIfInBounds_toArray]); (repeat (first | simp only [List.set_cons_succ] | simp only [List.set_cons_zero]))
        have hoF := On.setRow (v2.alloc (.cells (bys ZB).toArray 37)) v2.heap.size (bys E1).toArray
        have hAF := setRow_heap (v2.alloc (.cells (bys ZB).toArray 37)) v2.heap.size _ (bys E1).toArray 37 _ hO
        go_wp2_with fail
        go_meet
        case rel => exact ⟨_, rfl, hAF, hS3.on hoF hS2.lt, hS2.lt⟩
      · go_simp
        refine hK.out _ _ (RgS.call hS1 ((Below.refl _ _).alloc (Nat.le_refl _) _)) (fun hS2 => ?_)
        clear hK K
        (try simp only [Act.put]); (try simp only [List.setIfInBounds_toArray]); (repeat (first | simp only [List.set_cons_succ] | simp only [List.set_cons_zero]))
        have hO := Blk.new v1 37 (bys ZB)
        refine wpTo_one (i := 3) (by kernel_rfl) (show _ = some _ by simp only [List.getElem?_toArray, List.getElem?_cons_succ, List.getElem?_cons_zero]; exact rfl) (fun K hK => ?_)
        go_simp
        go_at_call 21; refine (H21c.out _).mono ?_; rintro e v2 ⟨rfl, k2⟩
        (try simp only [])
        refine hK.out _ _ (RgS.call hS2 k2) (fun hS3 => ?_)
        clear hK K
        (try simp only [Act.put]); (try simp only [List.setIfInBounds_toArray]); (repeat (first | simp only [List.set_cons_succ] | simp only [List.set_cons_zero]))
        replace hO := hO.next k2
        refine wpTo_last (by kernel_rfl) (show _ = some _ by simp only [List.getElem?_toArray, List.getElem?_cons_succ, List.getElem?_cons_zero]; exact rfl) (by kernel_rfl) (fun K hK => ?_)
        rw [if_pos (by rfl)]
        refine wp_store_row 37 (.tmp 11) (.tmp 22) rfl v1.heap.size (bys E1).toArray rfl rfl 37 _ hO (by rw [List.size_toArray, bys_length, hE1]; kernel_rfl) (by simp only [List.size_toArray, bys_length, hE1, hZB]) (bys_one _) ?_
        refine hK.out _ _ ?_
        clear hK K
        (try simp only [Act.put]); (try simp only [List.setIfInBounds_toArray]); (repeat (first | simp only [List.set_cons_succ] | simp only [List.set_cons_zero]))
        have hoF := On.setRow v2 v1.heap.size (bys E1).toArray
        have hAF := setRow_heap v2 v1.heap.size _ (bys E1).toArray 37 _ hO
        go_wp2_with fail
        go_meet
        case rel => exact ⟨_, rfl, hAF, hS3.on hoF hS1.lt, hS1.lt⟩
    · go_simp
      refine hK.out _ _ (RgS.call hS0 ((Below.refl _ _).alloc (Nat.le_refl _) _)) (fun hS1 => ?_)
      clear hK K
      (try simp only [Act.put]); (try simp only [List.setIfInBounds_toArray]); (repeat (first | simp only [List.set_cons_succ] | simp only [List.set_cons_zero]))
      have hO := Blk.new W0.drew 37 (bys ZB)
      refine wpTo_one (i := 2) (by kernel_rfl) (show _ = some _ by simp only [List.getElem?_toArray, List.getElem?_cons_succ, List.getElem?_cons_zero]; exact rfl) (fun K hK => ?_)
      go_simp
      go_at_call 42; refine (H42.out _).mono ?_; rintro e v1 ⟨rfl, k1⟩
      (try simp only [])
      refine hK.out _ _ (RgS.call hS1 k1) (fun hS2 => ?_)
      clear hK K
      (try simp only [Act.put]); (try simp only [List.setIfInBounds_toArray]); (repeat (first | simp only [List.set_cons_succ] | simp only [List.set_cons_zero]))
      replace hO := hO.next k1
      refine wpTo_one (i := 3) (by kernel_rfl) (show _ = some _ by simp only [List.getElem?_toArray, List.getElem?_cons_succ, List.getElem?_cons_zero]; exact rfl) (fun K hK => ?_)
      go_simp
      go_at_call 21; refine (H21c.out _).mono ?_; rintro e v2 ⟨rfl, k2⟩
      (try simp only [])
      refine hK.out _ _ (RgS.call hS2 k2) (fun hS3 => ?_)
      clear hK K
      (try simp only [Act.put]); (try simp only [List.setIfInBounds_toArray]); (repeat (first | simp only [List.set_cons_succ] | simp only [List.set_cons_zero]))
      replace hO := hO.next k2
      refine wpTo_last (by kernel_rfl) (show _ = some _ by simp only [List.getElem?_toArray, List.getElem?_cons_succ, List.getElem?_cons_zero]; exact rfl) (by kernel_rfl) (fun K hK => ?_)
      rw [if_pos (by rfl)]
      refine wp_store_row 37 (.tmp 11) (.tmp 22) rfl W0.heap.size (bys E1).toArray rfl rfl 37 _ hO (by rw [List.size_toArray, bys_length, hE1]; kernel_rfl) (by simp only [List.size_toArray, bys_length, hE1, hZB]) (bys_one _) ?_
      refine hK.out _ _ ?_
      clear hK K
      (try simp only [Act.put]); (try simp only [List.setIfInBounds_toArray]); (repeat (first | simp only [List.set_cons_succ] | simp only [List.set_cons_zero]))
      have hoF := On.setRow v2 W0.heap.size (bys E1).toArray
      have hAF := setRow_heap v2 W0.heap.size _ (bys E1).toArray 37 _ hO
      go_wp2_with fail
      go_meet
      case rel => exact ⟨_, rfl, hAF, hS3.on hoF hX.lt, hX.lt⟩
  case rest =>
    clear hX
    obtain ⟨g, rfl, hE, hS, hg⟩ := hcut
    go_wp2_with fail
    go_loopw [12] (fun i wr => ∃ j : Nat, j ≤ 16 ∧ i = .int .i64 (j : Int) ∧ Blk wr g 37 (bys E1) ∧ RgS w wr KL nonce ZB gT (mid NT O j)) (fun i _ => 16 - (intOf i).toNat)
    case atStart => exact ⟨0, by omega, rfl, hE, by rw [mid_zero]; exact hS⟩
    case round =>
      obtain ⟨j, hj, rfl, hEj, hSj⟩ := hrel
      clear hE hS
      have hml := mid_length NT O 16 j hN16 hO16
      by_cases hj16 : j < 16
      · have hst := hSj.put j (NT.getD j 0#8)
        rw [mid_step NT O j 16 hN16 hO16 hj16] at hst
        have HJ : Hid _ := HX.out j hj16
        have c0 := hSj.t.byte j (by omega)
        rw [mid_at NT O j j 16 hN16 hO16 (Nat.le_refl _) hj16] at c0
        have f0 := hSj.t.fz j
        have c1 := hEj.byte j (by omega)
        obtain ⟨x, ex⟩ : ∃ x, x = E1.getD j 0#8 := ⟨_, rfl⟩
        obtain ⟨y, ey⟩ : ∃ y, y = NT.getD j 0#8 := ⟨_, rfl⟩
        obtain ⟨z, ez⟩ : ∃ z, z = O.getD j 0#8 := ⟨_, rfl⟩
        rw [← ex] at c1 HJ
        rw [← ey] at hst HJ
        rw [← ez] at c0 HJ
        have hwx := v8_xor z x
        rw [HJ.out] at hwx
        have hEn := hEj.beside (a := ⟨gT, j, none⟩) (.int .u8 (v8 y)) (by simp; omega)
        clear ex ey ez HJ HX
        go_wp2_with fail
        go_region
        go_wp2_with fail
        go_roundw
        case rel => exact ⟨j + 1, by omega, by go_num, hEn.drew, hst.drew⟩
        case measure => simp [intOf]; omega
      · have hje : j = 16 := by omega
        subst hje
        rw [mid_full NT O 16 hN16 hO16] at hSj
        go_wp2_with (first | (refine law_load rfl 37 _ rfl _ rfl 37 _ hSj.t _ Try.underlying37 rfl (by rw [bys_length, hN16]; kernel_rfl) ?_) | (refine law_store rfl 37 _ _ rfl _ (bys NT) rfl rfl 37 _ hSj.r (by rw [bys_length, bys_length, hN16, hZB]) (by rw [bys_length, hN16]; kernel_rfl) (bys_one _) ?_; intro wF hoF hAF))
        refine bodyPost_ret (v := .agg (bys NT).toArray) (results_cell_row rfl _ _ (w.heap.size + 1 + 1) 37 _ _ _ rfl hAF Try.underlying37 rfl (by rw [List.size_toArray, bys_length, hN16]; kernel_rfl)) rfl ⟨rfl, hoF.below hSj.k (by omega)⟩
end Go.Proofs.Ytjhkicfndbceoaa

/- The document's: bytes with the key stream added. -/
namespace Go.Proofs.Ytjhkicfndbceoaa
open Go.RowKit

/-- 'append(v, x...)' as one step of a region that draws its order. -/
theorem step_append_w {w : World} {ops : Array Oper} {o : Oper} {a : Act} {K : Act → World → Prop} {Q : Exit → Act → World → Prop} {E : Prop} (hw : Region.wanted o (yielded ops a.tmps) = true) (s x : Operand)
    (ho : o.op = .call { callee := .builtin .append, args := #[s, x], argTypes := #[24, 24] }) (base : Nat) (v : Value) (n : Nat) (xs news : List Int) (hv : a.eval s = v) (hown : w.ownsRow base 5 1 v n (u8s xs))
    (ad : Addr) (m c : Nat) (hx : a.eval x = .slice (some ad) m c) (hs : Shows w (some ad) m news) (hm : 0 < m) (hbig : n + m ≤ 140737488355328) (hbase : base ≤ w.heap.size)
    (h : ∀ g cap w', w'.ownsRow base 5 1 (.slice (some ⟨g, 0, none⟩) (n + m) cap) (n + m) (u8s (xs ++ news)) → w.grownBy w' v.ownBlock → K (a.put o.dst (.slice (some ⟨g, 0, none⟩) (n + m) cap)) w') :
    if Region.wanted o (yielded ops a.tmps) = true then Oper.wp Try.prog o a w K Q else E := by
  rw [if_pos hw]
  obtain ⟨i0, hi, hz0, hz1, hz2⟩ := info_parts Try.info5
  have hl := hs.len
  refine wp_append_lies w s x 24 ho base 5 i0 (.int .u8 0) 1 1 Try.underlying24 hi hz0 hz1 hz2 rfl (by decide) v n (u8s xs) hv hown ad m c (u8s news) hx (by simp [u8s_length, hl]) hs.cells (u8s_one news) hm (by unfold maxLen; omega) (by omega) hbase w.heap.size rfl ?_
  intro g cap w' h1 h2 _ _
  exact h g cap w' (by rw [u8s_append]; exact h1) h2

theorem own_on {w w' : World} {b e sz : Nat} {v : Value} {n g : Nat} {xs : List Value} (h : w.ownsRow b e sz v n xs) (ho : On w w' g) (hg : g < b) : w'.ownsRow b e sz v n xs := by
  refine ⟨h.1, ?_⟩
  rcases h.2 with h2 | ⟨g', cap, cur, rfl, hg', hh, r⟩
  · exact Or.inl h2
  · exact Or.inr ⟨g', cap, cur, rfl, hg', (ho.block g' (by omega)).trans hh, r⟩

/-- What lies there while the document adds the key stream. -/
structure RnS (w v : World) (KL nonce ST : List B) : Prop where
  key : Blk v w.heap.size 46 (bys KL)
  no : Blk v (w.heap.size + 1) 23 (bys nonce)
  st : Blk v (w.heap.size + 1 + 1) 37 (bys ST)
  k : Below w.heap.size w v
section
variable {w v v' : World} {KL nonce ST ST' : List B} {g : Nat}
theorem RnS.call (a : RnS w v KL nonce ST) (hb : Below v.heap.size v v') : RnS w v' KL nonce ST := ⟨a.key.next hb, a.no.next hb, a.st.next hb, a.k.trans (hb.mono a.k.size)⟩
theorem RnS.drew (a : RnS w v KL nonce ST) : RnS w v.drew KL nonce ST := ⟨a.key, a.no, a.st, a.k.drew⟩
theorem RnS.put (a : RnS w v KL nonce ST) (ho : On v v' (w.heap.size + 1 + 1)) (hb : Blk v' (w.heap.size + 1 + 1) 37 (bys ST')) : RnS w v' KL nonce ST' := ⟨a.key.on ho (by omega), a.no.on ho (by omega), hb, ho.below a.k (by omega)⟩
theorem RnS.grown (h : RnS w v KL nonce ST) {r : Option Nat} (hg : v.grownBy v' r) (hr : ∀ b, r = some b → w.heap.size + 1 + 1 < b) : RnS w v' KL nonce ST := by
  have n0 : some w.heap.size ≠ r := fun e => by have := hr _ e.symm; omega
  have n1 : some (w.heap.size + 1) ≠ r := fun e => by have := hr _ e.symm; omega
  have n2 : some (w.heap.size + 1 + 1) ≠ r := fun e => by have := hr _ e.symm; omega
  exact ⟨(hg.block _ h.key.lt n0).trans h.key, (hg.block _ h.no.lt n1).trans h.no, (hg.block _ h.st.lt n2).trans h.st, h.k.grown hg h.k.size (fun b e => by have := hr b e; omega)⟩
end

set_option maxHeartbeats 4000000 in
set_option maxRecDepth 100000 in
theorem rturned_any (key nonce text : List B) (hk : key.length = 32) (hn : nonce.length = 12) (bo : Option Addr) (m d : Nat) (w : World) (ht : Shows w bo m (v8s text)) (hbm : m ≤ 1000000) :
    Calls Try.prog 27 #[.agg (bys (ready key ++ tabs)).toArray, .agg (bys nonce).toArray, .slice bo m d] w fun e w' => ∃ v, e = .returned v ∧ w'.ownsRow (w.heap.size + 3) 5 1 v m (u8s (v8s (cov key nonce text))) ∧ Below w.heap.size w w' := by
  have HL : Hid (text.length = m) := by have := ht.len; rw [v8s_length] at this; exact this
  obtain ⟨ZB, eZB, hzB⟩ := zeroed37e
  have hZB : ZB.length = 16 := by rw [eZB]; simp
  clear eZB
  have hKL : (ready key ++ tabs).length = 752 := by rw [List.length_append, ready_length key hk, tabs_length]
  have hCl : (cov key nonce text).length = m := by rw [cov_length]; exact HL.out
  have HC : Hid (∀ k, k < m → text.getD k 0#8 ^^^ (strm key nonce (2 + k / 16)).getD (k % 16) 0#8 = (cov key nonce text).getD k 0#8) := fun k hk => (cov_at key nonce text k (by rw [HL.out]; exact hk)).symm
  have H21a : Hid (∀ (i : Nat) (W : World), Calls Try.prog 21 #[.agg (bys (ready key ++ tabs)).toArray, .agg (bys (ctr nonce i)).toArray] W fun e w' => e = .returned (.agg (bys (strm key nonce i)).toArray) ∧ Below W.heap.size W w') := fun i W => rblock_of key _ hk (ctr_length nonce hn i) W
  have H42a : Hid (∀ (i : Nat) (x : Int) (_ : x = i) (W : World), Calls Try.prog 42 #[.agg (bys nonce).toArray, .int .i64 x] W fun e w' => e = .returned (.agg (bys (ctr nonce i)).toArray) ∧ Below W.heap.size W w') := fun i x hx W => rcounter_any nonce hn i x hx W
  have HSl : Hid (∀ i, (strm key nonce i).length = 16) := strm_length key nonce hk hn
  obtain ⟨KL, eKL⟩ : ∃ l, l = ready key ++ tabs := ⟨_, rfl⟩
  obtain ⟨C, eC⟩ : ∃ l, l = cov key nonce text := ⟨_, rfl⟩
  obtain ⟨SM, eS⟩ : ∃ f, f = strm key nonce := ⟨_, rfl⟩
  obtain ⟨CT, eT⟩ : ∃ f, f = ctr nonce := ⟨_, rfl⟩
  rw [← eKL] at H21a hKL ⊢
  rw [← eC] at HC hCl ⊢
  rw [← eS] at H21a HC HSl
  rw [← eT] at H21a H42a
  clear eKL eC eS eT
  obtain ⟨h1, h2, h3, h4⟩ := blk3 w 46 23 37 (bys KL) (bys nonce) (bys ZB)
  have hR0 : RnS w (((w.alloc (.cells (bys KL).toArray 46)).alloc (.cells (bys nonce).toArray 23)).alloc (.cells (bys ZB).toArray 37)) KL nonce ZB := ⟨h1, h2, h3, h4⟩
  clear h1 h2 h3 h4
  go_enter Try.func27, Try.ntmps27
  go_wp2_with fail
  go_loopw [7, 9] (fun o i wr => ∃ (k c' : Nat) (ao' : Option Addr) (ST : List B), k ≤ m ∧ o = .slice ao' k c' ∧ i = .int .i64 (k : Int) ∧ wr.ownsRow (w.heap.size + 3) 5 1 (.slice ao' k c') k (u8s (v8s (C.take k))) ∧ ST.length = 16 ∧ Hid (k % 16 ≠ 0 → ST = SM (2 + k / 16)) ∧ RnS w wr KL nonce ST) (fun _ i _ => m - (intOf i).toNat)
  case atStart => exact ⟨0, 0, none, ZB, by omega, rfl, rfl, World.ownsRow_nil _ _ _ _, hZB, fun h => absurd rfl h, hR0⟩
  case round =>
    obtain ⟨k, c', ao', ST, hkm, rfl, rfl, hown, hSTl, HST, hR⟩ := hrel
    clear hR0
    have hz := hR.st.lt
    by_cases hlt : k < m
    · have hltI : (k : Int) < m := by omega
      cases bo with
      | none => have := ht.bare rfl; omega
      | some ad =>
        have HX : Hid _ := HC.out k hlt
        have H42 : Hid _ := H42a.out (2 + k / 16)
        have H21 : Hid _ := H21a.out (2 + k / 16)
        have hS1l := HSl.out (2 + k / 16)
        obtain ⟨S1, eS1⟩ : ∃ l, l = SM (2 + k / 16) := ⟨_, rfl⟩
        obtain ⟨C1, eC1⟩ : ∃ l, l = CT (2 + k / 16) := ⟨_, rfl⟩
        rw [← eS1] at HX H21 hS1l HST
        rw [← eC1] at H42 H21
        have HS1 : Hid (S1 = SM (2 + k / 16)) := eS1
        clear eS1 eC1
        have hcx : ∀ v, RnS w v KL nonce S1 → v.cell? (ad.add k) = some (.int .u8 (v8 (text.getD k 0#8))) := fun v h => (ht.later h.k).byteAt k hlt
        have hcy : ∀ v, RnS w v KL nonce S1 → v.cell? ⟨w.heap.size + 1 + 1, k % 16, none⟩ = some (.int .u8 (v8 (S1.getD (k % 16) 0#8))) := fun v h => h.st.byte (k % 16) (by omega)
        obtain ⟨x, ex⟩ : ∃ x, x = text.getD k 0#8 := ⟨_, rfl⟩
        obtain ⟨y, ey⟩ : ∃ y, y = S1.getD (k % 16) 0#8 := ⟨_, rfl⟩
        have HZ : Hid (v8s (C.take k) ++ [v8 (C.getD k 0#8)] = v8s (C.take (k + 1))) := take_push8 C k (by omega)
        obtain ⟨z, ez⟩ : ∃ z, z = C.getD k 0#8 := ⟨_, rfl⟩
        rw [← ex] at hcx HX
        rw [← ey] at hcy HX
        rw [← ez] at HX HZ
        have hwx := v8_xor x y
        rw [HX.out] at hwx
        clear ex ey ez HX
        have HN : Hid ((k + 1) % 16 ≠ 0 → S1 = SM (2 + (k + 1) / 16)) := fun h => by rw [HS1.out]; congr 1; omega
        have t0 : Int.tmod (k : Int) 16 = ((k % 16 : Nat) : Int) := by rw [Int.tmod_eq_emod_of_nonneg (by omega)]; omega
        have t1 : (0 : Int) ≤ Int.tmod (k : Int) 16 := by omega
        have t2 : Int.tmod (k : Int) 16 < 16 := by omega
        have t3 : (Int.tmod (k : Int) 16).toNat = k % 16 := by omega
        clear t0
        have Q1 : Hid (IntKind.i64.wrap ((k : Int) / 16) = (k : Int) / 16) := by show _ = _; rw [IntKind.wrap_i64]; omega
        have Q2 : Hid (IntKind.i64.wrap (2 + (k : Int) / 16) = 2 + (k : Int) / 16) := by show _ = _; rw [IntKind.wrap_i64]; omega
        by_cases hm0 : k % 16 = 0
        · have hmI : (k : Int) % 16 = 0 := by omega
          have hmT : Int.tmod (k : Int) 16 = 0 := by rw [Int.tmod_eq_emod_of_nonneg (by omega)]; exact hmI
          go_wp2_with fail
          refine wp_region_to (fun v => RnS w v KL nonce ST) 7 (by kernel_rfl) ?_
          have hS0 := hR.drew
          refine wpTo_take (i := 0) (show _ = some _ by simp only [List.getElem?_toArray, List.getElem?_cons_zero]; exact rfl) (by kernel_rfl) (by kernel_rfl) (by kernel_rfl) (by kernel_rfl) (by exact fun _ _ _ h => h) (yieldsIf_load_mid (by rfl) 46 (.tmp 3) rfl w.heap.size 0 rfl (bys KL) _ (fun v h => (RnS.key h).whole) Try.underlying46 rfl (by rw [bys_length, hKL]; kernel_rfl)) hS0 ?_
          (try simp only [Act.put]); (try simp only [List.setIfInBounds_toArray]); (repeat (first | simp only [List.set_cons_succ] | simp only [List.set_cons_zero]))
          refine wpTo_take (i := 1) (show _ = some _ by simp only [List.getElem?_toArray, List.getElem?_cons_succ, List.getElem?_cons_zero]; exact rfl) (by kernel_rfl) (by kernel_rfl) (by kernel_rfl) (by kernel_rfl) (by exact fun _ _ _ h => h) (yieldsIf_load_mid (by rfl) 23 (.tmp 4) rfl (w.heap.size + 1) 0 rfl (bys nonce) _ (fun v h => (RnS.no h).whole) Try.underlying23 rfl (by rw [bys_length, hn]; kernel_rfl)) hS0 ?_
          (try simp only [Act.put]); (try simp only [List.setIfInBounds_toArray]); (repeat (first | simp only [List.set_cons_succ] | simp only [List.set_cons_zero]))
          refine wpTo_take (i := 2) (v := ?v2p) (show _ = some _ by simp only [List.getElem?_toArray, List.getElem?_cons_succ, List.getElem?_cons_zero]; exact rfl) (by kernel_rfl) (by kernel_rfl) (by kernel_rfl) (by kernel_rfl) (by exact fun _ _ _ h => h) (Or.inl ⟨by rfl, ?hy2p⟩) hS0 ?r2p
          case hy2p => (intro w hSw; (try dsimp only at hSw); go_simp; try with_reducible rfl)
          (try simp only [Act.put]); (try simp only [List.setIfInBounds_toArray]); (repeat (first | simp only [List.set_cons_succ] | simp only [List.set_cons_zero]))
          refine wpTo_take (i := 3) (v := ?v3p) (show _ = some _ by simp only [List.getElem?_toArray, List.getElem?_cons_succ, List.getElem?_cons_zero]; exact rfl) (by kernel_rfl) (by kernel_rfl) (by kernel_rfl) (by kernel_rfl) (by exact fun _ _ _ h => h) (Or.inl ⟨by rfl, ?hy3p⟩) hS0 ?r3p
          case hy3p => (intro w hSw; (try dsimp only at hSw); go_simp; try with_reducible rfl)
          (try simp only [Act.put]); (try simp only [List.setIfInBounds_toArray]); (repeat (first | simp only [List.set_cons_succ] | simp only [List.set_cons_zero]))
          refine wpTo_take (i := 4) (v := ?v4p) (show _ = some _ by simp only [List.getElem?_toArray, List.getElem?_cons_succ, List.getElem?_cons_zero]; exact rfl) (by kernel_rfl) (by kernel_rfl) (by kernel_rfl) (by kernel_rfl) (by exact fun _ _ _ h => h) (Or.inl ⟨by rfl, ?hy4p⟩) hS0 ?r4p
          case hy4p => (intro w hSw; (try dsimp only at hSw); go_simp; try with_reducible rfl)
          (try simp only [Act.put]); (try simp only [List.setIfInBounds_toArray]); (repeat (first | simp only [List.set_cons_succ] | simp only [List.set_cons_zero]))
          refine wpTo_one (i := 5) (by kernel_rfl) (show _ = some _ by simp only [List.getElem?_toArray, List.getElem?_cons_succ, List.getElem?_cons_zero]; exact rfl) (fun K hK => ?_)
          go_simp
          go_at_call 42; refine (H42.out _ (by rw [Q1.out, Q2.out]; omega) _).mono ?_; rintro e v1 ⟨rfl, k1⟩
          (try simp only [])
          refine hK.out _ _ (RnS.call hS0 k1) (fun hS1 => ?_)
          clear hK K
          (try simp only [Act.put]); (try simp only [List.setIfInBounds_toArray]); (repeat (first | simp only [List.set_cons_succ] | simp only [List.set_cons_zero]))
          refine wpTo_one (i := 6) (by kernel_rfl) (show _ = some _ by simp only [List.getElem?_toArray, List.getElem?_cons_succ, List.getElem?_cons_zero]; exact rfl) (fun K hK => ?_)
          go_simp
          go_at_call 21; refine (H21.out _).mono ?_; rintro e v2 ⟨rfl, k2⟩
          (try simp only [])
          refine hK.out _ _ (RnS.call hS1 k2) (fun hS2 => ?_)
          clear hK K
          (try simp only [Act.put]); (try simp only [List.setIfInBounds_toArray]); (repeat (first | simp only [List.set_cons_succ] | simp only [List.set_cons_zero]))
          refine wpTo_last (by kernel_rfl) (show _ = some _ by simp only [List.getElem?_toArray, List.getElem?_cons_succ, List.getElem?_cons_zero]; exact rfl) (by kernel_rfl) (fun K hK => ?_)
          rw [if_pos (by rfl)]
          refine wp_store_row 37 (.tmp 8) (.tmp 25) rfl (w.heap.size + 1 + 1) (bys S1).toArray rfl rfl 37 _ hS2.st (by rw [List.size_toArray, bys_length, hS1l]; kernel_rfl) (by simp only [List.size_toArray, bys_length, hS1l, hSTl]) (bys_one _) ?_
          refine hK.out _ _ ?_
          clear hK K
          (try simp only [Act.put]); (try simp only [List.setIfInBounds_toArray]); (repeat (first | simp only [List.set_cons_succ] | simp only [List.set_cons_zero]))
          have hoF := On.setRow v2 (w.heap.size + 1 + 1) (bys S1).toArray
          have hAF := setRow_heap v2 (w.heap.size + 1 + 1) _ (bys S1).toArray 37 _ hS2.st
          have hR2 : RnS w _ KL nonce S1 := hS2.put hoF hAF
          have own2 := own_on (own_below (own_below (own_heap (w' := wr.drew) hown rfl) k1) k2) hoF (by omega)
          obtain ⟨W7, eW7⟩ : ∃ W, W = v2.setRow (w.heap.size + 1 + 1) (bys S1).toArray := ⟨_, rfl⟩
          rw [← eW7] at hR2 own2 ⊢
          clear hoF hAF hS0 hS1 hS2 k1 k2 eW7 hown hR
          go_wp2_with fail
          clear hm0 hmI hmT
          have hrow : RnS w W7.drew KL nonce S1 := hR2.drew
          have hsz := hR2.st.lt
          have hbs : w.heap.size + 3 ≤ (W7.alloc (.cells #[.int .u8 (v8 z)] 5)).drew.heap.size := by
            have : (W7.alloc (.cells #[.int .u8 (v8 z)] 5)).drew.heap.size = W7.heap.size + 1 := by simp [World.drew]
            omega
          refine wp_region_to (fun v => RnS w v KL nonce S1) 12 (by kernel_rfl) ?_
          refine wpTo_take (i := 0) (v := ?v0q) (show _ = some _ by simp only [List.getElem?_toArray, List.getElem?_cons_zero]; exact rfl) (by kernel_rfl) (by kernel_rfl) (by kernel_rfl) (by kernel_rfl) (by exact fun _ _ _ h => h) (Or.inl ⟨by rfl, ?hy0q⟩) hrow ?r0q
          case hy0q => (intro w hSw; (try dsimp only at hSw); go_simp; try with_reducible rfl)
          (try simp only [Act.put]); (try simp only [List.setIfInBounds_toArray]); (repeat (first | simp only [List.set_cons_succ] | simp only [List.set_cons_zero]))
          refine wpTo_take (i := 1) (v := ?v1q) (show _ = some _ by simp only [List.getElem?_toArray, List.getElem?_cons_succ, List.getElem?_cons_zero]; exact rfl) (by kernel_rfl) (by kernel_rfl) (by kernel_rfl) (by kernel_rfl) (by exact fun _ _ _ h => h) (Or.inl ⟨by rfl, ?hy1q⟩) hrow ?r1q
          case hy1q => (intro w hSw; (try dsimp only at hSw); go_simp; try with_reducible rfl)
          (try simp only [Act.put]); (try simp only [List.setIfInBounds_toArray]); (repeat (first | simp only [List.set_cons_succ] | simp only [List.set_cons_zero]))
          refine wpTo_take (i := 2) (v := ?v2q) (show _ = some _ by simp only [List.getElem?_toArray, List.getElem?_cons_succ, List.getElem?_cons_zero]; exact rfl) (by kernel_rfl) (by kernel_rfl) (by kernel_rfl) (by kernel_rfl) (by exact fun _ _ _ h => h) (Or.inl ⟨by rfl, ?hy2q⟩) hrow ?r2q
          case hy2q => (intro w hSw; (try dsimp only at hSw); go_simp; try with_reducible rfl)
          (try simp only [Act.put]); (try simp only [List.setIfInBounds_toArray]); (repeat (first | simp only [List.set_cons_succ] | simp only [List.set_cons_zero]))
          refine wpTo_take (i := 3) (v := ?v3q) (show _ = some _ by simp only [List.getElem?_toArray, List.getElem?_cons_succ, List.getElem?_cons_zero]; exact rfl) (by kernel_rfl) (by kernel_rfl) (by kernel_rfl) (by kernel_rfl) (by exact fun _ _ _ h => h) (Or.inl ⟨by rfl, ?hy3q⟩) hrow ?r3q
          case hy3q => (intro w hSw; (try dsimp only at hSw); go_simp; try with_reducible rfl)
          (try simp only [Act.put]); (try simp only [List.setIfInBounds_toArray]); (repeat (first | simp only [List.set_cons_succ] | simp only [List.set_cons_zero]))
          refine wpTo_take (i := 4) (v := ?v4q) (show _ = some _ by simp only [List.getElem?_toArray, List.getElem?_cons_succ, List.getElem?_cons_zero]; exact rfl) (by kernel_rfl) (by kernel_rfl) (by kernel_rfl) (by kernel_rfl) (by exact fun _ _ _ h => h) (Or.inl ⟨by rfl, ?hy4q⟩) hrow ?r4q
          case hy4q => (intro w hSw; (try dsimp only at hSw); have c1 := hcx _ hSw; go_simp; try with_reducible rfl)
          (try simp only [Act.put]); (try simp only [List.setIfInBounds_toArray]); (repeat (first | simp only [List.set_cons_succ] | simp only [List.set_cons_zero]))
          refine wpTo_take (i := 5) (v := ?v5q) (show _ = some _ by simp only [List.getElem?_toArray, List.getElem?_cons_succ, List.getElem?_cons_zero]; exact rfl) (by kernel_rfl) (by kernel_rfl) (by kernel_rfl) (by kernel_rfl) (by exact fun _ _ _ h => h) (Or.inl ⟨by rfl, ?hy5q⟩) hrow ?r5q
          case hy5q => (intro w hSw; (try dsimp only at hSw); go_simp; try with_reducible rfl)
          (try simp only [Act.put]); (try simp only [List.setIfInBounds_toArray]); (repeat (first | simp only [List.set_cons_succ] | simp only [List.set_cons_zero]))
          refine wpTo_take (i := 6) (v := ?v6q) (show _ = some _ by simp only [List.getElem?_toArray, List.getElem?_cons_succ, List.getElem?_cons_zero]; exact rfl) (by kernel_rfl) (by kernel_rfl) (by kernel_rfl) (by kernel_rfl) (by exact fun _ _ _ h => h) (Or.inl ⟨by rfl, ?hy6q⟩) hrow ?r6q
          case hy6q => (intro w hSw; (try dsimp only at hSw); go_simp; try with_reducible rfl)
          (try simp only [Act.put]); (try simp only [List.setIfInBounds_toArray]); (repeat (first | simp only [List.set_cons_succ] | simp only [List.set_cons_zero]))
          refine wpTo_take (i := 7) (v := ?v7q) (show _ = some _ by simp only [List.getElem?_toArray, List.getElem?_cons_succ, List.getElem?_cons_zero]; exact rfl) (by kernel_rfl) (by kernel_rfl) (by kernel_rfl) (by kernel_rfl) (by exact fun _ _ _ h => h) (Or.inl ⟨by rfl, ?hy7q⟩) hrow ?r7q
          case hy7q => (intro w hSw; (try dsimp only at hSw); go_simp; try with_reducible rfl)
          (try simp only [Act.put]); (try simp only [List.setIfInBounds_toArray]); (repeat (first | simp only [List.set_cons_succ] | simp only [List.set_cons_zero]))
          refine wpTo_take (i := 8) (v := ?v8q) (show _ = some _ by simp only [List.getElem?_toArray, List.getElem?_cons_succ, List.getElem?_cons_zero]; exact rfl) (by kernel_rfl) (by kernel_rfl) (by kernel_rfl) (by kernel_rfl) (by exact fun _ _ _ h => h) (Or.inl ⟨by rfl, ?hy8q⟩) hrow ?r8q
          case hy8q => (intro w hSw; (try dsimp only at hSw); have c2 := hcy _ hSw; go_simp; try with_reducible rfl)
          (try simp only [Act.put]); (try simp only [List.setIfInBounds_toArray]); (repeat (first | simp only [List.set_cons_succ] | simp only [List.set_cons_zero]))
          refine wpTo_take (i := 9) (v := ?v9q) (show _ = some _ by simp only [List.getElem?_toArray, List.getElem?_cons_succ, List.getElem?_cons_zero]; exact rfl) (by kernel_rfl) (by kernel_rfl) (by kernel_rfl) (by kernel_rfl) (by exact fun _ _ _ h => h) (Or.inl ⟨by rfl, ?hy9q⟩) hrow ?r9q
          case hy9q => (intro w hSw; (try dsimp only at hSw); go_simp; try with_reducible rfl)
          (try simp only [Act.put]); (try simp only [List.setIfInBounds_toArray]); (repeat (first | simp only [List.set_cons_succ] | simp only [List.set_cons_zero]))
          refine wpTo_one (i := 10) (by kernel_rfl) (show _ = some _ by simp only [List.getElem?_toArray, List.getElem?_cons_succ, List.getElem?_cons_zero]; exact rfl) (fun K hK => ?_)
          go_simp
          refine hK.out _ _ (RnS.drew (RnS.call hR2 ((Below.refl _ W7).alloc (Nat.le_refl _) (.cells #[.int .u8 (v8 z)] 5)))) (fun hS2 => ?_)
          clear hK K
          (try simp only [Act.put]); (try simp only [List.setIfInBounds_toArray]); (repeat (first | simp only [List.set_cons_succ] | simp only [List.set_cons_zero]))
          refine wpTo_one (i := 11) (by kernel_rfl) (show _ = some _ by simp only [List.getElem?_toArray, List.getElem?_cons_succ, List.getElem?_cons_zero]; exact rfl) (fun K hK => ?_)
          refine step_append_w (by rfl) _ _ rfl (w.heap.size + 3) _ k (v8s (C.take k)) [v8 z] rfl (own_heap (w' := (W7.alloc (.cells #[.int .u8 (v8 z)] 5)).drew) (own2.alloc (.cells #[.int .u8 (v8 z)] 5)) rfl) ⟨W7.heap.size, 0, none⟩ 1 1 rfl (shows_heap (shows_new W7 [v8 z] (by simp; exact ⟨v8_nn z, v8_le z⟩)) rfl) (by decide) (by omega) hbs ?_
          intro g9 cap9 w9 own9 gr9
          refine hK.out _ _ (RnS.grown hS2 gr9 (fun b hb => by have := (own2.lt b hb).1; omega)) (fun hS3 => ?_)
          clear hK K
          (try simp only [Act.put]); (try simp only [List.setIfInBounds_toArray]); (repeat (first | simp only [List.set_cons_succ] | simp only [List.set_cons_zero]))
          refine wpTo_last (by kernel_rfl) (show _ = some _ by simp only [List.getElem?_toArray, List.getElem?_cons_succ, List.getElem?_cons_zero]; exact rfl) (by kernel_rfl) (fun K hK => ?_)
          go_simp
          refine hK.out _ _ ?_
          clear hK K
          (try simp only [Act.put]); (try simp only [List.setIfInBounds_toArray]); (repeat (first | simp only [List.set_cons_succ] | simp only [List.set_cons_zero]))
          rw [HZ.out] at own9
          go_wp2_with fail
          refine ⟨⟨k + 1, cap9, some ⟨g9, 0, none⟩, S1, by omega, rfl, by go_num, own9, hS1l, HN.out, hS3⟩, by simp [intOf]; omega⟩
        · have hmI : ¬ ((k : Int) % 16 = 0) := by omega
          have hmT : ¬ (Int.tmod (k : Int) 16 = 0) := by rw [Int.tmod_eq_emod_of_nonneg (by omega)]; exact hmI
          rw [HST.out hm0] at hR
          clear HST hSTl ST
          go_wp2_with fail
          clear hm0 hmI hmT
          have hrow : RnS w wr.drew KL nonce S1 := hR.drew
          have hsz := hR.st.lt
          have hbs : w.heap.size + 3 ≤ (wr.alloc (.cells #[.int .u8 (v8 z)] 5)).drew.heap.size := by
            have : (wr.alloc (.cells #[.int .u8 (v8 z)] 5)).drew.heap.size = wr.heap.size + 1 := by simp [World.drew]
            omega
          refine wp_region_to (fun v => RnS w v KL nonce S1) 12 (by kernel_rfl) ?_
          refine wpTo_take (i := 0) (v := ?v0r) (show _ = some _ by simp only [List.getElem?_toArray, List.getElem?_cons_zero]; exact rfl) (by kernel_rfl) (by kernel_rfl) (by kernel_rfl) (by kernel_rfl) (by exact fun _ _ _ h => h) (Or.inl ⟨by rfl, ?hy0r⟩) hrow ?r0r
          case hy0r => (intro w hSw; (try dsimp only at hSw); go_simp; try with_reducible rfl)
          (try simp only [Act.put]); (try simp only [List.setIfInBounds_toArray]); (repeat (first | simp only [List.set_cons_succ] | simp only [List.set_cons_zero]))
          refine wpTo_take (i := 1) (v := ?v1r) (show _ = some _ by simp only [List.getElem?_toArray, List.getElem?_cons_succ, List.getElem?_cons_zero]; exact rfl) (by kernel_rfl) (by kernel_rfl) (by kernel_rfl) (by kernel_rfl) (by exact fun _ _ _ h => h) (Or.inl ⟨by rfl, ?hy1r⟩) hrow ?r1r
          case hy1r => (intro w hSw; (try dsimp only at hSw); go_simp; try with_reducible rfl)
          (try simp only [Act.put]); (try simp only [List.setIfInBounds_toArray]); (repeat (first | simp only [List.set_cons_succ] | simp only [List.set_cons_zero]))
          refine wpTo_take (i := 2) (v := ?v2r) (show _ = some _ by simp only [List.getElem?_toArray, List.getElem?_cons_succ, List.getElem?_cons_zero]; exact rfl) (by kernel_rfl) (by kernel_rfl) (by kernel_rfl) (by kernel_rfl) (by exact fun _ _ _ h => h) (Or.inl ⟨by rfl, ?hy2r⟩) hrow ?r2r
          case hy2r => (intro w hSw; (try dsimp only at hSw); go_simp; try with_reducible rfl)
          (try simp only [Act.put]); (try simp only [List.setIfInBounds_toArray]); (repeat (first | simp only [List.set_cons_succ] | simp only [List.set_cons_zero]))
          refine wpTo_take (i := 3) (v := ?v3r) (show _ = some _ by simp only [List.getElem?_toArray, List.getElem?_cons_succ, List.getElem?_cons_zero]; exact rfl) (by kernel_rfl) (by kernel_rfl) (by kernel_rfl) (by kernel_rfl) (by exact fun _ _ _ h => h) (Or.inl ⟨by rfl, ?hy3r⟩) hrow ?r3r
          case hy3r => (intro w hSw; (try dsimp only at hSw); go_simp; try with_reducible rfl)
          (try simp only [Act.put]); (try simp only [List.setIfInBounds_toArray]); (repeat (first | simp only [List.set_cons_succ] | simp only [List.set_cons_zero]))
          refine wpTo_take (i := 4) (v := ?v4r) (show _ = some _ by simp only [List.getElem?_toArray, List.getElem?_cons_succ, List.getElem?_cons_zero]; exact rfl) (by kernel_rfl) (by kernel_rfl) (by kernel_rfl) (by kernel_rfl) (by exact fun _ _ _ h => h) (Or.inl ⟨by rfl, ?hy4r⟩) hrow ?r4r
          case hy4r => (intro w hSw; (try dsimp only at hSw); have c1 := hcx _ hSw; go_simp; try with_reducible rfl)
          (try simp only [Act.put]); (try simp only [List.setIfInBounds_toArray]); (repeat (first | simp only [List.set_cons_succ] | simp only [List.set_cons_zero]))
          refine wpTo_take (i := 5) (v := ?v5r) (show _ = some _ by simp only [List.getElem?_toArray, List.getElem?_cons_succ, List.getElem?_cons_zero]; exact rfl) (by kernel_rfl) (by kernel_rfl) (by kernel_rfl) (by kernel_rfl) (by exact fun _ _ _ h => h) (Or.inl ⟨by rfl, ?hy5r⟩) hrow ?r5r
          case hy5r => (intro w hSw; (try dsimp only at hSw); go_simp; try with_reducible rfl)
          (try simp only [Act.put]); (try simp only [List.setIfInBounds_toArray]); (repeat (first | simp only [List.set_cons_succ] | simp only [List.set_cons_zero]))
          refine wpTo_take (i := 6) (v := ?v6r) (show _ = some _ by simp only [List.getElem?_toArray, List.getElem?_cons_succ, List.getElem?_cons_zero]; exact rfl) (by kernel_rfl) (by kernel_rfl) (by kernel_rfl) (by kernel_rfl) (by exact fun _ _ _ h => h) (Or.inl ⟨by rfl, ?hy6r⟩) hrow ?r6r
          case hy6r => (intro w hSw; (try dsimp only at hSw); go_simp; try with_reducible rfl)
          (try simp only [Act.put]); (try simp only [List.setIfInBounds_toArray]); (repeat (first | simp only [List.set_cons_succ] | simp only [List.set_cons_zero]))
          refine wpTo_take (i := 7) (v := ?v7r) (show _ = some _ by simp only [List.getElem?_toArray, List.getElem?_cons_succ, List.getElem?_cons_zero]; exact rfl) (by kernel_rfl) (by kernel_rfl) (by kernel_rfl) (by kernel_rfl) (by exact fun _ _ _ h => h) (Or.inl ⟨by rfl, ?hy7r⟩) hrow ?r7r
          case hy7r => (intro w hSw; (try dsimp only at hSw); go_simp; try with_reducible rfl)
          (try simp only [Act.put]); (try simp only [List.setIfInBounds_toArray]); (repeat (first | simp only [List.set_cons_succ] | simp only [List.set_cons_zero]))
          refine wpTo_take (i := 8) (v := ?v8r) (show _ = some _ by simp only [List.getElem?_toArray, List.getElem?_cons_succ, List.getElem?_cons_zero]; exact rfl) (by kernel_rfl) (by kernel_rfl) (by kernel_rfl) (by kernel_rfl) (by exact fun _ _ _ h => h) (Or.inl ⟨by rfl, ?hy8r⟩) hrow ?r8r
          case hy8r => (intro w hSw; (try dsimp only at hSw); have c2 := hcy _ hSw; go_simp; try with_reducible rfl)
          (try simp only [Act.put]); (try simp only [List.setIfInBounds_toArray]); (repeat (first | simp only [List.set_cons_succ] | simp only [List.set_cons_zero]))
          refine wpTo_take (i := 9) (v := ?v9r) (show _ = some _ by simp only [List.getElem?_toArray, List.getElem?_cons_succ, List.getElem?_cons_zero]; exact rfl) (by kernel_rfl) (by kernel_rfl) (by kernel_rfl) (by kernel_rfl) (by exact fun _ _ _ h => h) (Or.inl ⟨by rfl, ?hy9r⟩) hrow ?r9r
          case hy9r => (intro w hSw; (try dsimp only at hSw); go_simp; try with_reducible rfl)
          (try simp only [Act.put]); (try simp only [List.setIfInBounds_toArray]); (repeat (first | simp only [List.set_cons_succ] | simp only [List.set_cons_zero]))
          refine wpTo_one (i := 10) (by kernel_rfl) (show _ = some _ by simp only [List.getElem?_toArray, List.getElem?_cons_succ, List.getElem?_cons_zero]; exact rfl) (fun K hK => ?_)
          go_simp
          refine hK.out _ _ (RnS.drew (RnS.call hR ((Below.refl _ wr).alloc (Nat.le_refl _) (.cells #[.int .u8 (v8 z)] 5)))) (fun hS2 => ?_)
          clear hK K
          (try simp only [Act.put]); (try simp only [List.setIfInBounds_toArray]); (repeat (first | simp only [List.set_cons_succ] | simp only [List.set_cons_zero]))
          refine wpTo_one (i := 11) (by kernel_rfl) (show _ = some _ by simp only [List.getElem?_toArray, List.getElem?_cons_succ, List.getElem?_cons_zero]; exact rfl) (fun K hK => ?_)
          refine step_append_w (by rfl) _ _ rfl (w.heap.size + 3) _ k (v8s (C.take k)) [v8 z] rfl (own_heap (w' := (wr.alloc (.cells #[.int .u8 (v8 z)] 5)).drew) (hown.alloc (.cells #[.int .u8 (v8 z)] 5)) rfl) ⟨wr.heap.size, 0, none⟩ 1 1 rfl (shows_heap (shows_new wr [v8 z] (by simp; exact ⟨v8_nn z, v8_le z⟩)) rfl) (by decide) (by omega) hbs ?_
          intro g9 cap9 w9 own9 gr9
          refine hK.out _ _ (RnS.grown hS2 gr9 (fun b hb => by have := (hown.lt b hb).1; omega)) (fun hS3 => ?_)
          clear hK K
          (try simp only [Act.put]); (try simp only [List.setIfInBounds_toArray]); (repeat (first | simp only [List.set_cons_succ] | simp only [List.set_cons_zero]))
          refine wpTo_last (by kernel_rfl) (show _ = some _ by simp only [List.getElem?_toArray, List.getElem?_cons_succ, List.getElem?_cons_zero]; exact rfl) (by kernel_rfl) (fun K hK => ?_)
          go_simp
          refine hK.out _ _ ?_
          clear hK K
          (try simp only [Act.put]); (try simp only [List.setIfInBounds_toArray]); (repeat (first | simp only [List.set_cons_succ] | simp only [List.set_cons_zero]))
          rw [HZ.out] at own9
          go_wp2_with fail
          refine ⟨⟨k + 1, cap9, some ⟨g9, 0, none⟩, S1, by omega, rfl, by go_num, own9, hS1l, HN.out, hS3⟩, by simp [intOf]; omega⟩
    · have hkE : k = m := by omega
      subst hkE
      rw [List.take_of_length_le (by omega)] at hown
      go_wp2_with fail
      go_ret
      exact ⟨_, rfl, hown, hR.k⟩
end Go.Proofs.Ytjhkicfndbceoaa

/- The document's: sealing. -/
namespace Go.Proofs.Ytjhkicfndbceoaa
open Go.RowKit

theorem own_lt {w : World} {b e sz : Nat} {v : Value} {n : Nat} {xs : List Value} (h : w.ownsRow b e sz v n xs) : ∀ g', v.ownBlock = some g' → g' < w.heap.size := fun g' hg => (h.lt g' hg).2
theorem own_off {w w' : World} {b e sz : Nat} {v : Value} {n g : Nat} {xs : List Value} (h : w.ownsRow b e sz v n xs) (ho : On w w' g) (hg : ∀ g', v.ownBlock = some g' → g' < g) : w'.ownsRow b e sz v n xs := by
  refine ⟨h.1, ?_⟩
  rcases h.2 with h2 | ⟨g', cap, cur, rfl, hg', hh, r⟩
  · exact Or.inl h2
  · exact Or.inr ⟨g', cap, cur, rfl, hg', (ho.block g' (by have := hg g' rfl; omega)).trans hh, r⟩

theorem zeroed46 : ∃ Z : List B, Z.length = 752 ∧ ∀ W : World, (zeroValue 46).run Try.prog W = .ok (.agg (bys Z).toArray) W := ⟨_, List.length_replicate, zero46r⟩

/-- What lies there while the document seals. -/
structure RsS (w v : World) (nonce KL : List B) (g : Nat) : Prop where
  no : Blk v (w.heap.size + 1) 23 (bys nonce)
  key : Blk v g 46 (bys KL)
  g : w.heap.size + 1 < g
  k : Below w.heap.size w v
section
variable {w v v' : World} {nonce KL : List B} {g g' : Nat}
theorem RsS.call (a : RsS w v nonce KL g) (hb : Below v.heap.size v v') : RsS w v' nonce KL g := ⟨a.no.next hb, a.key.next hb, a.g, a.k.trans (hb.mono a.k.size)⟩
theorem RsS.drew (a : RsS w v nonce KL g) : RsS w v.drew nonce KL g := ⟨a.no, a.key, a.g, a.k.drew⟩
theorem RsS.lt (a : RsS w v nonce KL g) : g < v.heap.size := a.key.lt
theorem RsS.on (a : RsS w v nonce KL g) (ho : On v v' g') (hg : g < g') : RsS w v' nonce KL g := by
  have := a.g
  exact ⟨a.no.on ho (by omega), a.key.on ho (by omega), a.g, ho.below a.k (by omega)⟩
end

set_option maxHeartbeats 4000000 in
set_option maxRecDepth 100000 in
theorem rseal_any (key nonce ad p : List B) (hk : key.length = 32) (hn : nonce.length = 12) (ao bo : Option Addr) (n m c d : Nat) (w : World) (hs : Shows w ao n (v8s ad)) (ht : Shows w bo m (v8s p)) (hc : ao = none → c = 0) (hbn : n ≤ 65536) (hbm : m ≤ 65536) :
    Calls Try.prog 11 #[.agg (bys key).toArray, .agg (bys nonce).toArray, .slice ao n c, .slice bo m d] w fun e w' => ∃ v, e = .returned v ∧ w'.ownsRow w.heap.size 5 1 v (m + 16) (u8s (v8s (sealM key nonce ad p))) ∧ Below w.heap.size w w' := by
  have hl : p.length = m := by have := ht.len; rw [v8s_length] at this; exact this
  obtain ⟨ZB, eZB, hzB⟩ := zeroed37e
  have hZB : ZB.length = 16 := by rw [eZB]; simp
  clear eZB
  obtain ⟨ZK, hZK, hzK⟩ := zeroed46
  have hKL : (ready key ++ tabs).length = 752 := by rw [List.length_append, ready_length key hk, tabs_length]
  have hT : (cov key nonce p).length = m := by rw [cov_length, hl]
  have H20 : Hid (∀ W : World, Calls Try.prog 20 #[.agg (bys key).toArray] W fun e w' => e = .returned (.agg (bys (ready key ++ tabs)).toArray) ∧ Below W.heap.size W w') := rexpand_any key hk
  have H27 : Hid (∀ W : World, Shows W bo m (v8s p) → Calls Try.prog 27 #[.agg (bys (ready key ++ tabs)).toArray, .agg (bys nonce).toArray, .slice bo m d] W fun e w' => ∃ v, e = .returned v ∧ w'.ownsRow (W.heap.size + 3) 5 1 v m (u8s (v8s (cov key nonce p))) ∧ Below W.heap.size W w') := fun W hW => rturned_any key nonce p hk hn bo m d W hW (by omega)
  have H28 : Hid (∀ (a2 : Option Addr) (c2 : Nat) (W : World), (a2 = none → c2 = 0) → Shows W ao n (v8s ad) → Shows W a2 m (v8s (cov key nonce p)) → Calls Try.prog 28 #[.agg (bys (ready key ++ tabs)).toArray, .agg (bys nonce).toArray, .slice ao n c, .slice a2 m c2] W fun e w' => e = .returned (.agg (bys (bq (tagM key nonce ad (cov key nonce p)))).toArray) ∧ Below W.heap.size W w') := fun a2 c2 W h0 h1 h2 => rtag_any key nonce ad (cov key nonce p) hk hn ao a2 n m c c2 W h1 h2 hc h0 (by omega) (by omega)
  have hB16 := bq_length (tagM key nonce ad (cov key nonce p))
  unfold sealM
  rw [v8s_append]
  obtain ⟨KL, eKL⟩ : ∃ l, l = ready key ++ tabs := ⟨_, rfl⟩
  obtain ⟨T, eT⟩ : ∃ l, l = cov key nonce p := ⟨_, rfl⟩
  rw [← eKL] at H20 H27 H28 hKL
  rw [← eT] at H27 H28 hT hB16 ⊢
  obtain ⟨TB, eTB⟩ : ∃ l, l = bq (tagM key nonce ad T) := ⟨_, rfl⟩
  rw [← eTB] at H28 hB16 ⊢
  clear eKL eT eTB hl
  have hnI : ¬ ((n : Int) > 65536) := by omega
  have hmI : ¬ ((m : Int) > 65536) := by omega
  obtain ⟨h1, h2, h3⟩ := blk2 w 22 23 (bys key) (bys nonce)
  go_enter Try.func11, Try.ntmps11
  go_wp2_with (refine law_load rfl 22 _ rfl _ rfl 22 _ h1 _ Try.underlying22 rfl (by rw [bys_length, hk]; kernel_rfl) ?_)
  go_at_call 20; refine (H20.out _).mono ?_; rintro e v1 ⟨rfl, k1⟩
  have n1 := h2.next k1
  have b1 : Below w.heap.size w v1 := h3.trans (k1.mono h3.size)
  have hlt := n1.lt
  have hN := Blk.new v1 46 (bys ZK)
  clear h1 h2 h3 k1
  go_wp2_with (first
    | (refine law_store rfl 46 _ _ rfl _ (bys KL) rfl rfl 46 _ hN (by rw [bys_length, bys_length, hKL, hZK]) (by rw [bys_length, hKL]; kernel_rfl) (bys_one KL) ?_; intro v2 o2 k2; have hS2 : RsS w v2 nonce KL v1.heap.size := ⟨(n1.alloc _).on o2 (by omega), k2, hlt, o2.below (b1.alloc b1.size _) b1.size⟩)
    | (refine law_load rfl 46 _ rfl _ rfl 46 _ hS2.key _ Try.underlying46 rfl (by rw [bys_length, hKL]; kernel_rfl) ?_)
    | (refine law_load rfl 23 _ rfl _ rfl 23 _ hS2.no _ Try.underlying23 rfl (by rw [bys_length, hn]; kernel_rfl) ?_))
  obtain ⟨g, eg⟩ : ∃ g, g = v1.heap.size := ⟨_, rfl⟩
  rw [← eg] at hS2 ⊢
  clear n1 b1 hlt hN o2 k2 eg
  go_at_call 27; refine (H27.out _ (ht.later hS2.k)).mono ?_; rintro e v3 ⟨vt, rfl, own3, k3⟩
  have hS3 := hS2.call k3
  have own3 := own_base' (base := w.heap.size + 2) own3 (by have := hS2.lt; have := hS2.g; omega)
  obtain ⟨a2, c2, rfl, s3, hc2, -, hn2, hlo⟩ := own_shape own3 (v8s_rng _)
  clear hS2 k3
  go_wp2_with (first
    | (refine law_load rfl 46 _ rfl _ rfl 46 _ hS3.key _ Try.underlying46 rfl (by rw [bys_length, hKL]; kernel_rfl) ?_)
    | (refine law_load rfl 23 _ rfl _ rfl 23 _ hS3.no _ Try.underlying23 rfl (by rw [bys_length, hn]; kernel_rfl) ?_))
  go_at_call 28; refine (H28.out a2 c2 _ hn2 (hs.later hS3.k) s3).mono ?_; rintro e v4 ⟨rfl, k4⟩
  have b4 := (hS3.call k4).k
  have own4 := own_below own3 k4
  have hz4 : w.heap.size + 2 ≤ v4.heap.size := by have := (hS3.call k4).lt; have := hS3.g; omega
  clear hS3 own3 s3 k4 hlo
  have hN := Blk.new v4 37 (bys ZB)
  have hwh := fun W => whole37 W v4.heap.size
  go_wp2_with (first
    | (refine law_store rfl 37 _ _ rfl _ (bys TB) rfl rfl 37 _ hN (by rw [bys_length, bys_length, hB16, hZB]) (by rw [bys_length, hB16]; kernel_rfl) (bys_one TB) ?_; intro v9 o9 m9; have b9 := o9.below (b4.alloc b4.size (.cells (bys ZB).toArray 37)) b4.size; have own9 := own_off (own4.alloc (.cells (bys ZB).toArray 37)) o9 (own_lt own4); have s9 := shows_blk m9 hB16)
    | (at_builtin; go_must (refine law_append rfl _ _ rfl (w.heap.size + 2) _ _ _ rfl own9 _ 16 16 _ rfl s9 (by intro h; cases h) (by omega) (by have := o9.size; have e : (v4.alloc (.cells (bys ZB).toArray 37)).heap.size = v4.heap.size + 1 := World.size_alloc _ _; omega) ?_)))
  intro v' wZ hown hgr _
  go_wp2_with fail
  go_ret
  exact ⟨v', rfl, own_base' hown (by omega), b9.grown hgr b9.size (fun k hk => by have := (own9.lt k hk).1; omega)⟩

set_option maxHeartbeats 1000000 in
set_option maxRecDepth 100000 in
theorem rseal_long (key nonce : List B) (ao bo : Option Addr) (n m c d : Nat) (w : World) (h : 65536 < n ∨ 65536 < m) :
    Calls Try.prog 11 #[.agg (bys key).toArray, .agg (bys nonce).toArray, .slice ao n c, .slice bo m d] w fun e w' => e = .returned (.slice none 0 0) ∧ Below w.heap.size w w' := by
  obtain ⟨h1, h2, h3⟩ := blk2 w 22 23 (bys key) (bys nonce)
  by_cases hn : 65536 < n
  · have hnI : (n : Int) > 65536 := by omega
    go_enter Try.func11, Try.ntmps11
    go_wp2
    go_ret
    exact ⟨rfl, h3⟩
  · have hnI : ¬ (n : Int) > 65536 := by omega
    have hmI : (m : Int) > 65536 := by omega
    go_enter Try.func11, Try.ntmps11
    go_wp2
    go_ret
    exact ⟨rfl, h3⟩
end Go.Proofs.Ytjhkicfndbceoaa
