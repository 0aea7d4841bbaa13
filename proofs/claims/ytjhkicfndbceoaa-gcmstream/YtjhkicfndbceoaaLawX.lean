/- GcmStream: texts under one nonce differ as the plain ones do; a beginning's text is the text's beginning; the ad changes the tag alone. -/
import Derived.Test.YtjhkicfndbceoaaLaw
namespace Go.Proofs.Ytjhkicfndbceoaa
open Go.RowKit

theorem seal_at (key nonce ad p : List B) (j : Nat) (h : j < p.length) : (sealM key nonce ad p).getD j 0#8 = p.getD j 0#8 ^^^ (strm key nonce (2 + j / 16)).getD (j % 16) 0#8 := by
  unfold sealM
  have e : (cov key nonce p ++ bq (tagM key nonce ad (cov key nonce p))).getD j 0#8 = (cov key nonce p).getD j 0#8 := by
    simp only [List.getD]
    rw [List.getElem?_append_left (by rw [cov_length]; exact h)]
  rw [e, cov_at _ _ _ _ h]

set_option maxHeartbeats 4000000 in
set_option maxRecDepth 100000 in
theorem stream_walk (key nonce ad p q SL TL UL VL : List B) (hk : key.length = 32) (hn : nonce.length = 12) (ao bo eo : Option Addr) (n m e c d f M1 M2 h V : Nat) (w : World) (ha : Shows w ao n (v8s ad)) (hb : Shows w bo m (v8s p)) (he : Shows w eo e (v8s q))
    (hM1 : M1 = m + 16) (hM2 : M2 = e + 16) (hh : h = m / 2) (hV : V = h + 16) (hmd : m ≤ d) (hbn : n ≤ 4096) (hbm : m ≤ 4096) (hbe : e ≤ 4096)
    (HK : Hid (∀ j, j < m → j < e → bits .xor .u8 (v8 (SL.getD j 0#8)) (v8 (TL.getD j 0#8)) = bits .xor .u8 (v8 (p.getD j 0#8)) (v8 (q.getD j 0#8))))
    (HU : Hid (∀ j, j < m → UL.getD j 0#8 = SL.getD j 0#8)) (HV : Hid (v8s (VL.take h) = v8s (SL.take h)))
    (H10s : Hid (∀ W : World, Shows W ao n (v8s ad) → Shows W bo m (v8s p) → Calls Try.prog 10 #[.agg (bys key).toArray, .agg (bys nonce).toArray, .slice ao n c, .slice bo m d] W fun e w' => ∃ v, e = .returned v ∧ w'.ownsRow W.heap.size 5 1 v M1 (u8s (v8s SL)) ∧ Below W.heap.size W w'))
    (H10t : Hid (∀ W : World, Shows W ao n (v8s ad) → Shows W eo e (v8s q) → Calls Try.prog 10 #[.agg (bys key).toArray, .agg (bys nonce).toArray, .slice ao n c, .slice eo e f] W fun e w' => ∃ v, e = .returned v ∧ w'.ownsRow W.heap.size 5 1 v M2 (u8s (v8s TL)) ∧ Below W.heap.size W w'))
    (H10u : Hid (∀ W : World, Shows W eo e (v8s q) → Shows W bo m (v8s p) → Calls Try.prog 10 #[.agg (bys key).toArray, .agg (bys nonce).toArray, .slice eo e f, .slice bo m d] W fun e w' => ∃ v, e = .returned v ∧ w'.ownsRow W.heap.size 5 1 v M1 (u8s (v8s UL)) ∧ Below W.heap.size W w'))
    (H10v : Hid (∀ W : World, Shows W bo h (v8s (p.take h)) → Calls Try.prog 10 #[.agg (bys key).toArray, .agg (bys nonce).toArray, .slice none 0 0, .slice bo h d] W fun e w' => ∃ v, e = .returned v ∧ w'.ownsRow W.heap.size 5 1 v V (u8s (v8s VL)) ∧ Below W.heap.size W w')) :
    Calls Try.prog 7 #[.agg (sc key nonce (.slice ao n c) (.slice bo m d)).toArray, .slice eo e f] w fun e w' => e = .returned (.bool true) ∧ Below w.heap.size w w' := by
  have hL := LwS.new w key nonce (.slice ao n c) (.slice bo m d) hk hn
  have c44 := hL.va
  have c45 := hL.vb
  have hnI : ¬ ((n : Int) > 4096) := by omega
  have hmI : ¬ ((m : Int) > 4096) := by omega
  have heI : ¬ ((e : Int) > 4096) := by omega
  have hMI : (m : Int) + 16 = (M1 : Int) := by omega
  have hEI : (e : Int) + 16 = (M2 : Int) := by omega
  have HM1 : Hid (M1 = m + 16) := hM1
  have HM2 : Hid (M2 = e + 16) := hM2
  have Hh : Hid (h = m / 2) := hh
  have HV16 : Hid (V = h + 16) := hV
  have hVI : (h : Int) + 16 = (V : Int) := by omega
  have hq1 : (m : Int).tdiv 2 = (h : Int) := by rw [Int.tdiv_eq_ediv_of_nonneg (by omega)]; omega
  have hq2 : (m : Int) / 2 = (h : Int) := by omega
  have hqw : IntKind.i64.wrap (h : Int) = (h : Int) := by rw [IntKind.wrap_i64]; omega
  have hqv : IntKind.i64.wrap ((h : Int) + 16) = (V : Int) := by rw [IntKind.wrap_i64]; omega
  have hqV : IntKind.i64.wrap (V : Int) = (V : Int) := by rw [IntKind.wrap_i64]; omega
  have hhm : h ≤ m := by omega
  have shows_take : Hid (∀ W, Below w.heap.size w W → Shows W bo h (v8s (p.take h))) := fun W hW => by
    have := (hb.later hW).take (k := h) hhm
    rwa [v8s_take] at this
  clear hM1 hM2 hh hV
  obtain ⟨X, eX⟩ : ∃ X, X = sc key nonce (.slice ao n c) (.slice bo m d) := ⟨_, rfl⟩
  rw [← eX]
  rw [← eX] at hL c44 c45
  clear eX
  go_enter Try.func7, Try.ntmps7
  go_wp2_with (first | (refine wpList_load_mid rfl 22 _ rfl w.heap.size 0 rfl (bys key) _ hL.ky Try.underlying22 rfl (by rw [bys_length, hk]; kernel_rfl) ?_) | (refine wpList_load_mid rfl 23 _ rfl w.heap.size 32 rfl (bys nonce) _ hL.non Try.underlying23 rfl (by rw [bys_length, hn]; kernel_rfl) ?_))
  go_at_call 10; refine (H10s.out _ (ha.later hL.k) (hb.later hL.k)).mono ?_; rintro e1 v1 ⟨vs, rfl, own1, k1⟩
  obtain ⟨gs, cs, rfl, -, -⟩ := own1.form (by have := HM1.out; omega)
  obtain ⟨ao1, cs1, ev, s1, hcs, -, -, -⟩ := own_shape own1 (v8s_rng SL)
  cases ev
  have hL1 := hL.call k1
  have c44 := hL1.va
  have c45 := hL1.vb
  clear hL k1 own1
  go_wp2_with (first | (refine wpList_load_mid rfl 22 _ rfl w.heap.size 0 rfl (bys key) _ hL1.ky Try.underlying22 rfl (by rw [bys_length, hk]; kernel_rfl) ?_) | (refine wpList_load_mid rfl 23 _ rfl w.heap.size 32 rfl (bys nonce) _ hL1.non Try.underlying23 rfl (by rw [bys_length, hn]; kernel_rfl) ?_))
  go_at_call 10; refine (H10t.out _ (ha.later hL1.k) (he.later hL1.k)).mono ?_; rintro e1 v2 ⟨vt, rfl, own2, k2⟩
  obtain ⟨gt, ct, rfl, -, -⟩ := own2.form (by have := HM2.out; omega)
  obtain ⟨ao2, ct1, ev, s2, -, -, -, -⟩ := own_shape own2 (v8s_rng TL)
  cases ev
  have hL2 := hL1.call k2
  have c44 := hL2.va
  have c45 := hL2.vb
  have s1 := s1.later k2
  clear hL1 k2 own2
  go_wp2_with (first | (refine wpList_load_mid rfl 22 _ rfl w.heap.size 0 rfl (bys key) _ hL2.ky Try.underlying22 rfl (by rw [bys_length, hk]; kernel_rfl) ?_) | (refine wpList_load_mid rfl 23 _ rfl w.heap.size 32 rfl (bys nonce) _ hL2.non Try.underlying23 rfl (by rw [bys_length, hn]; kernel_rfl) ?_))
  go_at_call 10; refine (H10u.out _ (he.later hL2.k) (hb.later hL2.k)).mono ?_; rintro e1 v3 ⟨vu, rfl, own3, k3⟩
  obtain ⟨gu, cu, rfl, -, -⟩ := own3.form (by have := HM1.out; omega)
  obtain ⟨ao3, cu1, ev, s3, -, -, -, -⟩ := own_shape own3 (v8s_rng UL)
  cases ev
  have hL3 := hL2.call k3
  have c44 := hL3.va
  have c45 := hL3.vb
  have s1 := s1.later k3
  have s2 := s2.later k3
  clear hL2 k3 own3
  have hb3 := hb.later hL3.k
  have he3 := he.later hL3.k
  go_wp2_with fail
  go_loopw [8] (fun i wr => ∃ j : Nat, j ≤ m ∧ i = .int .i64 (j : Int) ∧ Hid (wr.heap = v3.heap) ∧ Below w.heap.size w wr) (fun i _ => m - (intOf i).toNat)
  case atStart => exact ⟨0, by omega, rfl, (show v3.heap = v3.heap from rfl), hL3.k⟩
  case round =>
    obtain ⟨j, hj, rfl, hH, hB⟩ := hrel
    have L4 : LwS w wr w.heap.size key nonce (.slice ao n c) (.slice bo m d) := ⟨by show wr.heap[_]? = _; rw [hH.out]; exact hL3.blk, hB, hk, hn⟩
    have c45r := L4.vb
    have s1r := shows_heap s1 hH.out
    have s2r := shows_heap s2 hH.out
    have s3r := shows_heap s3 hH.out
    have hbr := shows_heap hb3 hH.out
    have her := shows_heap he3 hH.out
    clear c44 c45 hL3 s1 s2 s3 hb3 he3
    by_cases hlt : j < m
    · have hjI : (j : Int) < m := by omega
      have hjM : (j : Int) < M1 := by omega
      have hjM' : j < M1 := by have := HM1.out; omega
      cases bo with
      | none => have := hbr.bare rfl; omega
      | some bd =>
        have x1 := s1r.byteAt j hjM'
        have x3 := s3r.byteAt j hjM'
        have xb := hbr.byteAt j hlt
        rw [addz, Nat.zero_add] at x1 x3
        rw [HU.out j hlt] at x3
        by_cases hje : j < e
        · have hjeI : (j : Int) < e := by omega
          have hjE : (j : Int) < M2 := by omega
          have hjE' : j < M2 := by have := HM2.out; omega
          have hdec : decide ((j : Int) < e) = true := decide_eq_true hjeI
          cases eo with
          | none => have := her.bare rfl; omega
          | some ed =>
            have x2 := s2r.byteAt j hjE'
            have xe := her.byteAt j hje
            rw [addz, Nat.zero_add] at x2
            have hx := HK.out j hlt hje
            obtain ⟨y1, ey1⟩ : ∃ y, y = v8 (SL.getD j 0#8) := ⟨_, rfl⟩
            obtain ⟨y2, ey2⟩ : ∃ y, y = v8 (TL.getD j 0#8) := ⟨_, rfl⟩
            obtain ⟨y3, ey3⟩ : ∃ y, y = v8 (p.getD j 0#8) := ⟨_, rfl⟩
            obtain ⟨y4, ey4⟩ : ∃ y, y = v8 (q.getD j 0#8) := ⟨_, rfl⟩
            rw [← ey1] at x1 x3 hx
            rw [← ey2] at x2 hx
            rw [← ey3] at xb hx
            rw [← ey4] at xe hx
            clear ey1 ey2 ey3 ey4
            go_wp2_with fail
            go_quiet (fail)
            go_wp2_with fail
            refine ⟨⟨j + 1, by omega, by go_num, (show (wr.drewN nq).heap = v3.heap by rw [drewN_heap]; exact hH.out), below_drewN hB _⟩, by simp [intOf]; omega⟩
        · have hjeI : ¬ (j : Int) < e := by omega
          have hdec : decide ((j : Int) < e) = false := decide_eq_false hjeI
          obtain ⟨y1, ey1⟩ : ∃ y, y = v8 (SL.getD j 0#8) := ⟨_, rfl⟩
          rw [← ey1] at x1 x3
          clear ey1
          go_wp2_with fail
          go_quiet (fail)
          go_wp2_with fail
          refine ⟨⟨j + 1, by omega, by go_num, (show (wr.drewN nq).heap = v3.heap by rw [drewN_heap]; exact hH.out), below_drewN hB _⟩, by simp [intOf]; omega⟩
    · have hjm : ¬ (j : Int) < m := by omega
      go_wp2_with fail
      have hL4 := L4
      have r10 := fun W => run_to W bo m d h (by omega) (h : Int) rfl
      clear s2r s3r hbr her c45r
      refine wp_region_to (fun v => LwS w v w.heap.size key nonce (.slice ao n c) (.slice bo m d)) 13 (by kernel_rfl) ?_
      have hS0 := hL4.drew
      refine wpTo_take (i := 0) (v := ?v0r13) (show _ = some _ by simp only [List.getElem?_toArray, List.getElem?_cons_zero]; exact rfl) (by kernel_rfl) (by kernel_rfl) (by kernel_rfl) (by kernel_rfl) (by exact fun _ _ _ h => h) (Or.inl ⟨by rfl, ?hy0r13⟩) hS0 ?r0r13
      case hy0r13 => (intro w hSw; (try dsimp only at hSw); go_simp; try with_reducible rfl)
      (try simp only [Act.put]); (try simp only [List.setIfInBounds_toArray]); (repeat (first | simp only [List.set_cons_succ] | simp only [List.set_cons_zero]))
      refine wpTo_take (i := 2) (v := ?v2r13) (show _ = some _ by simp only [List.getElem?_toArray, List.getElem?_cons_succ, List.getElem?_cons_zero]; exact rfl) (by kernel_rfl) (by kernel_rfl) (by kernel_rfl) (by kernel_rfl) (by exact fun _ _ _ h => h) (Or.inl ⟨by rfl, ?hy2r13⟩) hS0 ?r2r13
      case hy2r13 => (intro w hSw; (try dsimp only at hSw); go_simp; try with_reducible rfl)
      (try simp only [Act.put]); (try simp only [List.setIfInBounds_toArray]); (repeat (first | simp only [List.set_cons_succ] | simp only [List.set_cons_zero]))
      refine wpTo_take (i := 4) (v := ?v4r13) (show _ = some _ by simp only [List.getElem?_toArray, List.getElem?_cons_succ, List.getElem?_cons_zero]; exact rfl) (by kernel_rfl) (by kernel_rfl) (by kernel_rfl) (by kernel_rfl) (by exact fun _ _ _ h => h) (Or.inl ⟨by rfl, ?hy4r13⟩) hS0 ?r4r13
      case hy4r13 => (intro w hSw; (try dsimp only at hSw); go_simp; try with_reducible rfl)
      (try simp only [Act.put]); (try simp only [List.setIfInBounds_toArray]); (repeat (first | simp only [List.set_cons_succ] | simp only [List.set_cons_zero]))
      refine wpTo_take (i := 6) (v := ?v6r13) (show _ = some _ by simp only [List.getElem?_toArray, List.getElem?_cons_succ, List.getElem?_cons_zero]; exact rfl) (by kernel_rfl) (by kernel_rfl) (by kernel_rfl) (by kernel_rfl) (by exact fun _ _ _ h => h) (Or.inl ⟨by rfl, ?hy6r13⟩) hS0 ?r6r13
      case hy6r13 => (intro w hSw; (try dsimp only at hSw); go_simp; try with_reducible rfl)
      (try simp only [Act.put]); (try simp only [List.setIfInBounds_toArray]); (repeat (first | simp only [List.set_cons_succ] | simp only [List.set_cons_zero]))
      refine wpTo_take (i := 1) (show _ = some _ by simp only [List.getElem?_toArray, List.getElem?_cons_succ, List.getElem?_cons_zero]; exact rfl) (by kernel_rfl) (by kernel_rfl) (by kernel_rfl) (by kernel_rfl) (by exact fun _ _ _ h => h) (yieldsIf_load_mid (by rfl) 22 (.tmp 117) rfl w.heap.size 0 rfl (bys key) _ (fun v h => LwS.ky h) Try.underlying22 rfl (by rw [bys_length, hk]; kernel_rfl)) hS0 ?_
      (try simp only [Act.put]); (try simp only [List.setIfInBounds_toArray]); (repeat (first | simp only [List.set_cons_succ] | simp only [List.set_cons_zero]))
      refine wpTo_take (i := 3) (show _ = some _ by simp only [List.getElem?_toArray, List.getElem?_cons_succ, List.getElem?_cons_zero]; exact rfl) (by kernel_rfl) (by kernel_rfl) (by kernel_rfl) (by kernel_rfl) (by exact fun _ _ _ h => h) (yieldsIf_load_mid (by rfl) 23 (.tmp 119) rfl w.heap.size 32 rfl (bys nonce) _ (fun v h => LwS.non h) Try.underlying23 rfl (by rw [bys_length, hn]; kernel_rfl)) hS0 ?_
      (try simp only [Act.put]); (try simp only [List.setIfInBounds_toArray]); (repeat (first | simp only [List.set_cons_succ] | simp only [List.set_cons_zero]))
      refine wpTo_take (i := 5) (v := ?v5r13) (show _ = some _ by simp only [List.getElem?_toArray, List.getElem?_cons_succ, List.getElem?_cons_zero]; exact rfl) (by kernel_rfl) (by kernel_rfl) (by kernel_rfl) (by kernel_rfl) (by exact fun _ _ _ h => h) (Or.inl ⟨by rfl, ?hy5r13⟩) hS0 ?r5r13
      case hy5r13 => (intro w hSw; (try dsimp only at hSw); have hcc := LwS.vb hSw; go_simp; try with_reducible rfl)
      (try simp only [Act.put]); (try simp only [List.setIfInBounds_toArray]); (repeat (first | simp only [List.set_cons_succ] | simp only [List.set_cons_zero]))
      refine wpTo_take (i := 7) (v := ?v7r13) (show _ = some _ by simp only [List.getElem?_toArray, List.getElem?_cons_succ, List.getElem?_cons_zero]; exact rfl) (by kernel_rfl) (by kernel_rfl) (by kernel_rfl) (by kernel_rfl) (by exact fun _ _ _ h => h) (Or.inl ⟨by rfl, ?hy7r13⟩) hS0 ?r7r13
      case hy7r13 => (intro w hSw; (try dsimp only at hSw); have hcc := LwS.vb hSw; go_simp; try with_reducible rfl)
      (try simp only [Act.put]); (try simp only [List.setIfInBounds_toArray]); (repeat (first | simp only [List.set_cons_succ] | simp only [List.set_cons_zero]))
      refine wpTo_take (i := 8) (v := ?v8r13) (show _ = some _ by simp only [List.getElem?_toArray, List.getElem?_cons_succ, List.getElem?_cons_zero]; exact rfl) (by kernel_rfl) (by kernel_rfl) (by kernel_rfl) (by kernel_rfl) (by exact fun _ _ _ h => h) (Or.inl ⟨by rfl, ?hy8r13⟩) hS0 ?r8r13
      case hy8r13 => (intro w hSw; (try dsimp only at hSw); go_simp; try with_reducible rfl)
      (try simp only [Act.put]); (try simp only [List.setIfInBounds_toArray]); (repeat (first | simp only [List.set_cons_succ] | simp only [List.set_cons_zero]))
      refine wpTo_take (i := 9) (v := ?v9r13) (show _ = some _ by simp only [List.getElem?_toArray, List.getElem?_cons_succ, List.getElem?_cons_zero]; exact rfl) (by kernel_rfl) (by kernel_rfl) (by kernel_rfl) (by kernel_rfl) (by exact fun _ _ _ h => h) (Or.inl ⟨by rfl, ?hy9r13⟩) hS0 ?r9r13
      case hy9r13 => (intro w hSw; (try dsimp only at hSw); go_simp; try with_reducible rfl)
      (try simp only [Act.put]); (try simp only [List.setIfInBounds_toArray]); (repeat (first | simp only [List.set_cons_succ] | simp only [List.set_cons_zero]))
      refine wpTo_take (i := 10) (v := ?v10r13) (show _ = some _ by simp only [List.getElem?_toArray, List.getElem?_cons_succ, List.getElem?_cons_zero]; exact rfl) (by kernel_rfl) (by kernel_rfl) (by kernel_rfl) (by kernel_rfl) (by exact fun _ _ _ h => h) (Or.inl ⟨by rfl, ?hy10r13⟩) hS0 ?r10r13
      case hy10r13 => (intro w hSw; (try dsimp only at hSw); go_simp; try with_reducible rfl)
      (try simp only [Act.put]); (try simp only [List.setIfInBounds_toArray]); (repeat (first | simp only [List.set_cons_succ] | simp only [List.set_cons_zero]))
      refine wpTo_one (i := 11) (by kernel_rfl) (show _ = some _ by simp only [List.getElem?_toArray, List.getElem?_cons_succ, List.getElem?_cons_zero]; exact rfl) (fun K hK => ?_)
      go_simp
      go_at_call 10; refine (H10v.out _ (shows_take.out _ hS0.k)).mono ?_; rintro e v5 ⟨vv, rfl, own5, k5⟩
      (try simp only [])
      refine hK.out _ _ (LwS.call hS0 k5) (fun hS1 => ?_)
      clear hK K
      (try simp only [Act.put]); (try simp only [List.setIfInBounds_toArray]); (repeat (first | simp only [List.set_cons_succ] | simp only [List.set_cons_zero]))
      refine wpTo_take (i := 12) (v := ?v12r13) (show _ = some _ by simp only [List.getElem?_toArray, List.getElem?_cons_succ, List.getElem?_cons_zero]; exact rfl) (by kernel_rfl) (by kernel_rfl) (by kernel_rfl) (by kernel_rfl) (by exact fun _ _ _ h => h) (Or.inl ⟨by rfl, ?hy12r13⟩) hS1 ?r12r13
      case hy12r13 => (intro w hSw; (try dsimp only at hSw); go_simp; try with_reducible rfl)
      (try simp only [Act.put]); (try simp only [List.setIfInBounds_toArray]); (repeat (first | simp only [List.set_cons_succ] | simp only [List.set_cons_zero]))
      refine wpTo_done (by kernel_rfl) ?_
      obtain ⟨gv, cv, rfl, -, -⟩ := own5.form (by have := HV16.out; omega)
      obtain ⟨ao5, cv5, ev, s5, hcv, -, -, -⟩ := own_shape own5 (v8s_rng VL)
      cases ev
      have hL5 := hS1
      have s15 : Shows v5 (some ⟨gs, 0, none⟩) M1 (v8s SL) := (shows_heap (w' := wr.drew) s1r rfl).later k5
      have hhM : h ≤ M1 := by have := HM1.out; omega
      have hhV : h ≤ V := by have := HV16.out; omega
      have r14 := fun W => run_to W (some ⟨gv, 0, none⟩) V cv h (by omega) (h : Int) rfl
      have r20 := fun W => run_to W (some ⟨gs, 0, none⟩) M1 cs h (by omega) (h : Int) rfl
      have H12 : Hid (Calls Try.prog 12 #[.slice (some ⟨gv, 0, none⟩) h cv, .slice (some ⟨gs, 0, none⟩) h cs] v5.drew fun e w' => e = .returned (.bool true) ∧ Below v5.drew.heap.size v5.drew w') := by
        have t1 := (shows_heap (w' := v5.drew) s5 rfl).take (k := h) hhV
        have t2 := (shows_heap (w' := v5.drew) s15 rfl).take (k := h) hhM
        rw [v8s_take] at t1 t2
        refine (eqBytes_any _ _ h h cv cs _ _ _ t1 t2).mono (fun e w' hh => ?_)
        obtain ⟨h1, h2⟩ := hh
        subst h2
        rw [decide_eq_true HV.out] at h1
        exact ⟨h1, Below.refl _ _⟩
      clear own5 k5 s1r hS0
      go_wp2_with fail
      refine wp_region_to (fun v => LwS w v w.heap.size key nonce (.slice ao n c) (.slice bo m d)) 27 (by kernel_rfl) ?_
      have hT0 := hL5.drew
      refine wpTo_take (i := 0) (v := ?v0r14) (show _ = some _ by simp only [List.getElem?_toArray, List.getElem?_cons_zero]; exact rfl) (by kernel_rfl) (by kernel_rfl) (by kernel_rfl) (by kernel_rfl) (by exact fun _ _ _ h => h) (Or.inl ⟨by rfl, ?hy0r14⟩) hT0 ?r0r14
      case hy0r14 => (intro w hSw; (try dsimp only at hSw); go_simp; try with_reducible rfl)
      (try simp only [Act.put]); (try simp only [List.setIfInBounds_toArray]); (repeat (first | simp only [List.set_cons_succ] | simp only [List.set_cons_zero]))
      refine wpTo_take (i := 1) (v := ?v1r14) (show _ = some _ by simp only [List.getElem?_toArray, List.getElem?_cons_succ, List.getElem?_cons_zero]; exact rfl) (by kernel_rfl) (by kernel_rfl) (by kernel_rfl) (by kernel_rfl) (by exact fun _ _ _ h => h) (Or.inl ⟨by rfl, ?hy1r14⟩) hT0 ?r1r14
      case hy1r14 => (intro w hSw; (try dsimp only at hSw); go_simp; try with_reducible rfl)
      (try simp only [Act.put]); (try simp only [List.setIfInBounds_toArray]); (repeat (first | simp only [List.set_cons_succ] | simp only [List.set_cons_zero]))
      refine wpTo_take (i := 2) (v := ?v2r14) (show _ = some _ by simp only [List.getElem?_toArray, List.getElem?_cons_succ, List.getElem?_cons_zero]; exact rfl) (by kernel_rfl) (by kernel_rfl) (by kernel_rfl) (by kernel_rfl) (by exact fun _ _ _ h => h) (Or.inl ⟨by rfl, ?hy2r14⟩) hT0 ?r2r14
      case hy2r14 => (intro w hSw; (try dsimp only at hSw); go_simp; try with_reducible rfl)
      (try simp only [Act.put]); (try simp only [List.setIfInBounds_toArray]); (repeat (first | simp only [List.set_cons_succ] | simp only [List.set_cons_zero]))
      refine wpTo_take (i := 3) (v := ?v3r14) (show _ = some _ by simp only [List.getElem?_toArray, List.getElem?_cons_succ, List.getElem?_cons_zero]; exact rfl) (by kernel_rfl) (by kernel_rfl) (by kernel_rfl) (by kernel_rfl) (by exact fun _ _ _ h => h) (Or.inl ⟨by rfl, ?hy3r14⟩) hT0 ?r3r14
      case hy3r14 => (intro w hSw; (try dsimp only at hSw); have hcc := LwS.vb hSw; go_simp; try with_reducible rfl)
      (try simp only [Act.put]); (try simp only [List.setIfInBounds_toArray]); (repeat (first | simp only [List.set_cons_succ] | simp only [List.set_cons_zero]))
      refine wpTo_take (i := 4) (v := ?v4r14) (show _ = some _ by simp only [List.getElem?_toArray, List.getElem?_cons_succ, List.getElem?_cons_zero]; exact rfl) (by kernel_rfl) (by kernel_rfl) (by kernel_rfl) (by kernel_rfl) (by exact fun _ _ _ h => h) (Or.inl ⟨by rfl, ?hy4r14⟩) hT0 ?r4r14
      case hy4r14 => (intro w hSw; (try dsimp only at hSw); go_simp; try with_reducible rfl)
      (try simp only [Act.put]); (try simp only [List.setIfInBounds_toArray]); (repeat (first | simp only [List.set_cons_succ] | simp only [List.set_cons_zero]))
      refine wpTo_take (i := 5) (v := ?v5r14) (show _ = some _ by simp only [List.getElem?_toArray, List.getElem?_cons_succ, List.getElem?_cons_zero]; exact rfl) (by kernel_rfl) (by kernel_rfl) (by kernel_rfl) (by kernel_rfl) (by exact fun _ _ _ h => h) (Or.inl ⟨by rfl, ?hy5r14⟩) hT0 ?r5r14
      case hy5r14 => (intro w hSw; (try dsimp only at hSw); go_simp; try with_reducible rfl)
      (try simp only [Act.put]); (try simp only [List.setIfInBounds_toArray]); (repeat (first | simp only [List.set_cons_succ] | simp only [List.set_cons_zero]))
      refine wpTo_take (i := 6) (v := ?v6r14) (show _ = some _ by simp only [List.getElem?_toArray, List.getElem?_cons_succ, List.getElem?_cons_zero]; exact rfl) (by kernel_rfl) (by kernel_rfl) (by kernel_rfl) (by kernel_rfl) (by exact fun _ _ _ h => h) (Or.inl ⟨by rfl, ?hy6r14⟩) hT0 ?r6r14
      case hy6r14 => (intro w hSw; (try dsimp only at hSw); go_simp; try with_reducible rfl)
      (try simp only [Act.put]); (try simp only [List.setIfInBounds_toArray]); (repeat (first | simp only [List.set_cons_succ] | simp only [List.set_cons_zero]))
      refine wpTo_take (i := 7) (v := ?v7r14) (show _ = some _ by simp only [List.getElem?_toArray, List.getElem?_cons_succ, List.getElem?_cons_zero]; exact rfl) (by kernel_rfl) (by kernel_rfl) (by kernel_rfl) (by kernel_rfl) (by exact fun _ _ _ h => h) (Or.inl ⟨by rfl, ?hy7r14⟩) hT0 ?r7r14
      case hy7r14 => (intro w hSw; (try dsimp only at hSw); go_simp; try with_reducible rfl)
      (try simp only [Act.put]); (try simp only [List.setIfInBounds_toArray]); (repeat (first | simp only [List.set_cons_succ] | simp only [List.set_cons_zero]))
      refine wpTo_take (i := 8) (v := ?v8r14) (show _ = some _ by simp only [List.getElem?_toArray, List.getElem?_cons_succ, List.getElem?_cons_zero]; exact rfl) (by kernel_rfl) (by kernel_rfl) (by kernel_rfl) (by kernel_rfl) (by exact fun _ _ _ h => h) (Or.inl ⟨by rfl, ?hy8r14⟩) hT0 ?r8r14
      case hy8r14 => (intro w hSw; (try dsimp only at hSw); go_simp; try with_reducible rfl)
      (try simp only [Act.put]); (try simp only [List.setIfInBounds_toArray]); (repeat (first | simp only [List.set_cons_succ] | simp only [List.set_cons_zero]))
      refine wpTo_take (i := 9) (v := ?v9r14) (show _ = some _ by simp only [List.getElem?_toArray, List.getElem?_cons_succ, List.getElem?_cons_zero]; exact rfl) (by kernel_rfl) (by kernel_rfl) (by kernel_rfl) (by kernel_rfl) (by exact fun _ _ _ h => h) (Or.inl ⟨by rfl, ?hy9r14⟩) hT0 ?r9r14
      case hy9r14 => (intro w hSw; (try dsimp only at hSw); go_simp; try with_reducible rfl)
      (try simp only [Act.put]); (try simp only [List.setIfInBounds_toArray]); (repeat (first | simp only [List.set_cons_succ] | simp only [List.set_cons_zero]))
      refine wpTo_take (i := 10) (v := ?v10r14) (show _ = some _ by simp only [List.getElem?_toArray, List.getElem?_cons_succ, List.getElem?_cons_zero]; exact rfl) (by kernel_rfl) (by kernel_rfl) (by kernel_rfl) (by kernel_rfl) (by exact fun _ _ _ h => h) (Or.inl ⟨by rfl, ?hy10r14⟩) hT0 ?r10r14
      case hy10r14 => (intro w hSw; (try dsimp only at hSw); go_simp; try with_reducible rfl)
      (try simp only [Act.put]); (try simp only [List.setIfInBounds_toArray]); (repeat (first | simp only [List.set_cons_succ] | simp only [List.set_cons_zero]))
      refine wpTo_take (i := 11) (v := ?v11r14) (show _ = some _ by simp only [List.getElem?_toArray, List.getElem?_cons_succ, List.getElem?_cons_zero]; exact rfl) (by kernel_rfl) (by kernel_rfl) (by kernel_rfl) (by kernel_rfl) (by exact fun _ _ _ h => h) (Or.inl ⟨by rfl, ?hy11r14⟩) hT0 ?r11r14
      case hy11r14 => (intro w hSw; (try dsimp only at hSw); have hcc := LwS.vb hSw; go_simp; try with_reducible rfl)
      (try simp only [Act.put]); (try simp only [List.setIfInBounds_toArray]); (repeat (first | simp only [List.set_cons_succ] | simp only [List.set_cons_zero]))
      refine wpTo_take (i := 12) (v := ?v12r14) (show _ = some _ by simp only [List.getElem?_toArray, List.getElem?_cons_succ, List.getElem?_cons_zero]; exact rfl) (by kernel_rfl) (by kernel_rfl) (by kernel_rfl) (by kernel_rfl) (by exact fun _ _ _ h => h) (Or.inl ⟨by rfl, ?hy12r14⟩) hT0 ?r12r14
      case hy12r14 => (intro w hSw; (try dsimp only at hSw); go_simp; try with_reducible rfl)
      (try simp only [Act.put]); (try simp only [List.setIfInBounds_toArray]); (repeat (first | simp only [List.set_cons_succ] | simp only [List.set_cons_zero]))
      refine wpTo_take (i := 13) (v := ?v13r14) (show _ = some _ by simp only [List.getElem?_toArray, List.getElem?_cons_succ, List.getElem?_cons_zero]; exact rfl) (by kernel_rfl) (by kernel_rfl) (by kernel_rfl) (by kernel_rfl) (by exact fun _ _ _ h => h) (Or.inl ⟨by rfl, ?hy13r14⟩) hT0 ?r13r14
      case hy13r14 => (intro w hSw; (try dsimp only at hSw); go_simp; try with_reducible rfl)
      (try simp only [Act.put]); (try simp only [List.setIfInBounds_toArray]); (repeat (first | simp only [List.set_cons_succ] | simp only [List.set_cons_zero]))
      refine wpTo_take (i := 14) (v := ?v14r14) (show _ = some _ by simp only [List.getElem?_toArray, List.getElem?_cons_succ, List.getElem?_cons_zero]; exact rfl) (by kernel_rfl) (by kernel_rfl) (by kernel_rfl) (by kernel_rfl) (by exact fun _ _ _ h => h) (Or.inl ⟨by rfl, ?hy14r14⟩) hT0 ?r14r14
      case hy14r14 => (intro w hSw; (try dsimp only at hSw); go_simp; try with_reducible rfl)
      (try simp only [Act.put]); (try simp only [List.setIfInBounds_toArray]); (repeat (first | simp only [List.set_cons_succ] | simp only [List.set_cons_zero]))
      refine wpTo_take (i := 15) (v := ?v15r14) (show _ = some _ by simp only [List.getElem?_toArray, List.getElem?_cons_succ, List.getElem?_cons_zero]; exact rfl) (by kernel_rfl) (by kernel_rfl) (by kernel_rfl) (by kernel_rfl) (by exact fun _ _ _ h => h) (Or.inl ⟨by rfl, ?hy15r14⟩) hT0 ?r15r14
      case hy15r14 => (intro w hSw; (try dsimp only at hSw); go_simp; try with_reducible rfl)
      (try simp only [Act.put]); (try simp only [List.setIfInBounds_toArray]); (repeat (first | simp only [List.set_cons_succ] | simp only [List.set_cons_zero]))
      refine wpTo_take (i := 16) (v := ?v16r14) (show _ = some _ by simp only [List.getElem?_toArray, List.getElem?_cons_succ, List.getElem?_cons_zero]; exact rfl) (by kernel_rfl) (by kernel_rfl) (by kernel_rfl) (by kernel_rfl) (by exact fun _ _ _ h => h) (Or.inl ⟨by rfl, ?hy16r14⟩) hT0 ?r16r14
      case hy16r14 => (intro w hSw; (try dsimp only at hSw); go_simp; try with_reducible rfl)
      (try simp only [Act.put]); (try simp only [List.setIfInBounds_toArray]); (repeat (first | simp only [List.set_cons_succ] | simp only [List.set_cons_zero]))
      refine wpTo_take (i := 17) (v := ?v17r14) (show _ = some _ by simp only [List.getElem?_toArray, List.getElem?_cons_succ, List.getElem?_cons_zero]; exact rfl) (by kernel_rfl) (by kernel_rfl) (by kernel_rfl) (by kernel_rfl) (by exact fun _ _ _ h => h) (Or.inl ⟨by rfl, ?hy17r14⟩) hT0 ?r17r14
      case hy17r14 => (intro w hSw; (try dsimp only at hSw); have hcc := LwS.vb hSw; go_simp; try with_reducible rfl)
      (try simp only [Act.put]); (try simp only [List.setIfInBounds_toArray]); (repeat (first | simp only [List.set_cons_succ] | simp only [List.set_cons_zero]))
      refine wpTo_take (i := 18) (v := ?v18r14) (show _ = some _ by simp only [List.getElem?_toArray, List.getElem?_cons_succ, List.getElem?_cons_zero]; exact rfl) (by kernel_rfl) (by kernel_rfl) (by kernel_rfl) (by kernel_rfl) (by exact fun _ _ _ h => h) (Or.inl ⟨by rfl, ?hy18r14⟩) hT0 ?r18r14
      case hy18r14 => (intro w hSw; (try dsimp only at hSw); go_simp; try with_reducible rfl)
      (try simp only [Act.put]); (try simp only [List.setIfInBounds_toArray]); (repeat (first | simp only [List.set_cons_succ] | simp only [List.set_cons_zero]))
      refine wpTo_take (i := 19) (v := ?v19r14) (show _ = some _ by simp only [List.getElem?_toArray, List.getElem?_cons_succ, List.getElem?_cons_zero]; exact rfl) (by kernel_rfl) (by kernel_rfl) (by kernel_rfl) (by kernel_rfl) (by exact fun _ _ _ h => h) (Or.inl ⟨by rfl, ?hy19r14⟩) hT0 ?r19r14
      case hy19r14 => (intro w hSw; (try dsimp only at hSw); go_simp; try with_reducible rfl)
      (try simp only [Act.put]); (try simp only [List.setIfInBounds_toArray]); (repeat (first | simp only [List.set_cons_succ] | simp only [List.set_cons_zero]))
      refine wpTo_take (i := 20) (v := ?v20r14) (show _ = some _ by simp only [List.getElem?_toArray, List.getElem?_cons_succ, List.getElem?_cons_zero]; exact rfl) (by kernel_rfl) (by kernel_rfl) (by kernel_rfl) (by kernel_rfl) (by exact fun _ _ _ h => h) (Or.inl ⟨by rfl, ?hy20r14⟩) hT0 ?r20r14
      case hy20r14 => (intro w hSw; (try dsimp only at hSw); go_simp; try with_reducible rfl)
      (try simp only [Act.put]); (try simp only [List.setIfInBounds_toArray]); (repeat (first | simp only [List.set_cons_succ] | simp only [List.set_cons_zero]))
      refine wpTo_one (i := 21) (by kernel_rfl) (show _ = some _ by simp only [List.getElem?_toArray, List.getElem?_cons_succ, List.getElem?_cons_zero]; exact rfl) (fun K hK => ?_)
      go_simp
      go_at_call 12; refine (H12.out).mono ?_; rintro e v6 ⟨rfl, k6⟩
      (try simp only [])
      refine hK.out _ _ (LwS.call hT0 k6) (fun hT1 => ?_)
      clear hK K
      (try simp only [Act.put]); (try simp only [List.setIfInBounds_toArray]); (repeat (first | simp only [List.set_cons_succ] | simp only [List.set_cons_zero]))
      refine wpTo_take (i := 22) (v := ?v22r14) (show _ = some _ by simp only [List.getElem?_toArray, List.getElem?_cons_succ, List.getElem?_cons_zero]; exact rfl) (by kernel_rfl) (by kernel_rfl) (by kernel_rfl) (by kernel_rfl) (by exact fun _ _ _ h => h) (Or.inl ⟨by rfl, ?hy22r14⟩) hT1 ?r22r14
      case hy22r14 => (intro w hSw; (try dsimp only at hSw); go_simp; try with_reducible rfl)
      (try simp only [Act.put]); (try simp only [List.setIfInBounds_toArray]); (repeat (first | simp only [List.set_cons_succ] | simp only [List.set_cons_zero]))
      refine wpTo_take (i := 23) (v := ?v23r14) (show _ = some _ by simp only [List.getElem?_toArray, List.getElem?_cons_succ, List.getElem?_cons_zero]; exact rfl) (by kernel_rfl) (by kernel_rfl) (by kernel_rfl) (by kernel_rfl) (by exact fun _ _ _ h => h) (Or.inl ⟨by rfl, ?hy23r14⟩) hT1 ?r23r14
      case hy23r14 => (intro w hSw; (try dsimp only at hSw); go_simp; try with_reducible rfl)
      (try simp only [Act.put]); (try simp only [List.setIfInBounds_toArray]); (repeat (first | simp only [List.set_cons_succ] | simp only [List.set_cons_zero]))
      refine wpTo_one (i := 24) (by kernel_rfl) (show _ = some _ by simp only [List.getElem?_toArray, List.getElem?_cons_succ, List.getElem?_cons_zero]; exact rfl) (fun K hK => ?_)
      go_simp
      go_at_call 8; refine (works_any _).mono ?_; rintro e v7 ⟨rfl, k7⟩
      (try simp only [])
      refine hK.out _ _ (LwS.call hT1 k7) (fun hT2 => ?_)
      clear hK K
      (try simp only [Act.put]); (try simp only [List.setIfInBounds_toArray]); (repeat (first | simp only [List.set_cons_succ] | simp only [List.set_cons_zero]))
      refine wpTo_take (i := 25) (v := ?v25r14) (show _ = some _ by simp only [List.getElem?_toArray, List.getElem?_cons_succ, List.getElem?_cons_zero]; exact rfl) (by kernel_rfl) (by kernel_rfl) (by kernel_rfl) (by kernel_rfl) (by exact fun _ _ _ h => h) (Or.inl ⟨by rfl, ?hy25r14⟩) hT2 ?r25r14
      case hy25r14 => (intro w hSw; (try dsimp only at hSw); go_simp; try with_reducible rfl)
      (try simp only [Act.put]); (try simp only [List.setIfInBounds_toArray]); (repeat (first | simp only [List.set_cons_succ] | simp only [List.set_cons_zero]))
      refine wpTo_take (i := 26) (v := ?v26r14) (show _ = some _ by simp only [List.getElem?_toArray, List.getElem?_cons_succ, List.getElem?_cons_zero]; exact rfl) (by kernel_rfl) (by kernel_rfl) (by kernel_rfl) (by kernel_rfl) (by exact fun _ _ _ h => h) (Or.inl ⟨by rfl, ?hy26r14⟩) hT2 ?r26r14
      case hy26r14 => (intro w hSw; (try dsimp only at hSw); go_simp; try with_reducible rfl)
      (try simp only [Act.put]); (try simp only [List.setIfInBounds_toArray]); (repeat (first | simp only [List.set_cons_succ] | simp only [List.set_cons_zero]))
      refine wpTo_done (by kernel_rfl) ?_
      go_wp2_with fail
      go_ret
      exact ⟨rfl, hT2.k⟩

theorem stream_short (key nonce ad p q : List B) (hk : key.length = 32) (hn : nonce.length = 12) (ao bo eo : Option Addr) (n m e c d f : Nat) (w : World) (ha : Shows w ao n (v8s ad)) (hb : Shows w bo m (v8s p)) (he : Shows w eo e (v8s q))
    (hca : ao = none → c = 0) (hce : eo = none → f = 0) (hnc : n ≤ c) (hmd : m ≤ d) (hef : e ≤ f) (hbn : n ≤ 4096) (hbm : m ≤ 4096) (hbe : e ≤ 4096) :
    Calls Try.prog 7 #[.agg (sc key nonce (.slice ao n c) (.slice bo m d)).toArray, .slice eo e f] w fun e w' => e = .returned (.bool true) ∧ Below w.heap.size w w' := by
  have hlp : p.length = m := by have := hb.len; rw [v8s_length] at this; exact this
  have hlq : q.length = e := by have := he.len; rw [v8s_length] at this; exact this
  have ht : (p.take (m / 2)).length = m / 2 := by simp; omega
  refine stream_walk key nonce ad p q (sealM key nonce ad p) (sealM key nonce ad q) (sealM key nonce q p) (sealM key nonce [] (p.take (m / 2))) hk hn ao bo eo n m e c d f (m + 16) (e + 16) (m / 2) (m / 2 + 16) w ha hb he rfl rfl rfl rfl hmd hbn hbm hbe ?_ ?_ ?_ ?_ ?_ ?_ ?_
  · intro j hj hje
    rw [v8_xor, v8_xor, seal_at key nonce ad p j (by omega), seal_at key nonce ad q j (by omega)]
    refine congrArg v8 ?_
    obtain ⟨k, ek⟩ : ∃ k, k = (strm key nonce (2 + j / 16)).getD (j % 16) 0#8 := ⟨_, rfl⟩
    rw [← ek]
    have : p.getD j 0#8 ^^^ k ^^^ (q.getD j 0#8 ^^^ k) = (p.getD j 0#8 ^^^ q.getD j 0#8) ^^^ (k ^^^ k) := by ac_rfl
    rw [this, BitVec.xor_self, BitVec.xor_zero]
  · intro j hj
    rw [seal_at key nonce q p j (by omega), seal_at key nonce ad p j (by omega)]
  · show v8s _ = v8s _
    have e1 := seal_text key nonce [] (p.take (m / 2))
    rw [ht] at e1
    rw [e1, cov_take key nonce p (m / 2) (by omega)]
    have e2 := seal_text key nonce ad p
    rw [hlp] at e2
    rw [← e2, List.take_take, Nat.min_eq_left (by omega)]
  · intro W h1 h2
    exact seal_any key nonce ad p hk hn ao bo n m c d W h1 h2 hca hnc (by omega) (by omega)
  · intro W h1 h2
    exact seal_any key nonce ad q hk hn ao eo n e c f W h1 h2 hca hnc (by omega) (by omega)
  · intro W h1 h2
    exact seal_any key nonce q p hk hn eo bo e m f d W h1 h2 hce hef (by omega) (by omega)
  · intro W h1
    exact seal_any key nonce [] (p.take (m / 2)) hk hn none bo 0 (m / 2) 0 d W (shows_none W) h1 (fun _ => rfl) (Nat.le_refl _) (by omega) (by omega)

set_option maxHeartbeats 1000000 in
set_option maxRecDepth 100000 in
theorem stream_long (key nonce : List B) (hk : key.length = 32) (hn : nonce.length = 12) (ao bo eo : Option Addr) (n m e c d f : Nat) (w : World) (h : 4096 < n ∨ 4096 < m ∨ 4096 < e) :
    Calls Try.prog 7 #[.agg (sc key nonce (.slice ao n c) (.slice bo m d)).toArray, .slice eo e f] w fun e w' => e = .returned (.bool true) ∧ Below w.heap.size w w' := by
  have hL := LwS.new w key nonce (.slice ao n c) (.slice bo m d) hk hn
  have c44 := hL.va
  have c45 := hL.vb
  have hbk := hL.k
  obtain ⟨X, eX⟩ : ∃ X, X = sc key nonce (.slice ao n c) (.slice bo m d) := ⟨_, rfl⟩
  rw [← eX]
  rw [← eX] at c44 c45 hbk
  clear eX hL
  by_cases hnn : 4096 < n
  · have hnI : (n : Int) > 4096 := by omega
    go_enter Try.func7, Try.ntmps7
    go_wp2_with fail
    go_at_call 8; refine (works_any _).mono ?_; rintro e v8 ⟨rfl, k8⟩
    go_wp2_with fail
    go_ret
    exact ⟨rfl, hbk.trans (k8.mono hbk.size)⟩
  · have hnI : ¬ ((n : Int) > 4096) := by omega
    by_cases hmm : 4096 < m
    · have hmI : (m : Int) > 4096 := by omega
      go_enter Try.func7, Try.ntmps7
      go_wp2_with fail
      go_at_call 8; refine (works_any _).mono ?_; rintro e v8 ⟨rfl, k8⟩
      go_wp2_with fail
      go_ret
      exact ⟨rfl, hbk.trans (k8.mono hbk.size)⟩
    · have hmI : ¬ ((m : Int) > 4096) := by omega
      have heI : (e : Int) > 4096 := by omega
      go_enter Try.func7, Try.ntmps7
      go_wp2_with fail
      go_at_call 8; refine (works_any _).mono ?_; rintro e v8 ⟨rfl, k8⟩
      go_wp2_with fail
      go_ret
      exact ⟨rfl, hbk.trans (k8.mono hbk.size)⟩
theorem stream_all (key nonce ad p q : List B) (hk : key.length = 32) (hn : nonce.length = 12) (ao bo eo : Option Addr) (n m e c d f : Nat) (w : World) (ha : Shows w ao n (v8s ad)) (hb : Shows w bo m (v8s p)) (he : Shows w eo e (v8s q))
    (hca : ao = none → c = 0) (hce : eo = none → f = 0) (hnc : n ≤ c) (hmd : m ≤ d) (hef : e ≤ f) :
    Calls Try.prog 7 #[.agg (sc key nonce (.slice ao n c) (.slice bo m d)).toArray, .slice eo e f] w fun e w' => e = .returned (.bool true) ∧ Below w.heap.size w w' := by
  by_cases h : 4096 < n ∨ 4096 < m ∨ 4096 < e
  · exact stream_long key nonce hk hn ao bo eo n m e c d f w h
  · exact stream_short key nonce ad p q hk hn ao bo eo n m e c d f w ha hb he hca hce hnc hmd hef (by omega) (by omega) (by omega)
end Go.Proofs.Ytjhkicfndbceoaa
