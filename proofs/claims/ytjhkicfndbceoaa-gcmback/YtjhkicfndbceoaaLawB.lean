/- GcmBack: what is sealed is opened, and its first bytes, fewer than 16, are not. -/
import Derived.Test.YtjhkicfndbceoaaLaw
namespace Go.Proofs.Ytjhkicfndbceoaa
open Go.RowKit

set_option maxHeartbeats 4000000 in
set_option maxRecDepth 100000 in
theorem back_walk (key nonce ad p sl : List B) (hk : key.length = 32) (hn : nonce.length = 12) (ao bo : Option Addr) (n m M c d : Nat) (w : World) (ha : Shows w ao n (v8s ad)) (hb : Shows w bo m (v8s p)) (hca : ao = none → c = 0) (hcb : bo = none → d = 0) (hbn : n ≤ 8192) (hbm : m ≤ 8192) (hM : M = m + 16)
    (HS : Hid (sealM key nonce ad p = sl))
    (H15 : Hid (∀ (ao4 ao5 : Option Addr) (c4 c5 : Nat) (W : World), Shows W ao4 n (v8s ad) → Shows W ao5 M (v8s sl) → (ao4 = none → c4 = 0) → n ≤ c4 → M ≤ c5 → Calls Try.prog 15 #[.agg (bys key).toArray, .agg (bys nonce).toArray, .slice ao4 n c4, .slice ao5 M c5] W fun e w' =>
      ∃ g, e = .returned (.tuple #[.slice (some ⟨g, 0, none⟩) m m, .int .i64 0]) ∧ w'.ownsRow W.heap.size 5 1 (.slice (some ⟨g, 0, none⟩) m m) m (u8s (v8s p)) ∧ Below W.heap.size W w')) :
    Calls Try.prog 5 #[.agg (sc key nonce (.slice ao n c) (.slice bo m d)).toArray] w fun e w' => e = .returned (.bool true) ∧ Below w.heap.size w w' := by
  have hL := LwS.new w key nonce (.slice ao n c) (.slice bo m d) hk hn
  have c44 := hL.va
  have c45 := hL.vb
  have hnI : ¬ ((n : Int) > 8192) := by omega
  have hmI : ¬ ((m : Int) > 8192) := by omega
  have HM : Hid (M = m + 16) := hM
  obtain ⟨r, er⟩ : ∃ r, r = M % 16 := ⟨_, rfl⟩
  have hr16 : r < 16 := by omega
  have hrI : (M : Int) % 16 = (r : Int) := by omega
  have hrT : (M : Int).tmod 16 = (r : Int) := by rw [Int.tmod_eq_emod_of_nonneg (by omega)]; exact hrI
  have hMI : (m : Int) + 16 = (M : Int) := by omega
  have hM8 : M ≤ 8208 := by omega
  have hrM : r ≤ M := by omega
  clear hM er
  obtain ⟨X, eX⟩ : ∃ X, X = sc key nonce (.slice ao n c) (.slice bo m d) := ⟨_, rfl⟩
  rw [← eX]
  rw [← eX] at hL c44 c45
  clear eX
  go_enter Try.func5, Try.ntmps5
  go_wp2_with fail
  refine wp_region_to (fun v => LwS w v w.heap.size key nonce (.slice ao n c) (.slice bo m d)) 12 (by kernel_rfl) ?_
  have hS0 := hL.drew
  refine wpTo_take (i := 0) (v := ?v0r3) (show _ = some _ by simp only [List.getElem?_toArray, List.getElem?_cons_zero]; exact rfl) (by kernel_rfl) (by kernel_rfl) (by kernel_rfl) (by kernel_rfl) (by exact fun _ _ _ h => h) (Or.inl ⟨by rfl, ?hy0r3⟩) hS0 ?r0r3
  case hy0r3 => (intro w hSw; (try dsimp only at hSw); go_simp; try with_reducible rfl)
  (try simp only [Act.put]); (try simp only [List.setIfInBounds_toArray]); (repeat (first | simp only [List.set_cons_succ] | simp only [List.set_cons_zero]))
  refine wpTo_take (i := 2) (v := ?v2r3) (show _ = some _ by simp only [List.getElem?_toArray, List.getElem?_cons_succ, List.getElem?_cons_zero]; exact rfl) (by kernel_rfl) (by kernel_rfl) (by kernel_rfl) (by kernel_rfl) (by exact fun _ _ _ h => h) (Or.inl ⟨by rfl, ?hy2r3⟩) hS0 ?r2r3
  case hy2r3 => (intro w hSw; (try dsimp only at hSw); go_simp; try with_reducible rfl)
  (try simp only [Act.put]); (try simp only [List.setIfInBounds_toArray]); (repeat (first | simp only [List.set_cons_succ] | simp only [List.set_cons_zero]))
  refine wpTo_take (i := 4) (v := ?v4r3) (show _ = some _ by simp only [List.getElem?_toArray, List.getElem?_cons_succ, List.getElem?_cons_zero]; exact rfl) (by kernel_rfl) (by kernel_rfl) (by kernel_rfl) (by kernel_rfl) (by exact fun _ _ _ h => h) (Or.inl ⟨by rfl, ?hy4r3⟩) hS0 ?r4r3
  case hy4r3 => (intro w hSw; (try dsimp only at hSw); go_simp; try with_reducible rfl)
  (try simp only [Act.put]); (try simp only [List.setIfInBounds_toArray]); (repeat (first | simp only [List.set_cons_succ] | simp only [List.set_cons_zero]))
  refine wpTo_take (i := 7) (v := ?v7r3) (show _ = some _ by simp only [List.getElem?_toArray, List.getElem?_cons_succ, List.getElem?_cons_zero]; exact rfl) (by kernel_rfl) (by kernel_rfl) (by kernel_rfl) (by kernel_rfl) (by exact fun _ _ _ h => h) (Or.inl ⟨by rfl, ?hy7r3⟩) hS0 ?r7r3
  case hy7r3 => (intro w hSw; (try dsimp only at hSw); go_simp; try with_reducible rfl)
  (try simp only [Act.put]); (try simp only [List.setIfInBounds_toArray]); (repeat (first | simp only [List.set_cons_succ] | simp only [List.set_cons_zero]))
  refine wpTo_take (i := 1) (show _ = some _ by simp only [List.getElem?_toArray, List.getElem?_cons_succ, List.getElem?_cons_zero]; exact rfl) (by kernel_rfl) (by kernel_rfl) (by kernel_rfl) (by kernel_rfl) (by exact fun _ _ _ h => h) (yieldsIf_load_mid (by rfl) 22 (.tmp 19) rfl w.heap.size 0 rfl (bys key) _ (fun v h => LwS.ky h) Try.underlying22 rfl (by rw [bys_length, hk]; kernel_rfl)) hS0 ?_
  (try simp only [Act.put]); (try simp only [List.setIfInBounds_toArray]); (repeat (first | simp only [List.set_cons_succ] | simp only [List.set_cons_zero]))
  refine wpTo_take (i := 3) (show _ = some _ by simp only [List.getElem?_toArray, List.getElem?_cons_succ, List.getElem?_cons_zero]; exact rfl) (by kernel_rfl) (by kernel_rfl) (by kernel_rfl) (by kernel_rfl) (by exact fun _ _ _ h => h) (yieldsIf_load_mid (by rfl) 23 (.tmp 21) rfl w.heap.size 32 rfl (bys nonce) _ (fun v h => LwS.non h) Try.underlying23 rfl (by rw [bys_length, hn]; kernel_rfl)) hS0 ?_
  (try simp only [Act.put]); (try simp only [List.setIfInBounds_toArray]); (repeat (first | simp only [List.set_cons_succ] | simp only [List.set_cons_zero]))
  refine wpTo_take (i := 5) (v := ?v5r3) (show _ = some _ by simp only [List.getElem?_toArray, List.getElem?_cons_succ, List.getElem?_cons_zero]; exact rfl) (by kernel_rfl) (by kernel_rfl) (by kernel_rfl) (by kernel_rfl) (by exact fun _ _ _ h => h) (Or.inl ⟨by rfl, ?hy5r3⟩) hS0 ?r5r3
  case hy5r3 => (intro w hSw; (try dsimp only at hSw); have hcc := LwS.va hSw; go_simp; try with_reducible rfl)
  (try simp only [Act.put]); (try simp only [List.setIfInBounds_toArray]); (repeat (first | simp only [List.set_cons_succ] | simp only [List.set_cons_zero]))
  refine wpTo_take (i := 8) (v := ?v8r3) (show _ = some _ by simp only [List.getElem?_toArray, List.getElem?_cons_succ, List.getElem?_cons_zero]; exact rfl) (by kernel_rfl) (by kernel_rfl) (by kernel_rfl) (by kernel_rfl) (by exact fun _ _ _ h => h) (Or.inl ⟨by rfl, ?hy8r3⟩) hS0 ?r8r3
  case hy8r3 => (intro w hSw; (try dsimp only at hSw); have hcc := LwS.vb hSw; go_simp; try with_reducible rfl)
  (try simp only [Act.put]); (try simp only [List.setIfInBounds_toArray]); (repeat (first | simp only [List.set_cons_succ] | simp only [List.set_cons_zero]))
  refine wpTo_one (i := 6) (by kernel_rfl) (show _ = some _ by simp only [List.getElem?_toArray, List.getElem?_cons_succ, List.getElem?_cons_zero]; exact rfl) (fun K hK => ?_)
  go_simp
  go_at_call 17; refine (copyBytes_any ao n c (v8s ad) _ (ha.later hS0.k) hca (by omega)).mono ?_; rintro e v1 ⟨va, rfl, own1, k1⟩; obtain ⟨ao1, c1, rfl, s1, hc1, -, hn1, -⟩ := own_shape own1 (v8s_rng ad)
  (try simp only [])
  refine hK.out _ _ (LwS.call hS0 k1) (fun hS1 => ?_)
  clear hK K
  (try simp only [Act.put]); (try simp only [List.setIfInBounds_toArray]); (repeat (first | simp only [List.set_cons_succ] | simp only [List.set_cons_zero]))
  refine wpTo_one (i := 9) (by kernel_rfl) (show _ = some _ by simp only [List.getElem?_toArray, List.getElem?_cons_succ, List.getElem?_cons_zero]; exact rfl) (fun K hK => ?_)
  go_simp
  go_at_call 17; refine (copyBytes_any bo m d (v8s p) _ (hb.later hS1.k) hcb (by omega)).mono ?_; rintro e v2 ⟨vb, rfl, own2, k2⟩; obtain ⟨bo1, d1, rfl, s2, hc2, -, hn2, -⟩ := own_shape own2 (v8s_rng p)
  (try simp only [])
  refine hK.out _ _ (LwS.call hS1 k2) (fun hS2 => ?_)
  clear hK K
  (try simp only [Act.put]); (try simp only [List.setIfInBounds_toArray]); (repeat (first | simp only [List.set_cons_succ] | simp only [List.set_cons_zero]))
  refine wpTo_one (i := 10) (by kernel_rfl) (show _ = some _ by simp only [List.getElem?_toArray, List.getElem?_cons_succ, List.getElem?_cons_zero]; exact rfl) (fun K hK => ?_)
  go_simp
  go_at_call 10; refine (seal_any key nonce ad p hk hn ao1 bo1 n m c1 d1 _ (s1.later k2) s2 hn1 hc1 (by omega) (by omega)).mono ?_; rintro e v3 ⟨vs, rfl, own3, k3⟩
  (try simp only [])
  refine hK.out _ _ (LwS.call hS2 k3) (fun hS3 => ?_)
  clear hK K
  (try simp only [Act.put]); (try simp only [List.setIfInBounds_toArray]); (repeat (first | simp only [List.set_cons_succ] | simp only [List.set_cons_zero]))
  refine wpTo_take (i := 11) (v := ?v11r3) (show _ = some _ by simp only [List.getElem?_toArray, List.getElem?_cons_succ, List.getElem?_cons_zero]; exact rfl) (by kernel_rfl) (by kernel_rfl) (by kernel_rfl) (by kernel_rfl) (by exact fun _ _ _ h => h) (Or.inl ⟨by rfl, ?hy11r3⟩) hS3 ?r11r3
  case hy11r3 => (intro w hSw; (try dsimp only at hSw); go_simp; try with_reducible rfl)
  (try simp only [Act.put]); (try simp only [List.setIfInBounds_toArray]); (repeat (first | simp only [List.set_cons_succ] | simp only [List.set_cons_zero]))
  refine wpTo_done (by kernel_rfl) ?_
  have hL3 := hS3
  rw [HS.out, ← HM.out] at own3
  obtain ⟨gs, cs, rfl, -, -⟩ := own3.form (by omega)
  obtain ⟨ao', cs', ev, hsl, hcs, hcsm, -, -⟩ := own_shape own3 (v8s_rng sl)
  cases ev
  clear own1 own2 k1 k2 s1 s2 hS0 hS1 hS2 c44 c45 hL own3
  go_wp2_with fail
  refine wp_region_to (fun v => LwS w v w.heap.size key nonce (.slice ao n c) (.slice bo m d)) 15 (by kernel_rfl) ?_
  have hT0 := hL3.drew
  have hsl0 : Shows v3.drew (some ⟨gs, 0, none⟩) M (v8s sl) := shows_heap hsl rfl
  refine wpTo_take (i := 0) (v := ?v0r4) (show _ = some _ by simp only [List.getElem?_toArray, List.getElem?_cons_zero]; exact rfl) (by kernel_rfl) (by kernel_rfl) (by kernel_rfl) (by kernel_rfl) (by exact fun _ _ _ h => h) (Or.inl ⟨by rfl, ?hy0r4⟩) hT0 ?r0r4
  case hy0r4 => (intro w hSw; (try dsimp only at hSw); go_simp; try with_reducible rfl)
  (try simp only [Act.put]); (try simp only [List.setIfInBounds_toArray]); (repeat (first | simp only [List.set_cons_succ] | simp only [List.set_cons_zero]))
  refine wpTo_take (i := 2) (v := ?v2r4) (show _ = some _ by simp only [List.getElem?_toArray, List.getElem?_cons_succ, List.getElem?_cons_zero]; exact rfl) (by kernel_rfl) (by kernel_rfl) (by kernel_rfl) (by kernel_rfl) (by exact fun _ _ _ h => h) (Or.inl ⟨by rfl, ?hy2r4⟩) hT0 ?r2r4
  case hy2r4 => (intro w hSw; (try dsimp only at hSw); go_simp; try with_reducible rfl)
  (try simp only [Act.put]); (try simp only [List.setIfInBounds_toArray]); (repeat (first | simp only [List.set_cons_succ] | simp only [List.set_cons_zero]))
  refine wpTo_take (i := 4) (v := ?v4r4) (show _ = some _ by simp only [List.getElem?_toArray, List.getElem?_cons_succ, List.getElem?_cons_zero]; exact rfl) (by kernel_rfl) (by kernel_rfl) (by kernel_rfl) (by kernel_rfl) (by exact fun _ _ _ h => h) (Or.inl ⟨by rfl, ?hy4r4⟩) hT0 ?r4r4
  case hy4r4 => (intro w hSw; (try dsimp only at hSw); go_simp; try with_reducible rfl)
  (try simp only [Act.put]); (try simp only [List.setIfInBounds_toArray]); (repeat (first | simp only [List.set_cons_succ] | simp only [List.set_cons_zero]))
  refine wpTo_take (i := 1) (show _ = some _ by simp only [List.getElem?_toArray, List.getElem?_cons_succ, List.getElem?_cons_zero]; exact rfl) (by kernel_rfl) (by kernel_rfl) (by kernel_rfl) (by kernel_rfl) (by exact fun _ _ _ h => h) (yieldsIf_load_mid (by rfl) 22 (.tmp 31) rfl w.heap.size 0 rfl (bys key) _ (fun v h => LwS.ky h) Try.underlying22 rfl (by rw [bys_length, hk]; kernel_rfl)) hT0 ?_
  (try simp only [Act.put]); (try simp only [List.setIfInBounds_toArray]); (repeat (first | simp only [List.set_cons_succ] | simp only [List.set_cons_zero]))
  refine wpTo_take (i := 3) (show _ = some _ by simp only [List.getElem?_toArray, List.getElem?_cons_succ, List.getElem?_cons_zero]; exact rfl) (by kernel_rfl) (by kernel_rfl) (by kernel_rfl) (by kernel_rfl) (by exact fun _ _ _ h => h) (yieldsIf_load_mid (by rfl) 23 (.tmp 33) rfl w.heap.size 32 rfl (bys nonce) _ (fun v h => LwS.non h) Try.underlying23 rfl (by rw [bys_length, hn]; kernel_rfl)) hT0 ?_
  (try simp only [Act.put]); (try simp only [List.setIfInBounds_toArray]); (repeat (first | simp only [List.set_cons_succ] | simp only [List.set_cons_zero]))
  refine wpTo_take (i := 5) (v := ?v5r4) (show _ = some _ by simp only [List.getElem?_toArray, List.getElem?_cons_succ, List.getElem?_cons_zero]; exact rfl) (by kernel_rfl) (by kernel_rfl) (by kernel_rfl) (by kernel_rfl) (by exact fun _ _ _ h => h) (Or.inl ⟨by rfl, ?hy5r4⟩) hT0 ?r5r4
  case hy5r4 => (intro w hSw; (try dsimp only at hSw); have hcc := LwS.va hSw; go_simp; try with_reducible rfl)
  (try simp only [Act.put]); (try simp only [List.setIfInBounds_toArray]); (repeat (first | simp only [List.set_cons_succ] | simp only [List.set_cons_zero]))
  refine wpTo_take (i := 7) (v := ?v7r4) (show _ = some _ by simp only [List.getElem?_toArray, List.getElem?_cons_succ, List.getElem?_cons_zero]; exact rfl) (by kernel_rfl) (by kernel_rfl) (by kernel_rfl) (by kernel_rfl) (by exact fun _ _ _ h => h) (Or.inl ⟨by rfl, ?hy7r4⟩) hT0 ?r7r4
  case hy7r4 => (intro w hSw; (try dsimp only at hSw); go_simp; try with_reducible rfl)
  (try simp only [Act.put]); (try simp only [List.setIfInBounds_toArray]); (repeat (first | simp only [List.set_cons_succ] | simp only [List.set_cons_zero]))
  refine wpTo_one (i := 6) (by kernel_rfl) (show _ = some _ by simp only [List.getElem?_toArray, List.getElem?_cons_succ, List.getElem?_cons_zero]; exact rfl) (fun K hK => ?_)
  go_simp
  go_at_call 17; refine (copyBytes_any ao n c (v8s ad) _ (ha.later hT0.k) hca (by omega)).mono ?_; rintro e v4 ⟨va, rfl, own4, k4⟩; obtain ⟨ao4, c4, rfl, s4, hc4, -, hn4, -⟩ := own_shape own4 (v8s_rng ad)
  (try simp only [])
  refine hK.out _ _ (LwS.call hT0 k4) (fun hT1 => ?_)
  clear hK K
  (try simp only [Act.put]); (try simp only [List.setIfInBounds_toArray]); (repeat (first | simp only [List.set_cons_succ] | simp only [List.set_cons_zero]))
  refine wpTo_one (i := 8) (by kernel_rfl) (show _ = some _ by simp only [List.getElem?_toArray, List.getElem?_cons_succ, List.getElem?_cons_zero]; exact rfl) (fun K hK => ?_)
  go_simp
  go_at_call 17; refine (copyBytes_any (some ⟨gs, 0, none⟩) M cs (v8s sl) _ (hsl0.later k4) (by intro h; cases h) (by omega)).mono ?_; rintro e v5 ⟨vb, rfl, own5, k5⟩; obtain ⟨ao5, c5, rfl, s5, hc5, -, hn5, -⟩ := own_shape own5 (v8s_rng sl)
  (try simp only [])
  refine hK.out _ _ (LwS.call hT1 k5) (fun hT2 => ?_)
  clear hK K
  (try simp only [Act.put]); (try simp only [List.setIfInBounds_toArray]); (repeat (first | simp only [List.set_cons_succ] | simp only [List.set_cons_zero]))
  refine wpTo_one (i := 9) (by kernel_rfl) (show _ = some _ by simp only [List.getElem?_toArray, List.getElem?_cons_succ, List.getElem?_cons_zero]; exact rfl) (fun K hK => ?_)
  go_simp
  go_at_call 15; refine (H15.out ao4 ao5 c4 c5 _ (s4.later k5) s5 hn4 hc4 hc5).mono ?_; rintro e v6 ⟨gp, rfl, own6, k6⟩
  (try simp only [])
  refine hK.out _ _ (LwS.call hT2 k6) (fun hT3 => ?_)
  clear hK K
  (try simp only [Act.put]); (try simp only [List.setIfInBounds_toArray]); (repeat (first | simp only [List.set_cons_succ] | simp only [List.set_cons_zero]))
  refine wpTo_take (i := 10) (v := ?v10r4) (show _ = some _ by simp only [List.getElem?_toArray, List.getElem?_cons_succ, List.getElem?_cons_zero]; exact rfl) (by kernel_rfl) (by kernel_rfl) (by kernel_rfl) (by kernel_rfl) (by exact fun _ _ _ h => h) (Or.inl ⟨by rfl, ?hy10r4⟩) hT3 ?r10r4
  case hy10r4 => (intro w hSw; (try dsimp only at hSw); go_simp; try with_reducible rfl)
  (try simp only [Act.put]); (try simp only [List.setIfInBounds_toArray]); (repeat (first | simp only [List.set_cons_succ] | simp only [List.set_cons_zero]))
  refine wpTo_take (i := 11) (v := ?v11r4) (show _ = some _ by simp only [List.getElem?_toArray, List.getElem?_cons_succ, List.getElem?_cons_zero]; exact rfl) (by kernel_rfl) (by kernel_rfl) (by kernel_rfl) (by kernel_rfl) (by exact fun _ _ _ h => h) (Or.inl ⟨by rfl, ?hy11r4⟩) hT3 ?r11r4
  case hy11r4 => (intro w hSw; (try dsimp only at hSw); go_simp; try with_reducible rfl)
  (try simp only [Act.put]); (try simp only [List.setIfInBounds_toArray]); (repeat (first | simp only [List.set_cons_succ] | simp only [List.set_cons_zero]))
  refine wpTo_take (i := 12) (v := ?v12r4) (show _ = some _ by simp only [List.getElem?_toArray, List.getElem?_cons_succ, List.getElem?_cons_zero]; exact rfl) (by kernel_rfl) (by kernel_rfl) (by kernel_rfl) (by kernel_rfl) (by exact fun _ _ _ h => h) (Or.inl ⟨by rfl, ?hy12r4⟩) hT3 ?r12r4
  case hy12r4 => (intro w hSw; (try dsimp only at hSw); go_simp; try with_reducible rfl)
  (try simp only [Act.put]); (try simp only [List.setIfInBounds_toArray]); (repeat (first | simp only [List.set_cons_succ] | simp only [List.set_cons_zero]))
  refine wpTo_take (i := 13) (v := ?v13r4) (show _ = some _ by simp only [List.getElem?_toArray, List.getElem?_cons_succ, List.getElem?_cons_zero]; exact rfl) (by kernel_rfl) (by kernel_rfl) (by kernel_rfl) (by kernel_rfl) (by exact fun _ _ _ h => h) (Or.inl ⟨by rfl, ?hy13r4⟩) hT3 ?r13r4
  case hy13r4 => (intro w hSw; (try dsimp only at hSw); go_simp; try with_reducible rfl)
  (try simp only [Act.put]); (try simp only [List.setIfInBounds_toArray]); (repeat (first | simp only [List.set_cons_succ] | simp only [List.set_cons_zero]))
  refine wpTo_take (i := 14) (v := ?v14r4) (show _ = some _ by simp only [List.getElem?_toArray, List.getElem?_cons_succ, List.getElem?_cons_zero]; exact rfl) (by kernel_rfl) (by kernel_rfl) (by kernel_rfl) (by kernel_rfl) (by exact fun _ _ _ h => h) (Or.inl ⟨by rfl, ?hy14r4⟩) hT3 ?r14r4
  case hy14r4 => (intro w hSw; (try dsimp only at hSw); go_simp; try with_reducible rfl)
  (try simp only [Act.put]); (try simp only [List.setIfInBounds_toArray]); (repeat (first | simp only [List.set_cons_succ] | simp only [List.set_cons_zero]))
  refine wpTo_done (by kernel_rfl) ?_
  have hL6 := hT3
  have c45 := hL6.vb
  have hsl6 : Shows v6 (some ⟨gs, 0, none⟩) M (v8s sl) := ((hsl0.later k4).later k5).later k6
  obtain ⟨aop, cp, ev, hsp, -, -, -, -⟩ := own_shape own6 (v8s_rng p)
  cases ev
  have hbp := hb.later hL6.k
  have H12 : Hid (∀ (z : Nat), Calls Try.prog 12 #[.slice (some ⟨gp, 0, none⟩) m m, .slice bo m d] v6 fun e w' => e = .returned (.bool true) ∧ v6 = w') := fun _ => by
    have := eqBytes_any (some ⟨gp, 0, none⟩) bo m m m d (v8s p) (v8s p) v6 hsp hbp
    rwa [decide_eq_true rfl] at this
  clear own4 own5 own6 k4 k5 k6 s4 s5 hT0 hT1 hT2 hsl hsp hbp hS3 hL3
  go_wp2_with (go_at_call 12; refine (H12.out 0).mono ?_; rintro e w' ⟨rfl, rfl⟩)
  have r10 := fun W => run_to W (some ⟨gs, 0, none⟩) M cs r (by omega) (r : Int) rfl
  refine wp_region_to (fun v => LwS w v w.heap.size key nonce (.slice ao n c) (.slice bo m d)) 17 (by kernel_rfl) ?_
  have hU0 := hL6.drew
  refine wpTo_take (i := 0) (v := ?v0r7) (show _ = some _ by simp only [List.getElem?_toArray, List.getElem?_cons_zero]; exact rfl) (by kernel_rfl) (by kernel_rfl) (by kernel_rfl) (by kernel_rfl) (by exact fun _ _ _ h => h) (Or.inl ⟨by rfl, ?hy0r7⟩) hU0 ?r0r7
  case hy0r7 => (intro w hSw; (try dsimp only at hSw); go_simp; try with_reducible rfl)
  (try simp only [Act.put]); (try simp only [List.setIfInBounds_toArray]); (repeat (first | simp only [List.set_cons_succ] | simp only [List.set_cons_zero]))
  refine wpTo_take (i := 2) (v := ?v2r7) (show _ = some _ by simp only [List.getElem?_toArray, List.getElem?_cons_succ, List.getElem?_cons_zero]; exact rfl) (by kernel_rfl) (by kernel_rfl) (by kernel_rfl) (by kernel_rfl) (by exact fun _ _ _ h => h) (Or.inl ⟨by rfl, ?hy2r7⟩) hU0 ?r2r7
  case hy2r7 => (intro w hSw; (try dsimp only at hSw); go_simp; try with_reducible rfl)
  (try simp only [Act.put]); (try simp only [List.setIfInBounds_toArray]); (repeat (first | simp only [List.set_cons_succ] | simp only [List.set_cons_zero]))
  refine wpTo_take (i := 4) (v := ?v4r7) (show _ = some _ by simp only [List.getElem?_toArray, List.getElem?_cons_succ, List.getElem?_cons_zero]; exact rfl) (by kernel_rfl) (by kernel_rfl) (by kernel_rfl) (by kernel_rfl) (by exact fun _ _ _ h => h) (Or.inl ⟨by rfl, ?hy4r7⟩) hU0 ?r4r7
  case hy4r7 => (intro w hSw; (try dsimp only at hSw); go_simp; try with_reducible rfl)
  (try simp only [Act.put]); (try simp only [List.setIfInBounds_toArray]); (repeat (first | simp only [List.set_cons_succ] | simp only [List.set_cons_zero]))
  refine wpTo_take (i := 1) (show _ = some _ by simp only [List.getElem?_toArray, List.getElem?_cons_succ, List.getElem?_cons_zero]; exact rfl) (by kernel_rfl) (by kernel_rfl) (by kernel_rfl) (by kernel_rfl) (by exact fun _ _ _ h => h) (yieldsIf_load_mid (by rfl) 22 (.tmp 62) rfl w.heap.size 0 rfl (bys key) _ (fun v h => LwS.ky h) Try.underlying22 rfl (by rw [bys_length, hk]; kernel_rfl)) hU0 ?_
  (try simp only [Act.put]); (try simp only [List.setIfInBounds_toArray]); (repeat (first | simp only [List.set_cons_succ] | simp only [List.set_cons_zero]))
  refine wpTo_take (i := 3) (show _ = some _ by simp only [List.getElem?_toArray, List.getElem?_cons_succ, List.getElem?_cons_zero]; exact rfl) (by kernel_rfl) (by kernel_rfl) (by kernel_rfl) (by kernel_rfl) (by exact fun _ _ _ h => h) (yieldsIf_load_mid (by rfl) 23 (.tmp 64) rfl w.heap.size 32 rfl (bys nonce) _ (fun v h => LwS.non h) Try.underlying23 rfl (by rw [bys_length, hn]; kernel_rfl)) hU0 ?_
  (try simp only [Act.put]); (try simp only [List.setIfInBounds_toArray]); (repeat (first | simp only [List.set_cons_succ] | simp only [List.set_cons_zero]))
  refine wpTo_take (i := 5) (v := ?v5r7) (show _ = some _ by simp only [List.getElem?_toArray, List.getElem?_cons_succ, List.getElem?_cons_zero]; exact rfl) (by kernel_rfl) (by kernel_rfl) (by kernel_rfl) (by kernel_rfl) (by exact fun _ _ _ h => h) (Or.inl ⟨by rfl, ?hy5r7⟩) hU0 ?r5r7
  case hy5r7 => (intro w hSw; (try dsimp only at hSw); have hcc := LwS.va hSw; go_simp; try with_reducible rfl)
  (try simp only [Act.put]); (try simp only [List.setIfInBounds_toArray]); (repeat (first | simp only [List.set_cons_succ] | simp only [List.set_cons_zero]))
  refine wpTo_take (i := 6) (v := ?v6r7) (show _ = some _ by simp only [List.getElem?_toArray, List.getElem?_cons_succ, List.getElem?_cons_zero]; exact rfl) (by kernel_rfl) (by kernel_rfl) (by kernel_rfl) (by kernel_rfl) (by exact fun _ _ _ h => h) (Or.inl ⟨by rfl, ?hy6r7⟩) hU0 ?r6r7
  case hy6r7 => (intro w hSw; (try dsimp only at hSw); go_simp; try with_reducible rfl)
  (try simp only [Act.put]); (try simp only [List.setIfInBounds_toArray]); (repeat (first | simp only [List.set_cons_succ] | simp only [List.set_cons_zero]))
  refine wpTo_take (i := 7) (v := ?v7r7) (show _ = some _ by simp only [List.getElem?_toArray, List.getElem?_cons_succ, List.getElem?_cons_zero]; exact rfl) (by kernel_rfl) (by kernel_rfl) (by kernel_rfl) (by kernel_rfl) (by exact fun _ _ _ h => h) (Or.inl ⟨by rfl, ?hy7r7⟩) hU0 ?r7r7
  case hy7r7 => (intro w hSw; (try dsimp only at hSw); go_simp; try with_reducible rfl)
  (try simp only [Act.put]); (try simp only [List.setIfInBounds_toArray]); (repeat (first | simp only [List.set_cons_succ] | simp only [List.set_cons_zero]))
  refine wpTo_take (i := 8) (v := ?v8r7) (show _ = some _ by simp only [List.getElem?_toArray, List.getElem?_cons_succ, List.getElem?_cons_zero]; exact rfl) (by kernel_rfl) (by kernel_rfl) (by kernel_rfl) (by kernel_rfl) (by exact fun _ _ _ h => h) (Or.inl ⟨by rfl, ?hy8r7⟩) hU0 ?r8r7
  case hy8r7 => (intro w hSw; (try dsimp only at hSw); go_simp; try with_reducible rfl)
  (try simp only [Act.put]); (try simp only [List.setIfInBounds_toArray]); (repeat (first | simp only [List.set_cons_succ] | simp only [List.set_cons_zero]))
  refine wpTo_take (i := 9) (v := ?v9r7) (show _ = some _ by simp only [List.getElem?_toArray, List.getElem?_cons_succ, List.getElem?_cons_zero]; exact rfl) (by kernel_rfl) (by kernel_rfl) (by kernel_rfl) (by kernel_rfl) (by exact fun _ _ _ h => h) (Or.inl ⟨by rfl, ?hy9r7⟩) hU0 ?r9r7
  case hy9r7 => (intro w hSw; (try dsimp only at hSw); go_simp; try with_reducible rfl)
  (try simp only [Act.put]); (try simp only [List.setIfInBounds_toArray]); (repeat (first | simp only [List.set_cons_succ] | simp only [List.set_cons_zero]))
  refine wpTo_take (i := 10) (v := ?v10r7) (show _ = some _ by simp only [List.getElem?_toArray, List.getElem?_cons_succ, List.getElem?_cons_zero]; exact rfl) (by kernel_rfl) (by kernel_rfl) (by kernel_rfl) (by kernel_rfl) (by exact fun _ _ _ h => h) (Or.inl ⟨by rfl, ?hy10r7⟩) hU0 ?r10r7
  case hy10r7 => (intro w hSw; (try dsimp only at hSw); go_simp; try with_reducible rfl)
  (try simp only [Act.put]); (try simp only [List.setIfInBounds_toArray]); (repeat (first | simp only [List.set_cons_succ] | simp only [List.set_cons_zero]))
  refine wpTo_one (i := 11) (by kernel_rfl) (show _ = some _ by simp only [List.getElem?_toArray, List.getElem?_cons_succ, List.getElem?_cons_zero]; exact rfl) (fun K hK => ?_)
  go_simp
  go_at_call 15; refine (open_short key nonce ao (some ⟨gs, 0, none⟩) n r c cs _ hr16).mono ?_; rintro e v7 ⟨rfl, k7⟩
  (try simp only [])
  refine hK.out _ _ (LwS.call hU0 k7) (fun hU1 => ?_)
  clear hK K
  (try simp only [Act.put]); (try simp only [List.setIfInBounds_toArray]); (repeat (first | simp only [List.set_cons_succ] | simp only [List.set_cons_zero]))
  refine wpTo_take (i := 12) (v := ?v12r7) (show _ = some _ by simp only [List.getElem?_toArray, List.getElem?_cons_succ, List.getElem?_cons_zero]; exact rfl) (by kernel_rfl) (by kernel_rfl) (by kernel_rfl) (by kernel_rfl) (by exact fun _ _ _ h => h) (Or.inl ⟨by rfl, ?hy12r7⟩) hU1 ?r12r7
  case hy12r7 => (intro w hSw; (try dsimp only at hSw); go_simp; try with_reducible rfl)
  (try simp only [Act.put]); (try simp only [List.setIfInBounds_toArray]); (repeat (first | simp only [List.set_cons_succ] | simp only [List.set_cons_zero]))
  refine wpTo_take (i := 13) (v := ?v13r7) (show _ = some _ by simp only [List.getElem?_toArray, List.getElem?_cons_succ, List.getElem?_cons_zero]; exact rfl) (by kernel_rfl) (by kernel_rfl) (by kernel_rfl) (by kernel_rfl) (by exact fun _ _ _ h => h) (Or.inl ⟨by rfl, ?hy13r7⟩) hU1 ?r13r7
  case hy13r7 => (intro w hSw; (try dsimp only at hSw); go_simp; try with_reducible rfl)
  (try simp only [Act.put]); (try simp only [List.setIfInBounds_toArray]); (repeat (first | simp only [List.set_cons_succ] | simp only [List.set_cons_zero]))
  refine wpTo_take (i := 14) (v := ?v14r7) (show _ = some _ by simp only [List.getElem?_toArray, List.getElem?_cons_succ, List.getElem?_cons_zero]; exact rfl) (by kernel_rfl) (by kernel_rfl) (by kernel_rfl) (by kernel_rfl) (by exact fun _ _ _ h => h) (Or.inl ⟨by rfl, ?hy14r7⟩) hU1 ?r14r7
  case hy14r7 => (intro w hSw; (try dsimp only at hSw); go_simp; try with_reducible rfl)
  (try simp only [Act.put]); (try simp only [List.setIfInBounds_toArray]); (repeat (first | simp only [List.set_cons_succ] | simp only [List.set_cons_zero]))
  refine wpTo_take (i := 15) (v := ?v15r7) (show _ = some _ by simp only [List.getElem?_toArray, List.getElem?_cons_succ, List.getElem?_cons_zero]; exact rfl) (by kernel_rfl) (by kernel_rfl) (by kernel_rfl) (by kernel_rfl) (by exact fun _ _ _ h => h) (Or.inl ⟨by rfl, ?hy15r7⟩) hU1 ?r15r7
  case hy15r7 => (intro w hSw; (try dsimp only at hSw); go_simp; try with_reducible rfl)
  (try simp only [Act.put]); (try simp only [List.setIfInBounds_toArray]); (repeat (first | simp only [List.set_cons_succ] | simp only [List.set_cons_zero]))
  refine wpTo_take (i := 16) (v := ?v16r7) (show _ = some _ by simp only [List.getElem?_toArray, List.getElem?_cons_succ, List.getElem?_cons_zero]; exact rfl) (by kernel_rfl) (by kernel_rfl) (by kernel_rfl) (by kernel_rfl) (by exact fun _ _ _ h => h) (Or.inl ⟨by rfl, ?hy16r7⟩) hU1 ?r16r7
  case hy16r7 => (intro w hSw; (try dsimp only at hSw); go_simp; try with_reducible rfl)
  (try simp only [Act.put]); (try simp only [List.setIfInBounds_toArray]); (repeat (first | simp only [List.set_cons_succ] | simp only [List.set_cons_zero]))
  refine wpTo_done (by kernel_rfl) ?_
  go_wp2_with fail
  go_at_call 8; refine (works_any _).mono ?_; rintro e v8 ⟨rfl, k8⟩
  have hL8 := hU1.call k8
  go_wp2_with fail
  go_ret
  exact ⟨rfl, hL8.k⟩

theorem back_short (key nonce ad p : List B) (hk : key.length = 32) (hn : nonce.length = 12) (ao bo : Option Addr) (n m c d : Nat) (w : World) (ha : Shows w ao n (v8s ad)) (hb : Shows w bo m (v8s p)) (hca : ao = none → c = 0) (hcb : bo = none → d = 0) (hbn : n ≤ 8192) (hbm : m ≤ 8192) :
    Calls Try.prog 5 #[.agg (sc key nonce (.slice ao n c) (.slice bo m d)).toArray] w fun e w' => e = .returned (.bool true) ∧ Below w.heap.size w w' := by
  have hl : p.length = m := by have := hb.len; rw [v8s_length] at this; exact this
  refine back_walk key nonce ad p (sealM key nonce ad p) hk hn ao bo n m (m + 16) c d w ha hb hca hcb hbn hbm rfl rfl ?_
  intro ao4 ao5 c4 c5 W h1 h2 h3 h4 h5
  have hr := right_seal key nonce ad p
  rw [hl] at hr
  have h := open_good key nonce ad (sealM key nonce ad p) hk hn ao4 ao5 n m (m + 16) c4 c5 W rfl h1 h2 h3 h4 h5 (by omega) (by omega) hr
  have ht := seal_text key nonce ad p
  rw [hl] at ht
  rw [ht, cov_cov] at h
  exact h

set_option maxHeartbeats 1000000 in
set_option maxRecDepth 100000 in
theorem back_long (key nonce : List B) (hk : key.length = 32) (hn : nonce.length = 12) (ao bo : Option Addr) (n m c d : Nat) (w : World) (h : 8192 < n ∨ 8192 < m) :
    Calls Try.prog 5 #[.agg (sc key nonce (.slice ao n c) (.slice bo m d)).toArray] w fun e w' => e = .returned (.bool true) ∧ Below w.heap.size w w' := by
  have hL := LwS.new w key nonce (.slice ao n c) (.slice bo m d) hk hn
  have c44 := hL.va
  have c45 := hL.vb
  have hbk := hL.k
  obtain ⟨X, eX⟩ : ∃ X, X = sc key nonce (.slice ao n c) (.slice bo m d) := ⟨_, rfl⟩
  rw [← eX]
  rw [← eX] at c44 c45 hbk
  clear eX hL
  by_cases hnn : 8192 < n
  · have hnI : (n : Int) > 8192 := by omega
    go_enter Try.func5, Try.ntmps5
    go_wp2_with fail
    go_at_call 8; refine (works_any _).mono ?_; rintro e v8 ⟨rfl, k8⟩
    go_wp2_with fail
    go_ret
    exact ⟨rfl, hbk.trans (k8.mono hbk.size)⟩
  · have hnI : ¬ ((n : Int) > 8192) := by omega
    have hmI : (m : Int) > 8192 := by omega
    go_enter Try.func5, Try.ntmps5
    go_wp2_with fail
    go_at_call 8; refine (works_any _).mono ?_; rintro e v8 ⟨rfl, k8⟩
    go_wp2_with fail
    go_ret
    exact ⟨rfl, hbk.trans (k8.mono hbk.size)⟩
theorem back_all (key nonce ad p : List B) (hk : key.length = 32) (hn : nonce.length = 12) (ao bo : Option Addr) (n m c d : Nat) (w : World) (ha : Shows w ao n (v8s ad)) (hb : Shows w bo m (v8s p)) (hca : ao = none → c = 0) (hcb : bo = none → d = 0) :
    Calls Try.prog 5 #[.agg (sc key nonce (.slice ao n c) (.slice bo m d)).toArray] w fun e w' => e = .returned (.bool true) ∧ Below w.heap.size w w' := by
  by_cases h : 8192 < n ∨ 8192 < m
  · exact back_long key nonce hk hn ao bo n m c d w h
  · exact back_short key nonce ad p hk hn ao bo n m c d w ha hb hca hcb (by omega) (by omega)
end Go.Proofs.Ytjhkicfndbceoaa
