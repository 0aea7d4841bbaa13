/- The document's: opening. -/
import Derived.Test.YtjhkicfndbceoaaRSeal
import Derived.Test.YtjhkicfndbceoaaOpenA
namespace Go.Proofs.Ytjhkicfndbceoaa
open Go.RowKit

set_option maxHeartbeats 4000000 in
set_option maxRecDepth 100000 in
theorem ropen_walk (key nonce ad sx TX KL TB T : List B) (b : Bool) (hk : key.length = 32) (hn : nonce.length = 12) (hKL : KL.length = 752) (hTB : TB.length = 16) (ao bo : Option Addr) (n m M c d : Nat) (ta : Addr) (w : World) (hM : M = m + 16) (hs : Shows w ao n (v8s ad)) (hx : Shows w bo m (v8s sx)) (hy : Shows w (some ta) 16 (v8s TX)) (hfr : fromAt bo d m = some ta) (hbn : n ≤ 65536) (hbm : m ≤ 65536) (hmd : M ≤ d)
    (hse : ((strOfNums (v8s TB)).toList == (strOfNums (v8s TX)).toList) = b)
    (H20 : Hid (∀ W : World, Calls Try.prog 20 #[.agg (bys key).toArray] W fun e w' => e = .returned (.agg (bys KL).toArray) ∧ Below W.heap.size W w'))
    (H27 : Hid (∀ W : World, Shows W bo m (v8s sx) → Calls Try.prog 27 #[.agg (bys KL).toArray, .agg (bys nonce).toArray, .slice bo m d] W fun e w' => ∃ v, e = .returned v ∧ w'.ownsRow (W.heap.size + 3) 5 1 v m (u8s (v8s T)) ∧ Below W.heap.size W w'))
    (H28 : Hid (∀ W : World, Shows W ao n (v8s ad) → Shows W bo m (v8s sx) → Calls Try.prog 28 #[.agg (bys KL).toArray, .agg (bys nonce).toArray, .slice ao n c, .slice bo m d] W fun e w' => e = .returned (.agg (bys TB).toArray) ∧ Below W.heap.size W w')) :
    Calls Try.prog 16 #[.agg (bys key).toArray, .agg (bys nonce).toArray, .slice ao n c, .slice bo M d] w fun e w' =>
      (if b then ∃ v, e = .returned (.tuple #[v, .int .i64 0]) ∧ w'.ownsRow w.heap.size 5 1 v m (u8s (v8s T)) else e = .returned (.tuple #[.slice none 0 0, .int .i64 60])) ∧ Below w.heap.size w w' := by
  obtain ⟨ZB, eZB, hzB⟩ := zeroed37e
  have hZB : ZB.length = 16 := by rw [eZB]; simp
  clear eZB
  obtain ⟨ZK, hZK, hzK⟩ := zeroed46
  obtain ⟨h1, h2, h3⟩ := blk2 w 22 23 (bys key) (bys nonce)
  have hnI : ¬ ((n : Int) > 65536) := by omega
  have hmI : ¬ ((m : Int) > 65536) := by omega
  have hmJ : ¬ ((M : Int) < 16) := by omega
  have hmE : IntKind.i64.wrap ((M : Int) - 16) = (m : Int) := by rw [IntKind.wrap_i64]; omega
  have r2 := fun W => run_to W bo M d m (by omega) (m : Int) rfl
  have r5 := fun W => run_from W bo M d m (by omega) (m : Int) rfl
  rw [hfr, show M - m = 16 by omega] at r5
  have hmF : (M : Int) - 16 = (m : Int) := by omega
  clear hM hfr hmd
  go_enter Try.func16, Try.ntmps16
  go_wp2_with (refine law_load rfl 22 _ rfl _ rfl 22 _ h1 _ Try.underlying22 rfl (by rw [bys_length, hk]; kernel_rfl) ?_)
  go_at_call 20; refine (H20.out _).mono ?_; rintro e v1 ⟨rfl, k1⟩
  have n1 := h2.next k1
  have b1 : Below w.heap.size w v1 := h3.trans (k1.mono h3.size)
  have hlt := n1.lt
  have hN := Blk.new v1 46 (bys ZK)
  clear h1 h2 h3 k1
  go_wp2_with (refine law_store rfl 46 _ _ rfl _ (bys KL) rfl rfl 46 _ hN (by rw [bys_length, bys_length, hKL, hZK]) (by rw [bys_length, hKL]; kernel_rfl) (bys_one KL) ?_; intro W0 o2 k2)
  have hX : RsS w W0 nonce KL v1.heap.size := ⟨(n1.alloc _).on o2 (by omega), k2, hlt, o2.below (b1.alloc b1.size _) b1.size⟩
  obtain ⟨g, eg⟩ : ∃ g, g = v1.heap.size := ⟨_, rfl⟩
  rw [← eg] at hX ⊢
  clear n1 b1 hlt hN o2 k2 eg
  (try simp only [Act.put])
  go_cut [12] from 28 to 34 (fun p wc => ∃ g12, p = .pointer (some ⟨g12, 0, none⟩) ∧ Blk wc g12 37 (bys TB) ∧ RsS w wc nonce KL g ∧ g < g12)
  case first =>
    refine wp_region_to (fun v => RsS w v nonce KL g) 8 (by kernel_rfl) ?_
    have hS0 := hX.drew
    refine wpTo_take (i := 0) (show _ = some _ by simp only [List.getElem?_toArray, List.getElem?_cons_zero]; exact rfl) (by kernel_rfl) (by kernel_rfl) (by kernel_rfl) (by kernel_rfl) (by exact fun _ _ _ h => h) (yieldsIf_load_mid (by rfl) 46 (.tmp 11) rfl g 0 rfl (bys KL) _ (fun v h => (RsS.key h).whole) Try.underlying46 rfl (by rw [bys_length, hKL]; kernel_rfl)) hS0 ?_
    (try simp only [Act.put]); (try simp only [List.setIfInBounds_toArray]); (repeat (first | simp only [List.set_cons_succ] | simp only [List.set_cons_zero]))
    refine wpTo_take (i := 1) (show _ = some _ by simp only [List.getElem?_toArray, List.getElem?_cons_succ, List.getElem?_cons_zero]; exact rfl) (by kernel_rfl) (by kernel_rfl) (by kernel_rfl) (by kernel_rfl) (by exact fun _ _ _ h => h) (yieldsIf_load_mid (by rfl) 23 (.tmp 5) rfl (w.heap.size + 1) 0 rfl (bys nonce) _ (fun v h => (RsS.no h).whole) Try.underlying23 rfl (by rw [bys_length, hn]; kernel_rfl)) hS0 ?_
    (try simp only [Act.put]); (try simp only [List.setIfInBounds_toArray]); (repeat (first | simp only [List.set_cons_succ] | simp only [List.set_cons_zero]))
    refine wpTo_take (i := 2) (v := ?v2) (show _ = some _ by simp only [List.getElem?_toArray, List.getElem?_cons_succ, List.getElem?_cons_zero]; exact rfl) (by kernel_rfl) (by kernel_rfl) (by kernel_rfl) (by kernel_rfl) (by exact fun _ _ _ h => h) (Or.inl ⟨by rfl, ?hy2⟩) hS0 ?r2
    case hy2 => (intro w hSw; (try dsimp only at hSw); go_simp; try with_reducible rfl)
    (try simp only [Act.put]); (try simp only [List.setIfInBounds_toArray]); (repeat (first | simp only [List.set_cons_succ] | simp only [List.set_cons_zero]))
    refine wpTo_take (i := 3) (v := ?v3) (show _ = some _ by simp only [List.getElem?_toArray, List.getElem?_cons_succ, List.getElem?_cons_zero]; exact rfl) (by kernel_rfl) (by kernel_rfl) (by kernel_rfl) (by kernel_rfl) (by exact fun _ _ _ h => h) (Or.inl ⟨by rfl, ?hy3⟩) hS0 ?r3
    case hy3 => (intro w hSw; (try dsimp only at hSw); go_simp; try with_reducible rfl)
    (try simp only [Act.put]); (try simp only [List.setIfInBounds_toArray]); (repeat (first | simp only [List.set_cons_succ] | simp only [List.set_cons_zero]))
    refine wpTo_take (i := 4) (v := ?v4) (show _ = some _ by simp only [List.getElem?_toArray, List.getElem?_cons_succ, List.getElem?_cons_zero]; exact rfl) (by kernel_rfl) (by kernel_rfl) (by kernel_rfl) (by kernel_rfl) (by exact fun _ _ _ h => h) (Or.inl ⟨by rfl, ?hy4⟩) hS0 ?r4
    case hy4 => (intro w hSw; (try dsimp only at hSw); go_simp; try with_reducible rfl)
    (try simp only [Act.put]); (try simp only [List.setIfInBounds_toArray]); (repeat (first | simp only [List.set_cons_succ] | simp only [List.set_cons_zero]))
    refine wpTo_take (i := 5) (v := ?v5) (show _ = some _ by simp only [List.getElem?_toArray, List.getElem?_cons_succ, List.getElem?_cons_zero]; exact rfl) (by kernel_rfl) (by kernel_rfl) (by kernel_rfl) (by kernel_rfl) (by exact fun _ _ _ h => h) (Or.inl ⟨by rfl, ?hy5⟩) hS0 ?r5
    case hy5 => (intro w hSw; (try dsimp only at hSw); go_simp; try with_reducible rfl)
    (try simp only [Act.put]); (try simp only [List.setIfInBounds_toArray]); (repeat (first | simp only [List.set_cons_succ] | simp only [List.set_cons_zero]))
    refine wpTo_two (i := 6) (j := 7) (by kernel_rfl) (show _ = some _ by simp only [List.getElem?_toArray, List.getElem?_cons_succ, List.getElem?_cons_zero]; exact rfl) (show _ = some _ by simp only [List.getElem?_toArray, List.getElem?_cons_succ, List.getElem?_cons_zero]; exact rfl) (fun K hK => ?_) (fun K hK => ?_)
    · go_simp
      go_at_call 28; refine (H28.out _ (hs.later (RsS.k hS0)) (hx.later (RsS.k hS0))).mono ?_; rintro e v1 ⟨rfl, k1⟩
      (try simp only [])
      refine hK.out _ _ (RsS.call hS0 k1) (fun hS1 => ?_)
      clear hK K
      (try simp only [Act.put]); (try simp only [List.setIfInBounds_toArray]); (repeat (first | simp only [List.set_cons_succ] | simp only [List.set_cons_zero]))
      refine wpTo_one (i := 7) (by kernel_rfl) (show _ = some _ by simp only [List.getElem?_toArray, List.getElem?_cons_succ, List.getElem?_cons_zero]; exact rfl) (fun K hK => ?_)
      go_simp
      refine hK.out _ _ (RsS.call hS1 ((Below.refl _ _).alloc (Nat.le_refl _) _)) (fun hS2 => ?_)
      clear hK K
      (try simp only [Act.put]); (try simp only [List.setIfInBounds_toArray]); (repeat (first | simp only [List.set_cons_succ] | simp only [List.set_cons_zero]))
      have hO := Blk.new v1 37 (bys ZB)
      refine wpTo_last (by kernel_rfl) (show _ = some _ by simp only [List.getElem?_toArray, List.getElem?_cons_succ, List.getElem?_cons_zero]; exact rfl) (by kernel_rfl) (fun K hK => ?_)
      rw [if_pos (by rfl)]
      refine wp_store_row 37 (.tmp 12) (.tmp 34) rfl v1.heap.size (bys TB).toArray rfl rfl 37 _ hO (by rw [List.size_toArray, bys_length, hTB]; kernel_rfl) (by simp only [List.size_toArray, bys_length, hTB, hZB]) (bys_one _) ?_
      refine hK.out _ _ ?_
      clear hK K
      (try simp only [Act.put]); (try simp only [List.setIfInBounds_toArray]); (repeat (first | simp only [List.set_cons_succ] | simp only [List.set_cons_zero]))
      have hoF := On.setRow (v1.alloc (.cells (bys ZB).toArray 37)) v1.heap.size (bys TB).toArray
      have hAF := setRow_heap (v1.alloc (.cells (bys ZB).toArray 37)) v1.heap.size _ (bys TB).toArray 37 _ hO
      go_wp2_with fail
      go_meet
      case rel => exact ⟨_, rfl, hAF, hS2.on hoF hS1.lt, hS1.lt⟩
    · go_simp
      refine hK.out _ _ (RsS.call hS0 ((Below.refl _ _).alloc (Nat.le_refl _) _)) (fun hS1 => ?_)
      clear hK K
      (try simp only [Act.put]); (try simp only [List.setIfInBounds_toArray]); (repeat (first | simp only [List.set_cons_succ] | simp only [List.set_cons_zero]))
      have hO := Blk.new W0.drew 37 (bys ZB)
      refine wpTo_one (i := 6) (by kernel_rfl) (show _ = some _ by simp only [List.getElem?_toArray, List.getElem?_cons_succ, List.getElem?_cons_zero]; exact rfl) (fun K hK => ?_)
      go_simp
      go_at_call 28; refine (H28.out _ (hs.later (RsS.k hS1)) (hx.later (RsS.k hS1))).mono ?_; rintro e v1 ⟨rfl, k1⟩
      (try simp only [])
      refine hK.out _ _ (RsS.call hS1 k1) (fun hS2 => ?_)
      clear hK K
      (try simp only [Act.put]); (try simp only [List.setIfInBounds_toArray]); (repeat (first | simp only [List.set_cons_succ] | simp only [List.set_cons_zero]))
      replace hO := hO.next k1
      refine wpTo_last (by kernel_rfl) (show _ = some _ by simp only [List.getElem?_toArray, List.getElem?_cons_succ, List.getElem?_cons_zero]; exact rfl) (by kernel_rfl) (fun K hK => ?_)
      rw [if_pos (by rfl)]
      refine wp_store_row 37 (.tmp 12) (.tmp 34) rfl W0.heap.size (bys TB).toArray rfl rfl 37 _ hO (by rw [List.size_toArray, bys_length, hTB]; kernel_rfl) (by simp only [List.size_toArray, bys_length, hTB, hZB]) (bys_one _) ?_
      refine hK.out _ _ ?_
      clear hK K
      (try simp only [Act.put]); (try simp only [List.setIfInBounds_toArray]); (repeat (first | simp only [List.set_cons_succ] | simp only [List.set_cons_zero]))
      have hoF := On.setRow v1 W0.heap.size (bys TB).toArray
      have hAF := setRow_heap v1 W0.heap.size _ (bys TB).toArray 37 _ hO
      go_wp2_with fail
      go_meet
      case rel => exact ⟨_, rfl, hAF, hS2.on hoF hX.lt, hX.lt⟩
  case rest =>
    clear hX
    obtain ⟨g12, rfl, hA, hS, hg⟩ := hcut
    have hwh := fun W => whole37 W g12
    cases b with
    | true =>
      go_wp2_with fail
      refine wp_region_to (fun v => RsS w v nonce KL g ∧ Blk v g12 37 (bys TB)) 7 (by kernel_rfl) ?_
      have hS0t : RsS w wc.drew nonce KL g ∧ Blk wc.drew g12 37 (bys TB) := ⟨hS.drew, hA.drew⟩
      refine wpTo_take (i := 0) (v := ?v0t) (show _ = some _ by simp only [List.getElem?_toArray, List.getElem?_cons_zero]; exact rfl) (by kernel_rfl) (by kernel_rfl) (by kernel_rfl) (by kernel_rfl) (by exact fun _ _ _ h => h) (Or.inl ⟨by rfl, ?hy0t⟩) hS0t ?r0t
      case hy0t => (intro w hSw; (try dsimp only at hSw); go_simp; try with_reducible rfl)
      (try simp only [Act.put]); (try simp only [List.setIfInBounds_toArray]); (repeat (first | simp only [List.set_cons_succ] | simp only [List.set_cons_zero]))
      refine wpTo_take (i := 1) (v := ?v1t) (show _ = some _ by simp only [List.getElem?_toArray, List.getElem?_cons_succ, List.getElem?_cons_zero]; exact rfl) (by kernel_rfl) (by kernel_rfl) (by kernel_rfl) (by kernel_rfl) (by exact fun _ _ _ h => h) (Or.inl ⟨by rfl, ?hy1t⟩) hS0t ?r1t
      case hy1t => (intro w hSw; (try dsimp only at hSw); have hcc := run_string_of (some ⟨g12, 0, none⟩) 16 16 (v8s TB) _ (shows_blk hSw.2 hTB); go_simp; try with_reducible rfl)
      (try simp only [Act.put]); (try simp only [List.setIfInBounds_toArray]); (repeat (first | simp only [List.set_cons_succ] | simp only [List.set_cons_zero]))
      refine wpTo_take (i := 2) (v := ?v2t) (show _ = some _ by simp only [List.getElem?_toArray, List.getElem?_cons_succ, List.getElem?_cons_zero]; exact rfl) (by kernel_rfl) (by kernel_rfl) (by kernel_rfl) (by kernel_rfl) (by exact fun _ _ _ h => h) (Or.inl ⟨by rfl, ?hy2t⟩) hS0t ?r2t
      case hy2t => (intro w hSw; (try dsimp only at hSw); go_simp; try with_reducible rfl)
      (try simp only [Act.put]); (try simp only [List.setIfInBounds_toArray]); (repeat (first | simp only [List.set_cons_succ] | simp only [List.set_cons_zero]))
      refine wpTo_take (i := 3) (v := ?v3t) (show _ = some _ by simp only [List.getElem?_toArray, List.getElem?_cons_succ, List.getElem?_cons_zero]; exact rfl) (by kernel_rfl) (by kernel_rfl) (by kernel_rfl) (by kernel_rfl) (by exact fun _ _ _ h => h) (Or.inl ⟨by rfl, ?hy3t⟩) hS0t ?r3t
      case hy3t => (intro w hSw; (try dsimp only at hSw); go_simp; try with_reducible rfl)
      (try simp only [Act.put]); (try simp only [List.setIfInBounds_toArray]); (repeat (first | simp only [List.set_cons_succ] | simp only [List.set_cons_zero]))
      refine wpTo_take (i := 4) (v := ?v4t) (show _ = some _ by simp only [List.getElem?_toArray, List.getElem?_cons_succ, List.getElem?_cons_zero]; exact rfl) (by kernel_rfl) (by kernel_rfl) (by kernel_rfl) (by kernel_rfl) (by exact fun _ _ _ h => h) (Or.inl ⟨by rfl, ?hy4t⟩) hS0t ?r4t
      case hy4t => (intro w hSw; (try dsimp only at hSw); go_simp; try with_reducible rfl)
      (try simp only [Act.put]); (try simp only [List.setIfInBounds_toArray]); (repeat (first | simp only [List.set_cons_succ] | simp only [List.set_cons_zero]))
      refine wpTo_take (i := 5) (v := ?v5t) (show _ = some _ by simp only [List.getElem?_toArray, List.getElem?_cons_succ, List.getElem?_cons_zero]; exact rfl) (by kernel_rfl) (by kernel_rfl) (by kernel_rfl) (by kernel_rfl) (by exact fun _ _ _ h => h) (Or.inl ⟨by rfl, ?hy5t⟩) hS0t ?r5t
      case hy5t => (intro w hSw; (try dsimp only at hSw); have hcc := run_string_of (some ta) 16 (d - m) (v8s TX) _ (hy.later hSw.1.k); go_simp; try with_reducible rfl)
      (try simp only [Act.put]); (try simp only [List.setIfInBounds_toArray]); (repeat (first | simp only [List.set_cons_succ] | simp only [List.set_cons_zero]))
      refine wpTo_take (i := 6) (v := ?v6t) (show _ = some _ by simp only [List.getElem?_toArray, List.getElem?_cons_succ, List.getElem?_cons_zero]; exact rfl) (by kernel_rfl) (by kernel_rfl) (by kernel_rfl) (by kernel_rfl) (by exact fun _ _ _ h => h) (Or.inl ⟨by rfl, ?hy6t⟩) hS0t ?r6t
      case hy6t => (intro w hSw; (try dsimp only at hSw); go_simp; try with_reducible rfl)
      (try simp only [Act.put]); (try simp only [List.setIfInBounds_toArray]); (repeat (first | simp only [List.set_cons_succ] | simp only [List.set_cons_zero]))
      refine wpTo_done (by kernel_rfl) ?_
      go_wp2_with fail
      refine wp_region_to (fun v => RsS w v nonce KL g) 8 (by kernel_rfl) ?_
      have hS1 := hS0t.1.drew
      refine wpTo_take (i := 0) (show _ = some _ by simp only [List.getElem?_toArray, List.getElem?_cons_zero]; exact rfl) (by kernel_rfl) (by kernel_rfl) (by kernel_rfl) (by kernel_rfl) (by exact fun _ _ _ h => h) (yieldsIf_load_mid (by rfl) 46 (.tmp 11) rfl g 0 rfl (bys KL) _ (fun v h => (RsS.key h).whole) Try.underlying46 rfl (by rw [bys_length, hKL]; kernel_rfl)) hS1 ?_
      (try simp only [Act.put]); (try simp only [List.setIfInBounds_toArray]); (repeat (first | simp only [List.set_cons_succ] | simp only [List.set_cons_zero]))
      refine wpTo_take (i := 1) (show _ = some _ by simp only [List.getElem?_toArray, List.getElem?_cons_succ, List.getElem?_cons_zero]; exact rfl) (by kernel_rfl) (by kernel_rfl) (by kernel_rfl) (by kernel_rfl) (by exact fun _ _ _ h => h) (yieldsIf_load_mid (by rfl) 23 (.tmp 5) rfl (w.heap.size + 1) 0 rfl (bys nonce) _ (fun v h => (RsS.no h).whole) Try.underlying23 rfl (by rw [bys_length, hn]; kernel_rfl)) hS1 ?_
      (try simp only [Act.put]); (try simp only [List.setIfInBounds_toArray]); (repeat (first | simp only [List.set_cons_succ] | simp only [List.set_cons_zero]))
      refine wpTo_take (i := 2) (v := ?v2u) (show _ = some _ by simp only [List.getElem?_toArray, List.getElem?_cons_succ, List.getElem?_cons_zero]; exact rfl) (by kernel_rfl) (by kernel_rfl) (by kernel_rfl) (by kernel_rfl) (by exact fun _ _ _ h => h) (Or.inl ⟨by rfl, ?hy2u⟩) hS1 ?r2u
      case hy2u => (intro w hSw; (try dsimp only at hSw); go_simp; try with_reducible rfl)
      (try simp only [Act.put]); (try simp only [List.setIfInBounds_toArray]); (repeat (first | simp only [List.set_cons_succ] | simp only [List.set_cons_zero]))
      refine wpTo_take (i := 3) (v := ?v3u) (show _ = some _ by simp only [List.getElem?_toArray, List.getElem?_cons_succ, List.getElem?_cons_zero]; exact rfl) (by kernel_rfl) (by kernel_rfl) (by kernel_rfl) (by kernel_rfl) (by exact fun _ _ _ h => h) (Or.inl ⟨by rfl, ?hy3u⟩) hS1 ?r3u
      case hy3u => (intro w hSw; (try dsimp only at hSw); go_simp; try with_reducible rfl)
      (try simp only [Act.put]); (try simp only [List.setIfInBounds_toArray]); (repeat (first | simp only [List.set_cons_succ] | simp only [List.set_cons_zero]))
      refine wpTo_take (i := 4) (v := ?v4u) (show _ = some _ by simp only [List.getElem?_toArray, List.getElem?_cons_succ, List.getElem?_cons_zero]; exact rfl) (by kernel_rfl) (by kernel_rfl) (by kernel_rfl) (by kernel_rfl) (by exact fun _ _ _ h => h) (Or.inl ⟨by rfl, ?hy4u⟩) hS1 ?r4u
      case hy4u => (intro w hSw; (try dsimp only at hSw); go_simp; try with_reducible rfl)
      (try simp only [Act.put]); (try simp only [List.setIfInBounds_toArray]); (repeat (first | simp only [List.set_cons_succ] | simp only [List.set_cons_zero]))
      refine wpTo_one (i := 5) (by kernel_rfl) (show _ = some _ by simp only [List.getElem?_toArray, List.getElem?_cons_succ, List.getElem?_cons_zero]; exact rfl) (fun K hK => ?_)
      go_simp
      go_at_call 27; refine (H27.out _ (hx.later hS1.k)).mono ?_; rintro e v6 ⟨vt, rfl, own6, k6⟩
      (try simp only [])
      refine hK.out _ _ (RsS.call hS1 k6) (fun hS2 => ?_)
      clear hK K
      (try simp only [Act.put]); (try simp only [List.setIfInBounds_toArray]); (repeat (first | simp only [List.set_cons_succ] | simp only [List.set_cons_zero]))
      refine wpTo_take (i := 6) (v := ?v6u) (show _ = some _ by simp only [List.getElem?_toArray, List.getElem?_cons_succ, List.getElem?_cons_zero]; exact rfl) (by kernel_rfl) (by kernel_rfl) (by kernel_rfl) (by kernel_rfl) (by exact fun _ _ _ h => h) (Or.inl ⟨by rfl, ?hy6u⟩) hS2 ?r6u
      case hy6u => (intro w hSw; (try dsimp only at hSw); go_simp; try with_reducible rfl)
      (try simp only [Act.put]); (try simp only [List.setIfInBounds_toArray]); (repeat (first | simp only [List.set_cons_succ] | simp only [List.set_cons_zero]))
      refine wpTo_take (i := 7) (v := ?v7u) (show _ = some _ by simp only [List.getElem?_toArray, List.getElem?_cons_succ, List.getElem?_cons_zero]; exact rfl) (by kernel_rfl) (by kernel_rfl) (by kernel_rfl) (by kernel_rfl) (by exact fun _ _ _ h => h) (Or.inl ⟨by rfl, ?hy7u⟩) hS2 ?r7u
      case hy7u => (intro w hSw; (try dsimp only at hSw); go_simp; try with_reducible rfl)
      (try simp only [Act.put]); (try simp only [List.setIfInBounds_toArray]); (repeat (first | simp only [List.set_cons_succ] | simp only [List.set_cons_zero]))
      refine wpTo_done (by kernel_rfl) ?_
      go_wp2_with fail
      go_ret2
      refine ⟨?_, hS2.k⟩
      (try rw [if_pos rfl])
      exact ⟨_, rfl, own_base' own6 (by have := hS1.lt; have := hS1.g; omega)⟩
    | false =>
      go_wp2_with fail
      refine wp_region_to (fun v => RsS w v nonce KL g ∧ Blk v g12 37 (bys TB)) 7 (by kernel_rfl) ?_
      have hS0f : RsS w wc.drew nonce KL g ∧ Blk wc.drew g12 37 (bys TB) := ⟨hS.drew, hA.drew⟩
      refine wpTo_take (i := 0) (v := ?v0f) (show _ = some _ by simp only [List.getElem?_toArray, List.getElem?_cons_zero]; exact rfl) (by kernel_rfl) (by kernel_rfl) (by kernel_rfl) (by kernel_rfl) (by exact fun _ _ _ h => h) (Or.inl ⟨by rfl, ?hy0f⟩) hS0f ?r0f
      case hy0f => (intro w hSw; (try dsimp only at hSw); go_simp; try with_reducible rfl)
      (try simp only [Act.put]); (try simp only [List.setIfInBounds_toArray]); (repeat (first | simp only [List.set_cons_succ] | simp only [List.set_cons_zero]))
      refine wpTo_take (i := 1) (v := ?v1f) (show _ = some _ by simp only [List.getElem?_toArray, List.getElem?_cons_succ, List.getElem?_cons_zero]; exact rfl) (by kernel_rfl) (by kernel_rfl) (by kernel_rfl) (by kernel_rfl) (by exact fun _ _ _ h => h) (Or.inl ⟨by rfl, ?hy1f⟩) hS0f ?r1f
      case hy1f => (intro w hSw; (try dsimp only at hSw); have hcc := run_string_of (some ⟨g12, 0, none⟩) 16 16 (v8s TB) _ (shows_blk hSw.2 hTB); go_simp; try with_reducible rfl)
      (try simp only [Act.put]); (try simp only [List.setIfInBounds_toArray]); (repeat (first | simp only [List.set_cons_succ] | simp only [List.set_cons_zero]))
      refine wpTo_take (i := 2) (v := ?v2f) (show _ = some _ by simp only [List.getElem?_toArray, List.getElem?_cons_succ, List.getElem?_cons_zero]; exact rfl) (by kernel_rfl) (by kernel_rfl) (by kernel_rfl) (by kernel_rfl) (by exact fun _ _ _ h => h) (Or.inl ⟨by rfl, ?hy2f⟩) hS0f ?r2f
      case hy2f => (intro w hSw; (try dsimp only at hSw); go_simp; try with_reducible rfl)
      (try simp only [Act.put]); (try simp only [List.setIfInBounds_toArray]); (repeat (first | simp only [List.set_cons_succ] | simp only [List.set_cons_zero]))
      refine wpTo_take (i := 3) (v := ?v3f) (show _ = some _ by simp only [List.getElem?_toArray, List.getElem?_cons_succ, List.getElem?_cons_zero]; exact rfl) (by kernel_rfl) (by kernel_rfl) (by kernel_rfl) (by kernel_rfl) (by exact fun _ _ _ h => h) (Or.inl ⟨by rfl, ?hy3f⟩) hS0f ?r3f
      case hy3f => (intro w hSw; (try dsimp only at hSw); go_simp; try with_reducible rfl)
      (try simp only [Act.put]); (try simp only [List.setIfInBounds_toArray]); (repeat (first | simp only [List.set_cons_succ] | simp only [List.set_cons_zero]))
      refine wpTo_take (i := 4) (v := ?v4f) (show _ = some _ by simp only [List.getElem?_toArray, List.getElem?_cons_succ, List.getElem?_cons_zero]; exact rfl) (by kernel_rfl) (by kernel_rfl) (by kernel_rfl) (by kernel_rfl) (by exact fun _ _ _ h => h) (Or.inl ⟨by rfl, ?hy4f⟩) hS0f ?r4f
      case hy4f => (intro w hSw; (try dsimp only at hSw); go_simp; try with_reducible rfl)
      (try simp only [Act.put]); (try simp only [List.setIfInBounds_toArray]); (repeat (first | simp only [List.set_cons_succ] | simp only [List.set_cons_zero]))
      refine wpTo_take (i := 5) (v := ?v5f) (show _ = some _ by simp only [List.getElem?_toArray, List.getElem?_cons_succ, List.getElem?_cons_zero]; exact rfl) (by kernel_rfl) (by kernel_rfl) (by kernel_rfl) (by kernel_rfl) (by exact fun _ _ _ h => h) (Or.inl ⟨by rfl, ?hy5f⟩) hS0f ?r5f
      case hy5f => (intro w hSw; (try dsimp only at hSw); have hcc := run_string_of (some ta) 16 (d - m) (v8s TX) _ (hy.later hSw.1.k); go_simp; try with_reducible rfl)
      (try simp only [Act.put]); (try simp only [List.setIfInBounds_toArray]); (repeat (first | simp only [List.set_cons_succ] | simp only [List.set_cons_zero]))
      refine wpTo_take (i := 6) (v := ?v6f) (show _ = some _ by simp only [List.getElem?_toArray, List.getElem?_cons_succ, List.getElem?_cons_zero]; exact rfl) (by kernel_rfl) (by kernel_rfl) (by kernel_rfl) (by kernel_rfl) (by exact fun _ _ _ h => h) (Or.inl ⟨by rfl, ?hy6f⟩) hS0f ?r6f
      case hy6f => (intro w hSw; (try dsimp only at hSw); go_simp; try with_reducible rfl)
      (try simp only [Act.put]); (try simp only [List.setIfInBounds_toArray]); (repeat (first | simp only [List.set_cons_succ] | simp only [List.set_cons_zero]))
      refine wpTo_done (by kernel_rfl) ?_
      go_wp2_with fail
      go_ret2
      refine ⟨?_, hS0f.1.k⟩
      (try rw [if_neg (by simp)])
      rfl

theorem tag_right (key nonce ad sl : List B) (m : Nat) (h16 : (sl.drop m).length = 16) : ((strOfNums (v8s (bq (tagM key nonce ad (sl.take m))))).toList == (strOfNums (v8s (sl.drop m))).toList) = rightM key nonce ad sl m := by
  rw [strEq_iff (v8s_rng _) (v8s_rng _)]
  unfold rightM
  by_cases h : qb (sl.drop m) = tagM key nonce ad (sl.take m)
  · rw [← h, bq_qb _ h16]
    simp
  · rw [decide_eq_false h, decide_eq_false]
    intro e
    have e2 := v8s_inj e
    exact h (by rw [← e2, qb_bq])

theorem ropen_any (key nonce ad sl : List B) (hk : key.length = 32) (hn : nonce.length = 12) (ao bo : Option Addr) (n m M c d : Nat) (w : World) (hM : M = m + 16) (hs : Shows w ao n (v8s ad)) (hx : Shows w bo M (v8s sl)) (hc : ao = none → c = 0) (hmd : M ≤ d) (hbn : n ≤ 65536) (hbm : m ≤ 65536) :
    Calls Try.prog 16 #[.agg (bys key).toArray, .agg (bys nonce).toArray, .slice ao n c, .slice bo M d] w fun e w' =>
      (if rightM key nonce ad sl m then ∃ v, e = .returned (.tuple #[v, .int .i64 0]) ∧ w'.ownsRow w.heap.size 5 1 v m (u8s (v8s (cov key nonce (sl.take m)))) else e = .returned (.tuple #[.slice none 0 0, .int .i64 60])) ∧ Below w.heap.size w w' := by
  have hl : sl.length = M := by have := hx.len; rw [v8s_length] at this; exact this
  have htl : (sl.drop m).length = 16 := by simp; omega
  cases bo with
  | none => have := hx.bare rfl; omega
  | some bd =>
    have h1 := hx.take (k := m) (by omega)
    rw [v8s_take] at h1
    have h2 := hx.drop (k := m) (c := d) (by omega) hmd
    have hfr : fromAt (some bd) d m = some (bd.add m) := by unfold fromAt; rw [if_neg (by omega)]; rfl
    rw [hfr, v8s_drop, show M - m = 16 by omega] at h2
    exact ropen_walk key nonce ad (sl.take m) (sl.drop m) (ready key ++ tabs) (bq (tagM key nonce ad (sl.take m))) (cov key nonce (sl.take m)) (rightM key nonce ad sl m) hk hn (by rw [List.length_append, ready_length key hk, tabs_length]) (bq_length _) ao (some bd) n m M c d (bd.add m) w hM hs h1 h2 hfr hbn hbm hmd (tag_right key nonce ad sl m htl) (rexpand_any key hk)
      (fun W hW => rturned_any key nonce (sl.take m) hk hn (some bd) m d W hW (by omega))
      (fun W g1 g2 => rtag_any key nonce ad (sl.take m) hk hn ao (some bd) n m c d W g1 g2 hc (fun e => (by cases e)) (by omega) (by omega))

set_option maxHeartbeats 1000000 in
set_option maxRecDepth 100000 in
theorem ropen_short (key nonce : List B) (ao bo : Option Addr) (n M c d : Nat) (w : World) (h : M < 16) :
    Calls Try.prog 16 #[.agg (bys key).toArray, .agg (bys nonce).toArray, .slice ao n c, .slice bo M d] w fun e w' => e = .returned (.tuple #[.slice none 0 0, .int .i64 10]) ∧ Below w.heap.size w w' := by
  obtain ⟨h1, h2, h3⟩ := blk2 w 22 23 (bys key) (bys nonce)
  have hI : (M : Int) < 16 := by omega
  go_enter Try.func16, Try.ntmps16
  go_wp2
  go_ret2
  exact ⟨rfl, h3⟩
set_option maxHeartbeats 1000000 in
set_option maxRecDepth 100000 in
theorem ropen_long (key nonce : List B) (ao bo : Option Addr) (n M c d : Nat) (w : World) (h16 : 16 ≤ M) (hmx : M ≤ 1000000) (h : 65536 < n ∨ 65552 < M) :
    Calls Try.prog 16 #[.agg (bys key).toArray, .agg (bys nonce).toArray, .slice ao n c, .slice bo M d] w fun e w' => e = .returned (.tuple #[.slice none 0 0, .int .i64 3]) ∧ Below w.heap.size w w' := by
  obtain ⟨h1, h2, h3⟩ := blk2 w 22 23 (bys key) (bys nonce)
  have hI : ¬ (M : Int) < 16 := by omega
  obtain ⟨m, em⟩ : ∃ m, m = M - 16 := ⟨_, rfl⟩
  have hmE : IntKind.i64.wrap ((M : Int) - 16) = (m : Int) := by rw [IntKind.wrap_i64]; omega
  have hmF : (M : Int) - 16 = (m : Int) := by omega
  by_cases hn : 65536 < n
  · have hnI : (n : Int) > 65536 := by omega
    clear em
    go_enter Try.func16, Try.ntmps16
    go_wp2
    go_ret2
    exact ⟨rfl, h3⟩
  · have hnI : ¬ ((n : Int) > 65536) := by omega
    have hmI : (m : Int) > 65536 := by omega
    clear em
    go_enter Try.func16, Try.ntmps16
    go_wp2
    go_ret2
    exact ⟨rfl, h3⟩
end Go.Proofs.Ytjhkicfndbceoaa
