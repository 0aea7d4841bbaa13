/- AesBlocks: of every key and block, Block and Back tell what the document's answer does. -/
import Derived.Test.YtkiljjlklelbbaaRExp
namespace Go.Proofs.Ytkiljjlklelbbaa
open Go.RowKit

/-- What lies there while the statement is asked: the block, the key made ready, twice. -/
structure LrS (w v : World) (g d : Nat) (bs RK KL : List B) : Prop where
  b : Blk v (w.heap.size + 1) 23 (bys bs)
  k : Blk v g 28 (bys RK)
  d : Blk v d 33 (bys KL)
  below : Below w.heap.size w v
section
variable {w v v' : World} {g d : Nat} {bs RK KL : List B}
theorem LrS.drew (h : LrS w v g d bs RK KL) : LrS w v.drew g d bs RK KL := ⟨h.b, h.k, h.d, h.below.drew⟩
theorem LrS.call (h : LrS w v g d bs RK KL) (hb : Below v.heap.size v v') : LrS w v' g d bs RK KL := ⟨h.b.next hb, h.k.next hb, h.d.next hb, h.below.trans (hb.mono h.below.size)⟩
theorem Blk.step' {v v1 v2 : World} {b : Nat} {t : TypeId} {vs : List Value} {ob : Obj} (h : Blk v b t vs) (k : Below v.heap.size v v1) (o : On (v1.alloc ob) v2 v1.heap.size) : Blk v2 b t vs := ((h.next k).alloc _).on o (Nat.ne_of_lt (h.next k).lt)
theorem below_step' {n : Nat} {w v v1 v2 : World} {ob : Obj} (h : Below n w v) (hn : n ≤ v.heap.size) (k : Below v.heap.size v v1) (o : On (v1.alloc ob) v2 v1.heap.size) : Below n w v2 :=
  have m := h.trans (k.mono hn)
  o.below (m.alloc (Nat.le_trans hn k.size) _) (Nat.le_trans hn k.size)
end
theorem zeroed33 : ∃ Z : List B, Z.length = 752 ∧ ∀ W : World, (zeroValue 33).run Try.prog W = .ok (.agg (bys Z).toArray) W := ⟨List.replicate 752 0#8, List.length_replicate, zero33r⟩

set_option maxHeartbeats 2000000 in
set_option maxRecDepth 100000 in
theorem blocks_walk (key bs : List B) (hk : key.length = 32) (hb : bs.length = 16) (w : World) :
    Calls Try.prog 3 #[.agg (bys key).toArray, .agg (bys bs).toArray] w fun e w' => e = .returned (.bool true) ∧ Below w.heap.size w w' := by
  obtain ⟨Z8, hZ8, z28⟩ := zeroed28
  obtain ⟨Z3, hZ3, z33⟩ := zeroed33
  have hRK := ready_length key hk
  have h8 := fun W => expand_any key hk W
  have h9 := fun W => rexpand_any key hk W
  have h10 := fun W => block_any (ready key) bs hRK hb W
  have h11 := fun W => rblock_any (ready key) tabs bs hRK tabs_length hb (tabs_there _ hRK) W
  have h12 := fun W => back_any (ready key) bs hRK hb W
  have h13 := fun W => rback_any (ready key) tabs bs hRK tabs_length hb (tabs_has _ hRK) W
  have hC := enc_length (ready key) bs hRK hb 14 (by omega)
  have hD := dec_length (ready key) hRK 14 (by omega) bs hb
  have hKL : (ready key ++ tabs).length = 752 := by rw [List.length_append, hRK, tabs_length]
  obtain ⟨KL, eKL⟩ : ∃ R, R = ready key ++ tabs := ⟨_, rfl⟩
  rw [← eKL] at hKL h9 h11 h13
  clear eKL
  obtain ⟨RK, eRK⟩ : ∃ R, R = ready key := ⟨_, rfl⟩
  rw [← eRK] at hRK h8 h10 h11 h12 h13 hC hD
  clear eRK
  obtain ⟨C, eC⟩ : ∃ C, C = enc RK bs 14 := ⟨_, rfl⟩
  obtain ⟨D, eD⟩ : ∃ D, D = dec RK 14 bs := ⟨_, rfl⟩
  rw [← eC] at hC h10 h11
  rw [← eD] at hD h12 h13
  clear eC eD
  have hq0 := eq23 C C hC hC
  have hq1 := eq23 D D hD hD
  rw [decide_eq_true rfl] at hq0 hq1
  have hgd := guard23
  have hB0 : Blk ((w.alloc (.cells (bys key).toArray 22)).alloc (.cells (bys bs).toArray 23)) w.heap.size 22 (bys key) := (Blk.new w 22 (bys key)).alloc _
  have hB1 : Blk ((w.alloc (.cells (bys key).toArray 22)).alloc (.cells (bys bs).toArray 23)) (w.heap.size + 1) 23 (bys bs) := by
    have h := Blk.new (w.alloc (.cells (bys key).toArray 22)) 23 (bys bs)
    rwa [World.size_alloc] at h
  have hbB : Below w.heap.size w ((w.alloc (.cells (bys key).toArray 22)).alloc (.cells (bys bs).toArray 23)) := ((Below.refl _ w).alloc (Nat.le_refl _) _).alloc (by simp) _
  go_enter Try.func3, Try.ntmps3
  go_wp2_with (first
    | (refine law_load rfl 22 _ rfl _ rfl 22 _ hB0 _ Try.underlying22 rfl (by rw [bys_length, hk]; kernel_rfl) ?_)
    | (go_at_call 8; refine (h8 _).mono ?_; rintro e w1 ⟨rfl, k1⟩)
    | (refine law_store rfl 28 _ _ rfl _ (bys RK) rfl rfl 28 _ (Blk.new w1 28 (bys Z8)) (by rw [bys_length, bys_length, hRK, hZ8]) (by rw [bys_length, hRK]; kernel_rfl) (bys_one _) ?_
       intro w2 ho2 hK2
       have key2 := hB0.step' k1 ho2
       have bb2 := hB1.step' k1 ho2
       have m2 := below_step' hbB hbB.size k1 ho2
       clear hB0 hB1 hbB k1 ho2 h8)
    | (refine law_load rfl 22 _ rfl _ rfl 22 _ key2 _ Try.underlying22 rfl (by rw [bys_length, hk]; kernel_rfl) ?_)
    | (go_at_call 9; refine (h9 _).mono ?_; rintro e w3 ⟨rfl, k3⟩)
    | (refine law_store rfl 33 _ _ rfl _ (bys KL) rfl rfl 33 _ (Blk.new w3 33 (bys Z3)) (by rw [bys_length, bys_length, hKL, hZ3]) (by rw [bys_length, hKL]; kernel_rfl) (bys_one _) ?_
       intro w4 ho4 hD4
       have bb4 := bb2.step' k3 ho4
       have hK4 := hK2.step' k3 ho4
       have m4 := below_step' m2 m2.size k3 ho4
       clear key2 bb2 hK2 m2 k3 ho4 h9))
  have hSS : LrS w w4 w1.heap.size w3.heap.size bs RK KL := ⟨bb4, hK4, hD4, m4⟩
  clear bb4 hK4 hD4 m4 z28 z33
  obtain ⟨g, eg⟩ : ∃ g, g = w1.heap.size := ⟨_, rfl⟩
  obtain ⟨d, ed⟩ : ∃ g, g = w3.heap.size := ⟨_, rfl⟩
  rw [← eg, ← ed] at hSS
  (try simp only [Act.put])
  rw [← eg, ← ed]
  clear eg ed
  refine wp_region_to (fun v => LrS w v g d bs RK KL) 99 (by kernel_rfl) ?_
  have hS0 := hSS.drew
  refine wpTo_take (i := 0) (show _ = some _ by simp only [List.getElem?_toArray, List.getElem?_cons_zero]; exact rfl) (by kernel_rfl) (by kernel_rfl) (by kernel_rfl) (by kernel_rfl) (by exact fun _ _ _ h => h) (yieldsIf_load_mid (by rfl) 28 (.tmp 5) rfl g 0 rfl (bys RK) _ (fun v h => (LrS.k h).whole) Try.underlying28 rfl (by rw [bys_length, hRK]; kernel_rfl)) hS0 ?_
  (try simp only [Act.put]); (try simp only [List.setIfInBounds_toArray]); (repeat (first | simp only [List.set_cons_succ] | simp only [List.set_cons_zero]))
  refine wpTo_take (i := 1) (show _ = some _ by simp only [List.getElem?_toArray, List.getElem?_cons_succ, List.getElem?_cons_zero]; exact rfl) (by kernel_rfl) (by kernel_rfl) (by kernel_rfl) (by kernel_rfl) (by exact fun _ _ _ h => h) (yieldsIf_load_mid (by rfl) 23 (.tmp 3) rfl (w.heap.size + 1) 0 rfl (bys bs) _ (fun v h => (LrS.b h).whole) Try.underlying23 rfl (by rw [bys_length, hb]; kernel_rfl)) hS0 ?_
  (try simp only [Act.put]); (try simp only [List.setIfInBounds_toArray]); (repeat (first | simp only [List.set_cons_succ] | simp only [List.set_cons_zero]))
  refine wpTo_take (i := 3) (show _ = some _ by simp only [List.getElem?_toArray, List.getElem?_cons_succ, List.getElem?_cons_zero]; exact rfl) (by kernel_rfl) (by kernel_rfl) (by kernel_rfl) (by kernel_rfl) (by exact fun _ _ _ h => h) (yieldsIf_load_mid (by rfl) 33 (.tmp 6) rfl d 0 rfl (bys KL) _ (fun v h => (LrS.d h).whole) Try.underlying33 rfl (by rw [bys_length, hKL]; kernel_rfl)) hS0 ?_
  (try simp only [Act.put]); (try simp only [List.setIfInBounds_toArray]); (repeat (first | simp only [List.set_cons_succ] | simp only [List.set_cons_zero]))
  refine wpTo_take (i := 4) (show _ = some _ by simp only [List.getElem?_toArray, List.getElem?_cons_succ, List.getElem?_cons_zero]; exact rfl) (by kernel_rfl) (by kernel_rfl) (by kernel_rfl) (by kernel_rfl) (by exact fun _ _ _ h => h) (yieldsIf_load_mid (by rfl) 23 (.tmp 3) rfl (w.heap.size + 1) 0 rfl (bys bs) _ (fun v h => (LrS.b h).whole) Try.underlying23 rfl (by rw [bys_length, hb]; kernel_rfl)) hS0 ?_
  (try simp only [Act.put]); (try simp only [List.setIfInBounds_toArray]); (repeat (first | simp only [List.set_cons_succ] | simp only [List.set_cons_zero]))
  refine wpTo_one (i := 2) (by kernel_rfl) (show _ = some _ by simp only [List.getElem?_toArray, List.getElem?_cons_succ, List.getElem?_cons_zero]; exact rfl) (fun K hK => ?_)
  go_simp
  go_at_call 10; refine (h10 _).mono ?_; rintro e v1 ⟨rfl, k1⟩
  (try simp only [])
  refine hK.out _ _ (LrS.call hS0 k1) (fun hS1 => ?_)
  clear hK K
  (try simp only [Act.put]); (try simp only [List.setIfInBounds_toArray]); (repeat (first | simp only [List.set_cons_succ] | simp only [List.set_cons_zero]))
  refine wpTo_one (i := 5) (by kernel_rfl) (show _ = some _ by simp only [List.getElem?_toArray, List.getElem?_cons_succ, List.getElem?_cons_zero]; exact rfl) (fun K hK => ?_)
  go_simp
  go_at_call 11; refine (h11 _).mono ?_; rintro e v2 ⟨rfl, k2⟩
  (try simp only [])
  refine hK.out _ _ (LrS.call hS1 k2) (fun hS2 => ?_)
  clear hK K
  (try simp only [Act.put]); (try simp only [List.setIfInBounds_toArray]); (repeat (first | simp only [List.set_cons_succ] | simp only [List.set_cons_zero]))
  refine wpTo_take (i := 6) (v := ?v6) (show _ = some _ by simp only [List.getElem?_toArray, List.getElem?_cons_succ, List.getElem?_cons_zero]; exact rfl) (by kernel_rfl) (by kernel_rfl) (by kernel_rfl) (by kernel_rfl) (by exact fun _ _ _ h => h) (Or.inl ⟨by rfl, ?hy6⟩) hS2 ?r6
  case hy6 => (intro w hSw; (try dsimp only at hSw); go_simp; try with_reducible rfl)
  (try simp only [Act.put]); (try simp only [List.setIfInBounds_toArray]); (repeat (first | simp only [List.set_cons_succ] | simp only [List.set_cons_zero]))
  refine wpTo_take (i := 7) (v := ?v7) (show _ = some _ by simp only [List.getElem?_toArray, List.getElem?_cons_succ, List.getElem?_cons_zero]; exact rfl) (by kernel_rfl) (by kernel_rfl) (by kernel_rfl) (by kernel_rfl) (by exact fun _ _ _ h => h) (Or.inl ⟨by rfl, ?hy7⟩) hS2 ?r7
  case hy7 => (intro w hSw; (try dsimp only at hSw); go_simp; try with_reducible rfl)
  (try simp only [Act.put]); (try simp only [List.setIfInBounds_toArray]); (repeat (first | simp only [List.set_cons_succ] | simp only [List.set_cons_zero]))
  refine wpTo_take (i := 8) (show _ = some _ by simp only [List.getElem?_toArray, List.getElem?_cons_succ, List.getElem?_cons_zero]; exact rfl) (by kernel_rfl) (by kernel_rfl) (by kernel_rfl) (by kernel_rfl) (by exact fun _ _ _ h => h) (yieldsIf_load_mid (by rfl) 28 (.tmp 5) rfl g 0 rfl (bys RK) _ (fun v h => (LrS.k h).whole) Try.underlying28 rfl (by rw [bys_length, hRK]; kernel_rfl)) hS2 ?_
  (try simp only [Act.put]); (try simp only [List.setIfInBounds_toArray]); (repeat (first | simp only [List.set_cons_succ] | simp only [List.set_cons_zero]))
  refine wpTo_take (i := 9) (show _ = some _ by simp only [List.getElem?_toArray, List.getElem?_cons_succ, List.getElem?_cons_zero]; exact rfl) (by kernel_rfl) (by kernel_rfl) (by kernel_rfl) (by kernel_rfl) (by exact fun _ _ _ h => h) (yieldsIf_load_mid (by rfl) 23 (.tmp 3) rfl (w.heap.size + 1) 0 rfl (bys bs) _ (fun v h => (LrS.b h).whole) Try.underlying23 rfl (by rw [bys_length, hb]; kernel_rfl)) hS2 ?_
  (try simp only [Act.put]); (try simp only [List.setIfInBounds_toArray]); (repeat (first | simp only [List.set_cons_succ] | simp only [List.set_cons_zero]))
  refine wpTo_take (i := 11) (show _ = some _ by simp only [List.getElem?_toArray, List.getElem?_cons_succ, List.getElem?_cons_zero]; exact rfl) (by kernel_rfl) (by kernel_rfl) (by kernel_rfl) (by kernel_rfl) (by exact fun _ _ _ h => h) (yieldsIf_load_mid (by rfl) 33 (.tmp 6) rfl d 0 rfl (bys KL) _ (fun v h => (LrS.d h).whole) Try.underlying33 rfl (by rw [bys_length, hKL]; kernel_rfl)) hS2 ?_
  (try simp only [Act.put]); (try simp only [List.setIfInBounds_toArray]); (repeat (first | simp only [List.set_cons_succ] | simp only [List.set_cons_zero]))
  refine wpTo_take (i := 12) (show _ = some _ by simp only [List.getElem?_toArray, List.getElem?_cons_succ, List.getElem?_cons_zero]; exact rfl) (by kernel_rfl) (by kernel_rfl) (by kernel_rfl) (by kernel_rfl) (by exact fun _ _ _ h => h) (yieldsIf_load_mid (by rfl) 23 (.tmp 3) rfl (w.heap.size + 1) 0 rfl (bys bs) _ (fun v h => (LrS.b h).whole) Try.underlying23 rfl (by rw [bys_length, hb]; kernel_rfl)) hS2 ?_
  (try simp only [Act.put]); (try simp only [List.setIfInBounds_toArray]); (repeat (first | simp only [List.set_cons_succ] | simp only [List.set_cons_zero]))
  refine wpTo_one (i := 10) (by kernel_rfl) (show _ = some _ by simp only [List.getElem?_toArray, List.getElem?_cons_succ, List.getElem?_cons_zero]; exact rfl) (fun K hK => ?_)
  go_simp
  go_at_call 12; refine (h12 _).mono ?_; rintro e v3 ⟨rfl, k3⟩
  (try simp only [])
  refine hK.out _ _ (LrS.call hS2 k3) (fun hS3 => ?_)
  clear hK K
  (try simp only [Act.put]); (try simp only [List.setIfInBounds_toArray]); (repeat (first | simp only [List.set_cons_succ] | simp only [List.set_cons_zero]))
  refine wpTo_one (i := 13) (by kernel_rfl) (show _ = some _ by simp only [List.getElem?_toArray, List.getElem?_cons_succ, List.getElem?_cons_zero]; exact rfl) (fun K hK => ?_)
  go_simp
  go_at_call 13; refine (h13 _).mono ?_; rintro e v4 ⟨rfl, k4⟩
  (try simp only [])
  refine hK.out _ _ (LrS.call hS3 k4) (fun hS4 => ?_)
  clear hK K
  (try simp only [Act.put]); (try simp only [List.setIfInBounds_toArray]); (repeat (first | simp only [List.set_cons_succ] | simp only [List.set_cons_zero]))
  refine wpTo_take (i := 14) (v := ?v14) (show _ = some _ by simp only [List.getElem?_toArray, List.getElem?_cons_succ, List.getElem?_cons_zero]; exact rfl) (by kernel_rfl) (by kernel_rfl) (by kernel_rfl) (by kernel_rfl) (by exact fun _ _ _ h => h) (Or.inl ⟨by rfl, ?hy14⟩) hS4 ?r14
  case hy14 => (intro w hSw; (try dsimp only at hSw); go_simp; try with_reducible rfl)
  (try simp only [Act.put]); (try simp only [List.setIfInBounds_toArray]); (repeat (first | simp only [List.set_cons_succ] | simp only [List.set_cons_zero]))
  refine wpTo_take (i := 15) (v := ?v15) (show _ = some _ by simp only [List.getElem?_toArray, List.getElem?_cons_succ, List.getElem?_cons_zero]; exact rfl) (by kernel_rfl) (by kernel_rfl) (by kernel_rfl) (by kernel_rfl) (by exact fun _ _ _ h => h) (Or.inl ⟨by rfl, ?hy15⟩) hS4 ?r15
  case hy15 => (intro w hSw; (try dsimp only at hSw); go_simp; try with_reducible rfl)
  (try simp only [Act.put]); (try simp only [List.setIfInBounds_toArray]); (repeat (first | simp only [List.set_cons_succ] | simp only [List.set_cons_zero]))
  refine wpTo_take (i := 16) (v := ?v16) (show _ = some _ by simp only [List.getElem?_toArray, List.getElem?_cons_succ, List.getElem?_cons_zero]; exact rfl) (by kernel_rfl) (by kernel_rfl) (by kernel_rfl) (by kernel_rfl) (by exact fun _ _ _ h => h) (Or.inl ⟨by rfl, ?hy16⟩) hS4 ?r16
  case hy16 => (intro w hSw; (try dsimp only at hSw); go_simp; try with_reducible rfl)
  (try simp only [Act.put]); (try simp only [List.setIfInBounds_toArray]); (repeat (first | simp only [List.set_cons_succ] | simp only [List.set_cons_zero]))
  refine wpTo_one (i := 17) (by kernel_rfl) (show _ = some _ by simp only [List.getElem?_toArray, List.getElem?_cons_succ, List.getElem?_cons_zero]; exact rfl) (fun K hK => ?_)
  go_simp
  go_at_call 14; refine (works_any _).mono ?_; rintro e v5 ⟨rfl, k5⟩
  (try simp only [])
  refine hK.out _ _ (LrS.call hS4 k5) (fun hS5 => ?_)
  clear hK K
  (try simp only [Act.put]); (try simp only [List.setIfInBounds_toArray]); (repeat (first | simp only [List.set_cons_succ] | simp only [List.set_cons_zero]))
  refine wpTo_take (i := 18) (v := ?v18) (show _ = some _ by simp only [List.getElem?_toArray, List.getElem?_cons_succ, List.getElem?_cons_zero]; exact rfl) (by kernel_rfl) (by kernel_rfl) (by kernel_rfl) (by kernel_rfl) (by exact fun _ _ _ h => h) (Or.inl ⟨by rfl, ?hy18⟩) hS5 ?r18
  case hy18 => (intro w hSw; (try dsimp only at hSw); go_simp; try with_reducible rfl)
  (try simp only [Act.put]); (try simp only [List.setIfInBounds_toArray]); (repeat (first | simp only [List.set_cons_succ] | simp only [List.set_cons_zero]))
  refine wpTo_take (i := 19) (v := ?v19) (show _ = some _ by simp only [List.getElem?_toArray, List.getElem?_cons_succ, List.getElem?_cons_zero]; exact rfl) (by kernel_rfl) (by kernel_rfl) (by kernel_rfl) (by kernel_rfl) (by exact fun _ _ _ h => h) (Or.inl ⟨by rfl, ?hy19⟩) hS5 ?r19
  case hy19 => (intro w hSw; (try dsimp only at hSw); go_simp; try with_reducible rfl)
  (try simp only [Act.put]); (try simp only [List.setIfInBounds_toArray]); (repeat (first | simp only [List.set_cons_succ] | simp only [List.set_cons_zero]))
  refine wpTo_done (by kernel_rfl) ?_
  go_wp2
  go_ret
  exact ⟨rfl, hS5.below⟩
end Go.Proofs.Ytkiljjlklelbbaa
