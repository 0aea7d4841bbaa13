/- AesBack: a block enciphered and deciphered is the block, under every key, and the other way round. -/
import Derived.Test.YtkiljjlklelbbaaWorks
namespace Go.Proofs.Ytkiljjlklelbbaa
open Go.RowKit

/-- What lies there while a statement is asked: the block, the key made ready. -/
structure LwS (w v : World) (g : Nat) (bs RK : List B) : Prop where
  b : Blk v (w.heap.size + 1) 23 (bys bs)
  k : Blk v g 28 (bys RK)
  below : Below w.heap.size w v
section
variable {w v v' : World} {g : Nat} {bs RK : List B}
theorem LwS.drew (h : LwS w v g bs RK) : LwS w v.drew g bs RK := ⟨h.b, h.k, h.below.drew⟩
theorem LwS.call (h : LwS w v g bs RK) (hb : Below v.heap.size v v') : LwS w v' g bs RK := ⟨h.b.next hb, h.k.next hb, h.below.trans (hb.mono h.below.size)⟩
end

set_option maxHeartbeats 1000000 in
set_option maxRecDepth 100000 in
theorem back_walk (key bs : List B) (hk : key.length = 32) (hb : bs.length = 16) (w : World) :
    Calls Try.prog 4 #[.agg (bys key).toArray, .agg (bys bs).toArray] w fun e w' => e = .returned (.bool true) ∧ Below w.heap.size w w' := by
  obtain ⟨Z8, hZ8, z28⟩ := zeroed28
  have hRK := ready_length key hk
  have h8 := fun W => expand_any key hk W
  obtain ⟨RK, eRK⟩ : ∃ R, R = ready key := ⟨_, rfl⟩
  rw [← eRK] at hRK h8
  clear eRK
  have hC := enc_length RK bs hRK hb 14 (by omega)
  have hD := dec_length RK hRK 14 (by omega) bs hb
  have h10a := fun W => block_any RK bs hRK hb W
  have h12a := fun W => back_any RK _ hRK hC W
  rw [dec_of_enc RK bs hRK hb 14 (by omega)] at h12a
  have h12b := fun W => back_any RK bs hRK hb W
  have h10b := fun W => block_any RK _ hRK hD W
  rw [enc_of_dec RK hRK 14 (by omega) bs hb] at h10b
  obtain ⟨C, eC⟩ : ∃ C, C = enc RK bs 14 := ⟨_, rfl⟩
  obtain ⟨D, eD⟩ : ∃ D, D = dec RK 14 bs := ⟨_, rfl⟩
  rw [← eC] at hC h10a h12a
  rw [← eD] at hD h12b h10b
  clear eC eD
  have hq := eq23 bs bs hb hb
  rw [decide_eq_true rfl] at hq
  have hgd := guard23
  have hB0 : Blk ((w.alloc (.cells (bys key).toArray 22)).alloc (.cells (bys bs).toArray 23)) w.heap.size 22 (bys key) := (Blk.new w 22 (bys key)).alloc _
  have hB1 : Blk ((w.alloc (.cells (bys key).toArray 22)).alloc (.cells (bys bs).toArray 23)) (w.heap.size + 1) 23 (bys bs) := by
    have h := Blk.new (w.alloc (.cells (bys key).toArray 22)) 23 (bys bs)
    rwa [World.size_alloc] at h
  have hbB : Below w.heap.size w ((w.alloc (.cells (bys key).toArray 22)).alloc (.cells (bys bs).toArray 23)) := ((Below.refl _ w).alloc (Nat.le_refl _) _).alloc (by simp) _
  go_enter Try.func4, Try.ntmps4
  go_wp2_with (first
    | (refine law_load rfl 22 _ rfl _ rfl 22 _ hB0 _ Try.underlying22 rfl (by rw [bys_length, hk]; kernel_rfl) ?_)
    | (go_at_call 8; refine (h8 _).mono ?_; rintro e w1 ⟨rfl, k1⟩)
    | (refine law_store rfl 28 _ _ rfl _ (bys RK) rfl rfl 28 _ (Blk.new w1 28 (bys Z8)) (by rw [bys_length, bys_length, hRK, hZ8]) (by rw [bys_length, hRK]; kernel_rfl) (bys_one _) ?_; intro w2 ho2 hK2))
  have hb1 := hB1.next k1
  have hlt := hb1.lt
  have m1 : Below w.heap.size w w1 := hbB.trans (k1.mono hbB.size)
  have hSS : LwS w w2 w1.heap.size bs RK := ⟨(hb1.alloc _).on ho2 (by omega), hK2, ho2.below (m1.alloc m1.size _) m1.size⟩
  obtain ⟨g, eg⟩ : ∃ g, g = w1.heap.size := ⟨_, rfl⟩
  rw [← eg] at hSS ⊢
  clear hB0 hB1 hbB k1 hb1 hlt m1 ho2 hK2 eg h8 z28
  (try simp only [Act.put])
  refine wp_region_to (fun v => LwS w v g bs RK) 99 (by kernel_rfl) ?_
  have hS0 := hSS.drew
  refine wpTo_take (i := 0) (show _ = some _ by simp only [List.getElem?_toArray, List.getElem?_cons_zero]; exact rfl) (by kernel_rfl) (by kernel_rfl) (by kernel_rfl) (by kernel_rfl) (by exact fun _ _ _ h => h) (yieldsIf_load_mid (by rfl) 28 (.tmp 5) rfl g 0 rfl (bys RK) _ (fun v h => (LwS.k h).whole) Try.underlying28 rfl (by rw [bys_length, hRK]; kernel_rfl)) hS0 ?_
  (try simp only [Act.put]); (try simp only [List.setIfInBounds_toArray]); (repeat (first | simp only [List.set_cons_succ] | simp only [List.set_cons_zero]))
  refine wpTo_take (i := 1) (show _ = some _ by simp only [List.getElem?_toArray, List.getElem?_cons_succ, List.getElem?_cons_zero]; exact rfl) (by kernel_rfl) (by kernel_rfl) (by kernel_rfl) (by kernel_rfl) (by exact fun _ _ _ h => h) (yieldsIf_load_mid (by rfl) 28 (.tmp 5) rfl g 0 rfl (bys RK) _ (fun v h => (LwS.k h).whole) Try.underlying28 rfl (by rw [bys_length, hRK]; kernel_rfl)) hS0 ?_
  (try simp only [Act.put]); (try simp only [List.setIfInBounds_toArray]); (repeat (first | simp only [List.set_cons_succ] | simp only [List.set_cons_zero]))
  refine wpTo_take (i := 2) (show _ = some _ by simp only [List.getElem?_toArray, List.getElem?_cons_succ, List.getElem?_cons_zero]; exact rfl) (by kernel_rfl) (by kernel_rfl) (by kernel_rfl) (by kernel_rfl) (by exact fun _ _ _ h => h) (yieldsIf_load_mid (by rfl) 23 (.tmp 3) rfl (w.heap.size + 1) 0 rfl (bys bs) _ (fun v h => (LwS.b h).whole) Try.underlying23 rfl (by rw [bys_length, hb]; kernel_rfl)) hS0 ?_
  (try simp only [Act.put]); (try simp only [List.setIfInBounds_toArray]); (repeat (first | simp only [List.set_cons_succ] | simp only [List.set_cons_zero]))
  refine wpTo_take (i := 5) (show _ = some _ by simp only [List.getElem?_toArray, List.getElem?_cons_succ, List.getElem?_cons_zero]; exact rfl) (by kernel_rfl) (by kernel_rfl) (by kernel_rfl) (by kernel_rfl) (by exact fun _ _ _ h => h) (yieldsIf_load_mid (by rfl) 23 (.tmp 3) rfl (w.heap.size + 1) 0 rfl (bys bs) _ (fun v h => (LwS.b h).whole) Try.underlying23 rfl (by rw [bys_length, hb]; kernel_rfl)) hS0 ?_
  (try simp only [Act.put]); (try simp only [List.setIfInBounds_toArray]); (repeat (first | simp only [List.set_cons_succ] | simp only [List.set_cons_zero]))
  refine wpTo_one (i := 3) (by kernel_rfl) (show _ = some _ by simp only [List.getElem?_toArray, List.getElem?_cons_succ, List.getElem?_cons_zero]; exact rfl) (fun K hK => ?_)
  go_simp
  go_at_call 10; refine (h10a _).mono ?_; rintro e v1 ⟨rfl, k1⟩
  (try simp only [])
  refine hK.out _ _ (LwS.call hS0 k1) (fun hS1 => ?_)
  clear hK K
  (try simp only [Act.put]); (try simp only [List.setIfInBounds_toArray]); (repeat (first | simp only [List.set_cons_succ] | simp only [List.set_cons_zero]))
  refine wpTo_one (i := 4) (by kernel_rfl) (show _ = some _ by simp only [List.getElem?_toArray, List.getElem?_cons_succ, List.getElem?_cons_zero]; exact rfl) (fun K hK => ?_)
  go_simp
  go_at_call 12; refine (h12a _).mono ?_; rintro e v2 ⟨rfl, k2⟩
  (try simp only [])
  refine hK.out _ _ (LwS.call hS1 k2) (fun hS2 => ?_)
  clear hK K
  (try simp only [Act.put]); (try simp only [List.setIfInBounds_toArray]); (repeat (first | simp only [List.set_cons_succ] | simp only [List.set_cons_zero]))
  refine wpTo_take (i := 6) (v := ?v6) (show _ = some _ by simp only [List.getElem?_toArray, List.getElem?_cons_succ, List.getElem?_cons_zero]; exact rfl) (by kernel_rfl) (by kernel_rfl) (by kernel_rfl) (by kernel_rfl) (by exact fun _ _ _ h => h) (Or.inl ⟨by rfl, ?hy6⟩) hS2 ?r6
  case hy6 => (intro w hSw; (try dsimp only at hSw); go_simp; try with_reducible rfl)
  (try simp only [Act.put]); (try simp only [List.setIfInBounds_toArray]); (repeat (first | simp only [List.set_cons_succ] | simp only [List.set_cons_zero]))
  refine wpTo_take (i := 7) (v := ?v7) (show _ = some _ by simp only [List.getElem?_toArray, List.getElem?_cons_succ, List.getElem?_cons_zero]; exact rfl) (by kernel_rfl) (by kernel_rfl) (by kernel_rfl) (by kernel_rfl) (by exact fun _ _ _ h => h) (Or.inl ⟨by rfl, ?hy7⟩) hS2 ?r7
  case hy7 => (intro w hSw; (try dsimp only at hSw); go_simp; try with_reducible rfl)
  (try simp only [Act.put]); (try simp only [List.setIfInBounds_toArray]); (repeat (first | simp only [List.set_cons_succ] | simp only [List.set_cons_zero]))
  refine wpTo_take (i := 8) (show _ = some _ by simp only [List.getElem?_toArray, List.getElem?_cons_succ, List.getElem?_cons_zero]; exact rfl) (by kernel_rfl) (by kernel_rfl) (by kernel_rfl) (by kernel_rfl) (by exact fun _ _ _ h => h) (yieldsIf_load_mid (by rfl) 28 (.tmp 5) rfl g 0 rfl (bys RK) _ (fun v h => (LwS.k h).whole) Try.underlying28 rfl (by rw [bys_length, hRK]; kernel_rfl)) hS2 ?_
  (try simp only [Act.put]); (try simp only [List.setIfInBounds_toArray]); (repeat (first | simp only [List.set_cons_succ] | simp only [List.set_cons_zero]))
  refine wpTo_take (i := 9) (show _ = some _ by simp only [List.getElem?_toArray, List.getElem?_cons_succ, List.getElem?_cons_zero]; exact rfl) (by kernel_rfl) (by kernel_rfl) (by kernel_rfl) (by kernel_rfl) (by exact fun _ _ _ h => h) (yieldsIf_load_mid (by rfl) 28 (.tmp 5) rfl g 0 rfl (bys RK) _ (fun v h => (LwS.k h).whole) Try.underlying28 rfl (by rw [bys_length, hRK]; kernel_rfl)) hS2 ?_
  (try simp only [Act.put]); (try simp only [List.setIfInBounds_toArray]); (repeat (first | simp only [List.set_cons_succ] | simp only [List.set_cons_zero]))
  refine wpTo_take (i := 10) (show _ = some _ by simp only [List.getElem?_toArray, List.getElem?_cons_succ, List.getElem?_cons_zero]; exact rfl) (by kernel_rfl) (by kernel_rfl) (by kernel_rfl) (by kernel_rfl) (by exact fun _ _ _ h => h) (yieldsIf_load_mid (by rfl) 23 (.tmp 3) rfl (w.heap.size + 1) 0 rfl (bys bs) _ (fun v h => (LwS.b h).whole) Try.underlying23 rfl (by rw [bys_length, hb]; kernel_rfl)) hS2 ?_
  (try simp only [Act.put]); (try simp only [List.setIfInBounds_toArray]); (repeat (first | simp only [List.set_cons_succ] | simp only [List.set_cons_zero]))
  refine wpTo_take (i := 13) (show _ = some _ by simp only [List.getElem?_toArray, List.getElem?_cons_succ, List.getElem?_cons_zero]; exact rfl) (by kernel_rfl) (by kernel_rfl) (by kernel_rfl) (by kernel_rfl) (by exact fun _ _ _ h => h) (yieldsIf_load_mid (by rfl) 23 (.tmp 3) rfl (w.heap.size + 1) 0 rfl (bys bs) _ (fun v h => (LwS.b h).whole) Try.underlying23 rfl (by rw [bys_length, hb]; kernel_rfl)) hS2 ?_
  (try simp only [Act.put]); (try simp only [List.setIfInBounds_toArray]); (repeat (first | simp only [List.set_cons_succ] | simp only [List.set_cons_zero]))
  refine wpTo_one (i := 11) (by kernel_rfl) (show _ = some _ by simp only [List.getElem?_toArray, List.getElem?_cons_succ, List.getElem?_cons_zero]; exact rfl) (fun K hK => ?_)
  go_simp
  go_at_call 12; refine (h12b _).mono ?_; rintro e v3 ⟨rfl, k3⟩
  (try simp only [])
  refine hK.out _ _ (LwS.call hS2 k3) (fun hS3 => ?_)
  clear hK K
  (try simp only [Act.put]); (try simp only [List.setIfInBounds_toArray]); (repeat (first | simp only [List.set_cons_succ] | simp only [List.set_cons_zero]))
  refine wpTo_one (i := 12) (by kernel_rfl) (show _ = some _ by simp only [List.getElem?_toArray, List.getElem?_cons_succ, List.getElem?_cons_zero]; exact rfl) (fun K hK => ?_)
  go_simp
  go_at_call 10; refine (h10b _).mono ?_; rintro e v4 ⟨rfl, k4⟩
  (try simp only [])
  refine hK.out _ _ (LwS.call hS3 k4) (fun hS4 => ?_)
  clear hK K
  (try simp only [Act.put]); (try simp only [List.setIfInBounds_toArray]); (repeat (first | simp only [List.set_cons_succ] | simp only [List.set_cons_zero]))
  refine wpTo_take (i := 14) (v := ?v14) (show _ = some _ by simp only [List.getElem?_toArray, List.getElem?_cons_succ, List.getElem?_cons_zero]; exact rfl) (by kernel_rfl) (by kernel_rfl) (by kernel_rfl) (by kernel_rfl) (by exact fun _ _ _ h => h) (Or.inl ⟨by rfl, ?hy14⟩) hS4 ?r14
  case hy14 => (intro w hSw; (try dsimp only at hSw); go_simp; try with_reducible rfl)
  (try simp only [Act.put]); (try simp only [List.setIfInBounds_toArray]); (repeat (first | simp only [List.set_cons_succ] | simp only [List.set_cons_zero]))
  refine wpTo_take (i := 15) (v := ?v15) (show _ = some _ by simp only [List.getElem?_toArray, List.getElem?_cons_succ, List.getElem?_cons_zero]; exact rfl) (by kernel_rfl) (by kernel_rfl) (by kernel_rfl) (by kernel_rfl) (by exact fun _ _ _ h => h) (Or.inl ⟨by rfl, ?hy15⟩) hS4 ?r15
  case hy15 => (intro w hSw; (try dsimp only at hSw); go_simp; try with_reducible rfl)
  (try simp only [Act.put]); (try simp only [List.setIfInBounds_toArray]); (repeat (first | simp only [List.set_cons_succ] | simp only [List.set_cons_zero]))
  refine wpTo_take (i := 16) (v := ?v16) (show _ = some _ by simp only [List.getElem?_toArray, List.getElem?_cons_succ, List.getElem?_cons_zero]; exact rfl) (by kernel_rfl) (by kernel_rfl) (by kernel_rfl) (by kernel_rfl) (by exact fun _ _ _ h => h) (Or.inl ⟨by rfl, ?hy16⟩) hS4 ?r16
  case hy16 => (intro w hSw; (try dsimp only at hSw); go_simp; try with_reducible rfl)
  (try simp only [Act.put]); (try simp only [List.setIfInBounds_toArray]); (repeat (first | simp only [List.set_cons_succ] | simp only [List.set_cons_zero]))
  refine wpTo_one (i := 17) (by kernel_rfl) (show _ = some _ by simp only [List.getElem?_toArray, List.getElem?_cons_succ, List.getElem?_cons_zero]; exact rfl) (fun K hK => ?_)
  go_simp
  go_at_call 14; refine (works_any _).mono ?_; rintro e v5 ⟨rfl, k5⟩
  (try simp only [])
  refine hK.out _ _ (LwS.call hS4 k5) (fun hS5 => ?_)
  clear hK K
  (try simp only [Act.put]); (try simp only [List.setIfInBounds_toArray]); (repeat (first | simp only [List.set_cons_succ] | simp only [List.set_cons_zero]))
  refine wpTo_take (i := 18) (v := ?v18) (show _ = some _ by simp only [List.getElem?_toArray, List.getElem?_cons_succ, List.getElem?_cons_zero]; exact rfl) (by kernel_rfl) (by kernel_rfl) (by kernel_rfl) (by kernel_rfl) (by exact fun _ _ _ h => h) (Or.inl ⟨by rfl, ?hy18⟩) hS5 ?r18
  case hy18 => (intro w hSw; (try dsimp only at hSw); go_simp; try with_reducible rfl)
  (try simp only [Act.put]); (try simp only [List.setIfInBounds_toArray]); (repeat (first | simp only [List.set_cons_succ] | simp only [List.set_cons_zero]))
  refine wpTo_take (i := 19) (v := ?v19) (show _ = some _ by simp only [List.getElem?_toArray, List.getElem?_cons_succ, List.getElem?_cons_zero]; exact rfl) (by kernel_rfl) (by kernel_rfl) (by kernel_rfl) (by kernel_rfl) (by exact fun _ _ _ h => h) (Or.inl ⟨by rfl, ?hy19⟩) hS5 ?r19
  case hy19 => (intro w hSw; (try dsimp only at hSw); go_simp; try with_reducible rfl)
  (try simp only [Act.put]); (try simp only [List.setIfInBounds_toArray]); (repeat (first | simp only [List.set_cons_succ] | simp only [List.set_cons_zero]))
  refine wpTo_done (by kernel_rfl) ?_
  go_wp2
  go_ret
  exact ⟨rfl, hS5.below⟩
end Go.Proofs.Ytkiljjlklelbbaa
