/- AesUnlike: two blocks come to the same one just if they are the same, either way, under every key. -/
import Derived.Test.YtkiljjlklelbbaaWorks
namespace Go.Proofs.Ytkiljjlklelbbaa
open Go.RowKit

/-- What lies there while the statement is asked: two blocks, the key made ready. -/
structure LuS (w v : World) (g : Nat) (xs bs RK : List B) : Prop where
  a : Blk v (w.heap.size + 1) 23 (bys xs)
  b : Blk v (w.heap.size + 1 + 1) 23 (bys bs)
  k : Blk v g 28 (bys RK)
  below : Below w.heap.size w v
section
variable {w v v' : World} {g : Nat} {xs bs RK : List B}
theorem LuS.drew (h : LuS w v g xs bs RK) : LuS w v.drew g xs bs RK := ⟨h.a, h.b, h.k, h.below.drew⟩
theorem LuS.call (h : LuS w v g xs bs RK) (hb : Below v.heap.size v v') : LuS w v' g xs bs RK := ⟨h.a.next hb, h.b.next hb, h.k.next hb, h.below.trans (hb.mono h.below.size)⟩
end

/-- Like blocks come to like ones, unlike ones to unlike ones. -/
theorem enc_same (RK xs bs : List B) (hRK : RK.length = 240) (ha : xs.length = 16) (hb : bs.length = 16) : decide (enc RK xs 14 = enc RK bs 14) = decide (xs = bs) := by
  refine decide_eq_decide.2 ⟨fun h => ?_, fun h => by rw [h]⟩
  have h1 := dec_of_enc RK xs hRK ha 14 (by omega)
  rw [h, dec_of_enc RK bs hRK hb 14 (by omega)] at h1
  exact h1.symm
theorem dec_same (RK xs bs : List B) (hRK : RK.length = 240) (ha : xs.length = 16) (hb : bs.length = 16) : decide (dec RK 14 xs = dec RK 14 bs) = decide (xs = bs) := by
  refine decide_eq_decide.2 ⟨fun h => ?_, fun h => by rw [h]⟩
  have h1 := enc_of_dec RK hRK 14 (by omega) xs ha
  rw [h, enc_of_dec RK hRK 14 (by omega) bs hb] at h1
  exact h1.symm

set_option maxHeartbeats 2000000 in
set_option maxRecDepth 100000 in
theorem unlike_walk (key xs bs : List B) (hk : key.length = 32) (ha : xs.length = 16) (hb : bs.length = 16) (w : World) :
    Calls Try.prog 5 #[.agg (bys key).toArray, .agg (bys xs).toArray, .agg (bys bs).toArray] w fun e w' => e = .returned (.bool true) ∧ Below w.heap.size w w' := by
  obtain ⟨Z8, hZ8, z28⟩ := zeroed28
  have hRK := ready_length key hk
  have h8 := fun W => expand_any key hk W
  obtain ⟨RK, eRK⟩ : ∃ R, R = ready key := ⟨_, rfl⟩
  rw [← eRK] at hRK h8
  clear eRK
  have hC := enc_length RK xs hRK ha 14 (by omega)
  have hC2 := enc_length RK bs hRK hb 14 (by omega)
  have hD := dec_length RK hRK 14 (by omega) xs ha
  have hD2 := dec_length RK hRK 14 (by omega) bs hb
  have h10a := fun W => block_any RK xs hRK ha W
  have h10b := fun W => block_any RK bs hRK hb W
  have h12a := fun W => back_any RK xs hRK ha W
  have h12b := fun W => back_any RK bs hRK hb W
  have hq0 := eq23 xs bs ha hb
  have hq1 := eq23 _ _ hC hC2
  have hq2 := eq23 _ _ hD hD2
  rw [enc_same RK xs bs hRK ha hb] at hq1
  rw [dec_same RK xs bs hRK ha hb] at hq2
  obtain ⟨t, et⟩ : ∃ t, t = decide (xs = bs) := ⟨_, rfl⟩
  rw [← et] at hq0 hq1 hq2
  clear et
  obtain ⟨C, eC⟩ : ∃ C, C = enc RK xs 14 := ⟨_, rfl⟩
  obtain ⟨C2, eC2⟩ : ∃ C, C = enc RK bs 14 := ⟨_, rfl⟩
  obtain ⟨D, eD⟩ : ∃ D, D = dec RK 14 xs := ⟨_, rfl⟩
  obtain ⟨D2, eD2⟩ : ∃ D, D = dec RK 14 bs := ⟨_, rfl⟩
  rw [← eC] at hC h10a hq1
  rw [← eC2] at hC2 h10b hq1
  rw [← eD] at hD h12a hq2
  rw [← eD2] at hD2 h12b hq2
  clear eC eC2 eD eD2
  have hgd := guard23
  have hB0 : Blk (((w.alloc (.cells (bys key).toArray 22)).alloc (.cells (bys xs).toArray 23)).alloc (.cells (bys bs).toArray 23)) w.heap.size 22 (bys key) := ((Blk.new w 22 (bys key)).alloc _).alloc _
  have hB1 : Blk (((w.alloc (.cells (bys key).toArray 22)).alloc (.cells (bys xs).toArray 23)).alloc (.cells (bys bs).toArray 23)) (w.heap.size + 1) 23 (bys xs) := by
    have h := (Blk.new (w.alloc (.cells (bys key).toArray 22)) 23 (bys xs)).alloc (.cells (bys bs).toArray 23)
    rwa [World.size_alloc] at h
  have hB2 : Blk (((w.alloc (.cells (bys key).toArray 22)).alloc (.cells (bys xs).toArray 23)).alloc (.cells (bys bs).toArray 23)) (w.heap.size + 1 + 1) 23 (bys bs) := by
    have h := Blk.new ((w.alloc (.cells (bys key).toArray 22)).alloc (.cells (bys xs).toArray 23)) 23 (bys bs)
    rwa [World.size_alloc, World.size_alloc] at h
  have hbB : Below w.heap.size w (((w.alloc (.cells (bys key).toArray 22)).alloc (.cells (bys xs).toArray 23)).alloc (.cells (bys bs).toArray 23)) := (((Below.refl _ w).alloc (Nat.le_refl _) _).alloc (by simp) _).alloc (by simp; omega) _
  go_enter Try.func5, Try.ntmps5
  go_wp2_with (first
    | (refine law_load rfl 22 _ rfl _ rfl 22 _ hB0 _ Try.underlying22 rfl (by rw [bys_length, hk]; kernel_rfl) ?_)
    | (go_at_call 8; refine (h8 _).mono ?_; rintro e w1 ⟨rfl, k1⟩)
    | (refine law_store rfl 28 _ _ rfl _ (bys RK) rfl rfl 28 _ (Blk.new w1 28 (bys Z8)) (by rw [bys_length, bys_length, hRK, hZ8]) (by rw [bys_length, hRK]; kernel_rfl) (bys_one _) ?_; intro w2 ho2 hK2))
  have hb1 := hB1.next k1
  have hb2 := hB2.next k1
  have hlt := hb2.lt
  have m1 : Below w.heap.size w w1 := hbB.trans (k1.mono hbB.size)
  have hSS : LuS w w2 w1.heap.size xs bs RK := ⟨(hb1.alloc _).on ho2 (by omega), (hb2.alloc _).on ho2 (by omega), hK2, ho2.below (m1.alloc m1.size _) m1.size⟩
  obtain ⟨g, eg⟩ : ∃ g, g = w1.heap.size := ⟨_, rfl⟩
  rw [← eg] at hSS ⊢
  clear hB0 hB1 hB2 hbB k1 hb1 hb2 hlt m1 ho2 hK2 eg h8 z28
  (try simp only [Act.put])
  refine wp_region_to (fun v => LuS w v g xs bs RK) 99 (by kernel_rfl) ?_
  have hS0 := hSS.drew
  refine wpTo_take (i := 0) (show _ = some _ by simp only [List.getElem?_toArray, List.getElem?_cons_zero]; exact rfl) (by kernel_rfl) (by kernel_rfl) (by kernel_rfl) (by kernel_rfl) (by exact fun _ _ _ h => h) (yieldsIf_load_mid (by rfl) 28 (.tmp 7) rfl g 0 rfl (bys RK) _ (fun v h => (LuS.k h).whole) Try.underlying28 rfl (by rw [bys_length, hRK]; kernel_rfl)) hS0 ?_
  (try simp only [Act.put]); (try simp only [List.setIfInBounds_toArray]); (repeat (first | simp only [List.set_cons_succ] | simp only [List.set_cons_zero]))
  refine wpTo_take (i := 1) (show _ = some _ by simp only [List.getElem?_toArray, List.getElem?_cons_succ, List.getElem?_cons_zero]; exact rfl) (by kernel_rfl) (by kernel_rfl) (by kernel_rfl) (by kernel_rfl) (by exact fun _ _ _ h => h) (yieldsIf_load_mid (by rfl) 23 (.tmp 4) rfl (w.heap.size + 1) 0 rfl (bys xs) _ (fun v h => (LuS.a h).whole) Try.underlying23 rfl (by rw [bys_length, ha]; kernel_rfl)) hS0 ?_
  (try simp only [Act.put]); (try simp only [List.setIfInBounds_toArray]); (repeat (first | simp only [List.set_cons_succ] | simp only [List.set_cons_zero]))
  refine wpTo_take (i := 3) (show _ = some _ by simp only [List.getElem?_toArray, List.getElem?_cons_succ, List.getElem?_cons_zero]; exact rfl) (by kernel_rfl) (by kernel_rfl) (by kernel_rfl) (by kernel_rfl) (by exact fun _ _ _ h => h) (yieldsIf_load_mid (by rfl) 28 (.tmp 7) rfl g 0 rfl (bys RK) _ (fun v h => (LuS.k h).whole) Try.underlying28 rfl (by rw [bys_length, hRK]; kernel_rfl)) hS0 ?_
  (try simp only [Act.put]); (try simp only [List.setIfInBounds_toArray]); (repeat (first | simp only [List.set_cons_succ] | simp only [List.set_cons_zero]))
  refine wpTo_take (i := 4) (show _ = some _ by simp only [List.getElem?_toArray, List.getElem?_cons_succ, List.getElem?_cons_zero]; exact rfl) (by kernel_rfl) (by kernel_rfl) (by kernel_rfl) (by kernel_rfl) (by exact fun _ _ _ h => h) (yieldsIf_load_mid (by rfl) 23 (.tmp 5) rfl (w.heap.size + 1 + 1) 0 rfl (bys bs) _ (fun v h => (LuS.b h).whole) Try.underlying23 rfl (by rw [bys_length, hb]; kernel_rfl)) hS0 ?_
  (try simp only [Act.put]); (try simp only [List.setIfInBounds_toArray]); (repeat (first | simp only [List.set_cons_succ] | simp only [List.set_cons_zero]))
  refine wpTo_take (i := 7) (show _ = some _ by simp only [List.getElem?_toArray, List.getElem?_cons_succ, List.getElem?_cons_zero]; exact rfl) (by kernel_rfl) (by kernel_rfl) (by kernel_rfl) (by kernel_rfl) (by exact fun _ _ _ h => h) (yieldsIf_load_mid (by rfl) 23 (.tmp 4) rfl (w.heap.size + 1) 0 rfl (bys xs) _ (fun v h => (LuS.a h).whole) Try.underlying23 rfl (by rw [bys_length, ha]; kernel_rfl)) hS0 ?_
  (try simp only [Act.put]); (try simp only [List.setIfInBounds_toArray]); (repeat (first | simp only [List.set_cons_succ] | simp only [List.set_cons_zero]))
  refine wpTo_take (i := 8) (show _ = some _ by simp only [List.getElem?_toArray, List.getElem?_cons_succ, List.getElem?_cons_zero]; exact rfl) (by kernel_rfl) (by kernel_rfl) (by kernel_rfl) (by kernel_rfl) (by exact fun _ _ _ h => h) (yieldsIf_load_mid (by rfl) 23 (.tmp 5) rfl (w.heap.size + 1 + 1) 0 rfl (bys bs) _ (fun v h => (LuS.b h).whole) Try.underlying23 rfl (by rw [bys_length, hb]; kernel_rfl)) hS0 ?_
  (try simp only [Act.put]); (try simp only [List.setIfInBounds_toArray]); (repeat (first | simp only [List.set_cons_succ] | simp only [List.set_cons_zero]))
  refine wpTo_take (i := 9) (v := ?v9) (show _ = some _ by simp only [List.getElem?_toArray, List.getElem?_cons_succ, List.getElem?_cons_zero]; exact rfl) (by kernel_rfl) (by kernel_rfl) (by kernel_rfl) (by kernel_rfl) (by exact fun _ _ _ h => h) (Or.inl ⟨by rfl, ?hy9⟩) hS0 ?r9
  case hy9 => (intro w hSw; (try dsimp only at hSw); go_simp; try with_reducible rfl)
  (try simp only [Act.put]); (try simp only [List.setIfInBounds_toArray]); (repeat (first | simp only [List.set_cons_succ] | simp only [List.set_cons_zero]))
  refine wpTo_one (i := 2) (by kernel_rfl) (show _ = some _ by simp only [List.getElem?_toArray, List.getElem?_cons_succ, List.getElem?_cons_zero]; exact rfl) (fun K hK => ?_)
  go_simp
  go_at_call 10; refine (h10a _).mono ?_; rintro e v1 ⟨rfl, k1⟩
  (try simp only [])
  refine hK.out _ _ (LuS.call hS0 k1) (fun hS1 => ?_)
  clear hK K
  (try simp only [Act.put]); (try simp only [List.setIfInBounds_toArray]); (repeat (first | simp only [List.set_cons_succ] | simp only [List.set_cons_zero]))
  refine wpTo_one (i := 5) (by kernel_rfl) (show _ = some _ by simp only [List.getElem?_toArray, List.getElem?_cons_succ, List.getElem?_cons_zero]; exact rfl) (fun K hK => ?_)
  go_simp
  go_at_call 10; refine (h10b _).mono ?_; rintro e v2 ⟨rfl, k2⟩
  (try simp only [])
  refine hK.out _ _ (LuS.call hS1 k2) (fun hS2 => ?_)
  clear hK K
  (try simp only [Act.put]); (try simp only [List.setIfInBounds_toArray]); (repeat (first | simp only [List.set_cons_succ] | simp only [List.set_cons_zero]))
  refine wpTo_take (i := 6) (v := ?v6) (show _ = some _ by simp only [List.getElem?_toArray, List.getElem?_cons_succ, List.getElem?_cons_zero]; exact rfl) (by kernel_rfl) (by kernel_rfl) (by kernel_rfl) (by kernel_rfl) (by exact fun _ _ _ h => h) (Or.inl ⟨by rfl, ?hy6⟩) hS2 ?r6
  case hy6 => (intro w hSw; (try dsimp only at hSw); go_simp; try with_reducible rfl)
  (try simp only [Act.put]); (try simp only [List.setIfInBounds_toArray]); (repeat (first | simp only [List.set_cons_succ] | simp only [List.set_cons_zero]))
  refine wpTo_take (i := 10) (v := ?v10) (show _ = some _ by simp only [List.getElem?_toArray, List.getElem?_cons_succ, List.getElem?_cons_zero]; exact rfl) (by kernel_rfl) (by kernel_rfl) (by kernel_rfl) (by kernel_rfl) (by exact fun _ _ _ h => h) (Or.inl ⟨by rfl, ?hy10⟩) hS2 ?r10
  case hy10 => (intro w hSw; (try dsimp only at hSw); go_simp; try with_reducible rfl)
  (try simp only [Act.put]); (try simp only [List.setIfInBounds_toArray]); (repeat (first | simp only [List.set_cons_succ] | simp only [List.set_cons_zero]))
  refine wpTo_take (i := 11) (v := ?v11) (show _ = some _ by simp only [List.getElem?_toArray, List.getElem?_cons_succ, List.getElem?_cons_zero]; exact rfl) (by kernel_rfl) (by kernel_rfl) (by kernel_rfl) (by kernel_rfl) (by exact fun _ _ _ h => h) (Or.inl ⟨by rfl, ?hy11⟩) hS2 ?r11
  case hy11 => (intro w hSw; (try dsimp only at hSw); go_simp; try with_reducible rfl)
  (try simp only [Act.put]); (try simp only [List.setIfInBounds_toArray]); (repeat (first | simp only [List.set_cons_succ] | simp only [List.set_cons_zero]))
  refine wpTo_take (i := 12) (show _ = some _ by simp only [List.getElem?_toArray, List.getElem?_cons_succ, List.getElem?_cons_zero]; exact rfl) (by kernel_rfl) (by kernel_rfl) (by kernel_rfl) (by kernel_rfl) (by exact fun _ _ _ h => h) (yieldsIf_load_mid (by rfl) 28 (.tmp 7) rfl g 0 rfl (bys RK) _ (fun v h => (LuS.k h).whole) Try.underlying28 rfl (by rw [bys_length, hRK]; kernel_rfl)) hS2 ?_
  (try simp only [Act.put]); (try simp only [List.setIfInBounds_toArray]); (repeat (first | simp only [List.set_cons_succ] | simp only [List.set_cons_zero]))
  refine wpTo_take (i := 13) (show _ = some _ by simp only [List.getElem?_toArray, List.getElem?_cons_succ, List.getElem?_cons_zero]; exact rfl) (by kernel_rfl) (by kernel_rfl) (by kernel_rfl) (by kernel_rfl) (by exact fun _ _ _ h => h) (yieldsIf_load_mid (by rfl) 23 (.tmp 4) rfl (w.heap.size + 1) 0 rfl (bys xs) _ (fun v h => (LuS.a h).whole) Try.underlying23 rfl (by rw [bys_length, ha]; kernel_rfl)) hS2 ?_
  (try simp only [Act.put]); (try simp only [List.setIfInBounds_toArray]); (repeat (first | simp only [List.set_cons_succ] | simp only [List.set_cons_zero]))
  refine wpTo_take (i := 15) (show _ = some _ by simp only [List.getElem?_toArray, List.getElem?_cons_succ, List.getElem?_cons_zero]; exact rfl) (by kernel_rfl) (by kernel_rfl) (by kernel_rfl) (by kernel_rfl) (by exact fun _ _ _ h => h) (yieldsIf_load_mid (by rfl) 28 (.tmp 7) rfl g 0 rfl (bys RK) _ (fun v h => (LuS.k h).whole) Try.underlying28 rfl (by rw [bys_length, hRK]; kernel_rfl)) hS2 ?_
  (try simp only [Act.put]); (try simp only [List.setIfInBounds_toArray]); (repeat (first | simp only [List.set_cons_succ] | simp only [List.set_cons_zero]))
  refine wpTo_take (i := 16) (show _ = some _ by simp only [List.getElem?_toArray, List.getElem?_cons_succ, List.getElem?_cons_zero]; exact rfl) (by kernel_rfl) (by kernel_rfl) (by kernel_rfl) (by kernel_rfl) (by exact fun _ _ _ h => h) (yieldsIf_load_mid (by rfl) 23 (.tmp 5) rfl (w.heap.size + 1 + 1) 0 rfl (bys bs) _ (fun v h => (LuS.b h).whole) Try.underlying23 rfl (by rw [bys_length, hb]; kernel_rfl)) hS2 ?_
  (try simp only [Act.put]); (try simp only [List.setIfInBounds_toArray]); (repeat (first | simp only [List.set_cons_succ] | simp only [List.set_cons_zero]))
  refine wpTo_take (i := 19) (show _ = some _ by simp only [List.getElem?_toArray, List.getElem?_cons_succ, List.getElem?_cons_zero]; exact rfl) (by kernel_rfl) (by kernel_rfl) (by kernel_rfl) (by kernel_rfl) (by exact fun _ _ _ h => h) (yieldsIf_load_mid (by rfl) 23 (.tmp 4) rfl (w.heap.size + 1) 0 rfl (bys xs) _ (fun v h => (LuS.a h).whole) Try.underlying23 rfl (by rw [bys_length, ha]; kernel_rfl)) hS2 ?_
  (try simp only [Act.put]); (try simp only [List.setIfInBounds_toArray]); (repeat (first | simp only [List.set_cons_succ] | simp only [List.set_cons_zero]))
  refine wpTo_take (i := 20) (show _ = some _ by simp only [List.getElem?_toArray, List.getElem?_cons_succ, List.getElem?_cons_zero]; exact rfl) (by kernel_rfl) (by kernel_rfl) (by kernel_rfl) (by kernel_rfl) (by exact fun _ _ _ h => h) (yieldsIf_load_mid (by rfl) 23 (.tmp 5) rfl (w.heap.size + 1 + 1) 0 rfl (bys bs) _ (fun v h => (LuS.b h).whole) Try.underlying23 rfl (by rw [bys_length, hb]; kernel_rfl)) hS2 ?_
  (try simp only [Act.put]); (try simp only [List.setIfInBounds_toArray]); (repeat (first | simp only [List.set_cons_succ] | simp only [List.set_cons_zero]))
  refine wpTo_take (i := 21) (v := ?v21) (show _ = some _ by simp only [List.getElem?_toArray, List.getElem?_cons_succ, List.getElem?_cons_zero]; exact rfl) (by kernel_rfl) (by kernel_rfl) (by kernel_rfl) (by kernel_rfl) (by exact fun _ _ _ h => h) (Or.inl ⟨by rfl, ?hy21⟩) hS2 ?r21
  case hy21 => (intro w hSw; (try dsimp only at hSw); go_simp; try with_reducible rfl)
  (try simp only [Act.put]); (try simp only [List.setIfInBounds_toArray]); (repeat (first | simp only [List.set_cons_succ] | simp only [List.set_cons_zero]))
  refine wpTo_one (i := 14) (by kernel_rfl) (show _ = some _ by simp only [List.getElem?_toArray, List.getElem?_cons_succ, List.getElem?_cons_zero]; exact rfl) (fun K hK => ?_)
  go_simp
  go_at_call 12; refine (h12a _).mono ?_; rintro e v3 ⟨rfl, k3⟩
  (try simp only [])
  refine hK.out _ _ (LuS.call hS2 k3) (fun hS3 => ?_)
  clear hK K
  (try simp only [Act.put]); (try simp only [List.setIfInBounds_toArray]); (repeat (first | simp only [List.set_cons_succ] | simp only [List.set_cons_zero]))
  refine wpTo_one (i := 17) (by kernel_rfl) (show _ = some _ by simp only [List.getElem?_toArray, List.getElem?_cons_succ, List.getElem?_cons_zero]; exact rfl) (fun K hK => ?_)
  go_simp
  go_at_call 12; refine (h12b _).mono ?_; rintro e v4 ⟨rfl, k4⟩
  (try simp only [])
  refine hK.out _ _ (LuS.call hS3 k4) (fun hS4 => ?_)
  clear hK K
  (try simp only [Act.put]); (try simp only [List.setIfInBounds_toArray]); (repeat (first | simp only [List.set_cons_succ] | simp only [List.set_cons_zero]))
  refine wpTo_take (i := 18) (v := ?v18) (show _ = some _ by simp only [List.getElem?_toArray, List.getElem?_cons_succ, List.getElem?_cons_zero]; exact rfl) (by kernel_rfl) (by kernel_rfl) (by kernel_rfl) (by kernel_rfl) (by exact fun _ _ _ h => h) (Or.inl ⟨by rfl, ?hy18⟩) hS4 ?r18
  case hy18 => (intro w hSw; (try dsimp only at hSw); go_simp; try with_reducible rfl)
  (try simp only [Act.put]); (try simp only [List.setIfInBounds_toArray]); (repeat (first | simp only [List.set_cons_succ] | simp only [List.set_cons_zero]))
  refine wpTo_take (i := 22) (v := ?v22) (show _ = some _ by simp only [List.getElem?_toArray, List.getElem?_cons_succ, List.getElem?_cons_zero]; exact rfl) (by kernel_rfl) (by kernel_rfl) (by kernel_rfl) (by kernel_rfl) (by exact fun _ _ _ h => h) (Or.inl ⟨by rfl, ?hy22⟩) hS4 ?r22
  case hy22 => (intro w hSw; (try dsimp only at hSw); go_simp; try with_reducible rfl)
  (try simp only [Act.put]); (try simp only [List.setIfInBounds_toArray]); (repeat (first | simp only [List.set_cons_succ] | simp only [List.set_cons_zero]))
  refine wpTo_take (i := 23) (v := ?v23) (show _ = some _ by simp only [List.getElem?_toArray, List.getElem?_cons_succ, List.getElem?_cons_zero]; exact rfl) (by kernel_rfl) (by kernel_rfl) (by kernel_rfl) (by kernel_rfl) (by exact fun _ _ _ h => h) (Or.inl ⟨by rfl, ?hy23⟩) hS4 ?r23
  case hy23 => (intro w hSw; (try dsimp only at hSw); go_simp; try with_reducible rfl)
  (try simp only [Act.put]); (try simp only [List.setIfInBounds_toArray]); (repeat (first | simp only [List.set_cons_succ] | simp only [List.set_cons_zero]))
  refine wpTo_take (i := 24) (v := ?v24) (show _ = some _ by simp only [List.getElem?_toArray, List.getElem?_cons_succ, List.getElem?_cons_zero]; exact rfl) (by kernel_rfl) (by kernel_rfl) (by kernel_rfl) (by kernel_rfl) (by exact fun _ _ _ h => h) (Or.inl ⟨by rfl, ?hy24⟩) hS4 ?r24
  case hy24 => (intro w hSw; (try dsimp only at hSw); go_simp; try with_reducible rfl)
  (try simp only [Act.put]); (try simp only [List.setIfInBounds_toArray]); (repeat (first | simp only [List.set_cons_succ] | simp only [List.set_cons_zero]))
  refine wpTo_one (i := 25) (by kernel_rfl) (show _ = some _ by simp only [List.getElem?_toArray, List.getElem?_cons_succ, List.getElem?_cons_zero]; exact rfl) (fun K hK => ?_)
  go_simp
  go_at_call 14; refine (works_any _).mono ?_; rintro e v5 ⟨rfl, k5⟩
  (try simp only [])
  refine hK.out _ _ (LuS.call hS4 k5) (fun hS5 => ?_)
  clear hK K
  (try simp only [Act.put]); (try simp only [List.setIfInBounds_toArray]); (repeat (first | simp only [List.set_cons_succ] | simp only [List.set_cons_zero]))
  refine wpTo_take (i := 26) (v := ?v26) (show _ = some _ by simp only [List.getElem?_toArray, List.getElem?_cons_succ, List.getElem?_cons_zero]; exact rfl) (by kernel_rfl) (by kernel_rfl) (by kernel_rfl) (by kernel_rfl) (by exact fun _ _ _ h => h) (Or.inl ⟨by rfl, ?hy26⟩) hS5 ?r26
  case hy26 => (intro w hSw; (try dsimp only at hSw); go_simp; try with_reducible rfl)
  (try simp only [Act.put]); (try simp only [List.setIfInBounds_toArray]); (repeat (first | simp only [List.set_cons_succ] | simp only [List.set_cons_zero]))
  refine wpTo_take (i := 27) (v := ?v27) (show _ = some _ by simp only [List.getElem?_toArray, List.getElem?_cons_succ, List.getElem?_cons_zero]; exact rfl) (by kernel_rfl) (by kernel_rfl) (by kernel_rfl) (by kernel_rfl) (by exact fun _ _ _ h => h) (Or.inl ⟨by rfl, ?hy27⟩) hS5 ?r27
  case hy27 => (intro w hSw; (try dsimp only at hSw); go_simp; try with_reducible rfl)
  (try simp only [Act.put]); (try simp only [List.setIfInBounds_toArray]); (repeat (first | simp only [List.set_cons_succ] | simp only [List.set_cons_zero]))
  refine wpTo_done (by kernel_rfl) ?_
  go_wp2
  go_ret
  exact ⟨rfl, hS5.below⟩

end Go.Proofs.Ytkiljjlklelbbaa
