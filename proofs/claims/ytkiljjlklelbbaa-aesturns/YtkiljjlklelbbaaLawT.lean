/- AesTurns: keys that are asked in turns, and copies of them, tell what each tells alone. -/
import Derived.Test.YtkiljjlklelbbaaWorks
namespace Go.Proofs.Ytkiljjlklelbbaa
open Go.RowKit

/-- What lies there while the statement is asked. -/
structure LtS (w v : World) (g o f s : Nat) (one two bs RK LK C D : List B) : Prop where
  one : Blk v w.heap.size 22 (bys one)
  two : Blk v (w.heap.size + 1) 22 (bys two)
  b : Blk v (w.heap.size + 1 + 1) 23 (bys bs)
  k : Blk v g 28 (bys LK)
  o : Blk v o 28 (bys RK)
  f : Blk v f 23 (bys C)
  s : Blk v s 23 (bys D)
  below : Below w.heap.size w v
section
variable {w v v' : World} {g o f s : Nat} {one two bs RK LK C D : List B}
theorem LtS.drew (h : LtS w v g o f s one two bs RK LK C D) : LtS w v.drew g o f s one two bs RK LK C D := ⟨h.one, h.two, h.b, h.k, h.o, h.f, h.s, h.below.drew⟩
theorem LtS.call (h : LtS w v g o f s one two bs RK LK C D) (hb : Below v.heap.size v v') : LtS w v' g o f s one two bs RK LK C D :=
  ⟨h.one.next hb, h.two.next hb, h.b.next hb, h.k.next hb, h.o.next hb, h.f.next hb, h.s.next hb, h.below.trans (hb.mono h.below.size)⟩
end

/-- A block behind a call, a new block and a store into that. -/
theorem Blk.step {v v1 v2 : World} {b : Nat} {t : TypeId} {vs : List Value} {ob : Obj} (h : Blk v b t vs) (k : Below v.heap.size v v1) (o : On (v1.alloc ob) v2 v1.heap.size) : Blk v2 b t vs := ((h.next k).alloc _).on o (Nat.ne_of_lt (h.next k).lt)
theorem Blk.made {v v2 : World} {b : Nat} {t : TypeId} {vs : List Value} {ob : Obj} (h : Blk v b t vs) (o : On (v.alloc ob) v2 v.heap.size) : Blk v2 b t vs := (h.alloc _).on o (Nat.ne_of_lt h.lt)
theorem below_step {n : Nat} {w v v1 v2 : World} {ob : Obj} (h : Below n w v) (hn : n ≤ v.heap.size) (k : Below v.heap.size v v1) (o : On (v1.alloc ob) v2 v1.heap.size) : Below n w v2 :=
  have m := h.trans (k.mono hn)
  o.below (m.alloc (Nat.le_trans hn k.size) _) (Nat.le_trans hn k.size)

set_option maxHeartbeats 2000000 in
set_option maxRecDepth 100000 in
theorem turns_walk (one two bs : List B) (h1 : one.length = 32) (h2 : two.length = 32) (hb : bs.length = 16) (w : World) :
    Calls Try.prog 6 #[.agg (bys one).toArray, .agg (bys two).toArray, .agg (bys bs).toArray] w fun e w' => e = .returned (.bool true) ∧ Below w.heap.size w w' := by
  obtain ⟨Z8, hZ8, z28⟩ := zeroed28
  obtain ⟨Z3, hZ3, z23, -⟩ := zeroed23
  have hRK := ready_length one h1
  have hLK := ready_length two h2
  have h8a := fun W => expand_any one h1 W
  have h8b := fun W => expand_any two h2 W
  obtain ⟨RK, eRK⟩ : ∃ R, R = ready one := ⟨_, rfl⟩
  obtain ⟨LK, eLK⟩ : ∃ R, R = ready two := ⟨_, rfl⟩
  rw [← eRK] at hRK h8a
  rw [← eLK] at hLK h8b
  clear eRK eLK
  have hC := enc_length RK bs hRK hb 14 (by omega)
  have h10a := fun W => block_any RK bs hRK hb W
  have h12a := fun W => back_any RK _ hRK hC W
  rw [dec_of_enc RK bs hRK hb 14 (by omega)] at h12a
  obtain ⟨C, eC⟩ : ∃ C, C = enc RK bs 14 := ⟨_, rfl⟩
  rw [← eC] at hC h10a h12a
  clear eC
  have hD := enc_length LK C hLK hC 14 (by omega)
  have h10b := fun W => block_any LK C hLK hC W
  have h12b := fun W => back_any LK _ hLK hD W
  rw [dec_of_enc LK C hLK hC 14 (by omega)] at h12b
  obtain ⟨D, eD⟩ : ∃ D, D = enc LK C 14 := ⟨_, rfl⟩
  rw [← eD] at hD h10b h12b
  clear eD
  have hq0 := eq23 bs bs hb hb
  have hq1 := eq23 C C hC hC
  have hq2 := eq23 D D hD hD
  rw [decide_eq_true rfl] at hq0 hq1 hq2
  have hgd := guard23
  have hB0 : Blk (((w.alloc (.cells (bys one).toArray 22)).alloc (.cells (bys two).toArray 22)).alloc (.cells (bys bs).toArray 23)) w.heap.size 22 (bys one) := ((Blk.new w 22 (bys one)).alloc _).alloc _
  have hB1 : Blk (((w.alloc (.cells (bys one).toArray 22)).alloc (.cells (bys two).toArray 22)).alloc (.cells (bys bs).toArray 23)) (w.heap.size + 1) 22 (bys two) := by
    have h := (Blk.new (w.alloc (.cells (bys one).toArray 22)) 22 (bys two)).alloc (.cells (bys bs).toArray 23)
    rwa [World.size_alloc] at h
  have hB2 : Blk (((w.alloc (.cells (bys one).toArray 22)).alloc (.cells (bys two).toArray 22)).alloc (.cells (bys bs).toArray 23)) (w.heap.size + 1 + 1) 23 (bys bs) := by
    have h := Blk.new ((w.alloc (.cells (bys one).toArray 22)).alloc (.cells (bys two).toArray 22)) 23 (bys bs)
    rwa [World.size_alloc, World.size_alloc] at h
  have hbB : Below w.heap.size w (((w.alloc (.cells (bys one).toArray 22)).alloc (.cells (bys two).toArray 22)).alloc (.cells (bys bs).toArray 23)) := (((Below.refl _ w).alloc (Nat.le_refl _) _).alloc (by simp) _).alloc (by simp; omega) _
  go_enter Try.func6, Try.ntmps6
  go_wp2_with (first
    | (refine law_load rfl 22 (.tmp 3) rfl _ rfl 22 _ hB0 _ Try.underlying22 rfl (by rw [bys_length, h1]; kernel_rfl) ?_)
    | (go_at_call 8; refine (h8a _).mono ?_; rintro e w1 ⟨rfl, k1⟩; have h8a' := h8a; clear h8a)
    | (refine law_store rfl 28 (.tmp 7) _ rfl _ (bys RK) rfl rfl 28 _ (Blk.new w1 28 (bys Z8)) (by rw [bys_length, bys_length, hRK, hZ8]) (by rw [bys_length, hRK]; kernel_rfl) (bys_one _) ?_
       intro w2 ho2 hK2
       have one2 := hB0.step k1 ho2
       have two2 := hB1.step k1 ho2
       have bb2 := hB2.step k1 ho2
       have m2 := below_step hbB hbB.size k1 ho2
       have n1 : w.heap.size + 1 + 1 < w1.heap.size := (hB2.next k1).lt
       clear hB0 hB1 hB2 hbB k1 ho2)
    | (refine law_load rfl 28 (.tmp 7) rfl _ rfl 28 _ hK2 _ Try.underlying28 rfl (by rw [bys_length, hRK]; kernel_rfl) ?_)
    | (refine law_load rfl 23 (.tmp 5) rfl _ rfl 23 _ bb2 _ Try.underlying23 rfl (by rw [bys_length, hb]; kernel_rfl) ?_)
    | (go_at_call 10; refine (h10a _).mono ?_; rintro e w3 ⟨rfl, k3⟩; have h10a' := h10a; clear h10a)
    | (refine law_store rfl 23 (.tmp 8) _ rfl _ (bys C) rfl rfl 23 _ (Blk.new w3 23 (bys Z3)) (by rw [bys_length, bys_length, hC, hZ3]) (by rw [bys_length, hC]; kernel_rfl) (bys_one _) ?_
       intro w4 ho4 hC4
       have one4 := one2.step k3 ho4
       have two4 := two2.step k3 ho4
       have bb4 := bb2.step k3 ho4
       have hK4 := hK2.step k3 ho4
       have m4 := below_step m2 m2.size k3 ho4
       have n3 : w1.heap.size < w3.heap.size := (hK2.next k3).lt
       clear one2 two2 bb2 hK2 m2 k3 ho4)
    | (refine law_load rfl 28 (.tmp 7) rfl _ rfl 28 _ hK4 _ Try.underlying28 rfl (by rw [bys_length, hRK]; kernel_rfl) ?_)
    | (refine law_store rfl 28 (.tmp 9) _ rfl _ (bys RK) rfl rfl 28 _ (Blk.new w4 28 (bys Z8)) (by rw [bys_length, bys_length, hRK, hZ8]) (by rw [bys_length, hRK]; kernel_rfl) (bys_one _) ?_
       intro w5 ho5 hO5
       have one5 := one4.made ho5
       have two5 := two4.made ho5
       have bb5 := bb4.made ho5
       have hK5 := hK4.made ho5
       have hC5 := hC4.made ho5
       have n4 : w1.heap.size < w4.heap.size := hK4.lt
       have m5 := below_step m4 m4.size (Below.refl _ w4) ho5
       clear one4 two4 bb4 hK4 hC4 m4 ho5)
    | (refine law_load rfl 22 (.tmp 4) rfl _ rfl 22 _ two5 _ Try.underlying22 rfl (by rw [bys_length, h2]; kernel_rfl) ?_)
    | (go_at_call 8; refine (h8b _).mono ?_; rintro e w6 ⟨rfl, k6⟩; have h8b' := h8b; clear h8b)
    | (refine law_store rfl 28 (.tmp 10) _ rfl _ (bys LK) rfl rfl 28 _ (Blk.new w6 28 (bys Z8)) (by rw [bys_length, bys_length, hLK, hZ8]) (by rw [bys_length, hLK]; kernel_rfl) (bys_one _) ?_
       intro w7 ho7 hL7
       have one7 := one5.step k6 ho7
       have two7 := two5.step k6 ho7
       have bb7 := bb5.step k6 ho7
       have hK7 := hK5.step k6 ho7
       have hC7 := hC5.step k6 ho7
       have hO7 := hO5.step k6 ho7
       have m7 := below_step m5 m5.size k6 ho7
       clear one5 two5 bb5 hK5 hC5 hO5 m5 k6 ho7)
    | (refine law_load rfl 28 (.tmp 10) rfl _ rfl 28 _ hL7 _ Try.underlying28 rfl (by rw [bys_length, hLK]; kernel_rfl) ?_)
    | (refine law_load rfl 23 (.tmp 8) rfl _ rfl 23 _ hC7 _ Try.underlying23 rfl (by rw [bys_length, hC]; kernel_rfl) ?_)
    | (go_at_call 10; refine (h10b _).mono ?_; rintro e w8 ⟨rfl, k8⟩; have h10b' := h10b; clear h10b)
    | (refine law_store rfl 23 (.tmp 11) _ rfl _ (bys D) rfl rfl 23 _ (Blk.new w8 23 (bys Z3)) (by rw [bys_length, bys_length, hD, hZ3]) (by rw [bys_length, hD]; kernel_rfl) (bys_one _) ?_
       intro w9 ho9 hD9
       have one9 := one7.step k8 ho9
       have two9 := two7.step k8 ho9
       have bb9 := bb7.step k8 ho9
       have hK9 := hK7.step k8 ho9
       have hC9 := hC7.step k8 ho9
       have hO9 := hO7.step k8 ho9
       have hL9 := hL7.step k8 ho9
       have n8 : w1.heap.size < w8.heap.size := (hK7.next k8).lt
       have m9 := below_step m7 m7.size k8 ho9
       clear one7 two7 bb7 hK7 hC7 hO7 hL7 m7 k8 ho9)
    | (refine law_load rfl 28 (.tmp 10) rfl _ rfl 28 _ hL9 _ Try.underlying28 rfl (by rw [bys_length, hLK]; kernel_rfl) ?_)
    | (refine law_store rfl 28 (.tmp 7) _ rfl _ (bys LK) rfl rfl 28 _ hK9 (by rw [bys_length, bys_length, hRK, hLK]) (by rw [bys_length, hLK]; kernel_rfl) (bys_one _) ?_
       intro w10 ho10 hK10))
  have hSS : LtS w w10 w1.heap.size w4.heap.size w3.heap.size w8.heap.size one two bs RK LK C D :=
    ⟨one9.on ho10 (by omega), two9.on ho10 (by omega), bb9.on ho10 (by omega), hK10, hO9.on ho10 (by omega), hC9.on ho10 (by omega), hD9.on ho10 (by omega), ho10.below m9 (by omega)⟩
  clear one9 two9 bb9 hK9 hL9 hK10 hO9 hC9 hD9 ho10 m9 n1 n3 n4 n8 z28 z23
  obtain ⟨g, eg⟩ : ∃ g, g = w1.heap.size := ⟨_, rfl⟩
  obtain ⟨f, ef⟩ : ∃ g, g = w3.heap.size := ⟨_, rfl⟩
  obtain ⟨o, eo⟩ : ∃ g, g = w4.heap.size := ⟨_, rfl⟩
  obtain ⟨s, es⟩ : ∃ g, g = w8.heap.size := ⟨_, rfl⟩
  rw [← eg, ← ef, ← eo, ← es] at hSS
  (try simp only [Act.put])
  rw [← eg, ← ef, ← eo, ← es]
  clear eg ef eo es
  refine wp_region_to (fun v => LtS w v g o f s one two bs RK LK C D) 99 (by kernel_rfl) ?_
  have hS0 := hSS.drew
  refine wpTo_take (i := 0) (show _ = some _ by simp only [List.getElem?_toArray, List.getElem?_cons_zero]; exact rfl) (by kernel_rfl) (by kernel_rfl) (by kernel_rfl) (by kernel_rfl) (by exact fun _ _ _ h => h) (yieldsIf_load_mid (by rfl) 28 (.tmp 9) rfl o 0 rfl (bys RK) _ (fun v h => (LtS.o h).whole) Try.underlying28 rfl (by rw [bys_length, hRK]; kernel_rfl)) hS0 ?_
  (try simp only [Act.put]); (try simp only [List.setIfInBounds_toArray]); (repeat (first | simp only [List.set_cons_succ] | simp only [List.set_cons_zero]))
  refine wpTo_take (i := 1) (show _ = some _ by simp only [List.getElem?_toArray, List.getElem?_cons_succ, List.getElem?_cons_zero]; exact rfl) (by kernel_rfl) (by kernel_rfl) (by kernel_rfl) (by kernel_rfl) (by exact fun _ _ _ h => h) (yieldsIf_load_mid (by rfl) 23 (.tmp 5) rfl (w.heap.size + 1 + 1) 0 rfl (bys bs) _ (fun v h => (LtS.b h).whole) Try.underlying23 rfl (by rw [bys_length, hb]; kernel_rfl)) hS0 ?_
  (try simp only [Act.put]); (try simp only [List.setIfInBounds_toArray]); (repeat (first | simp only [List.set_cons_succ] | simp only [List.set_cons_zero]))
  refine wpTo_take (i := 3) (show _ = some _ by simp only [List.getElem?_toArray, List.getElem?_cons_succ, List.getElem?_cons_zero]; exact rfl) (by kernel_rfl) (by kernel_rfl) (by kernel_rfl) (by kernel_rfl) (by exact fun _ _ _ h => h) (yieldsIf_load_mid (by rfl) 23 (.tmp 8) rfl f 0 rfl (bys C) _ (fun v h => (LtS.f h).whole) Try.underlying23 rfl (by rw [bys_length, hC]; kernel_rfl)) hS0 ?_
  (try simp only [Act.put]); (try simp only [List.setIfInBounds_toArray]); (repeat (first | simp only [List.set_cons_succ] | simp only [List.set_cons_zero]))
  refine wpTo_one (i := 2) (by kernel_rfl) (show _ = some _ by simp only [List.getElem?_toArray, List.getElem?_cons_succ, List.getElem?_cons_zero]; exact rfl) (fun K hK => ?_)
  go_simp
  go_at_call 10; refine (h10a' _).mono ?_; rintro e v1 ⟨rfl, k1⟩
  (try simp only [])
  refine hK.out _ _ (LtS.call hS0 k1) (fun hS1 => ?_)
  clear hK K
  (try simp only [Act.put]); (try simp only [List.setIfInBounds_toArray]); (repeat (first | simp only [List.set_cons_succ] | simp only [List.set_cons_zero]))
  refine wpTo_take (i := 4) (v := ?v4) (show _ = some _ by simp only [List.getElem?_toArray, List.getElem?_cons_succ, List.getElem?_cons_zero]; exact rfl) (by kernel_rfl) (by kernel_rfl) (by kernel_rfl) (by kernel_rfl) (by exact fun _ _ _ h => h) (Or.inl ⟨by rfl, ?hy4⟩) hS1 ?r4
  case hy4 => (intro w hSw; (try dsimp only at hSw); go_simp; try with_reducible rfl)
  (try simp only [Act.put]); (try simp only [List.setIfInBounds_toArray]); (repeat (first | simp only [List.set_cons_succ] | simp only [List.set_cons_zero]))
  refine wpTo_take (i := 5) (v := ?v5) (show _ = some _ by simp only [List.getElem?_toArray, List.getElem?_cons_succ, List.getElem?_cons_zero]; exact rfl) (by kernel_rfl) (by kernel_rfl) (by kernel_rfl) (by kernel_rfl) (by exact fun _ _ _ h => h) (Or.inl ⟨by rfl, ?hy5⟩) hS1 ?r5
  case hy5 => (intro w hSw; (try dsimp only at hSw); go_simp; try with_reducible rfl)
  (try simp only [Act.put]); (try simp only [List.setIfInBounds_toArray]); (repeat (first | simp only [List.set_cons_succ] | simp only [List.set_cons_zero]))
  refine wpTo_take (i := 6) (show _ = some _ by simp only [List.getElem?_toArray, List.getElem?_cons_succ, List.getElem?_cons_zero]; exact rfl) (by kernel_rfl) (by kernel_rfl) (by kernel_rfl) (by kernel_rfl) (by exact fun _ _ _ h => h) (yieldsIf_load_mid (by rfl) 28 (.tmp 7) rfl g 0 rfl (bys LK) _ (fun v h => (LtS.k h).whole) Try.underlying28 rfl (by rw [bys_length, hLK]; kernel_rfl)) hS1 ?_
  (try simp only [Act.put]); (try simp only [List.setIfInBounds_toArray]); (repeat (first | simp only [List.set_cons_succ] | simp only [List.set_cons_zero]))
  refine wpTo_take (i := 7) (show _ = some _ by simp only [List.getElem?_toArray, List.getElem?_cons_succ, List.getElem?_cons_zero]; exact rfl) (by kernel_rfl) (by kernel_rfl) (by kernel_rfl) (by kernel_rfl) (by exact fun _ _ _ h => h) (yieldsIf_load_mid (by rfl) 23 (.tmp 8) rfl f 0 rfl (bys C) _ (fun v h => (LtS.f h).whole) Try.underlying23 rfl (by rw [bys_length, hC]; kernel_rfl)) hS1 ?_
  (try simp only [Act.put]); (try simp only [List.setIfInBounds_toArray]); (repeat (first | simp only [List.set_cons_succ] | simp only [List.set_cons_zero]))
  refine wpTo_take (i := 9) (show _ = some _ by simp only [List.getElem?_toArray, List.getElem?_cons_succ, List.getElem?_cons_zero]; exact rfl) (by kernel_rfl) (by kernel_rfl) (by kernel_rfl) (by kernel_rfl) (by exact fun _ _ _ h => h) (yieldsIf_load_mid (by rfl) 23 (.tmp 11) rfl s 0 rfl (bys D) _ (fun v h => (LtS.s h).whole) Try.underlying23 rfl (by rw [bys_length, hD]; kernel_rfl)) hS1 ?_
  (try simp only [Act.put]); (try simp only [List.setIfInBounds_toArray]); (repeat (first | simp only [List.set_cons_succ] | simp only [List.set_cons_zero]))
  refine wpTo_one (i := 8) (by kernel_rfl) (show _ = some _ by simp only [List.getElem?_toArray, List.getElem?_cons_succ, List.getElem?_cons_zero]; exact rfl) (fun K hK => ?_)
  go_simp
  go_at_call 10; refine (h10b' _).mono ?_; rintro e v2 ⟨rfl, k2⟩
  (try simp only [])
  refine hK.out _ _ (LtS.call hS1 k2) (fun hS2 => ?_)
  clear hK K
  (try simp only [Act.put]); (try simp only [List.setIfInBounds_toArray]); (repeat (first | simp only [List.set_cons_succ] | simp only [List.set_cons_zero]))
  refine wpTo_take (i := 10) (v := ?v10) (show _ = some _ by simp only [List.getElem?_toArray, List.getElem?_cons_succ, List.getElem?_cons_zero]; exact rfl) (by kernel_rfl) (by kernel_rfl) (by kernel_rfl) (by kernel_rfl) (by exact fun _ _ _ h => h) (Or.inl ⟨by rfl, ?hy10⟩) hS2 ?r10
  case hy10 => (intro w hSw; (try dsimp only at hSw); go_simp; try with_reducible rfl)
  (try simp only [Act.put]); (try simp only [List.setIfInBounds_toArray]); (repeat (first | simp only [List.set_cons_succ] | simp only [List.set_cons_zero]))
  refine wpTo_take (i := 11) (v := ?v11) (show _ = some _ by simp only [List.getElem?_toArray, List.getElem?_cons_succ, List.getElem?_cons_zero]; exact rfl) (by kernel_rfl) (by kernel_rfl) (by kernel_rfl) (by kernel_rfl) (by exact fun _ _ _ h => h) (Or.inl ⟨by rfl, ?hy11⟩) hS2 ?r11
  case hy11 => (intro w hSw; (try dsimp only at hSw); go_simp; try with_reducible rfl)
  (try simp only [Act.put]); (try simp only [List.setIfInBounds_toArray]); (repeat (first | simp only [List.set_cons_succ] | simp only [List.set_cons_zero]))
  refine wpTo_take (i := 12) (v := ?v12) (show _ = some _ by simp only [List.getElem?_toArray, List.getElem?_cons_succ, List.getElem?_cons_zero]; exact rfl) (by kernel_rfl) (by kernel_rfl) (by kernel_rfl) (by kernel_rfl) (by exact fun _ _ _ h => h) (Or.inl ⟨by rfl, ?hy12⟩) hS2 ?r12
  case hy12 => (intro w hSw; (try dsimp only at hSw); go_simp; try with_reducible rfl)
  (try simp only [Act.put]); (try simp only [List.setIfInBounds_toArray]); (repeat (first | simp only [List.set_cons_succ] | simp only [List.set_cons_zero]))
  refine wpTo_take (i := 13) (show _ = some _ by simp only [List.getElem?_toArray, List.getElem?_cons_succ, List.getElem?_cons_zero]; exact rfl) (by kernel_rfl) (by kernel_rfl) (by kernel_rfl) (by kernel_rfl) (by exact fun _ _ _ h => h) (yieldsIf_load_mid (by rfl) 28 (.tmp 9) rfl o 0 rfl (bys RK) _ (fun v h => (LtS.o h).whole) Try.underlying28 rfl (by rw [bys_length, hRK]; kernel_rfl)) hS2 ?_
  (try simp only [Act.put]); (try simp only [List.setIfInBounds_toArray]); (repeat (first | simp only [List.set_cons_succ] | simp only [List.set_cons_zero]))
  refine wpTo_take (i := 14) (show _ = some _ by simp only [List.getElem?_toArray, List.getElem?_cons_succ, List.getElem?_cons_zero]; exact rfl) (by kernel_rfl) (by kernel_rfl) (by kernel_rfl) (by kernel_rfl) (by exact fun _ _ _ h => h) (yieldsIf_load_mid (by rfl) 23 (.tmp 8) rfl f 0 rfl (bys C) _ (fun v h => (LtS.f h).whole) Try.underlying23 rfl (by rw [bys_length, hC]; kernel_rfl)) hS2 ?_
  (try simp only [Act.put]); (try simp only [List.setIfInBounds_toArray]); (repeat (first | simp only [List.set_cons_succ] | simp only [List.set_cons_zero]))
  refine wpTo_take (i := 16) (show _ = some _ by simp only [List.getElem?_toArray, List.getElem?_cons_succ, List.getElem?_cons_zero]; exact rfl) (by kernel_rfl) (by kernel_rfl) (by kernel_rfl) (by kernel_rfl) (by exact fun _ _ _ h => h) (yieldsIf_load_mid (by rfl) 23 (.tmp 5) rfl (w.heap.size + 1 + 1) 0 rfl (bys bs) _ (fun v h => (LtS.b h).whole) Try.underlying23 rfl (by rw [bys_length, hb]; kernel_rfl)) hS2 ?_
  (try simp only [Act.put]); (try simp only [List.setIfInBounds_toArray]); (repeat (first | simp only [List.set_cons_succ] | simp only [List.set_cons_zero]))
  refine wpTo_one (i := 15) (by kernel_rfl) (show _ = some _ by simp only [List.getElem?_toArray, List.getElem?_cons_succ, List.getElem?_cons_zero]; exact rfl) (fun K hK => ?_)
  go_simp
  go_at_call 12; refine (h12a _).mono ?_; rintro e v3 ⟨rfl, k3⟩
  (try simp only [])
  refine hK.out _ _ (LtS.call hS2 k3) (fun hS3 => ?_)
  clear hK K
  (try simp only [Act.put]); (try simp only [List.setIfInBounds_toArray]); (repeat (first | simp only [List.set_cons_succ] | simp only [List.set_cons_zero]))
  refine wpTo_take (i := 17) (v := ?v17) (show _ = some _ by simp only [List.getElem?_toArray, List.getElem?_cons_succ, List.getElem?_cons_zero]; exact rfl) (by kernel_rfl) (by kernel_rfl) (by kernel_rfl) (by kernel_rfl) (by exact fun _ _ _ h => h) (Or.inl ⟨by rfl, ?hy17⟩) hS3 ?r17
  case hy17 => (intro w hSw; (try dsimp only at hSw); go_simp; try with_reducible rfl)
  (try simp only [Act.put]); (try simp only [List.setIfInBounds_toArray]); (repeat (first | simp only [List.set_cons_succ] | simp only [List.set_cons_zero]))
  refine wpTo_take (i := 18) (v := ?v18) (show _ = some _ by simp only [List.getElem?_toArray, List.getElem?_cons_succ, List.getElem?_cons_zero]; exact rfl) (by kernel_rfl) (by kernel_rfl) (by kernel_rfl) (by kernel_rfl) (by exact fun _ _ _ h => h) (Or.inl ⟨by rfl, ?hy18⟩) hS3 ?r18
  case hy18 => (intro w hSw; (try dsimp only at hSw); go_simp; try with_reducible rfl)
  (try simp only [Act.put]); (try simp only [List.setIfInBounds_toArray]); (repeat (first | simp only [List.set_cons_succ] | simp only [List.set_cons_zero]))
  refine wpTo_take (i := 19) (v := ?v19) (show _ = some _ by simp only [List.getElem?_toArray, List.getElem?_cons_succ, List.getElem?_cons_zero]; exact rfl) (by kernel_rfl) (by kernel_rfl) (by kernel_rfl) (by kernel_rfl) (by exact fun _ _ _ h => h) (Or.inl ⟨by rfl, ?hy19⟩) hS3 ?r19
  case hy19 => (intro w hSw; (try dsimp only at hSw); go_simp; try with_reducible rfl)
  (try simp only [Act.put]); (try simp only [List.setIfInBounds_toArray]); (repeat (first | simp only [List.set_cons_succ] | simp only [List.set_cons_zero]))
  refine wpTo_take (i := 20) (show _ = some _ by simp only [List.getElem?_toArray, List.getElem?_cons_succ, List.getElem?_cons_zero]; exact rfl) (by kernel_rfl) (by kernel_rfl) (by kernel_rfl) (by kernel_rfl) (by exact fun _ _ _ h => h) (yieldsIf_load_mid (by rfl) 22 (.tmp 3) rfl w.heap.size 0 rfl (bys one) _ (fun v h => (LtS.one h).whole) Try.underlying22 rfl (by rw [bys_length, h1]; kernel_rfl)) hS3 ?_
  (try simp only [Act.put]); (try simp only [List.setIfInBounds_toArray]); (repeat (first | simp only [List.set_cons_succ] | simp only [List.set_cons_zero]))
  refine wpTo_take (i := 22) (show _ = some _ by simp only [List.getElem?_toArray, List.getElem?_cons_succ, List.getElem?_cons_zero]; exact rfl) (by kernel_rfl) (by kernel_rfl) (by kernel_rfl) (by kernel_rfl) (by exact fun _ _ _ h => h) (yieldsIf_load_mid (by rfl) 23 (.tmp 5) rfl (w.heap.size + 1 + 1) 0 rfl (bys bs) _ (fun v h => (LtS.b h).whole) Try.underlying23 rfl (by rw [bys_length, hb]; kernel_rfl)) hS3 ?_
  (try simp only [Act.put]); (try simp only [List.setIfInBounds_toArray]); (repeat (first | simp only [List.set_cons_succ] | simp only [List.set_cons_zero]))
  refine wpTo_take (i := 24) (show _ = some _ by simp only [List.getElem?_toArray, List.getElem?_cons_succ, List.getElem?_cons_zero]; exact rfl) (by kernel_rfl) (by kernel_rfl) (by kernel_rfl) (by kernel_rfl) (by exact fun _ _ _ h => h) (yieldsIf_load_mid (by rfl) 23 (.tmp 8) rfl f 0 rfl (bys C) _ (fun v h => (LtS.f h).whole) Try.underlying23 rfl (by rw [bys_length, hC]; kernel_rfl)) hS3 ?_
  (try simp only [Act.put]); (try simp only [List.setIfInBounds_toArray]); (repeat (first | simp only [List.set_cons_succ] | simp only [List.set_cons_zero]))
  refine wpTo_one (i := 21) (by kernel_rfl) (show _ = some _ by simp only [List.getElem?_toArray, List.getElem?_cons_succ, List.getElem?_cons_zero]; exact rfl) (fun K hK => ?_)
  go_simp
  go_at_call 8; refine (h8a' _).mono ?_; rintro e v4 ⟨rfl, k4⟩
  (try simp only [])
  refine hK.out _ _ (LtS.call hS3 k4) (fun hS4 => ?_)
  clear hK K
  (try simp only [Act.put]); (try simp only [List.setIfInBounds_toArray]); (repeat (first | simp only [List.set_cons_succ] | simp only [List.set_cons_zero]))
  refine wpTo_one (i := 23) (by kernel_rfl) (show _ = some _ by simp only [List.getElem?_toArray, List.getElem?_cons_succ, List.getElem?_cons_zero]; exact rfl) (fun K hK => ?_)
  go_simp
  go_at_call 10; refine (h10a' _).mono ?_; rintro e v5 ⟨rfl, k5⟩
  (try simp only [])
  refine hK.out _ _ (LtS.call hS4 k5) (fun hS5 => ?_)
  clear hK K
  (try simp only [Act.put]); (try simp only [List.setIfInBounds_toArray]); (repeat (first | simp only [List.set_cons_succ] | simp only [List.set_cons_zero]))
  refine wpTo_take (i := 25) (v := ?v25) (show _ = some _ by simp only [List.getElem?_toArray, List.getElem?_cons_succ, List.getElem?_cons_zero]; exact rfl) (by kernel_rfl) (by kernel_rfl) (by kernel_rfl) (by kernel_rfl) (by exact fun _ _ _ h => h) (Or.inl ⟨by rfl, ?hy25⟩) hS5 ?r25
  case hy25 => (intro w hSw; (try dsimp only at hSw); go_simp; try with_reducible rfl)
  (try simp only [Act.put]); (try simp only [List.setIfInBounds_toArray]); (repeat (first | simp only [List.set_cons_succ] | simp only [List.set_cons_zero]))
  refine wpTo_take (i := 26) (v := ?v26) (show _ = some _ by simp only [List.getElem?_toArray, List.getElem?_cons_succ, List.getElem?_cons_zero]; exact rfl) (by kernel_rfl) (by kernel_rfl) (by kernel_rfl) (by kernel_rfl) (by exact fun _ _ _ h => h) (Or.inl ⟨by rfl, ?hy26⟩) hS5 ?r26
  case hy26 => (intro w hSw; (try dsimp only at hSw); go_simp; try with_reducible rfl)
  (try simp only [Act.put]); (try simp only [List.setIfInBounds_toArray]); (repeat (first | simp only [List.set_cons_succ] | simp only [List.set_cons_zero]))
  refine wpTo_take (i := 27) (v := ?v27) (show _ = some _ by simp only [List.getElem?_toArray, List.getElem?_cons_succ, List.getElem?_cons_zero]; exact rfl) (by kernel_rfl) (by kernel_rfl) (by kernel_rfl) (by kernel_rfl) (by exact fun _ _ _ h => h) (Or.inl ⟨by rfl, ?hy27⟩) hS5 ?r27
  case hy27 => (intro w hSw; (try dsimp only at hSw); go_simp; try with_reducible rfl)
  (try simp only [Act.put]); (try simp only [List.setIfInBounds_toArray]); (repeat (first | simp only [List.set_cons_succ] | simp only [List.set_cons_zero]))
  refine wpTo_take (i := 28) (show _ = some _ by simp only [List.getElem?_toArray, List.getElem?_cons_succ, List.getElem?_cons_zero]; exact rfl) (by kernel_rfl) (by kernel_rfl) (by kernel_rfl) (by kernel_rfl) (by exact fun _ _ _ h => h) (yieldsIf_load_mid (by rfl) 22 (.tmp 4) rfl (w.heap.size + 1) 0 rfl (bys two) _ (fun v h => (LtS.two h).whole) Try.underlying22 rfl (by rw [bys_length, h2]; kernel_rfl)) hS5 ?_
  (try simp only [Act.put]); (try simp only [List.setIfInBounds_toArray]); (repeat (first | simp only [List.set_cons_succ] | simp only [List.set_cons_zero]))
  refine wpTo_take (i := 30) (show _ = some _ by simp only [List.getElem?_toArray, List.getElem?_cons_succ, List.getElem?_cons_zero]; exact rfl) (by kernel_rfl) (by kernel_rfl) (by kernel_rfl) (by kernel_rfl) (by exact fun _ _ _ h => h) (yieldsIf_load_mid (by rfl) 23 (.tmp 11) rfl s 0 rfl (bys D) _ (fun v h => (LtS.s h).whole) Try.underlying23 rfl (by rw [bys_length, hD]; kernel_rfl)) hS5 ?_
  (try simp only [Act.put]); (try simp only [List.setIfInBounds_toArray]); (repeat (first | simp only [List.set_cons_succ] | simp only [List.set_cons_zero]))
  refine wpTo_take (i := 32) (show _ = some _ by simp only [List.getElem?_toArray, List.getElem?_cons_succ, List.getElem?_cons_zero]; exact rfl) (by kernel_rfl) (by kernel_rfl) (by kernel_rfl) (by kernel_rfl) (by exact fun _ _ _ h => h) (yieldsIf_load_mid (by rfl) 23 (.tmp 8) rfl f 0 rfl (bys C) _ (fun v h => (LtS.f h).whole) Try.underlying23 rfl (by rw [bys_length, hC]; kernel_rfl)) hS5 ?_
  (try simp only [Act.put]); (try simp only [List.setIfInBounds_toArray]); (repeat (first | simp only [List.set_cons_succ] | simp only [List.set_cons_zero]))
  refine wpTo_one (i := 29) (by kernel_rfl) (show _ = some _ by simp only [List.getElem?_toArray, List.getElem?_cons_succ, List.getElem?_cons_zero]; exact rfl) (fun K hK => ?_)
  go_simp
  go_at_call 8; refine (h8b' _).mono ?_; rintro e v6 ⟨rfl, k6⟩
  (try simp only [])
  refine hK.out _ _ (LtS.call hS5 k6) (fun hS6 => ?_)
  clear hK K
  (try simp only [Act.put]); (try simp only [List.setIfInBounds_toArray]); (repeat (first | simp only [List.set_cons_succ] | simp only [List.set_cons_zero]))
  refine wpTo_one (i := 31) (by kernel_rfl) (show _ = some _ by simp only [List.getElem?_toArray, List.getElem?_cons_succ, List.getElem?_cons_zero]; exact rfl) (fun K hK => ?_)
  go_simp
  go_at_call 12; refine (h12b _).mono ?_; rintro e v7 ⟨rfl, k7⟩
  (try simp only [])
  refine hK.out _ _ (LtS.call hS6 k7) (fun hS7 => ?_)
  clear hK K
  (try simp only [Act.put]); (try simp only [List.setIfInBounds_toArray]); (repeat (first | simp only [List.set_cons_succ] | simp only [List.set_cons_zero]))
  refine wpTo_take (i := 33) (v := ?v33) (show _ = some _ by simp only [List.getElem?_toArray, List.getElem?_cons_succ, List.getElem?_cons_zero]; exact rfl) (by kernel_rfl) (by kernel_rfl) (by kernel_rfl) (by kernel_rfl) (by exact fun _ _ _ h => h) (Or.inl ⟨by rfl, ?hy33⟩) hS7 ?r33
  case hy33 => (intro w hSw; (try dsimp only at hSw); go_simp; try with_reducible rfl)
  (try simp only [Act.put]); (try simp only [List.setIfInBounds_toArray]); (repeat (first | simp only [List.set_cons_succ] | simp only [List.set_cons_zero]))
  refine wpTo_take (i := 34) (v := ?v34) (show _ = some _ by simp only [List.getElem?_toArray, List.getElem?_cons_succ, List.getElem?_cons_zero]; exact rfl) (by kernel_rfl) (by kernel_rfl) (by kernel_rfl) (by kernel_rfl) (by exact fun _ _ _ h => h) (Or.inl ⟨by rfl, ?hy34⟩) hS7 ?r34
  case hy34 => (intro w hSw; (try dsimp only at hSw); go_simp; try with_reducible rfl)
  (try simp only [Act.put]); (try simp only [List.setIfInBounds_toArray]); (repeat (first | simp only [List.set_cons_succ] | simp only [List.set_cons_zero]))
  refine wpTo_take (i := 35) (v := ?v35) (show _ = some _ by simp only [List.getElem?_toArray, List.getElem?_cons_succ, List.getElem?_cons_zero]; exact rfl) (by kernel_rfl) (by kernel_rfl) (by kernel_rfl) (by kernel_rfl) (by exact fun _ _ _ h => h) (Or.inl ⟨by rfl, ?hy35⟩) hS7 ?r35
  case hy35 => (intro w hSw; (try dsimp only at hSw); go_simp; try with_reducible rfl)
  (try simp only [Act.put]); (try simp only [List.setIfInBounds_toArray]); (repeat (first | simp only [List.set_cons_succ] | simp only [List.set_cons_zero]))
  refine wpTo_one (i := 36) (by kernel_rfl) (show _ = some _ by simp only [List.getElem?_toArray, List.getElem?_cons_succ, List.getElem?_cons_zero]; exact rfl) (fun K hK => ?_)
  go_simp
  go_at_call 14; refine (works_any _).mono ?_; rintro e v8 ⟨rfl, k8⟩
  (try simp only [])
  refine hK.out _ _ (LtS.call hS7 k8) (fun hS8 => ?_)
  clear hK K
  (try simp only [Act.put]); (try simp only [List.setIfInBounds_toArray]); (repeat (first | simp only [List.set_cons_succ] | simp only [List.set_cons_zero]))
  refine wpTo_take (i := 37) (v := ?v37) (show _ = some _ by simp only [List.getElem?_toArray, List.getElem?_cons_succ, List.getElem?_cons_zero]; exact rfl) (by kernel_rfl) (by kernel_rfl) (by kernel_rfl) (by kernel_rfl) (by exact fun _ _ _ h => h) (Or.inl ⟨by rfl, ?hy37⟩) hS8 ?r37
  case hy37 => (intro w hSw; (try dsimp only at hSw); go_simp; try with_reducible rfl)
  (try simp only [Act.put]); (try simp only [List.setIfInBounds_toArray]); (repeat (first | simp only [List.set_cons_succ] | simp only [List.set_cons_zero]))
  refine wpTo_take (i := 38) (v := ?v38) (show _ = some _ by simp only [List.getElem?_toArray, List.getElem?_cons_succ, List.getElem?_cons_zero]; exact rfl) (by kernel_rfl) (by kernel_rfl) (by kernel_rfl) (by kernel_rfl) (by exact fun _ _ _ h => h) (Or.inl ⟨by rfl, ?hy38⟩) hS8 ?r38
  case hy38 => (intro w hSw; (try dsimp only at hSw); go_simp; try with_reducible rfl)
  (try simp only [Act.put]); (try simp only [List.setIfInBounds_toArray]); (repeat (first | simp only [List.set_cons_succ] | simp only [List.set_cons_zero]))
  refine wpTo_done (by kernel_rfl) ?_
  go_wp2
  go_ret
  exact ⟨rfl, hS8.below⟩
end Go.Proofs.Ytkiljjlklelbbaa
