/- A block's columns mixed back: mixed three times. -/
import Derived.Test.YtkiljjlklelbbaaLast
namespace Go.Proofs.Ytkiljjlklelbbaa
open Go.RowKit

theorem range_later {w w' : World} {b o : Nat} {cs : List Value} (h : w.rangeAt b o cs) (hb : Below w.heap.size w w') : w'.rangeAt b o cs := fun j v hv => cell_later hb (h j v hv)
theorem there_later {w w' : World} {b o n : Nat} (h : w.there b o n) (hb : Below w.heap.size w w') : w'.there b o n := by
  intro j hj
  obtain ⟨h1, h2⟩ := h j hj
  obtain ⟨v, hv⟩ := Option.isSome_iff_exists.1 h1
  have hk := hb.block b (block_lt_of_cell hv)
  refine ⟨by rw [cell_later hb hv]; rfl, ?_⟩
  rw [← h2]
  unfold World.frozen?
  simp only
  rw [hk]

/-- What holds while the three mixings come up. -/
structure UnS (w v : World) (bs ks : List B) (last : Bool) (Z : List B) : Prop where
  b : v.rangeAt w.heap.size 0 (bys bs)
  r : v.rangeAt (w.heap.size + 1) 0 (rnd ks last)
  o : Blk v (w.heap.size + 1 + 1) 47 (bys Z)
  k : Below w.heap.size w v
theorem UnS.drew {w v : World} {bs ks : List B} {last : Bool} {Z : List B} (h : UnS w v bs ks last Z) : UnS w v.drew bs ks last Z := ⟨h.b, h.r, h.o, h.k.drew⟩
theorem UnS.call {w v v' : World} {bs ks : List B} {last : Bool} {Z : List B} (h : UnS w v bs ks last Z) (hb : Below v.heap.size v v') : UnS w v' bs ks last Z :=
  ⟨range_later h.b hb, range_later h.r hb, h.o.next hb, h.k.trans (hb.mono h.k.size)⟩

set_option maxHeartbeats 1000000 in
set_option maxRecDepth 100000 in
/-- A block's columns mixed back. -/
theorem unmixed_any (bs ks : List B) (last : Bool) (hl : bs.length = 16) (hk : ks.length = 16) (w : World) :
    Calls Try.prog 26 #[.agg (bys bs).toArray, .agg (rnd ks last).toArray] w fun e w' => e = .returned (.agg (bys (mixR last (mixR last (mixR last bs)))).toArray) ∧ Below w.heap.size w w' := by
  obtain ⟨Z, hZl, hz⟩ := zeroed47
  have hB0 : Blk (((w.alloc (.cells (bys bs).toArray 47)).alloc (.cells (rnd ks last).toArray 50)).alloc (.cells (bys Z).toArray 47)) w.heap.size 47 (bys bs) := ((Blk.new w 47 (bys bs)).alloc _).alloc _
  have hB1 : Blk (((w.alloc (.cells (bys bs).toArray 47)).alloc (.cells (rnd ks last).toArray 50)).alloc (.cells (bys Z).toArray 47)) (w.heap.size + 1) 50 (rnd ks last) := by
    have h := (Blk.new (w.alloc (.cells (bys bs).toArray 47)) 50 (rnd ks last)).alloc (.cells (bys Z).toArray 47)
    rwa [World.size_alloc] at h
  have hB2 : Blk (((w.alloc (.cells (bys bs).toArray 47)).alloc (.cells (rnd ks last).toArray 50)).alloc (.cells (bys Z).toArray 47)) (w.heap.size + 1 + 1) 47 (bys Z) := by
    have h := Blk.new ((w.alloc (.cells (bys bs).toArray 47)).alloc (.cells (rnd ks last).toArray 50)) 47 (bys Z)
    rwa [World.size_alloc, World.size_alloc] at h
  have hbB : Below w.heap.size w (((w.alloc (.cells (bys bs).toArray 47)).alloc (.cells (rnd ks last).toArray 50)).alloc (.cells (bys Z).toArray 47)) :=
    (((Below.refl _ w).alloc (Nat.le_refl _) _).alloc (by simp) _).alloc (by simp; omega) _
  have hSS : UnS w (((w.alloc (.cells (bys bs).toArray 47)).alloc (.cells (rnd ks last).toArray 50)).alloc (.cells (bys Z).toArray 47)) bs ks last Z := ⟨hB0.whole, hB1.whole, hB2, hbB⟩
  clear hB0 hB1 hB2 hbB
  go_enter Try.func26, Try.ntmps26
  go_wp2_with fail
  refine wp_region_to (fun v => UnS w v bs ks last Z) 7 (by kernel_rfl) ?_
  have hS0 : UnS w (((w.alloc (.cells (bys bs).toArray 47)).alloc (.cells (rnd ks last).toArray 50)).alloc (.cells (bys Z).toArray 47)).drew bs ks last Z := hSS.drew
  refine wpTo_take (i := 0) (show _ = some _ by simp only [List.getElem?_toArray, List.getElem?_cons_zero]; exact rfl) (by kernel_rfl) (by kernel_rfl) (by kernel_rfl) (by kernel_rfl) (by exact fun _ _ _ h => h) (yieldsIf_load_mid (by rfl) 47 (.tmp 2) rfl w.heap.size 0 rfl (bys bs) _ (fun v h => UnS.b h) Try.underlying47 rfl (by rw [bys_length, hl]; kernel_rfl)) hS0 ?_
  (try simp only [Act.put]); (try simp only [List.setIfInBounds_toArray]); (repeat (first | simp only [List.set_cons_succ] | simp only [List.set_cons_zero]))
  refine wpTo_take (i := 1) (show _ = some _ by simp only [List.getElem?_toArray, List.getElem?_cons_succ, List.getElem?_cons_zero]; exact rfl) (by kernel_rfl) (by kernel_rfl) (by kernel_rfl) (by kernel_rfl) (by exact fun _ _ _ h => h) (yieldsIf_load_mid (by rfl) 50 (.tmp 3) rfl (w.heap.size + 1) 0 rfl (rnd ks last) _ (fun v h => UnS.r h) Try.underlying50 rfl (by rw [rnd_length, hk]; kernel_rfl)) hS0 ?_
  (try simp only [Act.put]); (try simp only [List.setIfInBounds_toArray]); (repeat (first | simp only [List.set_cons_succ] | simp only [List.set_cons_zero]))
  refine wpTo_take (i := 3) (show _ = some _ by simp only [List.getElem?_toArray, List.getElem?_cons_succ, List.getElem?_cons_zero]; exact rfl) (by kernel_rfl) (by kernel_rfl) (by kernel_rfl) (by kernel_rfl) (by exact fun _ _ _ h => h) (yieldsIf_load_mid (by rfl) 50 (.tmp 3) rfl (w.heap.size + 1) 0 rfl (rnd ks last) _ (fun v h => UnS.r h) Try.underlying50 rfl (by rw [rnd_length, hk]; kernel_rfl)) hS0 ?_
  (try simp only [Act.put]); (try simp only [List.setIfInBounds_toArray]); (repeat (first | simp only [List.set_cons_succ] | simp only [List.set_cons_zero]))
  refine wpTo_take (i := 5) (show _ = some _ by simp only [List.getElem?_toArray, List.getElem?_cons_succ, List.getElem?_cons_zero]; exact rfl) (by kernel_rfl) (by kernel_rfl) (by kernel_rfl) (by kernel_rfl) (by exact fun _ _ _ h => h) (yieldsIf_load_mid (by rfl) 50 (.tmp 3) rfl (w.heap.size + 1) 0 rfl (rnd ks last) _ (fun v h => UnS.r h) Try.underlying50 rfl (by rw [rnd_length, hk]; kernel_rfl)) hS0 ?_
  (try simp only [Act.put]); (try simp only [List.setIfInBounds_toArray]); (repeat (first | simp only [List.set_cons_succ] | simp only [List.set_cons_zero]))
  refine wpTo_one (i := 2) (by kernel_rfl) (show _ = some _ by simp only [List.getElem?_toArray, List.getElem?_cons_succ, List.getElem?_cons_zero]; exact rfl) (fun K hK => ?_)
  go_simp
  go_at_call 21; refine (mixed_any bs ks last hl hk _).mono ?_; rintro e v0 ⟨rfl, hb0⟩
  (try simp only [])
  refine hK.out _ _ (UnS.call hS0 hb0) (fun hS1 => ?_)
  clear hK K
  (try simp only [Act.put]); (try simp only [List.setIfInBounds_toArray]); (repeat (first | simp only [List.set_cons_succ] | simp only [List.set_cons_zero]))
  refine wpTo_one (i := 4) (by kernel_rfl) (show _ = some _ by simp only [List.getElem?_toArray, List.getElem?_cons_succ, List.getElem?_cons_zero]; exact rfl) (fun K hK => ?_)
  go_simp
  go_at_call 21; refine (mixed_any (mixR last bs) ks last (mixR_length _ _ hl) hk _).mono ?_; rintro e v1 ⟨rfl, hb1⟩
  (try simp only [])
  refine hK.out _ _ (UnS.call hS1 hb1) (fun hS2 => ?_)
  clear hK K
  (try simp only [Act.put]); (try simp only [List.setIfInBounds_toArray]); (repeat (first | simp only [List.set_cons_succ] | simp only [List.set_cons_zero]))
  refine wpTo_one (i := 6) (by kernel_rfl) (show _ = some _ by simp only [List.getElem?_toArray, List.getElem?_cons_succ, List.getElem?_cons_zero]; exact rfl) (fun K hK => ?_)
  go_simp
  go_at_call 21; refine (mixed_any (mixR last (mixR last bs)) ks last (mixR_length _ _ (mixR_length _ _ hl)) hk _).mono ?_; rintro e v2 ⟨rfl, hb2⟩
  (try simp only [])
  refine hK.out _ _ (UnS.call hS2 hb2) (fun hS3 => ?_)
  clear hK K
  (try simp only [Act.put]); (try simp only [List.setIfInBounds_toArray]); (repeat (first | simp only [List.set_cons_succ] | simp only [List.set_cons_zero]))
  refine wpTo_last (by kernel_rfl) (show _ = some _ by simp only [List.getElem?_toArray, List.getElem?_cons_succ, List.getElem?_cons_zero]; exact rfl) (by kernel_rfl) (fun K hK => ?_)
  rw [if_pos (by rfl)]
  refine wp_store_row 47 (.tmp 4) (.tmp 11) rfl (w.heap.size + 1 + 1) (bys (mixR last (mixR last (mixR last bs)))).toArray rfl rfl 47 _ hS3.o (by rw [List.size_toArray, bys_length, mixR_length _ _ (mixR_length _ _ (mixR_length _ _ hl))]; kernel_rfl) (by rw [List.size_toArray, List.size_toArray, bys_length, bys_length, mixR_length _ _ (mixR_length _ _ (mixR_length _ _ hl)), hZl]) (bys_one _) ?_
  refine hK.out _ _ ?_
  clear hK K
  (try simp only [Act.put]); (try simp only [List.setIfInBounds_toArray]); (repeat (first | simp only [List.set_cons_succ] | simp only [List.set_cons_zero]))
  have hoF := On.setRow v2 (w.heap.size + 1 + 1) (bys (mixR last (mixR last (mixR last bs)))).toArray
  have hAF := setRow_heap v2 (w.heap.size + 1 + 1) _ (bys (mixR last (mixR last (mixR last bs)))).toArray 47 _ hS3.o
  go_wp2
  refine bodyPost_ret (v := .agg (bys (mixR last (mixR last (mixR last bs)))).toArray) (results_cell_row rfl _ _ (w.heap.size + 1 + 1) 47 _ _ _ rfl hAF Try.underlying47 rfl (by rw [List.size_toArray, bys_length, mixR_length _ _ (mixR_length _ _ (mixR_length _ _ hl))]; kernel_rfl)) rfl ⟨rfl, hoF.below hS3.k (by omega)⟩
end Go.Proofs.Ytkiljjlklelbbaa
