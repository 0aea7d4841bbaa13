/- The tag, by the program. -/
import Derived.Test.YtjhkicfndbceoaaHashOf
import Derived.Test.YtjhkicfndbceoaaApartA
namespace Go.Proofs.Ytjhkicfndbceoaa
open Go.RowKit

/-- What lies there while the tag is made. -/
structure TgS (w v : World) (ws msk : List B) (Z : Q) (g : Nat) (H : Q) : Prop where
  key : Blk v w.heap.size 55 (bys ws)
  m : Blk v (w.heap.size + 1) 37 (bys msk)
  r : Blk v (w.heap.size + 1 + 1) 62 (el Z)
  h : Blk v g 62 (el H)
  g : w.heap.size + 1 + 1 < g
  k : Below w.heap.size w v
section
variable {w v v' : World} {ws msk : List B} {Z H : Q} {g : Nat}
theorem TgS.call (a : TgS w v ws msk Z g H) (hb : Below v.heap.size v v') : TgS w v' ws msk Z g H := ⟨a.key.next hb, a.m.next hb, a.r.next hb, a.h.next hb, a.g, a.k.trans (hb.mono a.k.size)⟩
theorem TgS.drew (a : TgS w v ws msk Z g H) : TgS w v.drew ws msk Z g H := ⟨a.key, a.m, a.r, a.h, a.g, a.k.drew⟩
end

theorem ofB_of (l : List B) (hl : l.length = 16) (W : World) : Calls Try.prog 29 #[.agg (bys l).toArray] W fun e w' => e = .returned (.agg (el (qb l)).toArray) ∧ Below W.heap.size W w' := by
  have := ofB_any (qb l) W
  rwa [bq_qb l hl] at this

set_option maxHeartbeats 2000000 in
set_option maxRecDepth 100000 in
theorem tagOf_any (ws msk ad text : List B) (hw : ws.length = 240) (hm : msk.length = 16) (ao bo : Option Addr) (n m c d : Nat) (w : World) (hs : Shows w ao n (v8s ad)) (ht0 : Shows w bo m (v8s text)) (hc : ao = none → c = 0) (hd : bo = none → d = 0) (hnc : n ≤ c) (hmd : m ≤ d) (hbn : n ≤ 1000000) (hbm : m ≤ 1000000) :
    Calls Try.prog 25 #[.agg (bys ws).toArray, .agg (bys msk).toArray, .slice ao n c, .slice bo m d] w fun e w' => e = .returned (.agg (el (hashM (qb (enc ws (List.replicate 16 0#8) 14)) ad text ^^^ qb msk)).toArray) ∧ Below w.heap.size w w' := by
  obtain ⟨Z, -, hz⟩ := zeroedQ
  obtain ⟨ZB, eZB, hzB⟩ := zeroed37e
  have hZB : ZB.length = 16 := by rw [eZB]; simp
  rw [← eZB]
  clear eZB
  have hE16 := enc_length ws ZB hw hZB 14 (Nat.le_refl _)
  have H38 : Hid (∀ W : World, Calls Try.prog 38 #[.agg (bys ws).toArray, .agg (bys ZB).toArray] W fun e w' => e = .returned (.agg (bys (enc ws ZB 14)).toArray) ∧ Below W.heap.size W w') := fun W => block_any ws ZB hw hZB W
  obtain ⟨EB, eE⟩ : ∃ EB, EB = enc ws ZB 14 := ⟨_, rfl⟩
  rw [← eE] at H38 hE16 ⊢
  clear eE
  have H29 : Hid (∀ W : World, Calls Try.prog 29 #[.agg (bys EB).toArray] W fun e w' => e = .returned (.agg (el (qb EB)).toArray) ∧ Below W.heap.size W w') := ofB_of EB hE16
  obtain ⟨H, eH⟩ : ∃ H, H = qb EB := ⟨_, rfl⟩
  rw [← eH] at H29 ⊢
  clear eH
  have H29m : Hid (∀ W : World, Calls Try.prog 29 #[.agg (bys msk).toArray] W fun e w' => e = .returned (.agg (el (qb msk)).toArray) ∧ Below W.heap.size W w') := ofB_of msk hm
  obtain ⟨XM, eX⟩ : ∃ H, H = qb msk := ⟨_, rfl⟩
  rw [← eX] at H29m ⊢
  clear eX
  have H40 : Hid (∀ W : World, Shows W ao n (v8s ad) → Shows W bo m (v8s text) → Calls Try.prog 40 #[.agg (el H).toArray, .slice ao n c, .slice bo m d] W fun e w' => e = .returned (.agg (el (hashM H ad text)).toArray) ∧ Below W.heap.size W w') := fun W h1 h2 => hashOf_any H ad text ao bo n m c d W h1 h2 hc hd hnc hmd hbn hbm
  obtain ⟨HM, eM⟩ : ∃ H', H' = hashM H ad text := ⟨_, rfl⟩
  rw [← eM] at H40 ⊢
  clear eM
  obtain ⟨h1, h2, h3, h4⟩ := blk3 w 55 37 62 (bys ws) (bys msk) (el Z)
  go_enter Try.func25, Try.ntmps25
  go_wp2_with (refine law_load rfl 55 _ rfl _ rfl 55 _ h1 _ Try.underlying55 rfl (by rw [bys_length, hw]; kernel_rfl) ?_)
  go_at_call 38; refine (H38.out _).mono ?_; rintro e v1 ⟨rfl, k1⟩
  go_wp2_with fail
  go_at_call 29; refine (H29.out _).mono ?_; rintro e v2 ⟨rfl, k2⟩
  have kk := k1.trans (k2.mono k1.size)
  replace h1 := h1.next kk
  replace h2 := h2.next kk
  replace h3 := h3.next kk
  have hb0 : Below w.heap.size w v2 := h4.trans (kk.mono h4.size)
  clear kk k1 k2 h4
  have hlt := h3.lt
  have hN := Blk.new v2 62 (el Z)
  go_wp2_with (refine law_store rfl 62 _ _ rfl _ (el H) rfl rfl 62 _ hN rfl (by kernel_rfl) (el_one _) ?_; intro wF hoF hAF)
  have hX : TgS w wF ws msk Z v2.heap.size H := ⟨(h1.alloc _).on hoF (by omega), (h2.alloc _).on hoF (by omega), (h3.alloc _).on hoF (by omega), hAF, hlt, hoF.below (hb0.alloc hb0.size _) hb0.size⟩
  have ha := hs.later hX.k
  have ht := ht0.later hX.k
  obtain ⟨g, eg⟩ : ∃ g, g = v2.heap.size := ⟨_, rfl⟩
  rw [← eg] at hX ⊢
  clear h1 h2 h3 hN hAF hoF hb0 hlt eg
  refine wp_region_to (fun v => TgS w v ws msk Z g H ∧ Shows v ao n (v8s ad) ∧ Shows v bo m (v8s text)) 7 (by kernel_rfl) ?_
  have hS0 : TgS w wF.drew ws msk Z g H ∧ Shows wF.drew ao n (v8s ad) ∧ Shows wF.drew bo m (v8s text) := ⟨hX.drew, shows_heap ha rfl, shows_heap ht rfl⟩
  refine wpTo_take (i := 0) (show _ = some _ by simp only [List.getElem?_toArray, List.getElem?_cons_zero]; exact rfl) (by kernel_rfl) (by kernel_rfl) (by kernel_rfl) (by kernel_rfl) (by exact fun _ _ _ h => h) (yieldsIf_load_mid (by rfl) 62 (.tmp 9) rfl g 0 rfl (el H) _ (fun v h => (TgS.h h.1).whole) Try.underlying62 rfl (by kernel_rfl)) hS0 ?_
  (try simp only [Act.put]); (try simp only [List.setIfInBounds_toArray]); (repeat (first | simp only [List.set_cons_succ] | simp only [List.set_cons_zero]))
  refine wpTo_take (i := 1) (v := ?v1) (show _ = some _ by simp only [List.getElem?_toArray, List.getElem?_cons_succ, List.getElem?_cons_zero]; exact rfl) (by kernel_rfl) (by kernel_rfl) (by kernel_rfl) (by kernel_rfl) (by exact fun _ _ _ h => h) (Or.inl ⟨by rfl, ?hy1⟩) hS0 ?r1
  case hy1 => (intro w hSw; (try dsimp only at hSw); go_simp; try with_reducible rfl)
  (try simp only [Act.put]); (try simp only [List.setIfInBounds_toArray]); (repeat (first | simp only [List.set_cons_succ] | simp only [List.set_cons_zero]))
  refine wpTo_take (i := 2) (v := ?v2) (show _ = some _ by simp only [List.getElem?_toArray, List.getElem?_cons_succ, List.getElem?_cons_zero]; exact rfl) (by kernel_rfl) (by kernel_rfl) (by kernel_rfl) (by kernel_rfl) (by exact fun _ _ _ h => h) (Or.inl ⟨by rfl, ?hy2⟩) hS0 ?r2
  case hy2 => (intro w hSw; (try dsimp only at hSw); go_simp; try with_reducible rfl)
  (try simp only [Act.put]); (try simp only [List.setIfInBounds_toArray]); (repeat (first | simp only [List.set_cons_succ] | simp only [List.set_cons_zero]))
  refine wpTo_take (i := 4) (show _ = some _ by simp only [List.getElem?_toArray, List.getElem?_cons_succ, List.getElem?_cons_zero]; exact rfl) (by kernel_rfl) (by kernel_rfl) (by kernel_rfl) (by kernel_rfl) (by exact fun _ _ _ h => h) (yieldsIf_load_mid (by rfl) 37 (.tmp 5) rfl (w.heap.size + 1) 0 rfl (bys msk) _ (fun v h => (TgS.m h.1).whole) Try.underlying37 rfl (by rw [bys_length, hm]; kernel_rfl)) hS0 ?_
  (try simp only [Act.put]); (try simp only [List.setIfInBounds_toArray]); (repeat (first | simp only [List.set_cons_succ] | simp only [List.set_cons_zero]))
  refine wpTo_one (i := 3) (by kernel_rfl) (show _ = some _ by simp only [List.getElem?_toArray, List.getElem?_cons_succ, List.getElem?_cons_zero]; exact rfl) (fun K hK => ?_)
  go_simp
  go_at_call 40; refine (H40.out _ hS0.2.1 hS0.2.2).mono ?_; rintro e v3 ⟨rfl, k3⟩
  (try simp only [])
  refine hK.out _ _ (⟨TgS.call hS0.1 k3, hS0.2.1.later k3, hS0.2.2.later k3⟩) (fun hS1 => ?_)
  clear hK K
  (try simp only [Act.put]); (try simp only [List.setIfInBounds_toArray]); (repeat (first | simp only [List.set_cons_succ] | simp only [List.set_cons_zero]))
  refine wpTo_one (i := 5) (by kernel_rfl) (show _ = some _ by simp only [List.getElem?_toArray, List.getElem?_cons_succ, List.getElem?_cons_zero]; exact rfl) (fun K hK => ?_)
  go_simp
  go_at_call 29; refine (H29m.out _).mono ?_; rintro e v4 ⟨rfl, k4⟩
  (try simp only [])
  refine hK.out _ _ (⟨TgS.call hS1.1 k4, hS1.2.1.later k4, hS1.2.2.later k4⟩) (fun hS2 => ?_)
  clear hK K
  (try simp only [Act.put]); (try simp only [List.setIfInBounds_toArray]); (repeat (first | simp only [List.set_cons_succ] | simp only [List.set_cons_zero]))
  refine wpTo_one (i := 6) (by kernel_rfl) (show _ = some _ by simp only [List.getElem?_toArray, List.getElem?_cons_succ, List.getElem?_cons_zero]; exact rfl) (fun K hK => ?_)
  go_simp
  go_at_call 41; refine (eplus_any HM XM _).mono ?_; rintro e v5 ⟨rfl, k5⟩
  (try simp only [])
  refine hK.out _ _ (⟨TgS.call hS2.1 k5, hS2.2.1.later k5, hS2.2.2.later k5⟩) (fun hS3 => ?_)
  clear hK K
  (try simp only [Act.put]); (try simp only [List.setIfInBounds_toArray]); (repeat (first | simp only [List.set_cons_succ] | simp only [List.set_cons_zero]))
  refine wpTo_last (by kernel_rfl) (show _ = some _ by simp only [List.getElem?_toArray, List.getElem?_cons_succ, List.getElem?_cons_zero]; exact rfl) (by kernel_rfl) (fun K hK => ?_)
  rw [if_pos (by rfl)]
  refine wp_store_row 62 (.tmp 8) (.tmp 20) rfl (w.heap.size + 1 + 1) (el (HM ^^^ XM)).toArray rfl rfl 62 _ hS3.1.r (by kernel_rfl) rfl (el_one _) ?_
  refine hK.out _ _ ?_
  clear hK K
  (try simp only [Act.put]); (try simp only [List.setIfInBounds_toArray]); (repeat (first | simp only [List.set_cons_succ] | simp only [List.set_cons_zero]))
  have hoZ := On.setRow v5 (w.heap.size + 1 + 1) (el (HM ^^^ XM)).toArray
  have hAZ := setRow_heap v5 (w.heap.size + 1 + 1) _ (el (HM ^^^ XM)).toArray 62 _ hS3.1.r
  go_wp2_with fail
  refine bodyPost_ret (v := .agg (el (HM ^^^ XM)).toArray) (results_cell_row rfl _ _ (w.heap.size + 1 + 1) 62 _ _ _ rfl hAZ Try.underlying62 rfl (by kernel_rfl)) rfl ⟨rfl, hoZ.below hS3.1.k (by omega)⟩
end Go.Proofs.Ytjhkicfndbceoaa
