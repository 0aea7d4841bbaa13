/- The hash of what is beside and of the text, by the program. -/
import Derived.Test.YtjhkicfndbceoaaHash
namespace Go.Proofs.Ytjhkicfndbceoaa
open Go.RowKit

/-- What lies there while the two are hashed. -/
structure HfS (w v : World) (h Z X : Q) (g : Nat) (Y : Q) : Prop where
  hh : Blk v w.heap.size 62 (el h)
  r : Blk v (w.heap.size + 1) 62 (el Z)
  x : Blk v (w.heap.size + 1 + 1) 62 (el X)
  y : Blk v g 62 (el Y)
  g : w.heap.size + 1 + 1 < g
  k : Below w.heap.size w v
section
variable {w v v' : World} {h Z X Y Y' : Q} {g : Nat}
theorem HfS.call (a : HfS w v h Z X g Y) (hb : Below v.heap.size v v') : HfS w v' h Z X g Y := ⟨a.hh.next hb, a.r.next hb, a.x.next hb, a.y.next hb, a.g, a.k.trans (hb.mono a.k.size)⟩
theorem HfS.drew (a : HfS w v h Z X g Y) : HfS w v.drew h Z X g Y := ⟨a.hh, a.r, a.x, a.y, a.g, a.k.drew⟩
theorem HfS.put (a : HfS w v h Z X g Y) (ho : On v v' g) (hb : Blk v' g 62 (el Y')) : HfS w v' h Z X g Y' :=
  ⟨a.hh.on ho (by have := a.g; omega), a.r.on ho (by have := a.g; omega), a.x.on ho (by have := a.g; omega), hb, a.g, ho.below a.k (by have := a.g; omega)⟩
end
theorem v64_size (n : Nat) (h : n ≤ 1000000) : v64 (BitVec.ofNat 64 (8 * n)) = 8 * (n : Int) := by
  unfold v64
  rw [BitVec.toNat_ofNat]
  omega
theorem el_sizes (m n : Nat) (hm : m ≤ 1000000) (hn : n ≤ 1000000) : el (sizesQ m n) = [.int .u64 (8 * (m : Int)), .int .u64 (8 * (n : Int))] := by
  unfold el
  rw [sizes_hi, sizes_lo, v64_size m hm, v64_size n hn]

set_option maxHeartbeats 2000000 in
set_option maxRecDepth 100000 in
theorem hashOf_any (h : Q) (ad text : List B) (ao bo : Option Addr) (n m c d : Nat) (w : World) (hs : Shows w ao n (v8s ad)) (ht : Shows w bo m (v8s text)) (hc : ao = none → c = 0) (hd : bo = none → d = 0) (hnc : n ≤ c) (hmd : m ≤ d) (hbn : n ≤ 1000000) (hbm : m ≤ 1000000) :
    Calls Try.prog 40 #[.agg (el h).toArray, .slice ao n c, .slice bo m d] w fun e w' => e = .returned (.agg (el (hashM h ad text)).toArray) ∧ Below w.heap.size w w' := by
  have HLn : Hid (ad.length = n) := by have := hs.len; rw [v8s_length] at this; exact this
  have HLm : Hid (text.length = m) := by have := ht.len; rw [v8s_length] at this; exact this
  have hz := zero62
  have e0 : el 0#128 = [.int .u64 0, .int .u64 0] := rfl
  have hex : [.int .u64 (8 * (n : Int)), .int .u64 (8 * (m : Int))] = el (sizesQ n m) := (el_sizes n m hbn hbm).symm
  have HF : Hid (hashM h ad text = gm (hashN h (hashN h 0#128 ad (nbl n)) text (nbl m) ^^^ sizesQ n m) h) := by
    show _ = _
    unfold hashM
    rw [HLn.out, HLm.out]
  obtain ⟨X, eX⟩ : ∃ X, X = sizesQ n m := ⟨_, rfl⟩
  rw [← eX] at hex HF
  clear eX
  obtain ⟨h1, h2, h3, h4⟩ := blk3 w 62 62 62 (el h) [.int .u64 0, .int .u64 0] [.int .u64 (8 * (n : Int)), .int .u64 (8 * (m : Int))]
  have hs1 : Shows (((w.alloc (.cells (el h).toArray 62)).alloc (.cells #[.int .u64 0, .int .u64 0] 62)).alloc (.cells #[.int .u64 (8 * (n : Int)), .int .u64 (8 * (m : Int))] 62)) ao n (v8s ad) := ((hs.alloc _).alloc _).alloc _
  have ht1 : Shows (((w.alloc (.cells (el h).toArray 62)).alloc (.cells #[.int .u64 0, .int .u64 0] 62)).alloc (.cells #[.int .u64 (8 * (n : Int)), .int .u64 (8 * (m : Int))] 62)) bo m (v8s text) := ((ht.alloc _).alloc _).alloc _
  have h54 : ∀ W : World, Shows W ao n (v8s ad) → Calls Try.prog 54 #[.agg #[.int .u64 0, .int .u64 0], .agg (el h).toArray, .slice ao n c] W fun e w' => e = .returned (.agg (el (hashN h 0#128 ad (nbl n))).toArray) ∧ Below W.heap.size W w' := fun W hW => by
    have := hashOn_any 0#128 h ad ao n c W hW hc hnc hbn
    rwa [e0] at this
  obtain ⟨Y1, eY1⟩ : ∃ Y, Y = hashN h 0#128 ad (nbl n) := ⟨_, rfl⟩
  rw [← eY1] at h54 HF
  have g54 : ∀ W : World, Shows W bo m (v8s text) → Calls Try.prog 54 #[.agg (el Y1).toArray, .agg (el h).toArray, .slice bo m d] W fun e w' => e = .returned (.agg (el (hashN h Y1 text (nbl m))).toArray) ∧ Below W.heap.size W w' := fun W hW => hashOn_any Y1 h text bo m d W hW hd hmd hbm
  obtain ⟨Y2, eY2⟩ : ∃ Y, Y = hashN h Y1 text (nbl m) := ⟨_, rfl⟩
  rw [← eY2] at g54 HF
  have E0 : Hid _ := e0
  have HX : Hid _ := hex
  have H54 : Hid _ := h54
  have G54 : Hid _ := g54
  clear hs ht eY1 eY2 e0 hex h54 g54 HLn HLm
  have q1 : IntKind.u64.wrap ((n : Nat) : Int) = n := by rw [IntKind.wrap_u64]; omega
  have q2 : IntKind.u64.wrap ((m : Nat) : Int) = m := by rw [IntKind.wrap_u64]; omega
  have q3 : IntKind.u64.wrap (8 * (n : Int)) = 8 * n := by rw [IntKind.wrap_u64]; omega
  have q4 : IntKind.u64.wrap (8 * (m : Int)) = 8 * m := by rw [IntKind.wrap_u64]; omega
  rw [HF.out]
  clear HF
  go_enter Try.func40, Try.ntmps40
  go_wp2_with (refine law_load rfl 62 _ rfl _ rfl 62 _ h1 _ Try.underlying62 rfl (by kernel_rfl) ?_)
  go_at_call 54; refine (H54.out _ hs1).mono ?_; rintro e v1 ⟨rfl, k1⟩
  replace h1 := h1.next k1
  replace h2 := h2.next k1
  replace h3 := h3.next k1
  have ht2 := ht1.later k1
  replace h4 := h4.trans (k1.mono h4.size)
  rw [HX.out] at h3
  rw [← E0.out] at h2
  clear k1 hs1 ht1
  have hlt := h3.lt
  have hN := Blk.new v1 62 [.int .u64 0, .int .u64 0]
  go_wp2_with (first
    | (refine law_store rfl 62 _ _ rfl _ (el Y1) rfl rfl 62 _ hN rfl (by kernel_rfl) (el_one _) ?_; intro wF hoF hAF; have hX0 : HfS w wF h 0#128 X v1.heap.size Y1 := ⟨(h1.alloc _).on hoF (by omega), (h2.alloc _).on hoF (by omega), (h3.alloc _).on hoF (by omega), hAF, hlt, hoF.below (h4.alloc h4.size _) h4.size⟩)
    | (refine law_load rfl 62 _ rfl _ rfl 62 _ hX0.y _ Try.underlying62 rfl (by kernel_rfl) ?_)
    | (refine law_load rfl 62 _ rfl _ rfl 62 _ hX0.hh _ Try.underlying62 rfl (by kernel_rfl) ?_))
  have ht3 : Shows wF bo m (v8s text) := ht2.later (hoF.below ((Below.refl _ v1).alloc (Nat.le_refl _) _) (Nat.le_refl _))
  go_at_call 54; refine (G54.out _ ht3).mono ?_; rintro e v2 ⟨rfl, k2⟩
  have hX1 := hX0.call k2
  obtain ⟨g, eg⟩ : ∃ g, g = v1.heap.size := ⟨_, rfl⟩
  rw [← eg] at hX1 ⊢
  clear h1 h2 h3 h4 hN hX0 hAF hoF ht3 ht2 hlt eg
  go_wp2_with (refine law_store rfl 62 _ _ rfl _ (el Y2) rfl rfl 62 _ hX1.y rfl (by kernel_rfl) (el_one _) ?_; intro wG hoG hAG)
  have hX := hX1.put hoG hAG
  refine wp_region_to (fun v => HfS w v h 0#128 X g Y2) 5 (by kernel_rfl) ?_
  have hS0 := hX.drew
  refine wpTo_take (i := 0) (show _ = some _ by simp only [List.getElem?_toArray, List.getElem?_cons_zero]; exact rfl) (by kernel_rfl) (by kernel_rfl) (by kernel_rfl) (by kernel_rfl) (by exact fun _ _ _ h => h) (yieldsIf_load_mid (by rfl) 62 (.tmp 8) rfl g 0 rfl (el Y2) _ (fun v h => (HfS.y h).whole) Try.underlying62 rfl (by kernel_rfl)) hS0 ?_
  (try simp only [Act.put]); (try simp only [List.setIfInBounds_toArray]); (repeat (first | simp only [List.set_cons_succ] | simp only [List.set_cons_zero]))
  refine wpTo_take (i := 1) (show _ = some _ by simp only [List.getElem?_toArray, List.getElem?_cons_succ, List.getElem?_cons_zero]; exact rfl) (by kernel_rfl) (by kernel_rfl) (by kernel_rfl) (by kernel_rfl) (by exact fun _ _ _ h => h) (yieldsIf_load_mid (by rfl) 62 (.tmp 7) rfl (w.heap.size + 1 + 1) 0 rfl (el X) _ (fun v h => (HfS.x h).whole) Try.underlying62 rfl (by kernel_rfl)) hS0 ?_
  (try simp only [Act.put]); (try simp only [List.setIfInBounds_toArray]); (repeat (first | simp only [List.set_cons_succ] | simp only [List.set_cons_zero]))
  refine wpTo_take (i := 3) (show _ = some _ by simp only [List.getElem?_toArray, List.getElem?_cons_succ, List.getElem?_cons_zero]; exact rfl) (by kernel_rfl) (by kernel_rfl) (by kernel_rfl) (by kernel_rfl) (by exact fun _ _ _ h => h) (yieldsIf_load_mid (by rfl) 62 (.tmp 3) rfl w.heap.size 0 rfl (el h) _ (fun v h => (HfS.hh h).whole) Try.underlying62 rfl (by kernel_rfl)) hS0 ?_
  (try simp only [Act.put]); (try simp only [List.setIfInBounds_toArray]); (repeat (first | simp only [List.set_cons_succ] | simp only [List.set_cons_zero]))
  refine wpTo_one (i := 2) (by kernel_rfl) (show _ = some _ by simp only [List.getElem?_toArray, List.getElem?_cons_succ, List.getElem?_cons_zero]; exact rfl) (fun K hK => ?_)
  go_simp
  go_at_call 41; refine (eplus_any Y2 X _).mono ?_; rintro e v3 ⟨rfl, k3⟩
  (try simp only [])
  refine hK.out _ _ (HfS.call hS0 k3) (fun hS1 => ?_)
  clear hK K
  (try simp only [Act.put]); (try simp only [List.setIfInBounds_toArray]); (repeat (first | simp only [List.set_cons_succ] | simp only [List.set_cons_zero]))
  refine wpTo_one (i := 4) (by kernel_rfl) (show _ = some _ by simp only [List.getElem?_toArray, List.getElem?_cons_succ, List.getElem?_cons_zero]; exact rfl) (fun K hK => ?_)
  go_simp
  go_at_call 55; refine (times_el (Y2 ^^^ X) h _).mono ?_; rintro e v4 ⟨rfl, k4⟩
  (try simp only [])
  refine hK.out _ _ (HfS.call hS1 k4) (fun hS2 => ?_)
  clear hK K
  (try simp only [Act.put]); (try simp only [List.setIfInBounds_toArray]); (repeat (first | simp only [List.set_cons_succ] | simp only [List.set_cons_zero]))
  refine wpTo_last (by kernel_rfl) (show _ = some _ by simp only [List.getElem?_toArray, List.getElem?_cons_succ, List.getElem?_cons_zero]; exact rfl) (by kernel_rfl) (fun K hK => ?_)
  rw [if_pos (by rfl)]
  refine wp_store_row 62 (.tmp 6) (.tmp 30) rfl (w.heap.size + 1) (el (gm (Y2 ^^^ X) h)).toArray rfl rfl 62 _ hS2.r (by kernel_rfl) rfl (el_one _) ?_
  refine hK.out _ _ ?_
  clear hK K
  (try simp only [Act.put]); (try simp only [List.setIfInBounds_toArray]); (repeat (first | simp only [List.set_cons_succ] | simp only [List.set_cons_zero]))
  have hoZ := On.setRow v4 (w.heap.size + 1) (el (gm (Y2 ^^^ X) h)).toArray
  have hAZ := setRow_heap v4 (w.heap.size + 1) _ (el (gm (Y2 ^^^ X) h)).toArray 62 _ hS2.r
  go_wp2_with fail
  refine bodyPost_ret (v := .agg (el (gm (Y2 ^^^ X) h)).toArray) (results_cell_row rfl _ _ (w.heap.size + 1) 62 _ _ _ rfl hAZ Try.underlying62 rfl (by kernel_rfl)) rfl ⟨rfl, hoZ.below hS2.k (by omega)⟩
end Go.Proofs.Ytjhkicfndbceoaa
