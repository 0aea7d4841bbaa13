/- DigestKeys: what a key comes to. -/
import Derived.Test.YtmnembhcfkcmnaaDoorRefM
import Derived.Deep.RegionHeld3
namespace Go.Proofs.YtmnembhcfkcmnaaDoor
open Go.RowKit

theorem keyOf_sum (ks : List Int) (h : 64 < ks.length) : keyOf (sumOf ks) = keyOf ks := by
  unfold keyOf
  have hl := sumOf_length ks
  rw [if_pos h, if_neg (by omega), hl]
theorem keyOf_zero (ks : List Int) (h : ks.length < 64) : keyOf (ks ++ [0]) = keyOf ks := by
  unfold keyOf
  rw [if_neg (by simp; omega), if_neg (by omega), List.append_assoc]
  congr 1
  rw [show 64 - ks.length = (64 - (ks ++ [0]).length) + 1 by simp; omega, List.replicate_succ]
  rfl
theorem macOf_sum (ks xs : List Int) (h : 64 < ks.length) : macOf (sumOf ks) xs = macOf ks xs := by unfold macOf; rw [keyOf_sum ks h]
theorem macOf_zero (ks xs : List Int) (h : ks.length < 64) : macOf (ks ++ [0]) xs = macOf ks xs := by unfold macOf; rw [keyOf_zero ks h]

theorem arr_range {w : World} {g : Nat} {t : TypeId} {R : List Int} (h : Arr w g .u8 t R) : w.rangeAt g 0 (R.map (Value.int .u8)) := fun j v hv => by
  have hj := (List.getElem?_eq_some_iff.1 hv).1
  rw [List.length_map] at hj
  rw [Nat.zero_add, h.cell j hj, ← hv]
  simp [List.getD, List.getElem?_eq_getElem hj]
theorem range_next {w w' : World} {g o : Nat} {cs : List Value} (h : w.rangeAt g o cs) (hb : Below w.heap.size w w') : w'.rangeAt g o cs := fun j v hv => cell_later hb (h j v hv)

set_option maxHeartbeats 2000000 in
set_option maxRecDepth 100000 in
theorem keys_long (ka bo : Option Addr) (kn kc n c : Nat) (ks xs : List Int) (w : World) (hk : Shows w ka kn ks) (hknc : kn ≤ kc) (hkm : kc ≤ maxLen) (hs : Shows w bo n xs) (hnc : n ≤ c) (hc : c ≤ maxLen) (hT : Tabs w) (hkb : (kn : Int) ≤ 16384) (hn : (n : Int) ≤ 16384) (hlong : (64 : Int) < kn) :
    Calls Tryd.prog 7 #[.slice ka kn kc, .slice bo n c] w fun e w' => e = .returned (.bool true) ∧ Below w.heap.size w w' := by
  have hkl := hk.len
  have hc1 := mac_any ka bo kn kc n c ks xs w hk hknc hkm (by omega) hs hnc hc (by omega) hT
  have hRl : (macOf ks xs).length = 32 := sumOf_length _
  have hZl := sumOf_length ks
  have hZr := sumOf_rng ks
  have hcz : ∀ w1 : World, Below w.heap.size w w1 → _ := fun w1 hb => digestSum_any ka kn kc ks w1 (hk.later hb) hknc hkm (by omega) (hT.later hb hT.sz)
  have hcm : ∀ (w1 : World) (g : Nat), Below w.heap.size w w1 → Shows w1 (some ⟨g, 0, none⟩) 32 (sumOf ks) → _ := fun w1 g hb hz => mac_any (some ⟨g, 0, none⟩) bo 32 32 n c (sumOf ks) xs w1 hz (Nat.le_refl _) (by decide) (by decide) (hs.later hb) hnc hc (by omega) (hT.later hb hT.sz)
  rw [macOf_sum ks xs (by omega)] at hcm
  obtain ⟨Z, eZ⟩ : ∃ x, x = sumOf ks := ⟨_, rfl⟩
  rw [← eZ] at hZl hZr hcz hcm
  obtain ⟨R, eR⟩ : ∃ x, x = macOf ks xs := ⟨_, rfl⟩
  rw [← eR] at hRl hc1 hcm
  clear eZ eR
  have heq := eq25 R hRl
  have hgd := guard25
  go_enter Tryd.func7, Tryd.ntmps7
  go_wp2_with fail
  go_at_call 13
  refine hc1.mono ?_
  rintro e w1 ⟨rfl, hb1⟩
  go_wp2_with (refine law_store rfl 25 _ _ rfl w1.heap.size .u8 R rfl rfl 25 _ (Arr.new w1 .u8 25 (List.replicate 32 0)) (by simp [hRl]) (by rw [hRl]; kernel_rfl) ?_; intro w2 ho2 hA2)
  have hB2 : Below w.heap.size w w2 := ho2.below (hb1.alloc hb1.size _) hb1.size
  obtain ⟨gm, egm⟩ : ∃ g, g = w1.heap.size := ⟨_, rfl⟩
  rw [← egm] at hA2
  rw [← egm]
  have hgm : w.heap.size ≤ gm := by have := hb1.size; omega
  clear egm ho2 hc1
  go_at_call 10
  refine (hcz w2 hB2).mono ?_
  rintro e w3 ⟨rfl, hb3⟩
  have hB3 : Below w.heap.size w w3 := hB2.trans (hb3.mono hB2.size)
  have hA3 := hA2.next hb3
  have hA3l := hA3.lt
  go_wp2_with (refine law_store rfl 25 _ _ rfl w3.heap.size .u8 Z rfl rfl 25 _ (Arr.new w3 .u8 25 (List.replicate 32 0)) (by simp [hZl]) (by rw [hZl]; kernel_rfl) ?_; intro w4 ho4 hZ4)
  have hB4 : Below w.heap.size w w4 := ho4.below (hB3.alloc hB3.size _) hB3.size
  have hA4 : Arr w4 gm .u8 25 R := (hA3.alloc _).on ho4 (by omega)
  have hsl : ∀ W : World, _ := fun W => slice_all32 W w3.heap.size 0
  have hr4 : w4.rangeAt gm 0 (R.map (Value.int .u8)) := arr_range hA4
  have hr4d : w4.drew.rangeAt gm 0 (R.map (Value.int .u8)) := hr4
  have u25 := Tryd.underlying25
  have i25 : (Tryd.prog.info? 25).map (·.size) = some (R.map (Value.int .u8)).length := by rw [List.length_map, hRl]; kernel_rfl
  have hB4d : Below w.heap.size w w4.drew := hB4.drew
  have hcm4 := hcm w4.drew w3.heap.size hB4d (Arr.shows (w := w4.drew) hZ4 hZr hZl)
  have heq' : ∀ W : World, (Op.equalIn 10000 25 (.agg (nums .u8 R)) (.agg (R.map (Value.int .u8)).toArray)).run Tryd.prog W = .ok true W := heq
  have hwk : ∀ w5 : World, Below w4.drew.heap.size w4.drew w5 → _ := fun w5 hb => works_any w5 (hT.later (hB4d.trans (hb.mono hB4d.size)) hT.sz)
  clear hcm hcz hA3 hb3 hA2 ho4 heq
  go_wp2_with fail
  go_region_held3 (fun w' => w'.rangeAt gm 0 (R.map (Value.int .u8))) (first | exact hr6 | exact hr5 | exact hr4d | assumption) ((first | (go_at_call 13; refine hcm4.mono ?_; rintro e w5 ⟨rfl, hb5⟩; have hr5 : w5.rangeAt gm 0 (R.map (Value.int .u8)) := range_next hr4d hb5) | (go_at_call 8; refine (hwk w5 hb5).mono ?_; rintro e w6 ⟨rfl, hb6⟩; have hr6 : w6.rangeAt gm 0 (R.map (Value.int .u8)) := range_next hr5 hb6)))
  go_wp2
  go_ret
  have hB5 : Below w.heap.size w w5 := hB4d.trans (hb5.mono hB4d.size)
  exact ⟨rfl, hB5.trans (hb6.mono hB5.size)⟩
end Go.Proofs.YtmnembhcfkcmnaaDoor
