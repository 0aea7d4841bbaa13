/- The Mac of a key and bytes, by the program. -/
import Derived.Test.YtmnembhcfkcmnaaDoorMacA
namespace Go.Proofs.YtmnembhcfkcmnaaDoor
open Go.RowKit

/-- A key in just a block. -/
def keyOf (key : List Int) : List Int := if 64 < key.length then sumOf key ++ List.replicate 32 0 else key ++ List.replicate (64 - key.length) 0
theorem keyOf_length (key : List Int) : (keyOf key).length = 64 := by
  unfold keyOf
  split
  · rw [List.length_append, sumOf_length]; simp
  · simp; omega
theorem keyOf_rng (key : List Int) (h : ∀ x ∈ key, 0 ≤ x ∧ x ≤ 255) : ∀ x ∈ keyOf key, 0 ≤ x ∧ x ≤ 255 := by
  intro x hx
  unfold keyOf at hx
  split at hx
  · simp only [List.mem_append, List.mem_replicate] at hx
    rcases hx with hx | ⟨_, rfl⟩
    · exact sumOf_rng key x hx
    · decide
  · simp only [List.mem_append, List.mem_replicate] at hx
    rcases hx with hx | ⟨_, rfl⟩
    · exact h x hx
    · decide

set_option maxHeartbeats 1000000 in
set_option maxRecDepth 100000 in
theorem macKey_small (ao : Option Addr) (n c : Nat) (xs : List Int) (w : World) (hs : Shows w ao n xs) (hn : (n : Int) ≤ 64) :
    Calls Tryd.prog 24 #[.slice ao n c] w fun e w' => e = .returned (.agg (nums .u8 (xs ++ List.replicate (64 - n) 0))) ∧ Below w.heap.size w w' := by
  have hl := hs.len
  have hA0 := (Arr.new w .u8 47 (List.replicate 64 0)).alloc (.cells (nums .u8 (List.replicate 64 0)) 47)
  have hA1 := Arr.new (w.alloc (.cells (nums .u8 (List.replicate 64 0)) 47)) .u8 47 (List.replicate 64 0)
  rw [World.size_alloc] at hA1
  have hbA : Below w.heap.size w ((w.alloc (.cells (nums .u8 (List.replicate 64 0)) 47)).alloc (.cells (nums .u8 (List.replicate 64 0)) 47)) := ((Below.refl _ w).alloc (Nat.le_refl _) _).alloc (by simp) _
  have hsA := hs.later hbA
  have hdr : (List.replicate 64 (0 : Int)).drop n = List.replicate (64 - n) 0 := by rw [List.drop_replicate]
  have hsl : ∀ W : World, _ := fun W => slice_all W (w.heap.size + 1) 0
  have hkl : (xs ++ List.replicate (64 - n) 0).length = 64 := by simp; omega
  obtain ⟨K, eK⟩ : ∃ K, K = xs ++ List.replicate (64 - n) 0 := ⟨_, rfl⟩
  rw [← eK] at hkl
  have HK : Hid (xs ++ (List.replicate 64 (0 : Int)).drop n = K) := by show xs ++ (List.replicate 64 (0 : Int)).drop n = K; rw [hdr, eK]
  rw [← eK]
  clear eK hdr hl
  go_enter Tryd.func24, Tryd.ntmps24
  go_wp2_with (first
    | (refine law_copy_on rfl _ _ rfl (w.heap.size + 1) 64 rfl ao n c xs (List.replicate 64 0) 47 rfl hsA (by omega) (by simp) hA1 ?_; intro w1 ho1 hB1; rw [HK.out] at hB1)
    | (refine law_load rfl 47 _ rfl _ rfl .u8 47 _ hB1 64 5 Tryd.underlying47 (by rw [hkl]; kernel_rfl) ?_)
    | (refine law_store rfl 47 _ _ rfl w.heap.size .u8 K rfl rfl 47 _ (hA0.on ho1 (by omega)) (by simp [hkl]) (by rw [hkl]; kernel_rfl) ?_; intro wF hoF hAF))
  refine bodyPost_ret (v := .agg (nums .u8 K)) (results_cell_row rfl _ _ w.heap.size 47 _ _ _ rfl hAF Tryd.underlying47 rfl (by rw [nums_size, hkl]; kernel_rfl)) rfl ⟨rfl, hoF.below (ho1.below hbA (by omega)) (Nat.le_refl _)⟩

set_option maxHeartbeats 1000000 in
set_option maxRecDepth 100000 in
theorem macKey_big (ao : Option Addr) (n c : Nat) (R K : List Int) (w : World) (hn : (64 : Int) < n) (hRl : R.length = 32) (hRr : ∀ x ∈ R, 0 ≤ x ∧ x ≤ 255) (hK : R ++ List.replicate 32 0 = K) (hkl : K.length = 64)
    (hcall : ∀ w1 : World, Below w.heap.size w w1 → Calls Tryd.prog 10 #[.slice ao n c] w1 fun e w' => e = .returned (.agg (nums .u8 R)) ∧ Below w1.heap.size w1 w') :
    Calls Tryd.prog 24 #[.slice ao n c] w fun e w' => e = .returned (.agg (nums .u8 K)) ∧ Below w.heap.size w w' := by
  have hA0 := (Arr.new w .u8 47 (List.replicate 64 0)).alloc (.cells (nums .u8 (List.replicate 64 0)) 47)
  have hA1 := Arr.new (w.alloc (.cells (nums .u8 (List.replicate 64 0)) 47)) .u8 47 (List.replicate 64 0)
  rw [World.size_alloc] at hA1
  have hbA : Below w.heap.size w ((w.alloc (.cells (nums .u8 (List.replicate 64 0)) 47)).alloc (.cells (nums .u8 (List.replicate 64 0)) 47)) := ((Below.refl _ w).alloc (Nat.le_refl _) _).alloc (by simp) _
  have hc1 := hcall _ hbA
  have HK : Hid (R ++ List.replicate 32 0 = K) := hK
  clear hcall hK
  go_enter Tryd.func24, Tryd.ntmps24
  go_wp2_with (first
    | (go_at_call 10; refine hc1.mono ?_; rintro e w1 ⟨rfl, hb1⟩; have hB0 := hA0.next hb1; have hB1 := hA1.next hb1; have hbB := hbA.trans (hb1.mono hbA.size); have hlt := hB1.lt)
    | (refine law_store rfl 25 _ _ rfl w1.heap.size .u8 R rfl rfl 25 _ (Arr.new w1 .u8 25 (List.replicate 32 0)) (by simp [hRl]) (by rw [hRl]; kernel_rfl) ?_; intro w2 ho2 hC2; have hC0 := (hB0.alloc (.cells (nums .u8 (List.replicate 32 0)) 25)).on ho2 (by omega); have hC1 := (hB1.alloc (.cells (nums .u8 (List.replicate 32 0)) 25)).on ho2 (by omega); have hbC : Below w.heap.size w w2 := ho2.below (hbB.alloc hbB.size _) hbB.size))
  have hsl1 : ∀ W : World, _ := fun W => slice_all W (w.heap.size + 1) 0
  have hsl2 : ∀ W : World, _ := fun W => slice_all32 W w1.heap.size 0
  have hs2 : Shows w2 (some ⟨w1.heap.size, 0, none⟩) 32 R := hC2.shows hRr hRl
  have hcur : w2.drew.heap[w.heap.size + 1]? = some (.cells (u8s (List.replicate 64 0)).toArray 47 (0, 0)) := hC1
  have hsrc : ∀ j v, (u8s R)[j]? = some v → w2.drew.cell? ((⟨w1.heap.size, 0, none⟩ : Addr).add j) = some v := fun j v hv => hs2.cells j v hv
  have hul : (u8s R).length = 32 := by rw [u8s_length]; exact hRl
  have hcp : ∀ w3 : World, w3.heap[w.heap.size + 1]? = some (.cells ((u8s (List.replicate 64 0)).take 0 ++ (u8s R ++ (u8s (List.replicate 64 0)).drop (0 + (u8s R).length))).toArray 47 (0, 0)) → Arr w3 (w.heap.size + 1) .u8 47 K := by
    intro w3 hw
    rw [hul, copied] at hw
    have e : R ++ List.replicate (64 - 32) 0 = K := HK.out
    rw [e] at hw
    exact hw
  clear hc1 hA0 hA1 hbA hB0 hB1 hbB hb1 ho2 hs2 hC1
  go_region_held3 (fun _ => True) (trivial) ((refine step_copy_on rfl _ _ rfl (w.heap.size + 1) 0 64 64 ⟨w1.heap.size, 0, none⟩ 32 32 rfl rfl (u8s (List.replicate 64 0)) 47 hcur (u8s R) 32 hul (by rfl) hsrc (by rw [u8s_length]; simp) (u8s_one _) ?_; intro w3 ho3 hg3))
  have hD1 := hcp w3 hg3
  have hD0 : Arr w3 w.heap.size .u8 47 (List.replicate 64 0) := hC0.drew.on ho3 (by omega)
  clear hcp hg3 hsl1 hsl2 hcur hsrc hC0 hC2
  go_wp2_with (first
    | (refine law_load rfl 47 _ rfl _ rfl .u8 47 _ hD1 64 5 Tryd.underlying47 (by rw [hkl]; kernel_rfl) ?_)
    | (refine law_store rfl 47 _ _ rfl w.heap.size .u8 K rfl rfl 47 _ hD0 (by simp [hkl]) (by rw [hkl]; kernel_rfl) ?_; intro wF hoF hAF))
  refine bodyPost_ret (v := .agg (nums .u8 K)) (results_cell_row rfl _ _ w.heap.size 47 _ _ _ rfl hAF Tryd.underlying47 rfl (by rw [nums_size, hkl]; kernel_rfl)) rfl ⟨rfl, hoF.below (ho3.below hbC.drew (by omega)) (Nat.le_refl _)⟩

theorem macKey_any (ao : Option Addr) (n c : Nat) (xs : List Int) (w : World) (hs : Shows w ao n xs) (hnc : n ≤ c) (hc : c ≤ maxLen) (hbig : n < 1152921504606846976) (hT : Tabs w) :
    Calls Tryd.prog 24 #[.slice ao n c] w fun e w' => e = .returned (.agg (nums .u8 (keyOf xs))) ∧ Below w.heap.size w w' := by
  have hl := hs.len
  by_cases hn : n ≤ 64
  · have e : keyOf xs = xs ++ List.replicate (64 - n) 0 := by unfold keyOf; rw [if_neg (by omega), hl]
    rw [e]
    exact macKey_small ao n c xs w hs (by omega)
  · have e : keyOf xs = sumOf xs ++ List.replicate 32 0 := by unfold keyOf; rw [if_pos (by omega)]
    have hkl := keyOf_length xs
    rw [e] at hkl
    rw [e]
    exact macKey_big ao n c (sumOf xs) (sumOf xs ++ List.replicate 32 0) w (by omega) (sumOf_length xs) (sumOf_rng xs) rfl hkl
      (fun w1 hb1 => digestSum_any ao n c xs w1 (hs.later hb1) hnc hc hbig (hT.later hb1 hT.sz))
end Go.Proofs.YtmnembhcfkcmnaaDoor
