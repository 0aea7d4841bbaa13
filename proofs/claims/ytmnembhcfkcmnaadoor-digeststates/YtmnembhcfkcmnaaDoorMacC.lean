/- The Mac of a key and bytes, by the program: two sums, one around the other. -/
import Derived.Test.YtmnembhcfkcmnaaDoorMacB
namespace Go.Proofs.YtmnembhcfkcmnaaDoor
open Go.RowKit

theorem Arr.only {w w' : World} {g r : Nat} {k : IntKind} {t : TypeId} {xs : List Int} (h : Arr w g k t xs) (ho : Only r w w') (hn : g ≠ r) : Arr w' g k t xs := (ho.block g h.lt hn).trans h

def macOf (key b : List Int) : List Int := sumOf (xk 92 (keyOf key) ++ sumOf (xk 54 (keyOf key) ++ b))

set_option maxHeartbeats 2000000 in
set_option maxRecDepth 100000 in
theorem mac_walk (ka bo : Option Addr) (kn kc n c : Nat) (xs K A1 A2 I R : List Int) (w : World) (hs : Shows w bo n xs) (hnc : n ≤ c) (hc : c ≤ maxLen) (hbig : n < 1000000000) (hT : Tabs w)
    (hK : K.length = 64) (hA1l : A1.length = 64) (hA2l : A2.length = 64) (hA1r : ∀ x ∈ A1, 0 ≤ x ∧ x ≤ 255) (hA2r : ∀ x ∈ A2, 0 ≤ x ∧ x ≤ 255) (hI : I.length = 32) (hIr : ∀ x ∈ I, 0 ≤ x ∧ x ≤ 255) (hR : R.length = 32)
    (hm1 : ∀ w : World, Calls Tryd.prog 25 #[.agg (nums .u8 K), .int .u8 54] w fun e w' => e = .returned (.slice (some ⟨w.heap.size, 0, none⟩) 64 64) ∧ Arr w' w.heap.size .u8 47 A1 ∧ Below w.heap.size w w')
    (hm2 : ∀ w : World, Calls Tryd.prog 25 #[.agg (nums .u8 K), .int .u8 92] w fun e w' => e = .returned (.slice (some ⟨w.heap.size, 0, none⟩) 64 64) ∧ Arr w' w.heap.size .u8 47 A2 ∧ Below w.heap.size w w')
    (hkey : ∀ w1 : World, Below w.heap.size w w1 → Calls Tryd.prog 24 #[.slice ka kn kc] w1 fun e w' => e = .returned (.agg (nums .u8 K)) ∧ Below w1.heap.size w1 w')
    (hsI : sumOf (A1 ++ xs) = I) (hsR : sumOf (A2 ++ I) = R) :
    Calls Tryd.prog 13 #[.slice ka kn kc, .slice bo n c] w fun e w' => e = .returned (.agg (nums .u8 R)) ∧ Below w.heap.size w w' := by
  have HI : Hid (sumOf (A1 ++ xs) = I) := hsI
  have HR : Hid (sumOf (A2 ++ I) = R) := hsR
  have hG := Arr.new w .u8 25 (List.replicate 32 0)
  have hb0 : Below w.heap.size w (w.alloc (.cells (nums .u8 (List.replicate 32 0)) 25)) := (Below.refl _ w).alloc (Nat.le_refl _) _
  have hck := hkey _ hb0
  have hm63 : (64 : Nat) ≤ maxLen := by decide
  have hm31 : (32 : Nat) ≤ maxLen := by decide
  have hsz := hT.sz
  clear hsI hsR hkey
  go_enter Tryd.func13, Tryd.ntmps13
  go_wp2_with (first
    | (go_at_call 24; refine hck.mono ?_; rintro e w1 ⟨rfl, hb1⟩; have hG1 := hG.next hb1; have hB1 := hb0.trans (hb1.mono hb0.size); have hg1 := hG1.lt)
    | (refine law_store rfl 47 _ _ rfl w1.heap.size .u8 K rfl rfl 47 _ (Arr.new w1 .u8 47 (List.replicate 64 0)) (by simp [hK]) (by rw [hK]; kernel_rfl) ?_; intro w2 ho2 hK2))
  have hG2 : Arr w2 w.heap.size .u8 25 (List.replicate 32 0) := (hG1.alloc _).on ho2 (by omega)
  have hB2 : Below w.heap.size w w2 := ho2.below (hB1.alloc hB1.size _) hB1.size
  obtain ⟨gk, egk⟩ : ∃ g, g = w1.heap.size := ⟨_, rfl⟩
  rw [← egk] at hK2
  rw [← egk]
  have hgk : w.heap.size < gk := by omega
  have hgkl := hK2.lt
  clear egk ho2 hG hb0 hck hG1 hB1 hb1 hg1
  go_at_call 15
  refine (new_any w2 (hT.later hB2 hT.sz)).mono ?_
  rintro e w3 ⟨r1, rfl, hr1, hS3, hb3⟩
  have hB3 : Below w.heap.size w w3 := hB2.trans (hb3.mono hB2.size)
  have hK3 := hK2.next hb3
  have hG3 := hG2.next hb3
  have hr1l := hS3.lt
  go_wp2_with (refine law_load rfl 47 _ rfl _ rfl .u8 47 _ hK3 64 5 Tryd.underlying47 (by rw [hK]; kernel_rfl) ?_)
  go_at_call 25
  refine (hm1 w3).mono ?_
  rintro e w4 ⟨rfl, hA4, hb4⟩
  have hB4 : Below w.heap.size w w4 := hB3.trans (hb4.mono hB3.size)
  have hs4 : Shows w4 (some ⟨w3.heap.size, 0, none⟩) 64 A1 := hA4.shows hA1r hA1l
  go_wp2_with fail
  go_at_call 17
  refine (add_any r1 0 [] A1 w4 _ _ (hS3.next hb4) hold_new (some ⟨w3.heap.size, 0, none⟩) 64 64 hs4 (fun _ ad had => by cases had; show w3.heap.size ≠ r1; omega) (Nat.le_refl _) hm63 (hT.later hB4 hT.sz) (by omega) (by decide)).mono ?_
  rintro e w5 ⟨rfl, s5, b5, hS5, hH5, ho5⟩
  have hB5 : Below w.heap.size w w5 := hB4.trans (ho5.toBelow (by omega) hB4.size)
  have hK5 := (hK3.next hb4).only ho5 (by omega)
  have hG5 := (hG3.next hb4).only ho5 (by omega)
  rw [Nat.zero_add, List.nil_append] at hH5
  rw [Nat.zero_add] at hS5
  go_wp2_with fail
  go_at_call 17
  refine (add_any r1 64 A1 xs w5 _ _ hS5 hH5 bo n c (hs.later hB5) (fun hn ad had => by subst had; have := shows_block hs hn; omega) hnc hc (hT.later hB5 hT.sz) (by omega) (by omega)).mono ?_
  rintro e w6 ⟨rfl, s6, b6, hS6, hH6, ho6⟩
  have hB6 : Below w.heap.size w w6 := hB5.trans (ho6.toBelow (by omega) hB5.size)
  have hK6 := hK5.only ho6 (by omega)
  have hG6 := hG5.only ho6 (by omega)
  have hcs6 := sum_any r1 s6 b6 (A1 ++ xs) (64 + n) w6 hS6 hH6 (by omega) (hT.later hB6 hT.sz)
  rw [HI.out] at hcs6
  clear hS5 hH5 hS6 hH6 hs4 hA4 hS3 hK2 hK3 hK5 hG2 hG3 hG5 ho5 ho6
  go_wp2_with (first
    | (go_at_call 18; refine hcs6.mono ?_; rintro e w7 ⟨rfl, hb7⟩; have hB7 := hB6.trans (hb7.mono hB6.size); have hK7 := hK6.next hb7; have hG7 := hG6.next hb7; have hk7 := hK7.lt; have hg7 := hG7.lt)
    | (refine law_store rfl 25 _ _ rfl w7.heap.size .u8 I rfl rfl 25 _ (Arr.new w7 .u8 25 (List.replicate 32 0)) (by simp [hI]) (by rw [hI]; kernel_rfl) ?_; intro w8 ho8 hI8))
  have hK8 : Arr w8 gk .u8 47 K := (hK7.alloc _).on ho8 (by omega)
  have hG8 : Arr w8 w.heap.size .u8 25 (List.replicate 32 0) := (hG7.alloc _).on ho8 (by omega)
  have hB8 : Below w.heap.size w w8 := ho8.below (hB7.alloc hB7.size _) hB7.size
  obtain ⟨gs, egs⟩ : ∃ g, g = w7.heap.size := ⟨_, rfl⟩
  rw [← egs] at hI8
  rw [← egs]
  have hgs : gk < gs := by omega
  have hgsl := hI8.lt
  clear egs ho8 hcs6 hK6 hG6 hK7 hG7 hb7
  go_at_call 15
  refine (new_any w8 (hT.later hB8 hT.sz)).mono ?_
  rintro e w9 ⟨r2, rfl, hr2, hS9, hb9⟩
  have hB9 : Below w.heap.size w w9 := hB8.trans (hb9.mono hB8.size)
  have hK9 := hK8.next hb9
  have hG9 := hG8.next hb9
  have hI9 := hI8.next hb9
  have hr2l := hS9.lt
  go_wp2_with (refine law_load rfl 47 _ rfl _ rfl .u8 47 _ hK9 64 5 Tryd.underlying47 (by rw [hK]; kernel_rfl) ?_)
  go_at_call 25
  refine (hm2 w9).mono ?_
  rintro e w10 ⟨rfl, hA10, hb10⟩
  have hB10 : Below w.heap.size w w10 := hB9.trans (hb10.mono hB9.size)
  have hs10 : Shows w10 (some ⟨w9.heap.size, 0, none⟩) 64 A2 := hA10.shows hA2r hA2l
  go_wp2_with fail
  go_at_call 17
  refine (add_any r2 0 [] A2 w10 _ _ (hS9.next hb10) hold_new (some ⟨w9.heap.size, 0, none⟩) 64 64 hs10 (fun _ ad had => by cases had; show w9.heap.size ≠ r2; omega) (Nat.le_refl _) hm63 (hT.later hB10 hT.sz) (by omega) (by decide)).mono ?_
  rintro e w11 ⟨rfl, s11, b11, hS11, hH11, ho11⟩
  have hB11 : Below w.heap.size w w11 := hB10.trans (ho11.toBelow (by omega) hB10.size)
  have hG11 := (hG9.next hb10).only ho11 (by omega)
  have hI11 := (hI9.next hb10).only ho11 (by omega)
  rw [Nat.zero_add, List.nil_append] at hH11
  rw [Nat.zero_add] at hS11
  have hsl : ∀ W : World, _ := fun W => slice_all32 W gs 0
  have hs11 : Shows w11 (some ⟨gs, 0, none⟩) 32 I := hI11.shows hIr hI
  go_wp2_with fail
  go_at_call 17
  refine (add_any r2 64 A2 I w11 _ _ hS11 hH11 (some ⟨gs, 0, none⟩) 32 32 hs11 (fun _ ad had => by cases had; show gs ≠ r2; omega) (Nat.le_refl _) hm31 (hT.later hB11 hT.sz) (by omega) (by decide)).mono ?_
  rintro e w12 ⟨rfl, s12, b12, hS12, hH12, ho12⟩
  have hB12 : Below w.heap.size w w12 := hB11.trans (ho12.toBelow (by omega) hB11.size)
  have hG12 := hG11.only ho12 (by omega)
  have hcs12 := sum_any r2 s12 b12 (A2 ++ I) 96 w12 hS12 hH12 (by decide) (hT.later hB12 hT.sz)
  rw [HR.out] at hcs12
  clear hS11 hH11 hS12 hH12 hs11 hs10 hA10 hS9 hK8 hK9 hG8 hG9 hG11 hI8 hI9 hI11 ho11 ho12 hsl
  go_wp2_with (first
    | (go_at_call 18; refine hcs12.mono ?_; rintro e w13 ⟨rfl, hb13⟩)
    | (refine law_store rfl 25 _ _ rfl w.heap.size .u8 R rfl rfl 25 _ (hG12.next hb13) (by simp [hR]) (by rw [hR]; kernel_rfl) ?_; intro wF hoF hAF))
  refine bodyPost_ret (v := .agg (nums .u8 R)) (results_cell_row rfl _ _ w.heap.size 25 _ _ _ rfl hAF Tryd.underlying25 rfl (by rw [nums_size, hR]; kernel_rfl)) rfl ⟨rfl, hoF.below (hB12.trans (hb13.mono hB12.size)) (Nat.le_refl _)⟩

theorem mac_any (ka bo : Option Addr) (kn kc n c : Nat) (ks xs : List Int) (w : World) (hk : Shows w ka kn ks) (hknc : kn ≤ kc) (hkc : kc ≤ maxLen) (hkbig : kn < 1000000000) (hs : Shows w bo n xs) (hnc : n ≤ c) (hc : c ≤ maxLen) (hbig : n < 1000000000) (hT : Tabs w) :
    Calls Tryd.prog 13 #[.slice ka kn kc, .slice bo n c] w fun e w' => e = .returned (.agg (nums .u8 (macOf ks xs))) ∧ Below w.heap.size w w' := by
  have hKl := keyOf_length ks
  have hKr := keyOf_rng ks hk.rng
  exact mac_walk ka bo kn kc n c xs (keyOf ks) (xk 54 (keyOf ks)) (xk 92 (keyOf ks)) (sumOf (xk 54 (keyOf ks) ++ xs)) (macOf ks xs) w hs hnc hc hbig hT hKl (by rw [xk_length]; exact hKl) (by rw [xk_length]; exact hKl)
    (xk_rng _ _ hKr (by decide) (by decide)) (xk_rng _ _ hKr (by decide) (by decide)) (sumOf_length _) (sumOf_rng _) (sumOf_length _) (fun w => masked_any _ _ hKl w) (fun w => masked_any _ _ hKl w)
    (fun w1 hb1 => macKey_any ka kn kc ks w1 (hk.later hb1) hknc hkc (by omega) (hT.later hb1 hT.sz)) rfl rfl
end Go.Proofs.YtmnembhcfkcmnaaDoor
