/- Sum of a state: the padding, the last blocks, the bytes of the words. -/
import Derived.Test.YtmnembhcfkcmnaaDoorAdd
namespace Go.Proofs.YtmnembhcfkcmnaaDoor
open Go.RowKit

theorem be8_length (n : Nat) : (be8 n).length = 8 := by simp [be8]
theorem be8_at (n i : Nat) (h : i < 8) : (be8 n).getD i 0 = ((n / 2 ^ (8 * (7 - i)) % 256 : Nat) : Int) := by simp [be8, List.getD, h]
/-- The last q places of the block hold those of the count. -/
def tailed (base : List Int) (N q : Nat) : List Int := base.take (64 - q) ++ (be8 N).drop (8 - q)
theorem tailed_length (base : List Int) (N q : Nat) (h : base.length = 64) (hq : q ≤ 8) : (tailed base N q).length = 64 := by simp [tailed, be8_length]; omega
theorem tailed_step (base : List Int) (N q : Nat) (h : base.length = 64) (hq : q < 8) : (tailed base N q).set (63 - q) ((N / 2 ^ (8 * q) % 256 : Nat) : Int) = tailed base N (q + 1) := by
  unfold tailed
  rw [List.set_append_left _ _ (by simp; omega)]
  have e1 : (base.take (64 - q)).set (63 - q) ((N / 2 ^ (8 * q) % 256 : Nat) : Int) = base.take (63 - q) ++ [((N / 2 ^ (8 * q) % 256 : Nat) : Int)] := by
    rw [show 64 - q = (63 - q) + 1 by omega, List.take_add_one, List.getElem?_eq_getElem (by omega)]
    rw [List.set_append_right _ _ (by simp; omega)]
    have : 63 - q - (base.take (63 - q)).length = 0 := by simp; omega
    rw [this]
    rfl
  have e2 : (be8 N).drop (8 - (q + 1)) = ((N / 2 ^ (8 * q) % 256 : Nat) : Int) :: (be8 N).drop (8 - q) := by
    have h7 := be8_at N (7 - q) (by omega)
    rw [show 7 - (7 - q) = q by omega] at h7
    rw [show 8 - (q + 1) = 7 - q by omega, List.drop_eq_getElem_cons (by rw [be8_length]; omega), show 7 - q + 1 = 8 - q by omega]
    congr 1
    rw [← h7]
    simp [List.getD, List.getElem?_eq_getElem (show 7 - q < (be8 N).length by rw [be8_length]; omega)]
  rw [e1, e2, List.append_assoc, show 64 - (q + 1) = 63 - q by omega]
  rfl
theorem tailed_zero (base : List Int) (N : Nat) (h : base.length = 64) : tailed base N 0 = base := by
  unfold tailed
  rw [List.drop_of_length_le (by rw [be8_length]; omega), List.take_of_length_le (by omega), List.append_nil]
theorem be8_rng (N : Nat) : ∀ x ∈ be8 N, 0 ≤ x ∧ x ≤ 255 := by
  intro x hx
  obtain ⟨i, _, rfl⟩ := List.mem_map.1 hx
  omega
theorem tailed_rng (base : List Int) (N q : Nat) (h : ∀ x ∈ base, 0 ≤ x ∧ x ≤ 255) : ∀ x ∈ tailed base N q, 0 ≤ x ∧ x ≤ 255 := by
  intro x hx
  simp only [tailed, List.mem_append] at hx
  rcases hx with hx | hx
  · exact h x (List.mem_of_mem_take hx)
  · exact be8_rng N x (List.mem_of_mem_drop hx)

/-- The bytes behind the last whole block, and the byte that ends them. -/
def ended (b : List Int) (f : Nat) : List Int := b.take f ++ (128 :: List.replicate (63 - f) 0)
theorem ended_length (b : List Int) (f : Nat) (h : b.length = 64) (hf : f < 64) : (ended b f).length = 64 := by simp [ended]; omega
theorem ended_rng (b : List Int) (f : Nat) (h : ∀ x ∈ b, 0 ≤ x ∧ x ≤ 255) : ∀ x ∈ ended b f, 0 ≤ x ∧ x ≤ 255 := by
  intro x hx
  simp only [ended, List.mem_append, List.mem_cons, List.mem_replicate] at hx
  rcases hx with hx | rfl | ⟨_, rfl⟩
  · exact h x (List.mem_of_mem_take hx)
  · decide
  · decide
theorem ended_set (b : List Int) (f : Nat) (h : b.length = 64) (hf : f < 64) : (b.take f ++ List.replicate (64 - f) 0).set f 128 = ended b f := by
  rw [List.set_append_right _ _ (by simp; omega)]
  have : f - (b.take f).length = 0 := by simp; omega
  rw [this, show 64 - f = (63 - f) + 1 by omega, List.replicate_succ, List.set_cons_zero, ended]

theorem copied (l : List Int) (n f : Nat) : (u8s (List.replicate n 0)).take 0 ++ (u8s l ++ (u8s (List.replicate n 0)).drop (0 + f)) = u8s (l ++ List.replicate (n - f) 0) := by simp [u8s]

theorem sum_nil (w : World) : Calls Tryd.prog 18 #[.pointer none] w fun e w' => e = .returned (.agg (nums .u8 (List.replicate 32 0))) ∧ Below w.heap.size w w' := by
  have hA := Arr.new w .u8 25 (List.replicate 32 0)
  go_enter Tryd.func18, Tryd.ntmps18
  go_wp2_with (refine law_store rfl 25 _ _ rfl _ .u8 (List.replicate 32 0) rfl rfl 25 _ hA (by simp) (by kernel_rfl) ?_; intro wF hoF hAF)
  refine bodyPost_ret (v := .agg (nums .u8 (List.replicate 32 0))) (results_cell_row rfl _ _ w.heap.size 25 _ _ _ rfl hAF Tryd.underlying25 rfl (by rw [nums_size]; kernel_rfl)) rfl ⟨rfl, hoF.below ((Below.refl _ w).alloc (Nat.le_refl _) _) (Nat.le_refl _)⟩

set_option maxHeartbeats 2000000 in
set_option maxRecDepth 100000 in
theorem sum_walk (r : Nat) (s : St) (b : List Int) (n f : Nat) (w : World) (h : Sta w r s b n) (hf : n % 64 = f) (hbig : n < 1152921504606846976) (hT : Tabs w) (R : List Int)
    (hR1 : f < 56 → R = bytesOf (mix s (tailed (ended b f) (8 * n) 8))) (hR2 : 56 ≤ f → R = bytesOf (mix (mix s (ended b f)) (tailed (List.replicate 64 0) (8 * n) 8))) (hRl : R.length = 32) :
    Calls Tryd.prog 18 #[.pointer (some ⟨r, 0, none⟩)] w fun e w' => e = .returned (.agg (nums .u8 R)) ∧ Below w.heap.size w w' := by
  have hf64 : f < 64 := by omega
  have HF : Hid (n % 64 = f) := hf
  have hrl := h.lt
  have hA := Arr.new w .u8 25 (List.replicate 32 0)
  have hA1 := hA.alloc (.cells (nums .u32 (List.replicate 8 0)) 45)
  have hA2 := Arr.new (w.alloc (.cells (nums .u8 (List.replicate 32 0)) 25)) .u32 45 (List.replicate 8 0)
  rw [World.size_alloc] at hA2
  have hs1 : Sta (w.alloc (.cells (nums .u8 (List.replicate 32 0)) 25)) r s b n := h.next ((Below.refl _ w).alloc (Nat.le_refl _) _)
  have hs2 : Sta ((w.alloc (.cells (nums .u8 (List.replicate 32 0)) 25)).alloc (.cells (nums .u32 (List.replicate 8 0)) 45)) r s b n := hs1.next ((Below.refl _ _).alloc (Nat.le_refl _) _)
  have hb2 : Below w.heap.size w ((w.alloc (.cells (nums .u8 (List.replicate 32 0)) 25)).alloc (.cells (nums .u32 (List.replicate 8 0)) 45)) := ((Below.refl _ w).alloc (Nat.le_refl _) _).alloc (by simp) _
  clear hf
  go_enter Tryd.func18, Tryd.ntmps18
  go_wp2_with (first
    | (refine wpList_load_mid rfl 45 _ rfl r 0 rfl _ _ hs1.words Tryd.underlying45 rfl (by rw [List.length_map]; kernel_rfl) ?_)
    | (refine law_store rfl 45 _ _ rfl (w.heap.size + 1) .u32 s.l rfl rfl 45 _ hA2 (by simp [St.l]) (by kernel_rfl) ?_; intro w1 ho1 hB1)
    | (refine law_store rfl 47 _ _ rfl w1.heap.size .u8 (List.replicate 64 0) rfl rfl 47 _ (Arr.new w1 .u8 47 (List.replicate 64 0)) (by simp) (by kernel_rfl) ?_; intro w2 ho2 hC2))
  have hz1 : w1.heap.size = w.heap.size + 1 + 1 := by rw [ho1.size]; simp
  have hB0 : Arr w1 w.heap.size .u8 25 (List.replicate 32 0) := hA1.on ho1 (by omega)
  have hb1 : Below w.heap.size w w1 := ho1.below hb2 (by omega)
  have hC0 : Arr w2 w.heap.size .u8 25 (List.replicate 32 0) := (hB0.alloc _).on ho2 (by omega)
  have hC1 : Arr w2 (w.heap.size + 1) .u32 45 s.l := (hB1.alloc _).on ho2 (by omega)
  have hbC : Below w.heap.size w w2 := ho2.below (hb1.alloc hb1.size _) (by omega)
  have hTC : Tabs w2 := hT.later hbC hT.sz
  have hSC : Sta w2 r s b n := h.later hbC hrl
  obtain ⟨g, hg⟩ : ∃ g, g = w1.heap.size := ⟨_, rfl⟩
  rw [← hg] at hC2 hz1
  rw [← hg]
  have hgw : w.heap.size + 1 < g := by omega
  clear hz1 ho1 ho2 hB0 hB1 hb1 hb2 hs1 hs2 hA hA1 hA2 hg h
  have hcn := hSC.count
  go_at_call 26
  refine (filled_of r n f w2 hcn HF.out).mono ?_
  rintro e w' ⟨rfl, rfl⟩
  have hsl1 : ∀ W : World, _ := fun W => slice_all W g 0
  have hsl2 : ∀ W : World, _ := fun W => slice_h W r 8 f (f : Int) rfl (by omega)
  have hcur : w2.drew.heap[g]? = some (.cells (u8s (List.replicate 64 0)).toArray 47 (0, 0)) := hC2
  have hfl : (u8s (b.take f)).length = f := by have := hSC.len; simp [u8s_length]; omega
  have hsrc : ∀ j v, (u8s (b.take f))[j]? = some v → w2.drew.cell? ((⟨r, 8, none⟩ : Addr).add j) = some v := by
    intro j v hv
    rw [addz]
    refine hSC.block j v ?_
    have hj := (List.getElem?_eq_some_iff.1 hv).1
    rw [hfl] at hj
    simpa [u8s, List.getElem?_take, hj] using hv
  have hcp : ∀ w3 : World, w3.heap[g]? = some (.cells ((u8s (List.replicate 64 0)).take 0 ++ (u8s (b.take f) ++ (u8s (List.replicate 64 0)).drop (0 + (u8s (b.take f)).length))).toArray 47 (0, 0)) → Arr w3 g .u8 47 (b.take f ++ List.replicate (64 - f) 0) := by
    intro w3 hw
    rw [hfl] at hw
    rw [copied] at hw
    exact hw
  go_wp2_with fail
  go_region_held3 (fun _ => True) (trivial) ((refine step_copy_on rfl _ _ rfl g 0 64 64 ⟨r, 8, none⟩ f 64 rfl rfl (u8s (List.replicate 64 0)) 47 hcur (u8s (b.take f)) f hfl (by show f = min f 64; omega) hsrc (by rw [u8s_length]; simp; omega) (u8s_one _) ?_; intro w3 ho3 hg3))
  have hD2 := hcp w3 hg3
  have hD0 : Arr w3 w.heap.size .u8 25 (List.replicate 32 0) := hC0.drew.on ho3 (by omega)
  have hD1 : Arr w3 (w.heap.size + 1) .u32 45 s.l := hC1.drew.on ho3 (by omega)
  have hbD : Below w.heap.size w w3 := ho3.below hbC.drew (by omega)
  have hSD : Sta w3 r s b n := Sta.on (w := w2.drew) ⟨hSC.blk, hSC.len, hSC.rng⟩ ho3 (by omega)
  have hlD : (b.take f ++ List.replicate (64 - f) 0).length = 64 := by have := hSC.len; simp; omega
  have cD := hD2.cell f (by omega)
  have fD := hD2.fz f
  have hend := ended_set b f hSC.len hf64
  have hE2 := hD2.set f 128
  rw [hend] at hE2
  clear hsl1 hsl2 hcur hsrc hcp hg3 ho3 hC0 hC1 hC2 hbC hSC hTC hcn hend
  have hcn3 := hSD.count
  have hne : r ≠ g := by omega
  obtain ⟨N, hN⟩ : ∃ N, N = 8 * n := ⟨_, rfl⟩
  rw [← hN] at hR1 hR2
  have HN8 : Hid ((N : Int) = 8 * (n : Int)) := by show (N : Int) = 8 * (n : Int); omega
  have hNn : N < 9223372036854775808 := by omega
  clear hN
  have hel : (ended b f).length = 64 := ended_length b f hSD.len hf64
  have her : ∀ x ∈ ended b f, 0 ≤ x ∧ x ≤ 255 := ended_rng b f hSD.rng
  obtain ⟨E, eE⟩ : ∃ x, x = ended b f := ⟨_, rfl⟩
  rw [← eE] at hR1 hR2 hE2 hel her
  clear eE
  by_cases hf56 : f < 56
  · have hR := hR1 hf56
    clear hR1 hR2
    have hE0 : Arr (w3.setCell ⟨g, f, none⟩ (.int .u8 128)) w.heap.size .u8 25 (List.replicate 32 0) := hD0.beside _ (by simp; omega)
    have hE1 : Arr (w3.setCell ⟨g, f, none⟩ (.int .u8 128)) (w.heap.size + 1) .u32 45 s.l := hD1.beside _ (by simp; omega)
    have hbE : Below w.heap.size w (w3.setCell ⟨g, f, none⟩ (.int .u8 128)) := hbD.setCell (by simp; omega) _
    go_wp2
    go_loopw [6, 7] (fun ln i wr => ∃ (p L : Nat), 55 ≤ p ∧ p ≤ 63 ∧ L = N / 2 ^ (8 * (63 - p)) ∧ ln = .int .u64 (L : Int) ∧ i = .int .i64 (p : Int) ∧ Arr wr g .u8 47 (tailed E N (63 - p)) ∧ Arr wr w.heap.size .u8 25 (List.replicate 32 0) ∧ Arr wr (w.heap.size + 1) .u32 45 s.l ∧ Below w.heap.size w wr) (fun _ i _ => (intOf i).toNat)
    case atStart => exact ⟨63, N, by omega, by omega, by simp, by rw [HN8.out], rfl, by rw [tailed_zero _ _ hel]; exact hE2, hE0, hE1, hbE⟩
    case round =>
      obtain ⟨p, L, hp1, hp2, hL, rfl, rfl, hF2, hF0, hF1, hbF⟩ := hrel
      have htl : (tailed E N (63 - p)).length = 64 := tailed_length _ _ _ hel (by omega)
      have hLN : L ≤ N := by rw [hL]; exact Nat.div_le_self _ _
      by_cases hp : 56 ≤ p
      · have cF := hF2.cell p (by omega)
        have fF := hF2.fz p
        have hset := tailed_step E N (63 - p) hel (by omega)
        rw [← hL, show 63 - (63 - p) = p by omega, show 63 - p + 1 = 63 - (p - 1) by omega, show ((L % 256 : Nat) : Int) = (L : Int) % 256 by omega] at hset
        have hL2 : L / 256 = N / 2 ^ (8 * (63 - (p - 1))) := by
          rw [hL, Nat.div_div_eq_div_mul, show 8 * (63 - (p - 1)) = 8 * (63 - p) + 8 by omega, Nat.pow_add]
        have HSET : Hid ((tailed E N (63 - p)).set p ((L : Int) % 256) = tailed E N (63 - (p - 1))) := hset
        have HL2 : Hid (L / 256 = N / 2 ^ (8 * (63 - (p - 1)))) := hL2
        have HF2 : Hid (Arr wr g .u8 47 (tailed E N (63 - p))) := hF2
        clear hset hL2 hL hF2 htl
        have hp56 : (56 : Int) ≤ (p : Int) := by omega
        go_wp2
        have hG2 := HF2.out.set p ((L : Int) % 256)
        rw [HSET.out] at hG2
        exact ⟨⟨p - 1, L / 256, by omega, by omega, HL2.out, by go_num, by go_num, hG2, hF0.beside _ (by simp; omega), hF1.beside _ (by simp; omega), hbF.setCell (by simp; omega) _⟩, by simp [intOf]; omega⟩
      · have hp55 : p = 55 := by omega
        subst hp55
        have hF2' : Arr wr g .u8 47 (tailed E N 8) := hF2
        have hml : (tailed E N 8).length = 64 := htl
        have hmr : ∀ x ∈ tailed E N 8, 0 ≤ x ∧ x ≤ 255 := tailed_rng _ _ _ her
        have hTF : Tabs wr := hT.later hbF hT.sz
        have hcall := mixed_any s (tailed E N 8) hml hmr wr hTF
        obtain ⟨S2, eS2⟩ : ∃ x, x = mix s (tailed E N 8) := ⟨_, rfl⟩
        rw [← eS2] at hcall hR
        obtain ⟨M, eM⟩ : ∃ x, x = tailed E N 8 := ⟨_, rfl⟩
        rw [← eM] at hF2' hml hcall
        clear eM eS2 hmr hL hF2 htl
        have HR : Hid (R = bytesOf S2) := hR
        clear hR
        go_wp2_with (first
          | (refine law_load rfl 45 _ rfl _ rfl .u32 45 _ hF1 8 44 Tryd.underlying45 (by kernel_rfl) ?_)
          | (refine law_load rfl 47 _ rfl _ rfl .u8 47 _ hF2' 64 5 Tryd.underlying47 (by rw [hml]; kernel_rfl) ?_)
          | (go_at_call 27; refine hcall.mono ?_; rintro e w5 ⟨rfl, hb5⟩)
          | (go_at_call 28; refine (wordBytes_any S2 w5).mono ?_; rintro e w6 ⟨rfl, hb6⟩)
          | (rw [← HR.out]; refine law_store rfl 25 _ _ rfl _ .u8 R rfl rfl 25 _ ((hF0.next hb5).next hb6) (by simp [hRl]) (by rw [hRl]; kernel_rfl) ?_; intro wF hoF hAF))
        refine bodyPost_ret (v := .agg (nums .u8 R)) (results_cell_row rfl _ _ w.heap.size 25 _ _ _ rfl hAF Tryd.underlying25 rfl (by rw [nums_size, hRl]; kernel_rfl)) rfl ⟨rfl, ?_⟩
        exact hoF.below ((hbF.trans (hb5.mono hbF.size)).trans (hb6.mono (Nat.le_trans hbF.size hb5.size))) (Nat.le_refl _)
  · have hR := hR2 (by omega)
    clear hR1 hR2
    have hE0 : Arr (w3.setCell ⟨g, f, none⟩ (.int .u8 128)) w.heap.size .u8 25 (List.replicate 32 0) := hD0.beside _ (by simp; omega)
    have hE1 : Arr (w3.setCell ⟨g, f, none⟩ (.int .u8 128)) (w.heap.size + 1) .u32 45 s.l := hD1.beside _ (by simp; omega)
    have hbE : Below w.heap.size w (w3.setCell ⟨g, f, none⟩ (.int .u8 128)) := hbD.setCell (by simp; omega) _
    have hSE : Sta (w3.setCell ⟨g, f, none⟩ (.int .u8 128)) r s b n := hSD.on (On.setCell _ _ _) hne
    obtain ⟨w4, ew4⟩ : ∃ x, x = w3.setCell ⟨g, f, none⟩ (.int .u8 128) := ⟨_, rfl⟩
    rw [← ew4] at hE0 hE1 hE2 hbE hSE
    have hTE : Tabs w4 := hT.later hbE hT.sz
    have hcallE := mixed_any s E hel her w4 hTE
    obtain ⟨S1, eS1⟩ : ∃ x, x = mix s E := ⟨_, rfl⟩
    rw [← eS1] at hcallE hR
    have HW4 : Hid (w4 = w3.setCell ⟨g, f, none⟩ (.int .u8 128)) := ew4
    clear ew4 eS1 her
    go_wp2_with (first
      | (rw [← HW4.out]; refine law_load rfl 45 _ rfl _ rfl .u32 45 _ hE1 8 44 Tryd.underlying45 (by kernel_rfl) ?_)
      | (refine law_load rfl 47 _ rfl _ rfl .u8 47 _ hE2 64 5 Tryd.underlying47 (by rw [hel]; kernel_rfl) ?_)
      | (go_at_call 27; refine hcallE.mono ?_; rintro e w5 ⟨rfl, hb5⟩)
      | (refine law_store rfl 45 _ _ rfl _ .u32 S1.l rfl rfl 45 _ (hE1.next hb5) (by simp [St.l]) (by kernel_rfl) ?_; intro w6 ho6 hH1)
      | (refine law_store rfl 47 _ _ rfl g .u8 (List.replicate 64 0) rfl rfl 47 _ ((hE2.next hb5).on ho6 (by omega)) (by simp [hel]) (by kernel_rfl) ?_; intro w7 ho7 hG2; have hcn7 := (((hSE.next hb5).on ho6 (by omega)).on ho7 hne).count))
    have hG0 : Arr w7 w.heap.size .u8 25 (List.replicate 32 0) := ((hE0.next hb5).on ho6 (by omega)).on ho7 (by omega)
    have hG1 : Arr w7 (w.heap.size + 1) .u32 45 S1.l := hH1.on ho7 (by omega)
    have hbG : Below w.heap.size w w7 := ho7.below (ho6.below (hbE.trans (hb5.mono hbE.size)) (by omega)) (by omega)
    go_loopw [6, 7] (fun ln i wr => ∃ (p L : Nat), 55 ≤ p ∧ p ≤ 63 ∧ L = N / 2 ^ (8 * (63 - p)) ∧ ln = .int .u64 (L : Int) ∧ i = .int .i64 (p : Int) ∧ Arr wr g .u8 47 (tailed (List.replicate 64 0) N (63 - p)) ∧ Arr wr w.heap.size .u8 25 (List.replicate 32 0) ∧ Arr wr (w.heap.size + 1) .u32 45 S1.l ∧ Below w.heap.size w wr) (fun _ i _ => (intOf i).toNat)
    case atStart => exact ⟨63, N, by omega, by omega, by simp, by rw [HN8.out], rfl, by rw [tailed_zero _ _ (by simp)]; exact hG2, hG0, hG1, hbG⟩
    case round =>
      obtain ⟨p, L, hp1, hp2, hL, rfl, rfl, hF2, hF0, hF1, hbF⟩ := hrel
      have htl : (tailed (List.replicate 64 0) N (63 - p)).length = 64 := tailed_length _ _ _ (by simp) (by omega)
      have hLN : L ≤ N := by rw [hL]; exact Nat.div_le_self _ _
      by_cases hp : 56 ≤ p
      · have cF := hF2.cell p (by omega)
        have fF := hF2.fz p
        have hset := tailed_step (List.replicate 64 0) N (63 - p) (by simp) (by omega)
        rw [← hL, show 63 - (63 - p) = p by omega, show 63 - p + 1 = 63 - (p - 1) by omega, show ((L % 256 : Nat) : Int) = (L : Int) % 256 by omega] at hset
        have hL2 : L / 256 = N / 2 ^ (8 * (63 - (p - 1))) := by
          rw [hL, Nat.div_div_eq_div_mul, show 8 * (63 - (p - 1)) = 8 * (63 - p) + 8 by omega, Nat.pow_add]
        have HSET : Hid ((tailed (List.replicate 64 0) N (63 - p)).set p ((L : Int) % 256) = tailed (List.replicate 64 0) N (63 - (p - 1))) := hset
        have HL2 : Hid (L / 256 = N / 2 ^ (8 * (63 - (p - 1)))) := hL2
        have HF2 : Hid (Arr wr g .u8 47 (tailed (List.replicate 64 0) N (63 - p))) := hF2
        clear hset hL2 hL hF2 htl
        have hp56 : (56 : Int) ≤ (p : Int) := by omega
        go_wp2
        have hG2 := HF2.out.set p ((L : Int) % 256)
        rw [HSET.out] at hG2
        exact ⟨⟨p - 1, L / 256, by omega, by omega, HL2.out, by go_num, by go_num, hG2, hF0.beside _ (by simp; omega), hF1.beside _ (by simp; omega), hbF.setCell (by simp; omega) _⟩, by simp [intOf]; omega⟩
      · have hp55 : p = 55 := by omega
        subst hp55
        have hF2' : Arr wr g .u8 47 (tailed (List.replicate 64 0) N 8) := hF2
        have hml : (tailed (List.replicate 64 0) N 8).length = 64 := htl
        have hmr : ∀ x ∈ tailed (List.replicate 64 0) N 8, 0 ≤ x ∧ x ≤ 255 := tailed_rng _ _ _ (by simp)
        have hTF : Tabs wr := hT.later hbF hT.sz
        have hcall := mixed_any S1 (tailed (List.replicate 64 0) N 8) hml hmr wr hTF
        obtain ⟨S2, eS2⟩ : ∃ x, x = mix S1 (tailed (List.replicate 64 0) N 8) := ⟨_, rfl⟩
        rw [← eS2] at hcall hR
        obtain ⟨M, eM⟩ : ∃ x, x = tailed (List.replicate 64 0) N 8 := ⟨_, rfl⟩
        rw [← eM] at hF2' hml hcall
        clear eM eS2 hmr hL hF2 htl
        have HR : Hid (R = bytesOf S2) := hR
        clear hR
        go_wp2_with (first
          | (refine law_load rfl 45 _ rfl _ rfl .u32 45 _ hF1 8 44 Tryd.underlying45 (by kernel_rfl) ?_)
          | (refine law_load rfl 47 _ rfl _ rfl .u8 47 _ hF2' 64 5 Tryd.underlying47 (by rw [hml]; kernel_rfl) ?_)
          | (go_at_call 27; refine hcall.mono ?_; rintro e w5 ⟨rfl, hb5⟩)
          | (go_at_call 28; refine (wordBytes_any S2 w5).mono ?_; rintro e w6 ⟨rfl, hb6⟩)
          | (rw [← HR.out]; refine law_store rfl 25 _ _ rfl _ .u8 R rfl rfl 25 _ ((hF0.next hb5).next hb6) (by simp [hRl]) (by rw [hRl]; kernel_rfl) ?_; intro wF hoF hAF))
        refine bodyPost_ret (v := .agg (nums .u8 R)) (results_cell_row rfl _ _ w.heap.size 25 _ _ _ rfl hAF Tryd.underlying25 rfl (by rw [nums_size, hRl]; kernel_rfl)) rfl ⟨rfl, ?_⟩
        exact hoF.below ((hbF.trans (hb5.mono hbF.size)).trans (hb6.mono (Nat.le_trans hbF.size hb5.size))) (Nat.le_refl _)

theorem tailed_ended (b : List Int) (f N : Nat) (h : b.length = 64) (hf : f < 56) : tailed (ended b f) N 8 = b.take f ++ (128 :: (List.replicate (55 - f) 0 ++ be8 N)) := by
  have hl : (b.take f).length = f := by simp; omega
  have e : (ended b f).take 56 = b.take f ++ (128 :: List.replicate (55 - f) 0) := by
    unfold ended
    rw [List.take_append, List.take_of_length_le (by omega), hl, show 56 - f = (55 - f) + 1 by omega, List.take_succ_cons, List.take_replicate, show min (55 - f) (63 - f) = 55 - f by omega]
  show (ended b f).take 56 ++ (be8 N).drop 0 = _
  rw [e, List.drop_zero, List.append_assoc, List.cons_append]
theorem tailed_zeros (N : Nat) : tailed (List.replicate 64 0) N 8 = List.replicate 56 0 ++ be8 N := rfl

theorem sum_any (r : Nat) (s : St) (b xs : List Int) (n : Nat) (w : World) (h : Sta w r s b n) (hh : Hold s b n xs) (hbig : n < 1152921504606846976) (hT : Tabs w) :
    Calls Tryd.prog 18 #[.pointer (some ⟨r, 0, none⟩)] w fun e w' => e = .returned (.agg (nums .u8 (sumOf xs))) ∧ Below w.heap.size w w' := by
  have hlen := hh.len
  refine sum_walk r s b n (n % 64) w h rfl hbig hT (sumOf xs) (fun hf => ?_) (fun hf => ?_) (by unfold sumOf; exact bytesOf_length _)
  · unfold sumOf
    rw [hlen, sum_one hh hf, tailed_ended b (n % 64) (8 * n) h.len hf]
  · unfold sumOf
    rw [hlen, sum_two hh hf, tailed_zeros]
    rfl

set_option maxHeartbeats 400000 in
theorem digestSum_any (ao : Option Addr) (n c : Nat) (xs : List Int) (w : World) (hs : Shows w ao n xs) (hnc : n ≤ c) (hc : c ≤ maxLen) (hbig : n < 1152921504606846976) (hT : Tabs w) :
    Calls Tryd.prog 10 #[.slice ao n c] w fun e w' => e = .returned (.agg (nums .u8 (sumOf xs))) ∧ Below w.heap.size w w' := by
  have hA := Arr.new w .u8 25 (List.replicate 32 0)
  obtain ⟨w0, ew0⟩ : ∃ x, x = w.alloc (.cells (nums .u8 (List.replicate 32 0)) 25) := ⟨_, rfl⟩
  have hb0 : Below w.heap.size w w0 := by rw [ew0]; exact (Below.refl _ w).alloc (Nat.le_refl _) _
  have hz0 : w0.heap.size = w.heap.size + 1 := by rw [ew0]; simp
  rw [← ew0] at hA
  have hT0 := hT.later hb0 hT.sz
  have hs0 := hs.later hb0
  have HW : Hid (w0 = w.alloc (.cells (nums .u8 (List.replicate 32 0)) 25)) := ew0
  have hlt : ∀ (r : Nat), w0.heap.size ≤ r → ∀ ad, ao = some ad → 0 < n → ad.block ≠ r := fun r hr ad had hn => by
    subst had
    have := shows_block hs0 hn
    omega
  clear ew0
  have hsl := (bytesOf_length (absorb (padded xs) ((xs.length + 8) / 64 + 1)))
  have hRl : (sumOf xs).length = 32 := hsl
  obtain ⟨R, eR⟩ : ∃ x, x = sumOf xs := ⟨_, rfl⟩
  rw [← eR] at hRl
  rw [← eR]
  have HR : Hid (R = sumOf xs) := eR
  clear hsl eR
  have hcall1 := new_any w0 hT0
  rw [HW.out] at hcall1
  go_enter Tryd.func10, Tryd.ntmps10
  go_wp2_with (first
    | (go_at_call 15; refine hcall1.mono ?_; rintro e w1 ⟨r, rfl, hr1, hS1, hb1⟩; rw [← HW.out] at hb1 hr1)
    | (go_at_call 17; refine (add_any r 0 [] xs w1 _ _ hS1 hold_new ao n c (hs0.later hb1) (fun hn ad had => hlt r hr1 ad had hn) hnc hc (hT0.next hb1) (by have := hT0.sz; omega) (by omega)).mono ?_; rintro e w2 ⟨rfl, s2, b2, hS2, hH2, ho2⟩; rw [Nat.zero_add] at hS2 hH2; have hb2 : Below w0.heap.size w0 w2 := hb1.trans (ho2.toBelow hr1 hb1.size))
    | (go_at_call 18; refine (sum_any r s2 b2 xs n w2 hS2 hH2 hbig (hT0.later hb2 hT0.sz)).mono ?_; rintro e w3 ⟨rfl, hb3⟩)
    | (rw [← HR.out]; refine law_store rfl 25 _ _ rfl w.heap.size .u8 R rfl rfl 25 _ ((hA.next hb2).next hb3) (by simp [hRl]) (by rw [hRl]; kernel_rfl) ?_; intro wF hoF hAF))
  refine bodyPost_ret (v := .agg (nums .u8 R)) (results_cell_row rfl _ _ w.heap.size 25 _ _ _ rfl hAF Tryd.underlying25 rfl (by rw [nums_size, hRl]; kernel_rfl)) rfl ⟨by rw [HR.out], ?_⟩
  exact hoF.below ((hb0.trans (hb2.mono (by omega))).trans (hb3.mono (by have := hb2.size; omega))) (Nat.le_refl _)
end Go.Proofs.YtmnembhcfkcmnaaDoor
