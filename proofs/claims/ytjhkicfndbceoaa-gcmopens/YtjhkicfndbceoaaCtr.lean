/- Counter blocks, by the program. -/
import Derived.Test.YtjhkicfndbceoaaTag
namespace Go.Proofs.Ytjhkicfndbceoaa
open Go.RowKit

/-- The counter when q of its bytes were put. -/
def cnt (n q : Nat) : Int := (n : Int) * 256 ^ q % 4294967296
theorem cnt_zero (n : Nat) (h : n < 4294967296) : cnt n 0 = n := by simp [cnt]; omega
theorem cnt_step (n q : Nat) : cnt n q * 256 % 4294967296 = cnt n (q + 1) := by
  unfold cnt
  rw [Int.pow_succ, ← Int.mul_assoc]
  obtain ⟨x, ex⟩ : ∃ x, x = (n : Int) * 256 ^ q := ⟨_, rfl⟩
  rw [← ex]
  omega
theorem cnt_byte (n q : Nat) (hn : n < 4294967296) (hq : q < 4) : cnt n q / 16777216 % 256 = v8 ((c4 n).getD q 0#8) := by
  unfold cnt v8 c4
  rcases (by omega : q = 0 ∨ q = 1 ∨ q = 2 ∨ q = 3) with rfl | rfl | rfl | rfl <;> simp <;> omega
theorem cnt_rng (n q : Nat) : 0 ≤ cnt n q ∧ cnt n q < 4294967296 := by unfold cnt; omega
theorem ctr_at (nonce : List B) (h : nonce.length = 12) (n q : Nat) (hq : q < 4) : (ctr nonce n).getD (12 + q) 0#8 = (c4 n).getD q 0#8 := by
  unfold ctr
  simp only [List.getD]
  rw [List.getElem?_append_right (by omega), h, Nat.add_sub_cancel_left]

set_option maxHeartbeats 2000000 in
set_option maxRecDepth 100000 in
theorem counterBlock_any (nonce : List B) (hn : nonce.length = 12) (n : Nat) (hb : n < 4294967296) (k : Int) (hk : k = n) (w : World) :
    Calls Try.prog 39 #[.agg (bys nonce).toArray, .int .u32 k] w fun e w' => e = .returned (.agg (bys (ctr nonce n)).toArray) ∧ Below w.heap.size w w' := by
  obtain ⟨ZB, hZB, hzB⟩ := zeroed37'
  have hL := ctr_length nonce hn n
  have H0 : Hid (k = cnt n 0) := by rw [cnt_zero n hb]; exact hk
  have HB : Hid (∀ q, q < 4 → cnt n q / 16777216 % 256 = v8 ((ctr nonce n).getD (12 + q) 0#8)) := fun q hq => by rw [cnt_byte n q hb hq, ctr_at nonce hn n q hq]
  have HC : Hid (∀ q, cnt n q * 256 % 4294967296 = cnt n (q + 1)) := cnt_step n
  have HR : Hid (∀ q, 0 ≤ cnt n q ∧ cnt n q < 4294967296) := cnt_rng n
  have HM : Hid (splice (bys ZB) 0 (bys nonce) = bys (mid (ctr nonce n) ZB 12)) := by
    show _ = _
    unfold splice mid ctr
    have e : (nonce ++ c4 n).take 12 = nonce := by rw [List.take_append_of_le_length (by omega), List.take_of_length_le (by omega)]
    rw [e, bys_length, hn, bys_append, bys_drop]
    simp
  obtain ⟨L, eL⟩ : ∃ L, L = ctr nonce n := ⟨_, rfl⟩
  obtain ⟨cn, ec⟩ : ∃ c, c = cnt n := ⟨_, rfl⟩
  rw [← eL] at hL HB HM ⊢
  rw [← ec] at H0 HB HC HR
  clear eL ec hk
  obtain ⟨h1, h2, h3, h4⟩ := blk3 w 23 37 37 (bys nonce) (bys ZB) (bys ZB)
  have hw3 := fun W => whole37 W (w.heap.size + 1 + 1)
  have hw2 := fun W => whole23 W w.heap.size
  have hlt := h3.lt
  go_enter Try.func39, Try.ntmps39
  go_wp2_with fail
  refine wp_region_to (fun _ => True) 4 (by kernel_rfl) ?_
  refine wpTo_take (i := 0) (v := ?v0) (show _ = some _ by simp only [List.getElem?_toArray, List.getElem?_cons_zero]; exact rfl) (by kernel_rfl) (by kernel_rfl) (by kernel_rfl) (by kernel_rfl) (by exact fun _ _ _ h => h) (Or.inl ⟨by rfl, ?hy0⟩) trivial ?r0
  case hy0 => (intro w hSw; (try dsimp only at hSw); go_simp; try with_reducible rfl)
  (try simp only [Act.put]); (try simp only [List.setIfInBounds_toArray]); (repeat (first | simp only [List.set_cons_succ] | simp only [List.set_cons_zero]))
  refine wpTo_take (i := 1) (v := ?v1) (show _ = some _ by simp only [List.getElem?_toArray, List.getElem?_cons_succ, List.getElem?_cons_zero]; exact rfl) (by kernel_rfl) (by kernel_rfl) (by kernel_rfl) (by kernel_rfl) (by exact fun _ _ _ h => h) (Or.inl ⟨by rfl, ?hy1⟩) trivial ?r1
  case hy1 => (intro w hSw; (try dsimp only at hSw); go_simp; try with_reducible rfl)
  (try simp only [Act.put]); (try simp only [List.setIfInBounds_toArray]); (repeat (first | simp only [List.set_cons_succ] | simp only [List.set_cons_zero]))
  have w12 : (12 : Nat) ≤ 16 := by omega
  refine wpTo_one (i := 2) (by kernel_rfl) (show _ = some _ by simp only [List.getElem?_toArray, List.getElem?_cons_succ, List.getElem?_cons_zero]; exact rfl) (fun K hK => ?_)
  refine step_copy rfl (.tmp 7) (.tmp 8) rfl (w.heap.size + 1 + 1) 0 16 16 w.heap.size 0 12 12 rfl rfl _ 37 h3.drew (bys nonce) (by rw [bys_length, hn]; rfl) h1.drew.whole (by rw [bys_length, bys_length, hn, hZB]; omega) (bys_one' _) ?_
  intro wF hoF hAF
  rw [bys_length, hn]
  refine hK.out _ _ trivial (fun _ => ?_)
  clear hK K
  (try simp only [Act.put]); (try simp only [List.setIfInBounds_toArray]); (repeat (first | simp only [List.set_cons_succ] | simp only [List.set_cons_zero]))
  refine wpTo_take (i := 3) (v := ?v3) (show _ = some _ by simp only [List.getElem?_toArray, List.getElem?_cons_succ, List.getElem?_cons_zero]; exact rfl) (by kernel_rfl) (by kernel_rfl) (by kernel_rfl) (by kernel_rfl) (by exact fun _ _ _ h => h) (Or.inl ⟨by rfl, ?hy3⟩) trivial ?r3
  case hy3 => (intro w hSw; (try dsimp only at hSw); go_simp; try with_reducible rfl)
  (try simp only [Act.put]); (try simp only [List.setIfInBounds_toArray]); (repeat (first | simp only [List.set_cons_succ] | simp only [List.set_cons_zero]))
  refine wpTo_done (by kernel_rfl) ?_
  rw [HM.out] at hAF
  have k1 := h1.drew.on hoF (by omega)
  have k2 := h2.drew.on hoF (by omega)
  have k4 := hoF.below h4.drew (by omega)
  clear h1 h2 h3 h4 hoF hw2 hw3
  go_wp2_with fail
  go_loopw [1, 6] (fun c i wr => ∃ q : Nat, q ≤ 4 ∧ c = .int .u32 (cn q) ∧ i = .int .i64 (12 + (q : Int)) ∧ Blk wr (w.heap.size + 1) 37 (bys ZB) ∧ Blk wr (w.heap.size + 1 + 1) 37 (bys (mid L ZB (12 + q))) ∧ Below w.heap.size w wr) (fun _ i _ => 16 - (intOf i).toNat)
  case atStart => exact ⟨0, by omega, by rw [H0.out], rfl, k2, hAF, k4⟩
  case round =>
    obtain ⟨q, hq, rfl, rfl, m2, m3, m4⟩ := hrel
    clear k1 k2 k4 hAF
    have hml := mid_length L ZB 16 (12 + q) hL hZB
    by_cases hlt : q < 4
    · have hB : Hid _ := HB.out q hlt
      have hC : Hid _ := HC.out q
      obtain ⟨r0, r1⟩ := HR.out q
      have HS : Hid _ := mid_step L ZB (12 + q) 16 hL hZB (by omega)
      have c0 := m3.byte (12 + q) (by omega)
      have f0 := m3.fz (12 + q)
      obtain ⟨x, ex⟩ : ∃ x, x = cn q := ⟨_, rfl⟩
      rw [← ex] at hB hC r0 r1 ⊢
      clear ex HB HC HR H0 HM
      have hB2 : Hid (x / 16777216 = v8 (L.getD (12 + q) 0#8)) := by
        show _ = _
        have := hB.out
        omega
      clear hB
      go_wp2
      rw [hB2.out, hC.out]
      refine ⟨⟨q + 1, by omega, rfl, by go_num, ?_, ?_, ?_⟩, by simp [intOf]; omega⟩
      · exact m2.beside _ (by simp)
      · rw [← Nat.add_assoc, ← HS.out]
        exact m3.put (12 + q) _
      · exact m4.setCell (by simp; omega) _
    · have hq4 : q = 4 := by omega
      subst hq4
      rw [mid_full L ZB 16 hL hZB] at m3
      clear HB HC HR H0 HM hml
      go_wp2_with (first | (refine law_load rfl 37 _ rfl _ rfl 37 _ m3 _ Try.underlying37 rfl (by rw [bys_length, hL]; kernel_rfl) ?_) | (refine law_store rfl 37 _ _ rfl _ (bys L) rfl rfl 37 _ m2 (by rw [bys_length, bys_length, hL, hZB]) (by rw [bys_length, hL]; kernel_rfl) (bys_one L) ?_; intro wG hoG hAG))
      refine bodyPost_ret (v := .agg (bys L).toArray) (results_cell_row rfl _ _ (w.heap.size + 1) 37 _ _ _ rfl hAG Try.underlying37 rfl (by rw [List.size_toArray, bys_length, hL]; kernel_rfl)) rfl ⟨rfl, hoG.below m4 (by omega)⟩
end Go.Proofs.Ytjhkicfndbceoaa
