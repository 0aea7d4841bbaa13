/- Long elements of bytes, by the program, and back; whether two are one. -/
import Derived.Test.YtjhkicfndbceoaaTimes
namespace Go.Proofs.Ytjhkicfndbceoaa
open Go.RowKit

/-- What a word is when j of its bytes were taken up. -/
def upTo (u : U) (j : Nat) : Int := v64 (u >>> (64 - 8 * j))
theorem upTo_zero (u : U) : upTo u 0 = 0 := by
  unfold upTo
  rw [BitVec.ushiftRight_eq_zero (by omega)]
  rfl
theorem upTo_full (u : U) : upTo u 8 = v64 u := by
  unfold upTo
  simp
theorem upTo_step (u : U) (j : Nat) (h : j < 8) (b : B) (hb : b = (u >>> (56 - 8 * j)).setWidth 8) : bits .or .u64 (IntKind.u64.wrap (upTo u j * 256)) (v8 b) = upTo u (j + 1) := by
  unfold upTo
  rw [IntKind.wrap_u64]
  have := v64_shl (u >>> (64 - 8 * j)) 8
  rw [show (2 : Int) ^ 8 = 256 from rfl] at this
  rw [show (18446744073709551616 : Int) = 18446744073709551616 from rfl] at this
  rw [this, v8_64, v64_or, hb, word_step u j h]

set_option maxHeartbeats 1000000 in
set_option maxRecDepth 100000 in
theorem ofB_any (x : Q) (w : World) :
    Calls Try.prog 29 #[.agg (bys (bq x)).toArray] w fun e w' => e = .returned (.agg (el x).toArray) ∧ Below w.heap.size w w' := by
  have hz := zero62
  have hl := bq_length x
  have HH : Hid (∀ j, j < 8 → bits .or .u64 (IntKind.u64.wrap (upTo (hiQ x) j * 256)) (v8 ((bq x).getD j 0#8)) = upTo (hiQ x) (j + 1)) := fun j hj => upTo_step _ j hj _ (by rw [bq_at x j (by omega), hi_byte x j hj])
  have HL : Hid (∀ j, j < 8 → bits .or .u64 (IntKind.u64.wrap (upTo (loQ x) j * 256)) (v8 ((bq x).getD (8 + j) 0#8)) = upTo (loQ x) (j + 1)) := fun j hj => upTo_step _ j hj _ (by rw [bq_at x (8 + j) (by omega), ← lo_byte x j hj, show 15 - (8 + j) = 7 - j by omega])
  unfold el
  rw [← upTo_full (hiQ x), ← upTo_full (loQ x)]
  have H0 : Hid (upTo (hiQ x) 0 = 0) := upTo_zero _
  have L0 : Hid (upTo (loQ x) 0 = 0) := upTo_zero _
  obtain ⟨A, eA⟩ : ∃ A, A = upTo (hiQ x) := ⟨_, rfl⟩
  obtain ⟨C, eC⟩ : ∃ A, A = upTo (loQ x) := ⟨_, rfl⟩
  rw [← eA] at HH H0 ⊢
  rw [← eC] at HL L0 ⊢
  clear eA eC
  obtain ⟨bs, eb⟩ : ∃ bs, bs = bq x := ⟨_, rfl⟩
  rw [← eb] at hl HH HL ⊢
  clear eb
  obtain ⟨h1, h2, h3, h4⟩ := blk3 w 37 62 62 (bys bs) [.int .u64 0, .int .u64 0] [.int .u64 0, .int .u64 0]
  go_enter Try.func29, Try.ntmps29
  go_wp2_with fail
  go_loopw [5] (fun i wr => ∃ j : Nat, j ≤ 8 ∧ i = .int .i64 (j : Int) ∧ Blk wr w.heap.size 37 (bys bs) ∧ Blk wr (w.heap.size + 1) 62 [.int .u64 0, .int .u64 0] ∧ Blk wr (w.heap.size + 1 + 1) 62 [.int .u64 (A j), .int .u64 (C j)] ∧ Below w.heap.size w wr) (fun i _ => 8 - (intOf i).toNat)
  case atStart => exact ⟨0, by omega, rfl, h1, h2, by rw [H0.out, L0.out]; exact h3, h4⟩
  case round =>
    obtain ⟨j, hj, rfl, k1, k2, k3, k4⟩ := hrel
    clear h1 h2 h3 h4
    by_cases hlt : j < 8
    · have hA : Hid _ := HH.out j hlt
      have hC : Hid _ := HL.out j hlt
      have b0 := k1.byte j (by omega)
      have b1 := k1.byte (8 + j) (by omega)
      obtain ⟨p, ep⟩ : ∃ p, p = bs.getD j 0#8 := ⟨_, rfl⟩
      obtain ⟨q, eq⟩ : ∃ p, p = bs.getD (8 + j) 0#8 := ⟨_, rfl⟩
      rw [← ep] at b0 hA
      rw [← eq] at b1 hC
      have p0 := v8_nn p
      have p1 := v8_le p
      have q0 := v8_nn q
      have q1 := v8_le q
      obtain ⟨a, ea⟩ : ∃ a, a = A j := ⟨_, rfl⟩
      obtain ⟨c, ec⟩ : ∃ a, a = C j := ⟨_, rfl⟩
      obtain ⟨p', ep'⟩ : ∃ a, a = v8 p := ⟨_, rfl⟩
      obtain ⟨q', eq'⟩ : ∃ a, a = v8 q := ⟨_, rfl⟩
      rw [← ea] at hA k3
      rw [← ec] at hC k3
      rw [← ep'] at hA b0 p0 p1
      rw [← eq'] at hC b1 q0 q1
      clear ep eq ea ec ep' eq' HH HL H0 L0
      have c0 := k3.cell 0 _ rfl
      have c1 := k3.cell 1 _ rfl
      have f0 := k3.fz 0
      have f1 := k3.fz 1
      go_wp2_with fail
      go_region
      go_wp2_with fail
      go_region
      go_wp2
      rw [hA.out, hC.out]
      refine ⟨⟨j + 1, by omega, by go_num, ?_, ?_, ?_, ?_⟩, by simp [intOf]; omega⟩
      · exact (((k1.beside _ (by simp; omega)).beside _ (by simp; omega)).drew).drew
      · exact (((k2.beside _ (by simp)).beside _ (by simp)).drew).drew
      · exact (((k3.set 0 _).set 1 _).drew).drew
      · exact (((k4.setCell (by simp; omega) _).setCell (by simp; omega) _).drew).drew
    · have hj8 : j = 8 := by omega
      subst hj8
      clear HH HL H0 L0
      go_wp2_with (first | (refine law_load rfl 62 _ rfl _ rfl 62 _ k3 _ Try.underlying62 rfl (by kernel_rfl) ?_) | (refine law_store rfl 62 _ _ rfl _ [.int .u64 (A 8), .int .u64 (C 8)] rfl rfl 62 _ k2 rfl (by kernel_rfl) (by simp [Value.oneCell']) ?_; intro wF hoF hAF))
      refine bodyPost_ret (results_cell_row rfl _ _ (w.heap.size + 1) 62 _ (0, 0) _ rfl hAF Try.underlying62 rfl (by kernel_rfl)) rfl ⟨rfl, hoF.below k4 (by omega)⟩

theorem zeroed37' : ∃ Z : List B, Z.length = 16 ∧ ∀ W : World, (zeroValue 37).run Try.prog W = .ok (.agg (bys Z).toArray) W := ⟨List.replicate 16 0#8, by simp, zero37⟩
/-- A block whose first j bytes, and as many from the middle on, are those of L. -/
def twoMid (L M : List B) (j : Nat) : List B := mid (L.take 8) (M.take 8) j ++ mid (L.drop 8) (M.drop 8) j
theorem twoMid_zero (L M : List B) : twoMid L M 0 = M := by simp [twoMid, mid_zero]
theorem twoMid_full (L M : List B) (hL : L.length = 16) (hM : M.length = 16) : twoMid L M 8 = L := by
  unfold twoMid
  rw [mid_full _ _ 8 (by simp; omega) (by simp; omega), mid_full _ _ 8 (by simp; omega) (by simp; omega), List.take_append_drop]
theorem twoMid_length (L M : List B) (j : Nat) (hL : L.length = 16) (hM : M.length = 16) : (twoMid L M j).length = 16 := by
  unfold twoMid
  rw [List.length_append, mid_length _ _ 8 j (by simp; omega) (by simp; omega), mid_length _ _ 8 j (by simp; omega) (by simp; omega)]
theorem twoMid_step (L M : List B) (j : Nat) (hj : j < 8) (hL : L.length = 16) (hM : M.length = 16) : ((twoMid L M j).set j (L.getD j 0#8)).set (8 + j) (L.getD (8 + j) 0#8) = twoMid L M (j + 1) := by
  unfold twoMid
  have l1 : (mid (L.take 8) (M.take 8) j).length = 8 := mid_length _ _ 8 j (by simp; omega) (by simp; omega)
  have a1 : (L.take 8).getD j 0#8 = L.getD j 0#8 := by simp [List.getD, hj]
  have a2 : (L.drop 8).getD j 0#8 = L.getD (8 + j) 0#8 := by simp [List.getD]
  rw [List.set_append_left _ _ (by omega), List.set_append_right _ _ (by simp [l1])]
  rw [List.length_set, l1, Nat.add_sub_cancel_left, ← a1, ← a2, mid_step _ _ j 8 (by simp; omega) (by simp; omega) hj, mid_step _ _ j 8 (by simp; omega) (by simp; omega) hj]

set_option maxHeartbeats 1000000 in
set_option maxRecDepth 100000 in
theorem toB_any (x : Q) (w : World) :
    Calls Try.prog 26 #[.agg (el x).toArray] w fun e w' => e = .returned (.agg (bys (bq x)).toArray) ∧ Below w.heap.size w w' := by
  obtain ⟨Z, hZ, hz⟩ := zeroed37'
  have hl := bq_length x
  have HH : Hid (∀ j, j < 8 → v64 (hiQ x) / 2 ^ (56 - 8 * j) % 256 = v8 ((bq x).getD j 0#8)) := fun j hj => by rw [v64_shr, v64_low, bq_at x j (by omega), hi_byte x j hj]
  have HL : Hid (∀ j, j < 8 → v64 (loQ x) / 2 ^ (56 - 8 * j) % 256 = v8 ((bq x).getD (8 + j) 0#8)) := fun j hj => by rw [v64_shr, v64_low, bq_at x (8 + j) (by omega), ← lo_byte x j hj, show 15 - (8 + j) = 7 - j by omega]
  unfold el
  obtain ⟨bs, eb⟩ : ∃ bs, bs = bq x := ⟨_, rfl⟩
  rw [← eb] at hl HH HL ⊢
  clear eb
  obtain ⟨A, eA⟩ : ∃ A, A = v64 (hiQ x) := ⟨_, rfl⟩
  obtain ⟨C, eC⟩ : ∃ A, A = v64 (loQ x) := ⟨_, rfl⟩
  rw [← eA] at HH ⊢
  rw [← eC] at HL ⊢
  clear eA eC
  obtain ⟨h1, h2, h3, h4⟩ := blk3 w 62 37 37 [.int .u64 A, .int .u64 C] (bys Z) (bys Z)
  go_enter Try.func26, Try.ntmps26
  go_wp2_with fail
  go_loopw [6] (fun i wr => ∃ j : Nat, j ≤ 8 ∧ i = .int .i64 (j : Int) ∧ Blk wr w.heap.size 62 [.int .u64 A, .int .u64 C] ∧ Blk wr (w.heap.size + 1) 37 (bys Z) ∧ Blk wr (w.heap.size + 1 + 1) 37 (bys (twoMid bs Z j)) ∧ Below w.heap.size w wr) (fun i _ => 8 - (intOf i).toNat)
  case atStart => exact ⟨0, by omega, rfl, h1, h2, by rw [twoMid_zero]; exact h3, h4⟩
  case round =>
    obtain ⟨j, hj, rfl, k1, k2, k3, k4⟩ := hrel
    clear h1 h2 h3 h4
    have hml := twoMid_length bs Z j hl hZ
    by_cases hlt : j < 8
    · have hA : Hid _ := HH.out j hlt
      have hC : Hid _ := HL.out j hlt
      have a0 := k1.cell 0 _ rfl
      have a1 := k1.cell 1 _ rfl
      have c0 := k3.byte j (by omega)
      have c1 := k3.byte (8 + j) (by omega)
      have f0 := k3.fz j
      have f1 := k3.fz (8 + j)
      have HS : Hid _ := twoMid_step bs Z j hlt hl hZ
      clear HH HL
      go_wp2
      rw [hA.out, hC.out]
      refine ⟨⟨j + 1, by omega, by go_num, ?_, ?_, ?_, ?_⟩, by simp [intOf]; omega⟩
      · exact (k1.beside _ (by simp; omega)).beside _ (by simp; omega)
      · exact (k2.beside _ (by simp)).beside _ (by simp)
      · rw [← HS.out]
        exact (k3.put j _).put (8 + j) _
      · exact (k4.setCell (by simp; omega) _).setCell (by simp; omega) _
    · have hj8 : j = 8 := by omega
      subst hj8
      rw [twoMid_full bs Z hl hZ] at k3
      clear HH HL hml
      go_wp2_with (first | (refine law_load rfl 37 _ rfl _ rfl 37 _ k3 _ Try.underlying37 rfl (by rw [bys_length, hl]; kernel_rfl) ?_) | (refine law_store rfl 37 _ _ rfl _ (bys bs) rfl rfl 37 _ k2 (by rw [bys_length, bys_length, hl, hZ]) (by rw [bys_length, hl]; kernel_rfl) (bys_one bs) ?_; intro wF hoF hAF))
      refine bodyPost_ret (v := .agg (bys bs).toArray) (results_cell_row rfl _ _ (w.heap.size + 1) 37 _ _ _ rfl hAF Try.underlying37 rfl (by rw [List.size_toArray, bys_length, hl]; kernel_rfl)) rfl ⟨rfl, hoF.below k4 (by omega)⟩

theorem or_zero (x y : Q) : (bits .or .u64 (v64 (hiQ (x ^^^ y))) (v64 (loQ (x ^^^ y))) == 0) = decide (x = y) := by
  rw [v64_or]
  by_cases h : x = y
  · subst h
    rw [BitVec.xor_self]
    simp
    rfl
  · have hn : v64 (hiQ (x ^^^ y) ||| loQ (x ^^^ y)) ≠ 0 := by
      intro e
      have e2 : hiQ (x ^^^ y) ||| loQ (x ^^^ y) = 0#64 := v64_inj (e.trans (by rfl))
      have eh : hiQ (x ^^^ y) = hiQ 0#128 := by
        apply BitVec.eq_of_getLsbD_eq
        intro i hi
        have := congrArg (fun u => u.getLsbD i) e2
        simp only [BitVec.getLsbD_or, BitVec.getLsbD_zero, Bool.or_eq_false_iff] at this
        rw [this.1]
        simp [hiQ]
      have elo : loQ (x ^^^ y) = loQ 0#128 := by
        apply BitVec.eq_of_getLsbD_eq
        intro i hi
        have := congrArg (fun u => u.getLsbD i) e2
        simp only [BitVec.getLsbD_or, BitVec.getLsbD_zero, Bool.or_eq_false_iff] at this
        rw [this.2]
        simp [loQ]
      have := hilo_inj eh elo
      apply h
      have k : x ^^^ y ^^^ y = 0#128 ^^^ y := by rw [this]
      rwa [BitVec.xor_assoc, BitVec.xor_self, BitVec.xor_zero, BitVec.zero_xor] at k
    simp [h, hn]
set_option maxHeartbeats 1000000 in
set_option maxRecDepth 100000 in
theorem same_el (x y : Q) (w : World) :
    Calls Try.prog 30 #[.agg (el x).toArray, .agg (el y).toArray] w fun e w' => e = .returned (.bool (decide (x = y))) ∧ Below w.heap.size w w' := by
  have HO : Hid _ := or_zero x y
  obtain ⟨d, hd⟩ : ∃ d, d = decide (x = y) := ⟨_, rfl⟩
  rw [← hd] at HO ⊢
  clear hd
  have h41 : ∀ W : World, Calls Try.prog 41 #[.agg (el x).toArray, .agg (el y).toArray] W fun e w' => e = .returned (.agg (el (x ^^^ y)).toArray) ∧ Below W.heap.size W w' := eplus_any x y
  obtain ⟨p, ep⟩ : ∃ p, p = v64 (hiQ (x ^^^ y)) := ⟨_, rfl⟩
  obtain ⟨q, eq⟩ : ∃ p, p = v64 (loQ (x ^^^ y)) := ⟨_, rfl⟩
  have e2 : el (x ^^^ y) = [.int .u64 p, .int .u64 q] := by rw [ep, eq]; rfl
  rw [e2] at h41
  rw [← ep, ← eq] at HO
  clear e2 ep eq
  obtain ⟨h1, h2, h3⟩ := blk2 w 62 62 (el x) (el y)
  have hz := zero62
  go_enter Try.func30, Try.ntmps30
  go_wp2_with (first | (refine law_load rfl 62 _ rfl _ rfl 62 _ h1 _ Try.underlying62 rfl (by kernel_rfl) ?_) | (refine law_load rfl 62 _ rfl _ rfl 62 _ h2 _ Try.underlying62 rfl (by kernel_rfl) ?_))
  go_at_call 41; refine (h41 _).mono ?_; rintro e w1 ⟨rfl, k1⟩
  have hb := h3.trans (k1.mono h3.size)
  clear h1 h2 h3 k1
  go_wp2
  go_ret
  exact ⟨by rw [← HO.out]; rfl, hb.alloc hb.size _⟩
end Go.Proofs.Ytjhkicfndbceoaa
