/- Sums of long elements, their coefficients, and times t, by the program. -/
import Derived.Test.YtjhkicfndbceoaaGBytes
import Derived.Test.YtjhkicfndbceoaaExp
namespace Go.Proofs.Ytjhkicfndbceoaa
open Go.RowKit

theorem zero62 (W : World) : (zeroValue 62).run Try.prog W = .ok (.agg #[.int .u64 0, .int .u64 0]) W := by kernel_rfl

set_option maxHeartbeats 1000000 in
set_option maxRecDepth 100000 in
theorem eplus_any (x y : Q) (w : World) :
    Calls Try.prog 41 #[.agg (el x).toArray, .agg (el y).toArray] w fun e w' => e = .returned (.agg (el (x ^^^ y)).toArray) ∧ Below w.heap.size w w' := by
  have hz := zero62
  unfold el
  rw [hi_xor, lo_xor, ← v64_xor, ← v64_xor]
  obtain ⟨a, ea⟩ : ∃ a, a = v64 (hiQ x) := ⟨_, rfl⟩
  obtain ⟨b, eb⟩ : ∃ a, a = v64 (loQ x) := ⟨_, rfl⟩
  obtain ⟨c, ec⟩ : ∃ a, a = v64 (hiQ y) := ⟨_, rfl⟩
  obtain ⟨d, ed⟩ : ∃ a, a = v64 (loQ y) := ⟨_, rfl⟩
  rw [← ea, ← eb, ← ec, ← ed]
  clear ea eb ec ed
  go_enter Try.func41, Try.ntmps41
  go_wp2
  have hN := Blk.new ((w.alloc (.cells #[.int .u64 a, .int .u64 b] 62)).alloc (.cells #[.int .u64 c, .int .u64 d] 62)) 62 [.int .u64 (bits .xor .u64 a c), .int .u64 (bits .xor .u64 b d)]
  rw [World.size_alloc, World.size_alloc] at hN
  refine bodyPost_ret (results_cell_row rfl _ _ (w.heap.size + 1 + 1) 62 _ (0, 0) _ rfl hN Try.underlying62 rfl (by kernel_rfl)) rfl ⟨rfl, (((Below.refl _ w).alloc (Nat.le_refl _) _).alloc (by simp) _).alloc (by simp; omega) _⟩

set_option maxHeartbeats 1000000 in
set_option maxRecDepth 100000 in
theorem has_any (x : Q) (i : Nat) (hi : i < 128) (k : Int) (hk : k = i) (w : World) :
    Calls Try.prog 66 #[.agg (el x).toArray, .int .i64 k] w fun e w' => e = .returned (.bool (co x i)) ∧ Below w.heap.size w w' := by
  subst hk
  unfold co el
  by_cases h : i < 64
  · have H : Hid (bits .and .u64 (v64 (hiQ x) / 2 ^ (63 - i)) 1 = if x.getLsbD (127 - i) then 1 else 0) := by
      have := v64_bit (hiQ x) (63 - i)
      rw [hi_bit x _ (by omega), show 64 + (63 - i) = 127 - i by omega] at this
      exact this
    obtain ⟨a, ea⟩ : ∃ a, a = v64 (hiQ x) := ⟨_, rfl⟩
    obtain ⟨b, eb⟩ : ∃ a, a = v64 (loQ x) := ⟨_, rfl⟩
    rw [← ea] at H ⊢
    rw [← eb]
    clear ea eb
    go_enter Try.func66, Try.ntmps66
    go_wp2
    go_ret
    rw [H.out]
    refine ⟨?_, (Below.refl _ w).alloc (Nat.le_refl _) _⟩
    cases x.getLsbD (127 - i) <;> rfl
  · have H : Hid (bits .and .u64 (v64 (loQ x) / 2 ^ (127 - i)) 1 = if x.getLsbD (127 - i) then 1 else 0) := by
      have := v64_bit (loQ x) (127 - i)
      rw [lo_bit x _ (by omega)] at this
      exact this
    obtain ⟨a, ea⟩ : ∃ a, a = v64 (hiQ x) := ⟨_, rfl⟩
    obtain ⟨b, eb⟩ : ∃ a, a = v64 (loQ x) := ⟨_, rfl⟩
    rw [← eb] at H ⊢
    rw [← ea]
    clear ea eb
    go_enter Try.func66, Try.ntmps66
    go_wp2
    go_ret
    rw [H.out]
    refine ⟨?_, (Below.refl _ w).alloc (Nat.le_refl _) _⟩
    cases x.getLsbD (127 - i) <;> rfl

theorem blk2 (w : World) (t1 t2 : TypeId) (v1 v2 : List Value) : Blk ((w.alloc (.cells v1.toArray t1)).alloc (.cells v2.toArray t2)) w.heap.size t1 v1 ∧ Blk ((w.alloc (.cells v1.toArray t1)).alloc (.cells v2.toArray t2)) (w.heap.size + 1) t2 v2
    ∧ Below w.heap.size w ((w.alloc (.cells v1.toArray t1)).alloc (.cells v2.toArray t2)) := by
  refine ⟨(Blk.new w t1 v1).alloc _, ?_, ((Below.refl _ w).alloc (Nat.le_refl _) _).alloc (by simp) _⟩
  have h := Blk.new (w.alloc (.cells v1.toArray t1)) t2 v2
  rwa [World.size_alloc] at h
theorem blk3 (w : World) (t1 t2 t3 : TypeId) (v1 v2 v3 : List Value) : Blk (((w.alloc (.cells v1.toArray t1)).alloc (.cells v2.toArray t2)).alloc (.cells v3.toArray t3)) w.heap.size t1 v1 ∧ Blk (((w.alloc (.cells v1.toArray t1)).alloc (.cells v2.toArray t2)).alloc (.cells v3.toArray t3)) (w.heap.size + 1) t2 v2
    ∧ Blk (((w.alloc (.cells v1.toArray t1)).alloc (.cells v2.toArray t2)).alloc (.cells v3.toArray t3)) (w.heap.size + 1 + 1) t3 v3 ∧ Below w.heap.size w (((w.alloc (.cells v1.toArray t1)).alloc (.cells v2.toArray t2)).alloc (.cells v3.toArray t3)) := by
  obtain ⟨h1, h2, h3⟩ := blk2 w t1 t2 v1 v2
  refine ⟨h1.alloc _, h2.alloc _, ?_, h3.alloc (by simp; omega) _⟩
  have h := Blk.new ((w.alloc (.cells v1.toArray t1)).alloc (.cells v2.toArray t2)) t3 v3
  rwa [World.size_alloc, World.size_alloc] at h
theorem blk4 (w : World) (t1 t2 t3 t4 : TypeId) (v1 v2 v3 v4 : List Value) : Blk ((((w.alloc (.cells v1.toArray t1)).alloc (.cells v2.toArray t2)).alloc (.cells v3.toArray t3)).alloc (.cells v4.toArray t4)) w.heap.size t1 v1 ∧ Blk ((((w.alloc (.cells v1.toArray t1)).alloc (.cells v2.toArray t2)).alloc (.cells v3.toArray t3)).alloc (.cells v4.toArray t4)) (w.heap.size + 1) t2 v2
    ∧ Blk ((((w.alloc (.cells v1.toArray t1)).alloc (.cells v2.toArray t2)).alloc (.cells v3.toArray t3)).alloc (.cells v4.toArray t4)) (w.heap.size + 1 + 1) t3 v3 ∧ Blk ((((w.alloc (.cells v1.toArray t1)).alloc (.cells v2.toArray t2)).alloc (.cells v3.toArray t3)).alloc (.cells v4.toArray t4)) (w.heap.size + 1 + 1 + 1) t4 v4
    ∧ Below w.heap.size w ((((w.alloc (.cells v1.toArray t1)).alloc (.cells v2.toArray t2)).alloc (.cells v3.toArray t3)).alloc (.cells v4.toArray t4)) := by
  obtain ⟨h1, h2, h3, h4⟩ := blk3 w t1 t2 t3 v1 v2 v3
  refine ⟨h1.alloc _, h2.alloc _, h3.alloc _, ?_, h4.alloc (by simp; omega) _⟩
  have h := Blk.new (((w.alloc (.cells v1.toArray t1)).alloc (.cells v2.toArray t2)).alloc (.cells v3.toArray t3)) t4 v4
  rwa [World.size_alloc, World.size_alloc, World.size_alloc] at h

set_option maxHeartbeats 1000000 in
set_option maxRecDepth 100000 in
theorem etimesT_any (x : Q) (w : World) :
    Calls Try.prog 67 #[.agg (el x).toArray] w fun e w' => e = .returned (.agg (el (eT x)).toArray) ∧ Below w.heap.size w w' := by
  have hz := zero62
  have h66 : ∀ W : World, Calls Try.prog 66 #[.agg (el x).toArray, .int .i64 127] W fun e w' => e = .returned (.bool (x.getLsbD 0)) ∧ Below W.heap.size W w' := fun W => has_any x 127 (by omega) 127 rfl W
  have HL : v64 (loQ (eT x)) = bits .or .u64 (IntKind.u64.wrap (v64 (hiQ x) * 9223372036854775808)) (v64 (loQ x) / 2) := by
    rw [eT_lo, ← v64_or, ← v64_shl, ← v64_shr, IntKind.wrap_u64]
    rfl
  cases hb : x.getLsbD 0
  · have HH : v64 (hiQ (eT x)) = v64 (hiQ x) / 2 := by
      rw [eT_hi, hb]
      have := v64_shr (hiQ x) 1
      simp only [Bool.false_eq_true, if_false, BitVec.xor_zero]
      rw [← this]
      rfl
    rw [hb] at h66
    unfold el at h66 ⊢
    rw [HH, HL]
    clear HH HL hb
    obtain ⟨a, ea⟩ : ∃ a, a = v64 (hiQ x) := ⟨_, rfl⟩
    obtain ⟨b, eb⟩ : ∃ a, a = v64 (loQ x) := ⟨_, rfl⟩
    rw [← ea, ← eb] at h66 ⊢
    clear ea eb
    obtain ⟨hA, hB, hC, hb⟩ := blk3 w 62 62 62 [.int .u64 a, .int .u64 b] [.int .u64 0, .int .u64 0] [.int .u64 (a / 2), .int .u64 (bits .or .u64 (IntKind.u64.wrap (a * 9223372036854775808)) (b / 2))]
    go_enter Try.func67, Try.ntmps67
    go_wp2_with fail
    go_at_call 66; refine (h66 _).mono ?_; rintro e w1 ⟨rfl, h1⟩
    replace hA := hA.next h1
    replace hB := hB.next h1
    replace hC := hC.next h1
    replace hb := hb.trans (h1.mono hb.size)
    clear h1 h66
    go_wp2_with (first | (refine law_load rfl 62 _ rfl _ rfl 62 _ hC _ Try.underlying62 rfl (by kernel_rfl) ?_) | (refine law_store rfl 62 _ _ rfl _ [.int .u64 (a / 2), .int .u64 (bits .or .u64 (IntKind.u64.wrap (a * 9223372036854775808)) (b / 2))] rfl rfl 62 _ hB rfl (by kernel_rfl) (by simp [Value.oneCell']) ?_; intro wF hoF hAF))
    refine bodyPost_ret (results_cell_row rfl _ _ (w.heap.size + 1) 62 _ (0, 0) _ rfl hAF Try.underlying62 rfl (by kernel_rfl)) rfl ⟨rfl, hoF.below hb (by omega)⟩
  · have HH : v64 (hiQ (eT x)) = bits .xor .u64 (v64 (hiQ x) / 2) 16212958658533785600 := by
      rw [eT_hi, hb]
      have := v64_shr (hiQ x) 1
      simp only [if_true]
      rw [← v64_xor, ← this]
      rfl
    rw [hb] at h66
    unfold el at h66 ⊢
    rw [HH, HL]
    clear HH HL hb
    obtain ⟨a, ea⟩ : ∃ a, a = v64 (hiQ x) := ⟨_, rfl⟩
    obtain ⟨b, eb⟩ : ∃ a, a = v64 (loQ x) := ⟨_, rfl⟩
    rw [← ea, ← eb] at h66 ⊢
    clear ea eb
    obtain ⟨hA, hB, hC, hb⟩ := blk3 w 62 62 62 [.int .u64 a, .int .u64 b] [.int .u64 0, .int .u64 0] [.int .u64 (a / 2), .int .u64 (bits .or .u64 (IntKind.u64.wrap (a * 9223372036854775808)) (b / 2))]
    go_enter Try.func67, Try.ntmps67
    go_wp2_with fail
    go_at_call 66; refine (h66 _).mono ?_; rintro e w1 ⟨rfl, h1⟩
    replace hB := hB.next h1
    replace hC := hC.next h1
    replace hb := hb.trans (h1.mono hb.size)
    clear h1 h66 hA
    have c0 := hC.cell 0 _ rfl
    have f0 := hC.fz 0
    have hC2 := hC.set 0 (.int .u64 (bits .xor .u64 (a / 2) 16212958658533785600))
    have hB2 := hB.beside (a := ⟨w.heap.size + 1 + 1, 0, none⟩) (.int .u64 (bits .xor .u64 (a / 2) 16212958658533785600)) (by simp)
    have hb2 := hb.setCell (show w.heap.size ≤ (⟨w.heap.size + 1 + 1, 0, none⟩ : Addr).block by simp; omega) (.int .u64 (bits .xor .u64 (a / 2) 16212958658533785600))
    go_wp2_with (first | (refine law_load rfl 62 _ rfl _ rfl 62 _ hC2 _ Try.underlying62 rfl (by kernel_rfl) ?_) | (refine law_store rfl 62 _ _ rfl _ [.int .u64 (bits .xor .u64 (a / 2) 16212958658533785600), .int .u64 (bits .or .u64 (IntKind.u64.wrap (a * 9223372036854775808)) (b / 2))] rfl rfl 62 _ hB2 rfl (by kernel_rfl) (by simp [Value.oneCell']) ?_; intro wF hoF hAF))
    refine bodyPost_ret (results_cell_row rfl _ _ (w.heap.size + 1) 62 _ (0, 0) _ rfl hAF Try.underlying62 rfl (by kernel_rfl)) rfl ⟨rfl, hoF.below hb2 (by omega)⟩
end Go.Proofs.Ytjhkicfndbceoaa
