/- New shares, with room for their bytes. -/
import Derived.Test.YtineieoghlbchaaDoorPts
import Derived.Test.YtineieoghlbchaaDoorUnhex
import Derived.Test.YtineieoghlbchaaDoorTabs
namespace Go.Proofs.YtineieoghlbchaaDoor
open Go.RowKit

theorem Tryd.info44 : (Tryd.prog.info? 44).map (fun i => (i.zero, i.size, i.bytes)) = some (some (.agg #[.int .u8 0, .slice none 0 0]), 2, 32) := by kernel_rfl

/-- The cells of shares. -/
def shv (L : List Sh) : List Value := L.flatMap (fun s => [.int .u8 (v8 s.x), .slice s.ao s.n s.c])
theorem shv_nil : shv [] = [] := rfl
theorem shv_append (L M : List Sh) : shv (L ++ M) = shv L ++ shv M := by simp [shv]
theorem shv_one (s : Sh) : shv [s] = [.int .u8 (v8 s.x), .slice s.ao s.n s.c] := rfl
theorem shv_length (L : List Sh) : (shv L).length = L.length * 2 := by
  induction L with
  | nil => rfl
  | cons s L ih => rw [show s :: L = [s] ++ L from rfl, shv_append, List.length_append, ih, shv_one]; simp; omega
theorem shv_at (L : List Sh) (i : Nat) (s : Sh) (h : L[i]? = some s) : (shv L)[i * 2]? = some (.int .u8 (v8 s.x)) ∧ (shv L)[i * 2 + 1]? = some (.slice s.ao s.n s.c) := by
  induction L generalizing i with
  | nil => simp at h
  | cons t L ih =>
    rw [show t :: L = [t] ++ L from rfl, shv_append, shv_one]
    cases i with
    | zero =>
      simp at h
      subst h
      exact ⟨rfl, rfl⟩
    | succ i =>
      rw [show (i + 1) * 2 = i * 2 + 2 by omega, List.getElem?_append_right (by simp), List.getElem?_append_right (by simp)]
      simp only [List.length_cons, List.length_nil]
      rw [show i * 2 + 2 - (0 + 1 + 1) = i * 2 by omega, show i * 2 + 2 + 1 - (0 + 1 + 1) = i * 2 + 1 by omega]
      exact ih i (by simpa using h)
theorem shv_one' (L : List Sh) : ∀ u ∈ shv L, u.oneCell' = true := by
  intro u hu
  obtain ⟨s, _, hs⟩ := List.mem_flatMap.1 hu
  simp at hs
  rcases hs with rfl | rfl <;> rfl

theorem lit_add (g i : Nat) : (⟨g, 0, none⟩ : Addr).add i = ⟨g, i, none⟩ := by unfold Addr.add; split <;> simp_all
theorem shs_of_cells {w : World} {g n : Nat} {L : List Sh} (hl : L.length = n) (h : ∀ (i : Nat) v, (shv L)[i]? = some v → w.cell? ⟨g, i, none⟩ = some v) (hok : ∀ s ∈ L, ShOk w s) : Shs w (some ⟨g, 0, none⟩) n L := by
  refine ⟨hl, fun e => (by cases e), fun ad had i s hs => ?_, fun ad had i s hs => ?_, hok⟩
  · cases had
    rw [lit_add]
    exact h _ _ (shv_at L i s hs).1
  · cases had
    rw [lit_add]
    exact h _ _ (shv_at L i s hs).2

/-- 'make([]byte, N)', with the new world. -/
theorem law_mkB {w : World} {ops : Array Oper} {rest : List Oper} {o : Oper} {a : Act} {Q : Exit → Act → World → Prop} (hg : o.guard = none) (l c : Operand) (hop : o.op = Op.makeSlice 22 l c)
    (L C : Int) (N : Nat) (hl : a.eval l = .int .i64 L) (hc : a.eval c = .int .i64 C) (hL : L = (N : Int)) (hC : C = (N : Int)) (hbig : N ≤ 1000000)
    (zs : List Int) (hzs : Hid (zs = List.replicate N 0)) (hK : wpList Tryd.prog ops Q rest (a.put o.dst (.slice (some ⟨w.heap.size, 0, none⟩) N N)) (w.alloc (.cells (u8s zs).toArray 5))) :
    wpList Tryd.prog ops Q (o :: rest) a w := by
  obtain ⟨i0, hi, hz0, hz1, hz2⟩ := info_parts Tryd.info5
  have hr := run_make (P := Tryd.prog) w 22 5 i0 (.int .u8 0) Tryd.underlying22 hi hz0 .i64 .i64 N N (by omega) (Int.le_refl _) (by rw [hz2]; omega) (by omega)
  have e : madeCells (Value.int .u8 0).cells ((N : Int).toNat * i0.size) = (u8s zs).toArray := by
    rw [hz1, hzs.out, Nat.mul_one, Int.toNat_natCast]
    apply Array.ext'
    have h1 : (Value.int .u8 0).cells = #[.int .u8 0] := rfl
    rw [h1, toList_madeCells_one]
    simp [u8s]
  rw [e, Int.toNat_natCast] at hr
  refine wpList_plain hg fun K hK' => ?_
  subst hL hC
  unfold Oper.wp
  simp [execOp, hop, hl, hc, hr, Result.andThen]
  exact hK' _ _ hK

/-- 'make([]api.Share, N)', with the new world. -/
theorem law_mkS {w : World} {ops : Array Oper} {rest : List Oper} {o : Oper} {a : Act} {Q : Exit → Act → World → Prop} (hg : o.guard = none) (l c : Operand) (hop : o.op = Op.makeSlice 27 l c)
    (L C : Int) (N : Nat) (hl : a.eval l = .int .i64 L) (hc : a.eval c = .int .i64 C) (hL : L = (N : Int)) (hC : C = (N : Int)) (hbig : N ≤ 1000000)
    (hK : ∀ vs : List Value, Hid (vs.length = N * 2) → wpList Tryd.prog ops Q rest (a.put o.dst (.slice (some ⟨w.heap.size, 0, none⟩) N N)) (w.alloc (.cells vs.toArray 44))) :
    wpList Tryd.prog ops Q (o :: rest) a w := by
  obtain ⟨i0, hi, hz0, hz1, hz2⟩ := info_parts Tryd.info44
  have hr := run_make (P := Tryd.prog) w 27 44 i0 _ Tryd.underlying27 hi hz0 .i64 .i64 N N (by omega) (Int.le_refl _) (by rw [hz2]; omega) (by omega)
  obtain ⟨vs, hvs⟩ : ∃ vs : List Value, madeCells (Value.agg #[.int .u8 0, .slice none 0 0]).cells ((N : Int).toNat * i0.size) = vs.toArray := ⟨_, Array.toArray_toList.symm⟩
  have hlen : vs.length = N * 2 := by
    have := congrArg Array.size hvs
    rw [size_madeCells, hz1, Int.toNat_natCast] at this
    simpa using this.symm
  rw [hvs, Int.toNat_natCast] at hr
  refine wpList_plain hg fun K hK' => ?_
  subst hL hC
  unfold Oper.wp
  simp [execOp, hop, hl, hc, hr, Result.andThen]
  exact hK' _ _ (hK vs hlen)

/-- The share number i of new ones behind block g. -/
def shareAt (g m : Nat) (Y : Nat → List B) (i : Nat) : Sh := ⟨BitVec.ofNat 8 (i + 1), some ⟨g + 1 + i, 0, none⟩, m, m, Y i⟩
def mkL (g m : Nat) (Y : Nat → List B) (n : Nat) : List Sh := (List.range n).map (shareAt g m Y)
theorem mkL_succ (g m : Nat) (Y : Nat → List B) (n : Nat) : mkL g m Y (n + 1) = mkL g m Y n ++ [shareAt g m Y n] := by
  unfold mkL
  rw [List.range_succ, List.map_append]
  rfl
theorem mkL_length (g m : Nat) (Y : Nat → List B) (n : Nat) : (mkL g m Y n).length = n := by simp [mkL]
theorem mkL_at (g m : Nat) (Y : Nat → List B) (n i : Nat) (h : i < n) : (mkL g m Y n)[i]? = some (shareAt g m Y i) := by
  unfold mkL
  rw [List.getElem?_map, List.getElem?_range h]
  rfl
theorem v8_byte (k : Nat) (h : k < 255) : v8 (BitVec.ofNat 8 (k + 1)) = (k : Int) + 1 := by
  unfold v8
  rw [BitVec.toNat_ofNat, Nat.mod_eq_of_lt (by omega)]
  omega
theorem set_two' (A r : List Value) (a b x y : Value) : ((A ++ a :: b :: r).set A.length x).set (A.length + 1) y = A ++ x :: y :: r := by
  induction A with
  | nil => rfl
  | cons z A ih => simp only [List.cons_append, List.length_cons, List.set_cons_succ, ih]
theorem set_two (A zs : List Value) (k : Nat) (x y : Value) (hA : A.length = k * 2) (hz : 2 ≤ zs.length) : ((A ++ zs).set (k * 2) x).set (k * 2 + 1) y = A ++ [x, y] ++ zs.drop 2 := by
  match zs, hz with
  | a :: b :: r, _ =>
    rw [← hA, set_two']
    simp

set_option maxRecDepth 100000 in
set_option maxHeartbeats 1000000 in
theorem newShares_any (n m : Nat) (w : World) (hn : (n : Int) ≤ 16) (hm : (m : Int) ≤ 1024) :
    Calls Tryd.prog 33 #[.int .i64 n, .int .i64 m] w fun e w' => e = .returned (.slice (some ⟨w.heap.size, 0, none⟩) n n) ∧ Blk w' w.heap.size 44 (shv (mkL w.heap.size m (fun _ => List.replicate m 0#8) n)) ∧ (∀ i, i < n → RowIs w' (w.heap.size + 1 + i) (List.replicate m 0)) ∧ w'.heap.size = w.heap.size + 1 + n ∧ Below w.heap.size w w' := by
  go_enter Tryd.func33, Tryd.ntmps33
  go_wp2_with (at_make; refine law_mkS rfl _ _ rfl _ _ n rfl rfl rfl rfl (by omega) ?_)
  intro vs HV
  have hB0 : Blk (w.alloc (.cells vs.toArray 44)) w.heap.size 44 vs := Blk.new w 44 vs
  have hb0 : Below w.heap.size w (w.alloc (.cells vs.toArray 44)) := (Below.refl _ w).alloc (Nat.le_refl _) _
  have hs0 : (w.alloc (.cells vs.toArray 44)).heap.size = w.heap.size + 1 := by simp
  go_wp2
  go_loopw [11] (fun i wr => ∃ (k : Nat) (zs : List Value), k ≤ n ∧ i = .int .i64 k ∧ Hid (zs.length = (n - k) * 2) ∧ Blk wr w.heap.size 44 (shv (mkL w.heap.size m (fun _ => List.replicate m 0#8) k) ++ zs) ∧ (∀ i, i < k → RowIs wr (w.heap.size + 1 + i) (List.replicate m 0)) ∧ Hid (wr.heap.size = w.heap.size + 1 + k) ∧ Below w.heap.size w wr) (fun i _ => n - (intOf i).toNat)
  case atStart => exact ⟨0, vs, Nat.zero_le _, rfl, HV, hB0, fun i h => by omega, hs0, hb0⟩
  case round =>
    clear hB0 hb0 hs0
    obtain ⟨k, zs, hk, rfl, HZ, hB, hR, HS, hb⟩ := hrel
    by_cases hlt : k < n
    · have hkn : (k : Int) < (n : Int) := by omega
      obtain ⟨zs0, HZ0⟩ : ∃ zs : List Int, Hid (zs = List.replicate m 0) := ⟨List.replicate m 0, (rfl : _ = _)⟩
      have hA : (shv (mkL w.heap.size m (fun _ => List.replicate m 0#8) k)).length = k * 2 := by rw [shv_length, mkL_length]
      have HE : Hid (((shv (mkL w.heap.size m (fun _ => List.replicate m 0#8) k) ++ zs).set (k * 2) (.int .u8 ((k : Int) + 1))).set (k * 2 + 1) (.slice (some ⟨wr.heap.size, 0, none⟩) m m) = shv (mkL w.heap.size m (fun _ => List.replicate m 0#8) (k + 1)) ++ zs.drop 2) := by
        show _ = _
        rw [set_two _ zs k _ _ hA (by rw [HZ.out]; omega), mkL_succ, shv_append, shv_one]
        unfold shareAt
        dsimp only
        rw [v8_byte k (by omega), HS.out]
      obtain ⟨vs1, ev1⟩ : ∃ vs1, vs1 = shv (mkL w.heap.size m (fun _ => List.replicate m 0#8) k) ++ zs := ⟨_, rfl⟩
      have hl1 : vs1.length = n * 2 := by rw [ev1, List.length_append, hA, HZ.out]; omega
      rw [← ev1] at hB HE
      clear ev1 hA
      obtain ⟨c1, hc1⟩ := some_at vs1 (k * 2) (by omega)
      obtain ⟨c2, hc2⟩ := some_at (vs1.set (k * 2) (.int .u8 ((k : Int) + 1))) (k * 2 + 1) (by rw [List.length_set]; omega)
      have hBa := hB.alloc (.cells (u8s zs0).toArray 5)
      have k1 := hBa.cell _ _ hc1
      have f1 := hBa.fz (k * 2)
      have hBb := hBa.set (k * 2) (.int .u8 ((k : Int) + 1))
      have k2 := hBb.cell _ _ hc2
      have f2 := hBb.fz (k * 2 + 1)
      go_wp2_with (at_make; refine law_mkB rfl _ _ rfl _ _ m rfl rfl rfl rfl (by omega) zs0 HZ0 ?_)
      have hBc := hBb.set (k * 2 + 1) (.slice (some ⟨wr.heap.size, 0, none⟩) m m)
      rw [HE.out] at hBc
      refine ⟨⟨k + 1, zs.drop 2, by omega, by go_num, ?_, hBc, ?_, ?_, ?_⟩, by simp [intOf]; omega⟩
      · show _ = _
        rw [List.length_drop, HZ.out]; omega
      · intro i hi
        have hne : ∀ (W : World) (o : Nat) (u : Value), (W.setCell ⟨w.heap.size, o, none⟩ u).heap[w.heap.size + 1 + i]? = W.heap[w.heap.size + 1 + i]? := fun W o u => heap_setCell_other W _ _ u (by simp; omega)
        unfold RowIs
        rw [hne, hne]
        by_cases e : i = k
        · subst e
          rw [← HZ0.out]
          exact new_at HS.out
        · exact old_at (hR i (by omega))
      · show _ = _
        have := HS.out
        simp [World.setCell]; omega
      · exact ((hb.alloc hb.size _).setCell (Nat.le_refl _) _).setCell (Nat.le_refl _) _
    · have hkn : n = k := by omega
      subst hkn
      have hzz : zs = [] := List.eq_nil_of_length_eq_zero (by have := HZ.out; omega)
      subst hzz
      go_wp2
      go_ret
      rw [List.append_nil] at hB
      exact ⟨rfl, hB, hR, HS.out, hb⟩
end Go.Proofs.YtineieoghlbchaaDoor
