/- A secret in shares, by the program. -/
import Derived.Test.YtineieoghlbchaaDoorPolyn
import Derived.Test.YtineieoghlbchaaDoorNewS
import Derived.Test.YtineieoghlbchaaDoorComb
namespace Go.Proofs.YtineieoghlbchaaDoor
open Go.RowKit

theorem split_arg (so ro : Option Addr) (m sc dn rc : Nat) (n k : Int) (w : World) (h : k < 1 ∨ n < k ∨ 16 < n) :
    Calls Tryd.prog 10 #[.slice so m sc, .int .i64 n, .int .i64 k, .slice ro dn rc] w fun e w' => e = .returned (.tuple #[.slice none 0 0, .int .i64 2]) ∧ w = w' := by
  by_cases h1 : k < 1
  · go_enter Tryd.func10, Tryd.ntmps10
    go_wp2
    go_ret2
    exact ⟨rfl, rfl⟩
  · by_cases h2 : n < k
    · go_enter Tryd.func10, Tryd.ntmps10
      go_wp2
      go_ret2
      exact ⟨rfl, rfl⟩
    · have h3 : 16 < n := by omega
      clear h
      go_enter Tryd.func10, Tryd.ntmps10
      go_wp2
      go_ret2
      exact ⟨rfl, rfl⟩
theorem split_long (so ro : Option Addr) (m sc dn rc : Nat) (n k : Int) (w : World) (h1 : 1 ≤ k) (h2 : k ≤ n) (h3 : n ≤ 16) (hm : (1024 : Int) < m) :
    Calls Tryd.prog 10 #[.slice so m sc, .int .i64 n, .int .i64 k, .slice ro dn rc] w fun e w' => e = .returned (.tuple #[.slice none 0 0, .int .i64 3]) ∧ w = w' := by
  go_enter Tryd.func10, Tryd.ntmps10
  go_wp2
  go_ret2
  exact ⟨rfl, rfl⟩
theorem split_draws (so ro : Option Addr) (m sc dn rc : Nat) (n k : Int) (w : World) (h1 : 1 ≤ k) (h2 : k ≤ n) (h3 : n ≤ 16) (hm : (m : Int) ≤ 1024) (hd : ¬ (dn : Int) = (k - 1) * m) :
    Calls Tryd.prog 10 #[.slice so m sc, .int .i64 n, .int .i64 k, .slice ro dn rc] w fun e w' => e = .returned (.tuple #[.slice none 0 0, .int .i64 41]) ∧ w = w' := by
  have hb1 : 0 ≤ (k - 1) * (m : Int) := Int.mul_nonneg (by omega) (by omega)
  have hb2 : (k - 1) * (m : Int) ≤ 15 * 1024 := Int.mul_le_mul (by omega) hm (by omega) (by omega)
  obtain ⟨p, hp⟩ : ∃ p, p = (k - 1) * (m : Int) := ⟨_, rfl⟩
  have hp' : (k - 1) * (m : Int) = p := hp.symm
  rw [← hp] at hb1 hb2 hd
  clear hp
  have hd' : ((dn : Int) == p) = false := by simp [hd]
  go_enter Tryd.func10, Tryd.ntmps10
  go_wp2
  go_ret2
  exact ⟨rfl, rfl⟩

/-- The byte number t of the share at x. -/
def yAt (S D : List B) (k : Nat) (x : B) (t : Nat) : B := ev (pol S D k t) x
/-- The bytes of the share number i. -/
def yRow (S D : List B) (k m i : Nat) : List B := (List.range m).map (yAt S D k (BitVec.ofNat 8 (i + 1)))
/-- The same, the first j of them. -/
def rowT (S D : List B) (k m i j : Nat) : List Int := ((List.range j).map (yAt S D k (BitVec.ofNat 8 (i + 1)))).map v8 ++ List.replicate (m - j) 0
theorem rowT_zero (S D : List B) (k m i : Nat) : rowT S D k m i 0 = List.replicate m 0 := by simp [rowT]
theorem rowT_all (S D : List B) (k m i : Nat) : rowT S D k m i m = (yRow S D k m i).map v8 := by simp [rowT, yRow]
theorem rowT_length (S D : List B) (k m i j : Nat) (h : j ≤ m) : (rowT S D k m i j).length = m := by simp [rowT]; omega
theorem rowT_set (S D : List B) (k m i j : Nat) (h : j < m) : (rowT S D k m i j).set j (v8 (yAt S D k (BitVec.ofNat 8 (i + 1)) j)) = rowT S D k m i (j + 1) := by
  unfold rowT
  obtain ⟨q, hq⟩ : ∃ q, m - j = q + 1 := ⟨m - j - 1, by omega⟩
  rw [hq, List.replicate_succ, show m - (j + 1) = q by omega, List.range_succ, List.map_append, List.map_append, List.append_assoc]
  rw [List.set_append]
  simp
theorem RowIs.set {w : World} {g : Nat} {xs : List Int} (h : RowIs w g xs) (j : Nat) (y : Int) : RowIs (w.setCell ⟨g, j, none⟩ (.int .u8 y)) g (xs.set j y) := by
  unfold RowIs at *
  rw [heap_setCell_same w g j _ 5 _ h]
  simp [u8s, List.map_set]
theorem RowIs.beside {w : World} {g : Nat} {xs : List Int} (h : RowIs w g xs) {a : Addr} (u : Value) (hn : g ≠ a.block) : RowIs (w.setCell a u) g xs := (heap_setCell_other w a g u hn).trans h
theorem shv_mkL (g m : Nat) (Y Y' : Nat → List B) (n : Nat) : shv (mkL g m Y n) = shv (mkL g m Y' n) := by
  unfold shv mkL
  rw [List.flatMap_map, List.flatMap_map]
  rfl

set_option maxRecDepth 100000 in
set_option maxHeartbeats 2000000 in
theorem split_good (so ro : Option Addr) (m sc rc n k : Nat) (S D : List B) (w : World) (hs : Shows w so m (S.map v8)) (hd : Shows w ro ((k - 1) * m) (D.map v8)) (hrc : (k - 1) * m ≤ rc) (hm : (m : Int) ≤ 1024) (hk : 1 ≤ k) (hkn : k ≤ n) (hn : n ≤ 16) :
    Calls Tryd.prog 10 #[.slice so m sc, .int .i64 n, .int .i64 k, .slice ro ((k - 1) * m) rc] w fun e w' => e = .returned (.tuple #[.slice (some ⟨w.heap.size, 0, none⟩) n n, .int .i64 0]) ∧ Blk w' w.heap.size 44 (shv (mkL w.heap.size m (yRow S D k m) n)) ∧ (∀ i, i < n → RowIs w' (w.heap.size + 1 + i) ((yRow S D k m i).map v8)) ∧ Below w.heap.size w w' := by
  have hq1 : ((k : Int) - 1) * (m : Int) = (((k - 1) * m : Nat) : Int) := by
    rw [Int.natCast_mul]
    congr 1
    omega
  have hqb : (k - 1) * m ≤ 15 * 1024 := Nat.mul_le_mul (by omega) (by omega)
  have hpo := fun W (hb : Below w.heap.size w W) sd (e : so = some sd) j hj => poly_any sd ro m sc rc j k S D W (by rw [← e]; exact hs.later hb) (hd.later hb) hrc hj hm hk (by omega)
  obtain ⟨N, hN⟩ : ∃ N, N = (k - 1) * m := ⟨_, rfl⟩
  rw [← hN] at hq1 hqb hpo ⊢
  obtain ⟨G, hG⟩ : ∃ G, G = w.heap.size := ⟨_, rfl⟩
  have hns := newShares_any n m w (by omega) hm
  have HG : Hid (G = w.heap.size) := hG
  rw [← hG] at hns hpo ⊢
  clear hG
  obtain ⟨C, HC⟩ : ∃ C, Hid (C = shv (mkL G m (yRow S D k m) n)) := ⟨_, rfl⟩
  rw [shv_mkL G m (fun _ => List.replicate m 0#8) (yRow S D k m) n, ← HC.out] at hns
  have hC1 : ∀ i, i < n → C[i * 2]? = some (.int .u8 (v8 (BitVec.ofNat 8 (i + 1)))) ∧ C[i * 2 + 1]? = some (.slice (some ⟨G + 1 + i, 0, none⟩) m m) := fun i hi => by
    rw [HC.out]
    exact shv_at _ i _ (mkL_at G m (yRow S D k m) n i hi)
  rw [← HC.out]
  have hk1 : (1 : Int) ≤ k := by omega
  have hkn' : (k : Int) ≤ n := by omega
  have hn' : (n : Int) ≤ 16 := by omega
  clear hN
  go_enter Tryd.func10, Tryd.ntmps10
  go_wp2_with (go_at_call 33; refine hns.mono ?_; rintro e w1 ⟨rfl, hB1, hR1, hs1, hb1⟩)
  have hR1' : ∀ i, i < n → RowIs w1 (G + 1 + i) (rowT S D k m i 0) := fun i hi => by rw [rowT_zero]; exact hR1 i hi
  have hz1 : G + 1 + n ≤ w1.heap.size := by omega
  clear hns hR1 hs1
  go_loopw [45] (fun i wr => ∃ j : Nat, j ≤ m ∧ i = .int .i64 j ∧ Blk wr G 44 C ∧ (∀ i, i < n → RowIs wr (G + 1 + i) (rowT S D k m i j)) ∧ G + 1 + n ≤ wr.heap.size ∧ Below G w wr) (fun i _ => m - (intOf i).toNat)
  case atStart => exact ⟨0, Nat.zero_le _, rfl, hB1, hR1', hz1, hb1⟩
  case round =>
    clear hB1 hR1' hz1 hb1
    obtain ⟨j, hj, rfl, hB, hR, hz, hb⟩ := hrel
    obtain ⟨wA, h⟩ : ∃ x, x = wr := ⟨_, rfl⟩; subst h
    by_cases hlt : j < m
    · obtain ⟨sd, rfl⟩ := hs.some (by omega)
      have hjm : (j : Int) < (m : Int) := by omega
      have hp := hpo wA hb sd rfl j hlt
      go_wp2_with (go_at_call 34; refine hp.mono ?_; rintro e w2 ⟨v, rfl, hv, hb2⟩; obtain ⟨co, cc, rfl, hsv, -⟩ := own_shape hv.own (v8s_rng _))
      have hb2' : Below G w w2 := hb.trans (hb2.mono (by rw [HG.out]; exact hb.size))
      have hB2 := hB.next hb2
      have hR2 : ∀ i, i < n → RowIs w2 (G + 1 + i) (rowT S D k m i (if i < 0 then j + 1 else j)) := fun i hi => by rw [if_neg (by omega)]; exact (hR i hi).later hb2
      have hz2 : G + 1 + n ≤ w2.heap.size := by have := hb2.size; omega
      have hs2 : Below wA.heap.size w2 w2 := Below.refl _ _
      have hcb : ∀ ad, co = some ad → G + 1 + n ≤ ad.block := fun ad e => by
        rcases hv.own.2 with ⟨h3, _⟩ | ⟨g, cap, cur, h3, hg, _⟩
        · cases h3; cases e
        · cases h3; cases e; exact Nat.le_trans hz hg
      clear hB hR hb hp hv hb2
      go_loopw [55] (fun q wr => ∃ i : Nat, i ≤ n ∧ q = .int .i64 i ∧ Blk wr G 44 C ∧ (∀ i', i' < n → RowIs wr (G + 1 + i') (rowT S D k m i' (if i' < i then j + 1 else j))) ∧ G + 1 + n ≤ wr.heap.size ∧ Shows wr co k ((pol S D k j).map v8) ∧ Below G w wr) (fun q _ => n - (intOf q).toNat)
      case atStart => exact ⟨0, Nat.zero_le _, rfl, hB2, hR2, hz2, hsv, hb2'⟩
      case round =>
        clear hB2 hR2 hz2 hsv hb2' hs2
        obtain ⟨i, hi, rfl, hB, hR, hz, hsv, hb⟩ := hrel
        by_cases hlti : i < n
        · have hin : (i : Int) < (n : Int) := by omega
          obtain ⟨cx, cy⟩ := hC1 i hlti
          have cx' := hB.cell _ _ cx
          have cy' := hB.cell _ _ cy
          obtain ⟨x, HX⟩ : ∃ x, Hid (x = v8 (BitVec.ofNat 8 (i + 1))) := ⟨_, rfl⟩
          rw [← HX.out] at cx'
          have hev := eval_any co k cc (pol S D k j) (BitVec.ofNat 8 (i + 1)) (wr.alloc (.cells #[.int .u8 x, .slice (some ⟨G + 1 + i, 0, none⟩) m m] 44)).drew (hsv.later (((Below.refl _ wr).alloc (Nat.le_refl _) _).drew)) (by omega)
          rw [← HX.out] at hev
          obtain ⟨H, hH⟩ : ∃ H, H = wr.heap.size := ⟨_, rfl⟩
          have hRi := hR i hlti
          rw [if_neg (by omega)] at hRi
          have hlen := rowT_length S D k m i j hj
          have hst : ∀ W, Below wr.heap.size wr W → W.frozen? ⟨G + 1 + i, j, none⟩ = false ∧ ∃ cv, W.cell? ⟨G + 1 + i, j, none⟩ = some cv := fun W hW => by
            have h1 := hRi.later hW
            refine ⟨frozen_of_row _ _ _ _ _ h1, ?_⟩
            have h2 := cell_of_row W (G + 1 + i) j _ 5 (0, 0) h1
            exact ⟨_, h2.trans (Array.getElem?_eq_getElem (by simp [u8s_length]; omega))⟩
          have hbA : Below wr.heap.size wr (wr.alloc (.cells #[.int .u8 x, .slice (some ⟨G + 1 + i, 0, none⟩) m m] 44)).drew := ((Below.refl _ wr).alloc (Nat.le_refl _) _).drew
          have hneH : wr.heap.size ≠ G + 1 + i := by omega
          go_wp2_with fail
          go_region_held3 (fun w' => w'.cell? ⟨wr.heap.size, 0, none⟩ = some (.int .u8 x) ∧ w'.cell? ⟨wr.heap.size, 1, none⟩ = some (.slice (some ⟨G + 1 + i, 0, none⟩) m m)) (first | go_keep | (go_split_ands; exact ⟨cell_later hb1 (by assumption), cell_later hb1 (by assumption)⟩) | (go_split_ands; exact ⟨(cell?_of_other hneH).trans (by assumption), (cell?_of_other hneH).trans (by assumption)⟩)) ((go_at_call 35; refine hev.mono ?_; rintro e w1 ⟨rfl, hb1⟩; have hb1' := hbA.trans (hb1.mono (by simp)); obtain ⟨f1, cv, k1⟩ := hst w1 hb1'))
          have E1 := (hB.next hb1').beside (a := ⟨G + 1 + i, j, none⟩) (.int .u8 (v8 (ev (pol S D k j) (BitVec.ofNat 8 (i + 1))))) (by simp; omega)
          have E2 : ∀ i', i' < n → RowIs (w1.setCell ⟨G + 1 + i, j, none⟩ (.int .u8 (v8 (ev (pol S D k j) (BitVec.ofNat 8 (i + 1)))))) (G + 1 + i') (rowT S D k m i' (if i' < i + 1 then j + 1 else j)) := fun i' hi' => by
            by_cases e : i' = i
            · subst e
              rw [if_pos (by omega), ← rowT_set S D k m i' j hlt]
              exact (hRi.later hb1').set j _
            · have h1 := ((hR i' hi').later hb1').beside (a := ⟨G + 1 + i, j, none⟩) (.int .u8 (v8 (ev (pol S D k j) (BitVec.ofNat 8 (i + 1))))) (by simp; omega)
              by_cases e2 : i' < i
              · rw [if_pos (by omega)]; rw [if_pos e2] at h1; exact h1
              · rw [if_neg (by omega)]; rw [if_neg e2] at h1; exact h1
          have E3 : Shows (w1.setCell ⟨G + 1 + i, j, none⟩ (.int .u8 (v8 (ev (pol S D k j) (BitVec.ofNat 8 (i + 1)))))) co k ((pol S D k j).map v8) := (hsv.later hb1').beside (fun ad e => by have := hcb ad e; simp; omega) _
          have E4 : Below G w (w1.setCell ⟨G + 1 + i, j, none⟩ (.int .u8 (v8 (ev (pol S D k j) (BitVec.ofNat 8 (i + 1)))))) := (hb.trans (hb1'.mono (by rw [HG.out]; exact hb.size))).setCell (by simp; omega) _
          have E5 : G + 1 + n ≤ (w1.setCell ⟨G + 1 + i, j, none⟩ (.int .u8 (v8 (ev (pol S D k j) (BitVec.ofNat 8 (i + 1)))))).heap.size := by have := hb1'.size; simp [World.setCell]; omega
          clear hB hR hRi hsv hst hev cx cy cx' cy' f1 k1 hb1 hb1' hb
          go_wp2
          go_roundw
          case rel => exact ⟨i + 1, by omega, by go_num, E1, E2, E5, E3, E4⟩
          case measure => simp [intOf]; omega
        · have hin : n = i := by omega
          subst hin
          have hR' : ∀ i, i < n → RowIs wr (G + 1 + i) (rowT S D k m i (j + 1)) := fun i hi => by have := hR i hi; rwa [if_pos hi] at this
          clear hR
          go_wp2
          go_roundw
          case rel => exact ⟨j + 1, by omega, by go_num, hB, hR', hz, hb⟩
          case measure => simp [intOf]; omega
    · have hjm : m = j := by omega
      subst hjm
      go_wp2
      go_ret2
      refine ⟨rfl, hB, fun i hi => ?_, hb⟩
      have := hR i hi
      rwa [rowT_all] at this
end Go.Proofs.YtineieoghlbchaaDoor
