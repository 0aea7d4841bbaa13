/- A block's columns mixed. -/
import Derived.Test.YtjhkicfndbceoaaTurned
import Derived.Deep.RegionWith
namespace Go.Proofs.Ytjhkicfndbceoaa
open Go.RowKit

/-- The byte n rows below number i in its column. -/
def bel (i n : Nat) : Nat := i - i % 4 + (i % 4 + n) % 4
theorem bel_lt (i n : Nat) (h : i < 16) : bel i n < 16 := by unfold bel; omega
/-- A column's byte, mixed. -/
def mx (a b c d : B) : B := mul (a ^^^ b) 2#8 ^^^ (b ^^^ (c ^^^ d))
/-- A block with its columns mixed. -/
def mixL (b : List B) : List B := (List.range 16).map fun i => mx (b.getD i 0#8) (b.getD (bel i 1) 0#8) (b.getD (bel i 2) 0#8) (b.getD (bel i 3) 0#8)
theorem mixL_length (b : List B) : (mixL b).length = 16 := by simp [mixL]
theorem v8_two : v8 2#8 = 2 := by decide

theorem below_any (i n : Nat) (m : Int) (hi : i < 16) (hn : n < 4) (hm : m = n) (w : World) : Calls Try.prog 64 #[.int .i64 (i : Int), .int .i64 m] w fun e w' => e = .returned (.int .i64 (bel i n : Int)) ∧ w = w' := by
  subst hm
  have h0 : (0 : Int) ≤ i := by omega
  have h1 : (i : Int) < 16 := by omega
  have h2 : (0 : Int) ≤ n := by omega
  have h3 : (n : Int) < 4 := by omega
  have e : Hid ((i : Int) - (i : Int) % 4 + ((i : Int) + (n : Int)) % 4 = (bel i n : Int)) := by unfold bel; show _ = _; omega
  go_enter Try.func64, Try.ntmps64
  go_wp2
  go_ret
  exact ⟨by rw [← e.out]; rfl, rfl⟩

theorem Blk.flag {w : World} {g : Nat} {t : TypeId} {ks : List B} {last : Bool} (h : Blk w g t (rnd ks last)) (hk : ks.length = 16) : w.cell? ⟨g, 16, none⟩ = some (.bool last) := by
  refine h.cell 16 _ ?_
  unfold rnd
  rw [List.getElem?_append_right (by rw [bys_length]; omega), bys_length, hk]
  rfl

theorem zero85 (W : World) : (zeroValue 85).run Try.prog W = .ok (.agg (bys (List.replicate 16 0#8)).toArray) W := by kernel_rfl
theorem zeroed85 : ∃ Z : List B, Z.length = 16 ∧ ∀ W : World, (zeroValue 85).run Try.prog W = .ok (.agg (bys Z).toArray) W := ⟨List.replicate 16 0#8, by simp, zero85⟩

set_option maxHeartbeats 1000000 in
set_option maxRecDepth 100000 in
/-- In the last round a block is left as it is. -/
theorem mixed_last (bs ks : List B) (hl : bs.length = 16) (hk : ks.length = 16) (w : World) :
    Calls Try.prog 51 #[.agg (bys bs).toArray, .agg (rnd ks true).toArray] w fun e w' => e = .returned (.agg (bys bs).toArray) ∧ Below w.heap.size w w' := by
  obtain ⟨Z, hZl, hz⟩ := zeroed85
  have hB0 : Blk (((w.alloc (.cells (bys bs).toArray 85)).alloc (.cells (rnd ks true).toArray 88)).alloc (.cells (bys Z).toArray 85)) w.heap.size 85 (bys bs) := ((Blk.new w 85 (bys bs)).alloc _).alloc _
  have hB1 : Blk (((w.alloc (.cells (bys bs).toArray 85)).alloc (.cells (rnd ks true).toArray 88)).alloc (.cells (bys Z).toArray 85)) (w.heap.size + 1) 88 (rnd ks true) := by
    have h := (Blk.new (w.alloc (.cells (bys bs).toArray 85)) 88 (rnd ks true)).alloc (.cells (bys Z).toArray 85)
    rwa [World.size_alloc] at h
  have hB2 : Blk (((w.alloc (.cells (bys bs).toArray 85)).alloc (.cells (rnd ks true).toArray 88)).alloc (.cells (bys Z).toArray 85)) (w.heap.size + 1 + 1) 85 (bys Z) := by
    have h := Blk.new ((w.alloc (.cells (bys bs).toArray 85)).alloc (.cells (rnd ks true).toArray 88)) 85 (bys Z)
    rwa [World.size_alloc, World.size_alloc] at h
  have hbB : Below w.heap.size w (((w.alloc (.cells (bys bs).toArray 85)).alloc (.cells (rnd ks true).toArray 88)).alloc (.cells (bys Z).toArray 85)) :=
    (((Below.refl _ w).alloc (Nat.le_refl _) _).alloc (by simp) _).alloc (by simp; omega) _
  have hfl := hB1.flag hk
  go_enter Try.func51, Try.ntmps51
  go_wp2_with (first | (refine law_load rfl 85 _ rfl _ rfl 85 _ hB0 _ Try.underlying85 rfl (by rw [bys_length, hl]; kernel_rfl) ?_) | (refine law_store rfl 85 _ _ rfl _ (bys bs) rfl rfl 85 _ hB2 (by rw [bys_length, bys_length, hl, hZl]) (by rw [bys_length, hl]; kernel_rfl) (bys_one bs) ?_; intro wF hoF hAF))
  refine bodyPost_ret (v := .agg (bys bs).toArray) (results_cell_row rfl _ _ (w.heap.size + 1 + 1) 85 _ _ _ rfl hAF Try.underlying85 rfl (by rw [List.size_toArray, bys_length, hl]; kernel_rfl)) rfl ⟨rfl, hoF.below hbB (by omega)⟩

set_option maxHeartbeats 1000000 in
set_option maxRecDepth 100000 in
/-- A block's columns mixed. -/
theorem mixed_some (bs ks : List B) (hl : bs.length = 16) (hk : ks.length = 16) (w : World) :
    Calls Try.prog 51 #[.agg (bys bs).toArray, .agg (rnd ks false).toArray] w fun e w' => e = .returned (.agg (bys (mixL bs)).toArray) ∧ Below w.heap.size w w' := by
  obtain ⟨L, eL⟩ : ∃ L, L = mixL bs := ⟨_, rfl⟩
  have hL : L.length = 16 := by rw [eL]; exact mixL_length bs
  have HS : Hid (∀ i, i < 16 → mx (bs.getD i 0#8) (bs.getD (bel i 1) 0#8) (bs.getD (bel i 2) 0#8) (bs.getD (bel i 3) 0#8) = L.getD i 0#8) := fun i hi => by rw [eL]; unfold mixL; rw [getD_range _ 16 i hi]
  rw [← eL]
  clear eL
  obtain ⟨Z, hM, hz⟩ := zeroed85
  have hB0 : Blk ((((w.alloc (.cells (bys bs).toArray 85)).alloc (.cells (rnd ks false).toArray 88)).alloc (.cells (bys Z).toArray 85)).alloc (.cells (bys Z).toArray 85)) w.heap.size 85 (bys bs) := (((Blk.new w 85 (bys bs)).alloc _).alloc _).alloc _
  have hB2 : Blk ((((w.alloc (.cells (bys bs).toArray 85)).alloc (.cells (rnd ks false).toArray 88)).alloc (.cells (bys Z).toArray 85)).alloc (.cells (bys Z).toArray 85)) (w.heap.size + 1 + 1) 85 (bys Z) := by
    have h := (Blk.new ((w.alloc (.cells (bys bs).toArray 85)).alloc (.cells (rnd ks false).toArray 88)) 85 (bys Z)).alloc (.cells (bys Z).toArray 85)
    rwa [World.size_alloc, World.size_alloc] at h
  have hB1 : Blk (((w.alloc (.cells (bys bs).toArray 85)).alloc (.cells (rnd ks false).toArray 88)).alloc (.cells (bys Z).toArray 85)) (w.heap.size + 1) 88 (rnd ks false) := by
    have h := (Blk.new (w.alloc (.cells (bys bs).toArray 85)) 88 (rnd ks false)).alloc (.cells (bys Z).toArray 85)
    rwa [World.size_alloc] at h
  have hfl := hB1.flag hk
  clear hB1
  have hB3 : Blk ((((w.alloc (.cells (bys bs).toArray 85)).alloc (.cells (rnd ks false).toArray 88)).alloc (.cells (bys Z).toArray 85)).alloc (.cells (bys Z).toArray 85)) (w.heap.size + 1 + 1 + 1) 85 (bys Z) := by
    have h := Blk.new (((w.alloc (.cells (bys bs).toArray 85)).alloc (.cells (rnd ks false).toArray 88)).alloc (.cells (bys Z).toArray 85)) 85 (bys Z)
    rw [World.size_alloc, World.size_alloc, World.size_alloc] at h
    exact h
  have hbB : Below w.heap.size w ((((w.alloc (.cells (bys bs).toArray 85)).alloc (.cells (rnd ks false).toArray 88)).alloc (.cells (bys Z).toArray 85)).alloc (.cells (bys Z).toArray 85)) :=
    ((((Below.refl _ w).alloc (Nat.le_refl _) _).alloc (by simp) _).alloc (by simp; omega) _).alloc (by simp; omega) _
  go_enter Try.func51, Try.ntmps51
  go_wp2
  go_loopw [14] (fun i wr => ∃ j : Nat, j ≤ 16 ∧ i = .int .i64 j ∧ Blk wr w.heap.size 85 (bys bs) ∧ Blk wr (w.heap.size + 1 + 1 + 1) 85 (bys (mid L Z j)) ∧ Blk wr (w.heap.size + 1 + 1) 85 (bys Z) ∧ Below w.heap.size w wr) (fun i _ => 16 - (intOf i).toNat)
  case atStart => exact ⟨0, by omega, rfl, hB0, by rw [mid_zero]; exact hB3, hB2, hbB⟩
  case round =>
    obtain ⟨j, hj, rfl, hA, hO, hZ, hbr⟩ := hrel
    clear hB0 hB2 hB3 hbB hfl
    have hml := mid_length L Z 16 j hL hM
    by_cases hlt : j < 16
    · have hst := hO.put j (L.getD j 0#8)
      rw [mid_step L Z j 16 hL hM hlt] at hst
      have HJ : Hid (mx (bs.getD j 0#8) (bs.getD (bel j 1) 0#8) (bs.getD (bel j 2) 0#8) (bs.getD (bel j 3) 0#8) = L.getD j 0#8) := HS.out j hlt
      have t1 := bel_lt j 1 hlt
      have t2 := bel_lt j 2 hlt
      have t3 := bel_lt j 3 hlt
      have c0 := hA.byte j (by omega)
      have c1 := hA.byte (bel j 1) (by omega)
      have c2 := hA.byte (bel j 2) (by omega)
      have c3 := hA.byte (bel j 3) (by omega)
      have d0 := hO.byte j (by omega)
      have f0 := hO.fz j
      have k1 := below_any j 1 1 hlt (by omega) rfl
      have k2 := below_any j 2 2 hlt (by omega) rfl
      have k3 := below_any j 3 3 hlt (by omega) rfl
      obtain ⟨q1, e1⟩ : ∃ q, q = bel j 1 := ⟨_, rfl⟩
      obtain ⟨q2, e2⟩ : ∃ q, q = bel j 2 := ⟨_, rfl⟩
      obtain ⟨q3, e3⟩ : ∃ q, q = bel j 3 := ⟨_, rfl⟩
      rw [← e1] at t1 c1 k1 HJ
      rw [← e2] at t2 c2 k2 HJ
      rw [← e3] at t3 c3 k3 HJ
      obtain ⟨x0, g0⟩ : ∃ x, x = bs.getD j 0#8 := ⟨_, rfl⟩
      obtain ⟨x1, g1⟩ : ∃ x, x = bs.getD q1 0#8 := ⟨_, rfl⟩
      obtain ⟨x2, g2⟩ : ∃ x, x = bs.getD q2 0#8 := ⟨_, rfl⟩
      obtain ⟨x3, g3⟩ : ∃ x, x = bs.getD q3 0#8 := ⟨_, rfl⟩
      obtain ⟨y, gy⟩ : ∃ x, x = L.getD j 0#8 := ⟨_, rfl⟩
      rw [← g0] at c0 HJ
      rw [← g1] at c1 HJ
      rw [← g2] at c2 HJ
      rw [← g3] at c3 HJ
      rw [← gy] at hst HJ
      have i1 : (q1 : Int) < 16 := by omega
      have i2 : (q2 : Int) < 16 := by omega
      have i3 : (q3 : Int) < 16 := by omega
      clear e1 e2 e3 g0 g1 g2 g3 gy HS
      go_wp2_with fail
      go_region_held3 (fun w' => w'.cell? ⟨w.heap.size, j, none⟩ = some (.int .u8 (v8 x0)) ∧ w'.cell? ⟨w.heap.size, q1, none⟩ = some (.int .u8 (v8 x1))) (go_keep) ((go_at_call 64; refine (k1 _).mono ?_; rintro e w' ⟨rfl, rfl⟩))
      go_wp2_with fail
      go_region_held3 (fun w' => w'.cell? ⟨w.heap.size, q2, none⟩ = some (.int .u8 (v8 x2)) ∧ w'.cell? ⟨w.heap.size, q3, none⟩ = some (.int .u8 (v8 x3))) (go_keep) ((first | (go_at_call_of 64 (Value.int .i64 2); refine (k2 _).mono ?_; rintro e w' ⟨rfl, rfl⟩) | (go_at_call_of 64 (Value.int .i64 3); refine (k3 _).mono ?_; rintro e w' ⟨rfl, rfl⟩) | (go_at_call 46; refine (add_any x2 x3 _ _ _ rfl rfl).mono ?_; rintro e w' ⟨rfl, rfl⟩)))
      go_wp2_with (first
        | (go_at_call 46; refine (add_any _ _ _ _ _ rfl rfl).mono ?_; rintro e w' ⟨rfl, rfl⟩)
        | (go_at_call 65; refine (mul_any (x0 ^^^ x1) 2#8 _ _ _ rfl v8_two.symm).mono ?_; rintro e w' ⟨rfl, rfl⟩))
      rw [show mul (x0 ^^^ x1) 2#8 ^^^ (x1 ^^^ (x2 ^^^ x3)) = y from HJ.out]
      refine ⟨⟨j + 1, by omega, by go_num, hA.drew.drew.beside _ (by simp <;> omega), hst, hZ.drew.drew.beside _ (by simp <;> omega), hbr.drew.drew.setCell (by simp <;> omega) _⟩, by simp [intOf]; omega⟩
    · have hj16 : j = 16 := by omega
      subst hj16
      rw [mid_full L Z 16 hL hM] at hO
      clear HS
      go_wp2_with (first | (refine law_load rfl 85 _ rfl _ rfl 85 _ hO _ Try.underlying85 rfl (by rw [bys_length, hL]; kernel_rfl) ?_) | (refine law_store rfl 85 _ _ rfl _ (bys L) rfl rfl 85 _ hZ (by rw [bys_length, bys_length, hL, hM]) (by rw [bys_length, hL]; kernel_rfl) (bys_one L) ?_; intro wF hoF hAF))
      refine bodyPost_ret (v := .agg (bys L).toArray) (results_cell_row rfl _ _ (w.heap.size + 1 + 1) 85 _ _ _ rfl hAF Try.underlying85 rfl (by rw [List.size_toArray, bys_length, hL]; kernel_rfl)) rfl ⟨rfl, hoF.below hbr (by omega)⟩

/-- A block's columns mixed, but in the last round. -/
def mixR (last : Bool) (b : List B) : List B := if last then b else mixL b
theorem mixR_length (last : Bool) (b : List B) (h : b.length = 16) : (mixR last b).length = 16 := by cases last; exact mixL_length b; exact h
theorem mixed_any (bs ks : List B) (last : Bool) (hl : bs.length = 16) (hk : ks.length = 16) (w : World) :
    Calls Try.prog 51 #[.agg (bys bs).toArray, .agg (rnd ks last).toArray] w fun e w' => e = .returned (.agg (bys (mixR last bs)).toArray) ∧ Below w.heap.size w w' := by
  cases last
  · exact mixed_some bs ks hl hk w
  · exact mixed_last bs ks hl hk w
end Go.Proofs.Ytjhkicfndbceoaa
