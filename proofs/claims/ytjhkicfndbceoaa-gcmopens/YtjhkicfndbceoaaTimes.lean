/- Products of long elements, by the program; long elements of bytes and back. -/
import Derived.Test.YtjhkicfndbceoaaElQ
namespace Go.Proofs.Ytjhkicfndbceoaa
open Go.RowKit

theorem zeroQ (W : World) : (zeroValue 62).run Try.prog W = .ok (.agg (el 0#128).toArray) W := by kernel_rfl
theorem zeroedQ : ∃ Z : Q, Z = 0#128 ∧ ∀ W : World, (zeroValue 62).run Try.prog W = .ok (.agg (el Z).toArray) W := ⟨_, rfl, zeroQ⟩

/-- What lies there while two elements are multiplied. -/
structure TmS (w v : World) (x y z r : Q) : Prop where
  x : Blk v w.heap.size 62 (el x)
  y : Blk v (w.heap.size + 1) 62 (el y)
  r : Blk v (w.heap.size + 1 + 1) 62 (el r)
  z : Blk v (w.heap.size + 1 + 1 + 1) 62 (el z)
  k : Below w.heap.size w v
section
variable {w v v' : World} {x y z r x' z' : Q}
theorem TmS.call (h : TmS w v x y z r) (hb : Below v.heap.size v v') : TmS w v' x y z r := ⟨h.x.next hb, h.y.next hb, h.r.next hb, h.z.next hb, h.k.trans (hb.mono h.k.size)⟩
theorem TmS.onX (h : TmS w v x y z r) (ho : On v v' w.heap.size) (hb : Blk v' w.heap.size 62 (el x')) : TmS w v' x' y z r := ⟨hb, h.y.on ho (by omega), h.r.on ho (by omega), h.z.on ho (by omega), ho.below h.k (by omega)⟩
theorem TmS.onZ (h : TmS w v x y z r) (ho : On v v' (w.heap.size + 1 + 1 + 1)) (hb : Blk v' (w.heap.size + 1 + 1 + 1) 62 (el z')) : TmS w v' x y z' r := ⟨h.x.on ho (by omega), h.y.on ho (by omega), h.r.on ho (by omega), hb, ho.below h.k (by omega)⟩
end

set_option maxHeartbeats 1000000 in
set_option maxRecDepth 100000 in
theorem times_el (x y : Q) (w : World) :
    Calls Try.prog 55 #[.agg (el x).toArray, .agg (el y).toArray] w fun e w' => e = .returned (.agg (el (gm x y)).toArray) ∧ Below w.heap.size w w' := by
  obtain ⟨Z, eZ, hz⟩ := zeroedQ
  have hS : TmS w ((((w.alloc (.cells (el x).toArray 62)).alloc (.cells (el y).toArray 62)).alloc (.cells (el Z).toArray 62)).alloc (.cells (el Z).toArray 62)) x y Z Z := by
    obtain ⟨h1, h2, h3, h4, h5⟩ := blk4 w 62 62 62 62 (el x) (el y) (el Z) (el Z)
    exact ⟨h1, h2, h3, h4, h5⟩
  have H0 : Hid (gTo 0 x y = Z) := eZ.symm
  have HN : Hid (∀ j, gTo (j + 1) x y = gTo j x y ^^^ (if co y j then eTn j x else 0#128)) := fun j => rfl
  have HT : Hid (∀ j, eT (eTn j x) = eTn (j + 1) x) := fun j => rfl
  have HF : Hid (gm x y = gTo 128 x y) := rfl
  clear eZ
  obtain ⟨X, eX⟩ : ∃ X, X = fun j => eTn j x := ⟨_, rfl⟩
  obtain ⟨P, eP⟩ : ∃ P, P = fun j => gTo j x y := ⟨_, rfl⟩
  have HX : Hid (X 0 = x) := by rw [eX]; exact rfl
  have H0 : Hid (P 0 = Z) := by rw [eP]; exact H0.out
  have HN : Hid (∀ j, P (j + 1) = P j ^^^ (if co y j then X j else 0#128)) := by rw [eX, eP]; exact HN.out
  have HT : Hid (∀ j, eT (X j) = X (j + 1)) := by rw [eX]; exact HT.out
  have HF : Hid (gm x y = P 128) := by rw [eP]; exact HF.out
  clear eX eP
  rw [HF.out]
  clear HF
  go_enter Try.func55, Try.ntmps55
  go_wp2_with fail
  go_loopw [7] (fun i wr => ∃ j : Nat, j ≤ 128 ∧ i = .int .i64 (j : Int) ∧ TmS w wr (X j) y (P j) Z) (fun i _ => 128 - (intOf i).toNat)
  case atStart => exact ⟨0, by omega, rfl, by rw [HX.out, H0.out]; exact hS⟩
  case round =>
    obtain ⟨j, hj, rfl, hA⟩ := hrel
    clear hS
    by_cases hlt : j < 128
    · have hjI : (j : Int) < 128 := by omega
      go_wp2_with (refine law_load rfl 62 _ rfl _ rfl 62 _ hA.y _ Try.underlying62 rfl (by kernel_rfl) ?_)
      go_at_call 66; refine (has_any y j hlt _ rfl _).mono ?_; rintro e w1 ⟨rfl, h1⟩
      have hA1 := hA.call h1
      cases hc : co y j
      · have HP : Hid (P j = P (j + 1)) := by
          have := HN.out j
          rw [hc] at this
          show P j = P (j + 1)
          simpa using this.symm
        go_wp2_with (refine law_load rfl 62 _ rfl _ rfl 62 _ hA1.x _ Try.underlying62 rfl (by kernel_rfl) ?_)
        go_at_call 67; refine (etimesT_any (X j) _).mono ?_; rintro e w2 ⟨rfl, h2⟩
        have hA2 := hA1.call h2
        go_wp2_with (refine law_store rfl 62 _ _ rfl _ (el (eT (X j))) rfl rfl 62 _ hA2.x rfl (by kernel_rfl) (el_one _) ?_; intro wF hoF hAF)
        have hA3 := hA2.onX hoF hAF
        rw [HT.out, HP.out] at hA3
        refine ⟨⟨j + 1, by omega, by go_num, hA3⟩, by simp [intOf]; omega⟩
      · have HP : Hid (P j ^^^ X j = P (j + 1)) := by
          have := HN.out j
          rw [hc] at this
          show P j ^^^ X j = P (j + 1)
          simpa using this.symm
        go_wp2_with (first | (refine law_load rfl 62 _ rfl _ rfl 62 _ hA1.z _ Try.underlying62 rfl (by kernel_rfl) ?_) | (refine law_load rfl 62 _ rfl _ rfl 62 _ hA1.x _ Try.underlying62 rfl (by kernel_rfl) ?_))
        go_at_call 41; refine (eplus_any (P j) (X j) _).mono ?_; rintro e w2 ⟨rfl, h2⟩
        have hA2 := hA1.call h2
        go_wp2_with (first
          | (refine law_store rfl 62 _ _ rfl _ (el (P j ^^^ X j)) rfl rfl 62 _ hA2.z rfl (by kernel_rfl) (el_one _) ?_; intro wF hoF hAF; have hA3 := hA2.onZ hoF hAF; rw [HP.out] at hA3)
          | (refine law_load rfl 62 _ rfl _ rfl 62 _ hA3.x _ Try.underlying62 rfl (by kernel_rfl) ?_))
        go_at_call 67; refine (etimesT_any (X j) _).mono ?_; rintro e w3 ⟨rfl, h3⟩
        have hA4 := hA3.call h3
        go_wp2_with (refine law_store rfl 62 _ _ rfl _ (el (eT (X j))) rfl rfl 62 _ hA4.x rfl (by kernel_rfl) (el_one _) ?_; intro wG hoG hAG)
        have hA5 := hA4.onX hoG hAG
        rw [HT.out] at hA5
        refine ⟨⟨j + 1, by omega, by go_num, hA5⟩, by simp [intOf]; omega⟩
    · have hj128 : j = 128 := by omega
      subst hj128
      go_wp2_with (first | (refine law_load rfl 62 _ rfl _ rfl 62 _ hA.z _ Try.underlying62 rfl (by kernel_rfl) ?_) | (refine law_store rfl 62 _ _ rfl _ (el (P 128)) rfl rfl 62 _ hA.r rfl (by kernel_rfl) (el_one _) ?_; intro wF hoF hAF))
      refine bodyPost_ret (v := .agg (el (P 128)).toArray) (results_cell_row rfl _ _ (w.heap.size + 1 + 1) 62 _ _ _ rfl hAF Try.underlying62 rfl (by kernel_rfl)) rfl ⟨rfl, hoF.below hA.k (by omega)⟩
end Go.Proofs.Ytjhkicfndbceoaa
