/- DigestPieces: however bytes are cut into pieces, the sum of a state to which they are added is the sum of all. -/
import Derived.Test.YtmnembhcfkcmnaaDoorEq25
import Derived.Deep.RegionHeld3
namespace Go.Proofs.YtmnembhcfkcmnaaDoor
open Go.RowKit

/-- In the world w a slice at bo, of length k, shows the ints zs. -/
structure ShowsI (w : World) (bo : Option Addr) (k : Nat) (zs : List Int) : Prop where
  len : zs.length = k
  bare : bo = none → k = 0
  cell : ∀ ad, bo = some ad → ∀ j, j < k → w.cell? (ad.add j) = some (.int .i64 (zs.getD j 0))
theorem ShowsI.later {w w' : World} {ao : Option Addr} {n : Nat} {xs : List Int} (h : ShowsI w ao n xs) (hb : Below w.heap.size w w') : ShowsI w' ao n xs :=
  ⟨h.len, h.bare, fun ad had j hj => cell_later hb (h.cell ad had j hj)⟩

/-- 'b[l:h]'. -/
theorem slice22_lh (W : World) (ao : Option Addr) (n c l h : Nat) (h1 : l ≤ h) (h2 : h ≤ c) : (Instr.sliceAt 22 (.slice ao n c) (some (.int .i64 (l : Int))) (some (.int .i64 (h : Int))) none).run Tryd.prog W = .ok (.slice (fromAt ao c l) (h - l) (c - l)) W := by
  rw [run_sliceAt_slice W 22 _ _ _ _ arr22, run_slice_lh W 22 _ n c arr22 .i64 .i64 l h (by omega) (by omega) (by omega), size22]
  simp only [Result.andThen_ok, sliced, Int.toNat_natCast, Nat.mul_one, fromAt]
/-- 'b[:h]'. -/
theorem slice22_h (W : World) (ao : Option Addr) (n c h : Nat) (h2 : h ≤ c) : (Instr.sliceAt 22 (.slice ao n c) none (some (.int .i64 (h : Int))) none).run Tryd.prog W = .ok (.slice (fromAt ao c 0) h c) W := by
  rw [run_sliceAt_slice W 22 _ _ _ _ arr22, run_slice_h W 22 _ n c arr22 .i64 h (by omega) (by omega), size22]
  simp only [Result.andThen_ok, sliced, Int.toNat_natCast, Nat.mul_one, fromAt, Nat.sub_zero]
theorem fromAt_zero (ao : Option Addr) (c : Nat) : fromAt ao c 0 = ao := by
  unfold fromAt
  split
  · rfl
  · cases ao <;> simp [Addr.add]

set_option maxHeartbeats 2000000 in
set_option maxRecDepth 100000 in
theorem pieces_walk (ao bo : Option Addr) (n c k kc : Nat) (xs zs : List Int) (w : World) (hs : Shows w ao n xs) (hi : ShowsI w bo k zs) (hc : ao = none → c = 0) (hnc : n ≤ c) (hcm : c ≤ maxLen) (hT : Tabs w) (hn : (n : Int) ≤ 65536) (hk : (k : Int) ≤ 100) :
    Calls Tryd.prog 6 #[.slice ao n c, .slice bo k kc] w fun e w' => e = .returned (.bool true) ∧ Below w.heap.size w w' := by
  go_enter Tryd.func6, Tryd.ntmps6
  go_wp2_with fail
  go_at_call 15
  refine (new_any w hT).mono ?_
  rintro e w1 ⟨r, rfl, hr1, hS1, hb1⟩
  have hr2 : 2 ≤ r := by have := hT.sz; omega
  go_wp2_with fail
  go_loopw [6, 7] (fun at' i wr => ∃ (p q : Nat) (s : St) (b : List Int), q ≤ k + 1 ∧ p ≤ n ∧ at' = .int .i64 (p : Int) ∧ i = .int .i64 (q : Int) ∧ (q = k + 1 → p = n) ∧ Sta wr r s b p ∧ Hold s b p (xs.take p) ∧ Below w.heap.size w wr) (fun _ i _ => k + 1 - (intOf i).toNat)
  case atStart => exact ⟨0, 0, H0, List.replicate 64 0, by omega, by omega, rfl, rfl, by omega, hS1, hold_new, hb1⟩
  case round =>
    obtain ⟨p, q, s, b, hq, hp, rfl, rfl, hqp, hS, hH, hbr⟩ := hrel
    have hTr : Tabs wr := hT.later hbr hT.sz
    have hsr := hs.later hbr
    have hir := hi.later hbr
    by_cases hqk : q < k
    · obtain ⟨bd, rfl⟩ : ∃ bd, bo = some bd := by
        cases bo with
        | none => have := hi.bare rfl; omega
        | some bd => exact ⟨bd, rfl⟩
      have hcz := hir.cell bd rfl q hqk
      obtain ⟨z, ez⟩ : ∃ z, z = zs.getD q 0 := ⟨_, rfl⟩
      rw [← ez] at hcz
      clear ez
      obtain ⟨m', em⟩ : ∃ m', (if (n : Int) < z then (n : Int) else z) = m' := ⟨_, rfl⟩
      have hmn : m' ≤ (n : Int) := by rw [← em]; split <;> omega
      obtain ⟨p', ep, HPP⟩ : ∃ p' : Nat, (if m' ≤ (p : Int) then (p : Int) else m') = (p' : Int) ∧ Hid (p ≤ p' ∧ p' ≤ n) := by
        by_cases h : m' ≤ (p : Int)
        · exact ⟨p, by rw [if_pos h], ⟨Nat.le_refl _, hp⟩⟩
        · exact ⟨m'.toNat, by rw [if_neg h]; omega, ⟨by omega, by omega⟩⟩
      have ep2 : (if (p : Int) < m' then m' else (p : Int)) = (p' : Int) := by rw [← ep]; split <;> split <;> omega
      have q1 : (q : Int) < (k : Int) := by omega
      have hpp : p ≤ p' := HPP.out.1
      have hpn : p' ≤ n := HPP.out.2
      obtain ⟨ao2, ea2⟩ : ∃ x, x = fromAt ao c p := ⟨_, rfl⟩
      have hsl : ∀ W : World, (Instr.sliceAt 22 (.slice ao n c) (some (.int .i64 (p : Int))) (some (.int .i64 (p' : Int))) none).run Tryd.prog W = .ok (.slice ao2 (p' - p) (c - p)) W := fun W => by rw [ea2]; exact slice22_lh W ao n c p p' hpp (by omega)
      have hs2 : Shows wr ao2 (p' - p) ((xs.drop p).take (p' - p)) := by rw [ea2]; exact (hsr.drop hp hnc).take (by omega)
      have hc2 : ao2 = none → c - p = 0 := by
        intro e
        rw [ea2] at e
        unfold fromAt at e
        split at e
        · omega
        · cases ao with
          | none => have := hc rfl; omega
          | some ad => simp at e
      obtain ⟨ys, eys⟩ : ∃ ys, ys = (xs.drop p).take (p' - p) := ⟨_, rfl⟩
      rw [← eys] at hs2
      have HY : Hid (xs.take p ++ ys = xs.take p') := by
        show xs.take p ++ ys = xs.take p'
        rw [eys, ← List.take_add, show p + (p' - p) = p' by omega]
      clear ea2 eys
      go_wp2_with fail
      go_at_call 20
      refine (copyBytes_any ao2 (p' - p) (c - p) ys wr hs2 hc2 (by omega)).mono ?_
      rintro e w2 ⟨v, rfl, hown, hb2⟩
      obtain ⟨ao3, c3, rfl, hs3, hc3, hm3, hbare3, hblk3⟩ := own_shape hown hs2.rng
      clear hsl
      go_wp2_with fail
      have hb2' : Below w.heap.size w w2 := hbr.trans (hb2.mono hbr.size)
      have hT2 : Tabs w2 := hT.later hb2' hT.sz
      have hS2 := hS.next hb2
      have hlt2 := hS.lt
      go_at_call 17
      refine (add_any r p (xs.take p) ys w2 s b hS2 hH ao3 (p' - p) c3 hs3 (fun _ ad had => by have := (hblk3 ad had).1; omega) hc3 hm3 hT2 hr2 (by omega)).mono ?_
      rintro e w3 ⟨rfl, s3, b3, hS3, hH3, ho3⟩
      rw [show p + (p' - p) = p' by omega] at hS3 hH3
      rw [HY.out] at hH3
      have hb3 : Below w.heap.size w w3 := hb2'.trans (ho3.toBelow hr1 hb2'.size)
      have hT3 : Tabs w3 := hT.later hb3 hT.sz
      have hs4 := hs.later hb3
      clear hs2 hs3 hown hblk3 hS2 hT2 hb2 ho3 hsr hS hH
      have hqm : (q : Int).tmod 4 = ((q % 4 : Nat) : Int) := by rw [Int.tmod_eq_emod_of_nonneg (by omega)]; omega
      obtain ⟨q4, e4⟩ : ∃ x, x = q % 4 := ⟨_, rfl⟩
      rw [← e4] at hqm
      by_cases hq1 : q4 = 1
      · subst hq1
        clear e4
        have hslh : ∀ W : World, (Instr.sliceAt 22 (.slice ao n c) none (some (.int .i64 (p' : Int))) none).run Tryd.prog W = .ok (.slice ao p' c) W := fun W => by
          have := slice22_h W ao n c p' (by omega)
          rwa [fromAt_zero] at this
        have hcs := sum_any r s3 b3 (xs.take p') p' w3.drew ⟨hS3.blk, hS3.len, hS3.rng⟩ hH3 (by omega) ⟨hT3.k, hT3.h, hT3.sz⟩
        have hcd : ∀ w4 : World, Below w3.drew.heap.size w3.drew w4 → _ := fun w4 hb4 => digestSum_any ao p' c (xs.take p') w4 ((Shows.later (w := w3.drew) ⟨hs4.len, hs4.bare, hs4.cell, hs4.rng⟩ hb4).take hpn) (by omega) hcm (by omega) (Tabs.next (w := w3.drew) ⟨hT3.k, hT3.h, hT3.sz⟩ hb4)
        have hRl := sumOf_length (xs.take p')
        obtain ⟨R, eR⟩ : ∃ x, x = sumOf (xs.take p') := ⟨_, rfl⟩
        rw [← eR] at hcs hcd hRl
        clear eR
        have heq := eq25 R hRl
        have hgd := guard25
        go_wp2_with fail
        go_region_held3 (fun _ => True) (trivial) ((first | (go_at_call 18; refine hcs.mono ?_; rintro e w4 ⟨rfl, hb4⟩) | (go_at_call 10; refine (hcd w4 hb4).mono ?_; rintro e w5 ⟨rfl, hb5⟩)))
        go_wp2
        have hb35 : Below w3.heap.size w3 w5 := (Below.refl _ w3).drew.trans (hb4.trans (hb5.mono hb4.size))
        exact ⟨⟨p', q + 1, s3, b3, by omega, hpn, rfl, by go_num, fun h => by omega, hS3.next hb35, hH3, hb3.trans (hb35.mono hb3.size)⟩, by simp [intOf]; omega⟩
      · have hne1 : ((q4 : Int) == 1) = false := by simp; omega
        go_wp2
        exact ⟨⟨p', q + 1, s3, b3, by omega, hpn, rfl, by go_num, fun h => by omega, hS3, hH3, hb3⟩, by simp [intOf]; omega⟩
    · have hqk' : k ≤ q := by omega
      by_cases hqe : q = k
      · have q1 : (q : Int) = (k : Int) := by omega
        subst hqe
        clear q1
        have hpp : p ≤ n := hp
        have hpn : n ≤ n := Nat.le_refl n
        obtain ⟨ao2, ea2⟩ : ∃ x, x = fromAt ao c p := ⟨_, rfl⟩
        have hsl : ∀ W : World, (Instr.sliceAt 22 (.slice ao n c) (some (.int .i64 (p : Int))) (some (.int .i64 (n : Int))) none).run Tryd.prog W = .ok (.slice ao2 (n - p) (c - p)) W := fun W => by rw [ea2]; exact slice22_lh W ao n c p n hpp (by omega)
        have hs2 : Shows wr ao2 (n - p) ((xs.drop p).take (n - p)) := by rw [ea2]; exact (hsr.drop hp hnc).take (by omega)
        have hc2 : ao2 = none → c - p = 0 := by
          intro e
          rw [ea2] at e
          unfold fromAt at e
          split at e
          · omega
          · cases ao with
            | none => have := hc rfl; omega
            | some ad => simp at e
        obtain ⟨ys, eys⟩ : ∃ ys, ys = (xs.drop p).take (n - p) := ⟨_, rfl⟩
        rw [← eys] at hs2
        have HY : Hid (xs.take p ++ ys = xs.take n) := by
          show xs.take p ++ ys = xs.take n
          rw [eys, ← List.take_add, show p + (n - p) = n by omega]
        clear ea2 eys
        go_wp2_with fail
        go_at_call 20
        refine (copyBytes_any ao2 (n - p) (c - p) ys wr hs2 hc2 (by omega)).mono ?_
        rintro e w2 ⟨v, rfl, hown, hb2⟩
        obtain ⟨ao3, c3, rfl, hs3, hc3, hm3, hbare3, hblk3⟩ := own_shape hown hs2.rng
        clear hsl
        go_wp2_with fail
        have hb2' : Below w.heap.size w w2 := hbr.trans (hb2.mono hbr.size)
        have hT2 : Tabs w2 := hT.later hb2' hT.sz
        have hS2 := hS.next hb2
        have hlt2 := hS.lt
        go_at_call 17
        refine (add_any r p (xs.take p) ys w2 s b hS2 hH ao3 (n - p) c3 hs3 (fun _ ad had => by have := (hblk3 ad had).1; omega) hc3 hm3 hT2 hr2 (by omega)).mono ?_
        rintro e w3 ⟨rfl, s3, b3, hS3, hH3, ho3⟩
        rw [show p + (n - p) = n by omega] at hS3 hH3
        rw [HY.out] at hH3
        have hb3 : Below w.heap.size w w3 := hb2'.trans (ho3.toBelow hr1 hb2'.size)
        have hT3 : Tabs w3 := hT.later hb3 hT.sz
        have hs4 := hs.later hb3
        clear hs2 hs3 hown hblk3 hS2 hT2 hb2 ho3 hsr hS hH
        have hqm : (q : Int).tmod 4 = ((q % 4 : Nat) : Int) := by rw [Int.tmod_eq_emod_of_nonneg (by omega)]; omega
        obtain ⟨q4, e4⟩ : ∃ x, x = q % 4 := ⟨_, rfl⟩
        rw [← e4] at hqm
        by_cases hq1 : q4 = 1
        · subst hq1
          clear e4
          have hslh : ∀ W : World, (Instr.sliceAt 22 (.slice ao n c) none (some (.int .i64 (n : Int))) none).run Tryd.prog W = .ok (.slice ao n c) W := fun W => by
            have := slice22_h W ao n c n (by omega)
            rwa [fromAt_zero] at this
          have hcs := sum_any r s3 b3 (xs.take n) n w3.drew ⟨hS3.blk, hS3.len, hS3.rng⟩ hH3 (by omega) ⟨hT3.k, hT3.h, hT3.sz⟩
          have hcd : ∀ w4 : World, Below w3.drew.heap.size w3.drew w4 → _ := fun w4 hb4 => digestSum_any ao n c (xs.take n) w4 ((Shows.later (w := w3.drew) ⟨hs4.len, hs4.bare, hs4.cell, hs4.rng⟩ hb4).take hpn) (by omega) hcm (by omega) (Tabs.next (w := w3.drew) ⟨hT3.k, hT3.h, hT3.sz⟩ hb4)
          have hRl := sumOf_length (xs.take n)
          obtain ⟨R, eR⟩ : ∃ x, x = sumOf (xs.take n) := ⟨_, rfl⟩
          rw [← eR] at hcs hcd hRl
          clear eR
          have heq := eq25 R hRl
          have hgd := guard25
          go_wp2_with fail
          go_region_held3 (fun _ => True) (trivial) ((first | (go_at_call 18; refine hcs.mono ?_; rintro e w4 ⟨rfl, hb4⟩) | (go_at_call 10; refine (hcd w4 hb4).mono ?_; rintro e w5 ⟨rfl, hb5⟩)))
          go_wp2
          have hb35 : Below w3.heap.size w3 w5 := (Below.refl _ w3).drew.trans (hb4.trans (hb5.mono hb4.size))
          exact ⟨⟨n, q + 1, s3, b3, by omega, hpn, rfl, by go_num, fun _ => rfl, hS3.next hb35, hH3, hb3.trans (hb35.mono hb3.size)⟩, by simp [intOf]⟩
        · have hne1 : ((q4 : Int) == 1) = false := by simp; omega
          go_wp2
          exact ⟨⟨n, q + 1, s3, b3, by omega, hpn, rfl, by go_num, fun _ => rfl, hS3, hH3, hb3⟩, by simp [intOf]⟩
      · have hqq : q = k + 1 := by omega
        have hpn : p = n := hqp hqq
        subst hpn
        have hxl : xs.take p = xs := List.take_of_length_le (by have := hs.len; omega)
        rw [hxl] at hH
        have hq1 : (k : Int) < (q : Int) := by omega
        have hRl := sumOf_length xs
        have hcs1 := sum_any r s b xs p wr hS hH (by omega) hTr
        have hcd : ∀ w2 : World, Below w.heap.size w w2 → _ := fun w2 hb => digestSum_any ao p c xs w2 (hs.later hb) hnc hcm (by omega) (hT.later hb hT.sz)
        have hcs2 : ∀ (r2 : Nat) (w2 : World), Sta w2 r2 s b p → Below w.heap.size w w2 → _ := fun r2 w2 hS2 hb => sum_any r2 s b xs p w2 hS2 hH (by omega) (hT.later hb hT.sz)
        obtain ⟨R, eR⟩ : ∃ x, x = sumOf xs := ⟨_, rfl⟩
        rw [← eR] at hcs1 hcd hcs2 hRl
        clear eR hqp hq hqk' hH hxl hi hir
        have heq := eq25 R hRl
        have hgd := guard25
        go_wp2_with fail
        go_at_call 18
        refine hcs1.mono ?_
        rintro e w2 ⟨rfl, hb2⟩
        have hB2 : Below w.heap.size w w2 := hbr.trans (hb2.mono hbr.size)
        go_wp2_with fail
        go_at_call 10
        refine (hcd w2 hB2).mono ?_
        rintro e w3 ⟨rfl, hb3⟩
        have hB3 : Below w.heap.size w w3 := hB2.trans (hb3.mono hB2.size)
        have hS3 := (hS.next hb2).next hb3
        go_wp2_with fail
        go_at_call 19
        refine (copy_any r s b p w3 hS3).mono ?_
        rintro e w4 ⟨r4, rfl, hr4, hS4, hb4⟩
        have hB4 : Below w.heap.size w w4 := hB3.trans (hb4.mono hB3.size)
        go_wp2_with fail
        go_at_call 18
        refine (hcs2 r4 w4 hS4 hB4).mono ?_
        rintro e w5 ⟨rfl, hb5⟩
        have hB5 : Below w.heap.size w w5 := hB4.trans (hb5.mono hB4.size)
        go_wp2_with fail
        go_at_call 10
        refine (hcd w5 hB5).mono ?_
        rintro e w6 ⟨rfl, hb6⟩
        have hB6 : Below w.heap.size w w6 := hB5.trans (hb6.mono hB5.size)
        go_wp2_with fail
        go_at_call 8
        refine (works_any w6 (hT.later hB6 hT.sz)).mono ?_
        rintro e w7 ⟨rfl, hb7⟩
        go_wp2
        go_ret
        exact ⟨rfl, hB6.trans (hb7.mono hB6.size)⟩

set_option maxHeartbeats 400000 in
theorem pieces_big1 (ao bo : Option Addr) (n c k kc : Nat) (w : World) (hT : Tabs w) (hn : (65536 : Int) < n) :
    Calls Tryd.prog 6 #[.slice ao n c, .slice bo k kc] w fun e w' => e = .returned (.bool true) ∧ Below w.heap.size w w' := by
  go_enter Tryd.func6, Tryd.ntmps6
  go_wp2_with (go_at_call 8; refine (works_any w hT).mono ?_; rintro e w' ⟨rfl, hb⟩)
  go_ret
  exact ⟨rfl, hb⟩
set_option maxHeartbeats 400000 in
theorem pieces_big2 (ao bo : Option Addr) (n c k kc : Nat) (w : World) (hT : Tabs w) (hn : (n : Int) ≤ 65536) (hk : (100 : Int) < k) :
    Calls Tryd.prog 6 #[.slice ao n c, .slice bo k kc] w fun e w' => e = .returned (.bool true) ∧ Below w.heap.size w w' := by
  go_enter Tryd.func6, Tryd.ntmps6
  go_wp2_with (go_at_call 8; refine (works_any w hT).mono ?_; rintro e w' ⟨rfl, hb⟩)
  go_ret
  exact ⟨rfl, hb⟩
end Go.Proofs.YtmnembhcfkcmnaaDoor
