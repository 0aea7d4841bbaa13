/- DiskLasts: what is flushed is there behind every failure of the power. -/
import Derived.Test.YteimfnnkjhopdaaLast2
import Derived.Test.YteimfnnkjhopdaaBools
import Derived.Deep.DeepCutAuto
namespace Go.Proofs.Yteimfnnkjhopdaa
open Go.RowKit

set_option maxRecDepth 100000 in
set_option maxHeartbeats 20000000 in
theorem lasts_walk (w : World) (k : Nat) (hk1 : 1 ≤ k) (hk : k ≤ 1000) (xo : Option Addr) (xn xc : Nat) (X : Nat → OpD) (yo : Option Addr) (yn yc : Nat) (Y : Nat → OpD) (zo : Option Addr) (zn zc : Nat) (zs0 : List Int)
    (hxn : xn ≤ maxLen) (hX : Ops w xo xn X) (hyn : yn ≤ maxLen) (hY : Ops w yo yn Y) (hZ : Ints w zo zn zs0) (hzn : zn ≤ maxLen) :
    Calls Try.prog 5 #[.int .i64 (k : Int), .slice xo xn xc, .slice yo yn yc, .slice zo zn zc] w fun e w' => e = .returned (.bool true) ∧ Below w.heap.size w w' := by
  have hz := zero39
  have hgd := guard39
  have hkI : ¬ (k : Int) > 1000 := by omega
  have hxI : (xn : Int) ≤ 9223372036854775807 := by unfold maxLen at hxn; omega
  have hyI : (yn : Int) ≤ 9223372036854775807 := by unfold maxLen at hyn; omega
  go_enter Try.func5, Try.ntmps5
  go_wp2_with fail
  go_at_call 10; refine (new_any k w hk1 (by omega)).mono ?_; rintro e w1 ⟨r, f, m, cap, rfl, hr, hf, hm, hL, hB⟩
  go_wp2_with fail
  go_loopw [11] (fun v wr => ∃ (j : Nat) (d : St) (m : Nat), j ≤ xn ∧ j ≤ 300 ∧ v = .int .i64 (j : Int) ∧ Lay wr r f m cap d ∧ Below w.heap.size w wr ∧ w.heap.size ≤ m ∧ d.writes ≤ j ∧ d.flushes ≤ j ∧ d.n = k) (fun v _ => xn - (intOf v).toNat)
  case atStart => exact ⟨0, _, m, by omega, by omega, rfl, hL, hB, hm, Nat.le_refl _, Nat.le_refl _, rfl⟩
  case round =>
    clear hm hL hB
    obtain ⟨j, d, m, hj, hj3, rfl, hL, hB, hm, hw, hfl, hdn⟩ := hrel
    go_upto_region 7 with (fail)
    go_cut [41] from 34 to 49 (fun b wc => b = .bool (decide (j < xn ∧ j < 300)) ∧ wc = wr)
    case first =>
      rcases two_ways j xn with ⟨h1, h2⟩ | ⟨h1, h2⟩ | h1
      · have y1 : (j : Int) < xn := by omega
        have y2 : (j : Int) < 300 := by omega
        go_wp2_with fail
        go_meet
        case rel => exact ⟨by simp [h1, h2], rfl⟩
      · have y1 : (j : Int) < xn := by omega
        have y2 : ¬ (j : Int) < 300 := by omega
        go_wp2_with fail
        go_meet
        case rel => exact ⟨by simp [h1, h2], rfl⟩
      · have y1 : ¬ (j : Int) < xn := by omega
        go_wp2_with fail
        go_meet
        case rel => exact ⟨by simp [h1], rfl⟩
    case rest =>
      obtain ⟨rfl, rfl⟩ := hcut
      by_cases hgo : j < xn ∧ j < 300
      · rw [decide_eq_true hgo]
        obtain ⟨h1, h2⟩ := hgo
        cases xo with
        | none => have := hX.bare rfl; omega
        | some ad =>
          have y1 : (j : Int) < xn := by omega
          have hg := hX.good j h1
          obtain ⟨p0, p1, p2, p3⟩ := (hX.next hB).cell ad rfl j h1
          obtain ⟨o, eo⟩ : ∃ o, o = X j := ⟨_, rfl⟩
          rw [← eo] at hg p0 p1 p2 p3
          clear eo
          obtain ⟨oa, oi, ot, ko, kn, kc, ks⟩ := o
          have hac := act_counts d oa oi ot ks
          go_wp2_with (go_at_call 19; refine (acts_any _ r f m cap d hL oa oi ot ko kn kc ks hg.text (wf_lt hg.wf).2 (ints_side hg.ints hB (fp_ge hr hf hm)) hg.len (by omega) (by omega)).mono ?_; rintro e v1 ⟨rfl, m1, hm1, hL1, hF1⟩)
          go_roundw
          case rel => exact ⟨j + 1, _, m1, by omega, by omega, by go_num, hL1, hB.trans (hF1.below (b := w.heap.size) (fp_ge hr hf hm) hB.size), turn_ge hm hm1 hB.size, by omega, by omega, by omega⟩
          case measure => simp [intOf]; omega
      · rw [decide_eq_false hgo]
        clear hgo
        go_upto_region 10 with (fail)
        go_cut [66] from 50 (fun b wc2 => b = .bool false ∧ ∃ (d2 : St) (m2 : Nat), Lay wc2 r f m2 cap d2 ∧ Below w.heap.size w wc2 ∧ w.heap.size ≤ m2 ∧ d2.off = false ∧ d2.armed = 0 ∧ (d2.waits = fun _ => none) ∧ d2.writes ≤ 300 ∧ d2.flushes ≤ 301 ∧ d2.n = k)
        case first =>
          have hde := dead_any _ r f m cap d hL
          have hfp := fp_ge hr hf hm
          cases ho : d.off
          · rw [ho] at hde
            go_wp2_with fail
            go_at_call 20; refine hde.mono ?_; rintro e w' ⟨rfl, rfl⟩
            go_wp2_with fail
            go_at_call 22; refine (arm_any _ r f m cap d hL 0 (by omega)).mono ?_; rintro e v1 ⟨rfl, hL1, hF1, -⟩
            have hB1 := hB.trans (hF1.below (b := w.heap.size) hfp hB.size)
            go_wp2_with fail
            go_at_call 23; refine (flush_ok _ r f m cap { d with armed := 0 } hL1 ho rfl (by show d.flushes < _; omega)).mono ?_; rintro e v2 ⟨rfl, m2, hm2, hL2, hF2⟩
            go_wp2_with fail
            go_meet
            case rel => exact ⟨rfl, _, m2, hL2, hB1.trans (hF2.below (b := w.heap.size) hfp hB1.size), turn_ge hm hm2 hB1.size, ho, rfl, rfl, (by show d.writes ≤ 300; omega), (by show d.flushes + 1 ≤ 301; omega), hdn⟩
          · rw [ho] at hde
            go_wp2_with fail
            go_at_call 20; refine hde.mono ?_; rintro e w' ⟨rfl, rfl⟩
            go_wp2_with fail
            go_at_call 21; refine (on_ok _ r f m cap d hL ho none 0 0 [] ⟨rfl, fun _ => rfl, fun _ h => (by cases h), fun _ h => (by cases h)⟩ (fun _ h => (by cases h)) (by decide)).mono ?_; rintro e v0 ⟨rfl, m0, hm0, hL0, hF0⟩
            have hB0 := hB.trans (hF0.below (b := w.heap.size) hfp hB.size)
            have hmm := turn_ge hm hm0 hB.size
            have hfp0 := fp_ge hr hf hmm
            go_wp2_with fail
            go_at_call 22; refine (arm_any _ r f m0 cap _ hL0 0 (by omega)).mono ?_; rintro e v1 ⟨rfl, hL1, hF1, -⟩
            have hB1 := hB0.trans (hF1.below (b := w.heap.size) hfp0 hB0.size)
            go_wp2_with fail
            go_at_call 23; refine (flush_ok _ r f m0 cap { (d.on []) with armed := 0 } hL1 rfl rfl (by show d.flushes < _; omega)).mono ?_; rintro e v2 ⟨rfl, m2, hm2, hL2, hF2⟩
            go_wp2_with fail
            go_meet
            case rel => exact ⟨rfl, _, m2, hL2, hB1.trans (hF2.below (b := w.heap.size) hfp0 hB1.size), turn_ge hmm hm2 hB1.size, rfl, rfl, rfl, (by show d.writes ≤ 300; omega), (by show d.flushes + 1 ≤ 301; omega), hdn⟩
        case rest =>
          clear hL hB hm hw hfl hdn
          obtain ⟨rfl, d, m, hL, hB, hm, ho, ha, hW, hw, hfl, hdn⟩ := hcut
          obtain ⟨i0, hi, hz0, hz1, hz2⟩ := info_parts info4
          go_wp2_with fail
          go_at_call 17; refine (sectors_any _ r f m cap d hL).mono ?_; rintro e v1 ⟨g, c1, rfl, hg1, hR1, k1⟩
          have hL1 := hL.next k1
          have hB1 := hB.trans (k1.mono hB.size)
          have hng : ¬ fp r f m g := fun hx => by have := fp_lt hL g hx; omega
          have hgB : w.heap.size ≤ g := by have := hB.size; omega
          go_wp2_with (at_make; refine wpList_make_full _ rfl _ _ 45 rfl v1.heap.size 4 i0 (.bool false) 1 Try.underlying45 hi hz0 hz1 .i64 .i64 k k k rfl rfl rfl rfl (by rw [hz2]; omega) (by unfold maxLen; omega) (Nat.le_refl _) ?_; intro v2 hown hgr)
          have hbo : Blk v2 v1.heap.size 4 (bools k (fun _ => false)) := made_bools hown
          have k2 : Below v1.heap.size v1 v2 := (Below.refl _ v1).grown hgr (Nat.le_refl _) (by intro x hx; cases hx)
          have hL2 := hL1.next k2
          have hB2 := hB1.trans (k2.mono hB1.size)
          have hR2 : Rw v2 g k d.lasts := by rw [← hdn]; exact hR1.fr (X := fun _ => False) (Fr.of_below k2 (Nat.le_refl _)) (fun h => h)
          have hnh : ¬ fp r f m v1.heap.size := fun hx => by have := fp_lt hL1 _ hx; omega
          obtain ⟨H, hH⟩ : ∃ H, H = v1.heap.size := ⟨_, rfl⟩
          rw [← hH] at hbo hnh ⊢
          have hHB : w.heap.size ≤ H := by have := hB1.size; omega
          obtain ⟨L, hLL⟩ : ∃ L, L = d.lasts := ⟨_, rfl⟩
          have hst : ∀ i, i < k → (fun _ : Nat => false) i = false → Still d i (L i) := fun i _ _ => ⟨by rw [hW], by rw [hLL]⟩
          rw [← hLL] at hR2
          clear hLL hH hown hgr hR1 hL hL1 hB hB1 k1 k2 ho ha hW
          go_loopw [14] (fun v wr => ∃ (j : Nat) (d : St) (m : Nat) (ov : Nat → Bool), j ≤ yn ∧ j ≤ 300 ∧ v = .int .i64 (j : Int) ∧ Lay wr r f m cap d ∧ Below w.heap.size w wr ∧ w.heap.size ≤ m ∧ Rw wr g k L ∧ Blk wr H 4 (bools k ov) ∧ ¬ fp r f m g ∧ ¬ fp r f m H ∧ (∀ i, i < k → ov i = false → Still d i (L i)) ∧ d.writes ≤ 300 + j ∧ d.flushes ≤ 301 + j ∧ d.n = k) (fun v _ => yn - (intOf v).toNat)
          case atStart => exact ⟨0, d, m, _, by omega, by omega, rfl, hL2, hB2, hm, hR2, hbo, hng, hnh, hst, by omega, by omega, hdn⟩
          case round =>
            clear hm hL2 hB2 hR2 hbo hng hnh hst hw hfl hdn
            obtain ⟨j, d, m, ov, hj, hj3, rfl, hL, hB, hm, hRw, hbo, hng, hnh, hst, hw, hfl, hdn⟩ := hrel
            go_upto_region 17 with (fail)
            go_cut [82] from 75 to 109 (fun b wc => b = .bool (decide (j < yn ∧ j < 300)) ∧ wc = wr)
            case first =>
              rcases two_ways j yn with ⟨h1, h2⟩ | ⟨h1, h2⟩ | h1
              · have y1 : (j : Int) < yn := by omega
                have y2 : (j : Int) < 300 := by omega
                go_wp2_with fail
                go_meet
                case rel => exact ⟨by simp [h1, h2], rfl⟩
              · have y1 : (j : Int) < yn := by omega
                have y2 : ¬ (j : Int) < 300 := by omega
                go_wp2_with fail
                go_meet
                case rel => exact ⟨by simp [h1, h2], rfl⟩
              · have y1 : ¬ (j : Int) < yn := by omega
                go_wp2_with fail
                go_meet
                case rel => exact ⟨by simp [h1], rfl⟩
            case rest =>
              obtain ⟨rfl, rfl⟩ := hcut
              by_cases hgo : j < yn ∧ j < 300
              · rw [decide_eq_true hgo]
                obtain ⟨h1, h2⟩ := hgo
                cases yo with
                | none => have := hY.bare rfl; omega
                | some ad =>
                  have y1 : (j : Int) < yn := by omega
                  have hg := hY.good j h1
                  obtain ⟨p0, p1, p2, p3⟩ := (hY.next hB).cell ad rfl j h1
                  obtain ⟨o, eo⟩ : ∃ o, o = Y j := ⟨_, rfl⟩
                  rw [← eo] at hg p0 p1 p2 p3
                  clear eo
                  obtain ⟨oa, oi, ot, ko, kn, kc, ks⟩ := o
                  have hac := act_counts d oa oi ot ks
                  have hS := Blk.new wc 34 (oc oa oi ot ko kn kc)
                  have kk : Below wc.heap.size wc (wc.alloc (.cells (oc oa oi ot ko kn kc).toArray 34)) := (Below.refl _ wc).alloc (Nat.le_refl _) _
                  have c0 := hS.cell 0 _ rfl
                  have c1 := hS.cell 1 _ rfl
                  go_upto_region 20 with (fail)
                  go_cut [102] from 75 to 109 (fun b wc2 => b = .bool (decide (oa = 1 ∧ 0 ≤ oi ∧ oi < k)) ∧ wc2 = wc.alloc (.cells (oc oa oi ot ko kn kc).toArray 34))
                  case first =>
                    by_cases a1 : oa = 1
                    · subst a1
                      by_cases a2 : 0 ≤ oi
                      · by_cases a3 : oi < (k : Int)
                        · go_wp2_with fail
                          go_meet
                          case rel => exact ⟨by simp [a2, a3], rfl⟩
                        · go_wp2_with fail
                          go_meet
                          case rel => exact ⟨by simp [a3], rfl⟩
                      · go_wp2_with fail
                        go_meet
                        case rel => exact ⟨by rw [decide_eq_false (by omega)], rfl⟩
                    · have b1 : (oa == 1) = false := by simp [a1]
                      have hdd : decide (oa = 1 ∧ 0 ≤ oi ∧ oi < (k : Int)) = false := by simp [a1]
                      clear a1
                      go_wp2_with fail
                      go_meet
                      case rel => exact ⟨by rw [hdd], rfl⟩
                  case rest =>
                  obtain ⟨rfl, rfl⟩ := hcut
                  have hLU := hL.next kk
                  have hBU := hB.trans (kk.mono hB.size)
                  have hRU : Rw (wc.alloc (.cells (oc oa oi ot ko kn kc).toArray 34)) g k L := hRw.fr (X := fun _ => False) (Fr.of_below kk (Nat.le_refl _)) (fun h => h)
                  have hbU := hbo.next kk
                  have hnG : ¬ fp r f m wc.heap.size := fun hx => by have := fp_lt hL _ hx; omega
                  have hHG : H ≠ wc.heap.size := by have := hbo.lt; omega
                  have hgH : g ≠ H := hRw.ne hbo (by decide)
                  go_upto_if 102 with (fail)
                  go_cut [] from 75 to 109 (fun wc3 => ∃ ov', Lay wc3 r f m cap d ∧ Below w.heap.size w wc3 ∧ Rw wc3 g k L ∧ Blk wc3 H 4 (bools k ov') ∧ Blk wc3 wc.heap.size 34 (oc oa oi ot ko kn kc) ∧ (∀ i, i < k → ov' i = false → ov i = false ∧ ¬ (oa = 1 ∧ oi = (i : Int))))
                  case first =>
                    by_cases hc : oa = 1 ∧ 0 ≤ oi ∧ oi < (k : Int)
                    · rw [decide_eq_true hc]
                      obtain ⟨a1, a2, a3⟩ := hc
                      obtain ⟨i, rfl⟩ := Int.eq_ofNat_of_zero_le a2
                      have hik : i < k := by omega
                      have cH := hbU.cell i _ (bools_get k ov i hik)
                      have fH := hbU.fz i
                      have hfr := (Fr.refl (fun x => x = H) (wc.alloc (.cells (oc oa i ot ko kn kc).toArray 34))).setCell ⟨H, i, none⟩ (.bool true) (.inl rfl)
                      clear a1
                      go_wp2_with fail
                      go_meet
                      case rel =>
                        refine ⟨upd ov i true, hLU.fr hfr (fun x hx hy => hnh (hx ▸ hy)), hBU.trans (hfr.below (b := w.heap.size) (fun x hx => by subst hx; exact hHB) hBU.size), hRU.fr hfr hgH, ?_, hS.fr hfr (fun e => hHG e.symm), fun x hx hov => ?_⟩
                        · have := hbU.set i (.bool true)
                          rwa [bools_set] at this
                        · by_cases e : x = i
                          · subst e
                            rw [upd_same] at hov
                            cases hov
                          · rw [upd_ne _ _ _ _ e] at hov
                            exact ⟨hov, fun h => e (by omega)⟩
                    · rw [decide_eq_false hc]
                      go_wp2_with fail
                      go_meet
                      case rel => exact ⟨ov, hLU, hBU, hRU, hbU, hS, fun x hx hov => ⟨hov, fun h => hc ⟨h.1, by omega, by omega⟩⟩⟩
                  case rest =>
                  clear c0 c1 hLU hBU hRU hbU hS kk p0 p1 p2 p3
                  obtain ⟨ov2, hL3, hB3, hR3, hb3, hS3, hov⟩ := hcut
                  go_wp2_with (first
                    | (refine load_op rfl _ rfl _ oa oi ot ko kn kc hS3 rfl ?_)
                    | (go_at_call 19; refine (acts_any _ r f m cap d hL3 oa oi ot ko kn kc ks hg.text (wf_lt hg.wf).2 (ints_side hg.ints hB3 (fp_ge hr hf hm)) hg.len (by omega) (by omega)).mono ?_; rintro e v5 ⟨rfl, m5, hm5, hL5, hF5⟩))
                  go_roundw
                  case rel => exact ⟨j + 1, _, m5, ov2, by omega, by omega, by go_num, hL5, hB3.trans (hF5.below (b := w.heap.size) (fp_ge hr hf hm) hB3.size), turn_ge hm hm5 hB3.size, hR3.fr hF5 hng, hb3.fr hF5 hnh, off_turn hng hm5 hR3.lt, off_turn hnh hm5 hb3.lt, fun x hx hov2 => still_act d x (L x) (hst x hx (hov x hx hov2).1) oa oi ot ks (hov x hx hov2).2, by omega, by omega, by omega⟩
                  case measure => simp [intOf]; omega
              · rw [decide_eq_false hgo]
                clear hgo
                go_wp2_with fail
                go_at_call 24; refine (off_ok _ r f m cap d hL).mono ?_; rintro e v1 ⟨rfl, m1, hm1, hL1, hF1⟩
                have hB1 := hB.trans (hF1.below (b := w.heap.size) (fp_ge hr hf hm) hB.size)
                have hmm := turn_ge hm hm1 hB.size
                have hng1 := off_turn hng hm1 hRw.lt
                have hnh1 := off_turn hnh hm1 hbo.lt
                have hR1 := hRw.fr hF1 hng
                have hb1 := hbo.fr hF1 hnh
                have hx := ints_side hZ hB1 (fp_ge hr hf hmm)
                go_wp2_with fail
                go_at_call 21; refine (on_ok _ r f m1 cap d.goOff hL1 rfl zo zn zc zs0 hx.1 hx.2 (by unfold maxLen at hzn; omega)).mono ?_; rintro e v2 ⟨rfl, m2, hm2, hL2, hF2⟩
                have hB2 := hB1.trans (hF2.below (b := w.heap.size) (fp_ge hr hf hmm) hB1.size)
                have hR2 := hR1.fr hF2 hng1
                have hb2 := hb1.fr hF2 hnh1
                have hst2 : ∀ i, i < k → ov i = false → (d.goOff.on zs0).at i = L i := fun i hi hov => still_at (d := d.goOff.on zs0) ⟨rfl, still_kept (d := d.goOff) (hst i hi hov) zs0⟩
                have hpd : (d.goOff.on zs0).pend = [] := pend_none _ rfl
                go_wp2_with fail
                go_at_call 25; refine (pending_any _ r f m2 cap _ hL2 (by have : (d.goOff.on zs0).writes = d.writes := rfl; omega)).mono ?_; rintro e v3 ⟨x1, rfl, p1, k3⟩
                rw [hpd] at p1
                obtain ⟨ao1, co1, rfl, p1, -, -, -⟩ := ints_of_own p1 (fun x h => by cases h)
                have hL3 := hL2.next k3
                have hB3 := hB2.trans (k3.mono hB2.size)
                have hR3 : Rw v3 g k L := hR2.fr (X := fun _ => False) (Fr.of_below k3 (Nat.le_refl _)) (fun h => h)
                have hb3 := hb2.next k3
                have hm3 := turn_ge hmm hm2 hB1.size
                have hdn3 : (d.goOff.on zs0).n = k := hdn
                have ho3 : (d.goOff.on zs0).off = false := rfl
                obtain ⟨D, hD⟩ : ∃ D, D = d.goOff.on zs0 := ⟨_, rfl⟩
                rw [← hD] at hL3 hdn3 ho3 hst2
                clear hD p1 k3 hL2 hB2 hR2 hb2 hL1 hB1 hR1 hb1 hL hB hRw hbo hpd hF1 hF2 hst hw hfl hdn hx hX hY hZ hng hnh hng1 hnh1
                simp only [List.length_nil]
                go_wp2_with fail
                go_loopw [16] (fun v wr => ∃ (j : Nat), j ≤ k ∧ v = .int .i64 (j : Int) ∧ Lay wr r f m2 cap D ∧ Below w.heap.size w wr ∧ Rw wr g k L ∧ Blk wr H 4 (bools k ov)) (fun v _ => k - (intOf v).toNat)
                case atStart => exact ⟨0, by omega, rfl, hL3, hB3, hR3, hb3⟩
                case round =>
                  clear hL3 hB3 hR3 hb3
                  obtain ⟨j, hj, rfl, hL, hB, hRw, hbo⟩ := hrel
                  by_cases hjk : j < k
                  · have hjI : (j : Int) < k := by omega
                    obtain ⟨S, hS0⟩ : ∃ S, S = D.at j := ⟨_, rfl⟩
                    have hS : Hid (S = D.at j) := hS0
                    clear hS0
                    go_wp2_with fail
                    go_at_call 26; refine (read_ok _ r f m2 cap D hL j S ho3 (by omega) hS.out.symm).mono ?_; rintro e v3 ⟨rfl, k3⟩
                    have hL3 := hL.next k3
                    have hB3 := hB.trans (k3.mono hB.size)
                    have hR3 : Rw v3 g k L := hRw.fr (X := fun _ => False) (Fr.of_below k3 (Nat.le_refl _)) (fun h => h)
                    have hb3 := hbo.next k3
                    obtain ⟨b4, k4⟩ := boxed v3 S
                    have hL4 := hL3.next k4
                    have hB4 := hB3.trans (k4.mono hB3.size)
                    have hR4 : Rw _ g k L := hR3.fr (X := fun _ => False) (Fr.of_below k4 (Nat.le_refl _)) (fun h => h)
                    have hb4 := hb3.next k4
                    have hz := zero39
                    go_wp2_with (refine store_sec rfl _ _ rfl v3.heap.size zs S (Blk.new v3 39 (sb zs)) rfl rfl ?_; intro _)
                    obtain ⟨v4, hv4⟩ : ∃ U, U = ((v3.alloc (.cells (sb zs).toArray 39)).setRow v3.heap.size (sb S).toArray) := ⟨_, rfl⟩
                    obtain ⟨g4, hg4⟩ : ∃ g, g = v3.heap.size := ⟨_, rfl⟩
                    rw [← hv4] at b4 hL4 hB4 hR4 hb4 ⊢
                    rw [← hg4] at b4 ⊢
                    clear hv4 hg4 k3 k4 hL hB hRw hbo hL3 hB3 hR3 hb3
                    have hLd := hL4.drew
                    have hRd : Rw v4.drew g k L := hR4.same rfl
                    have hbd := hb4.drew
                    have cH := hb4.cell j _ (bools_get k ov j hjk)
                    have hjh : j < (bools k ov).length := by rw [bools_length]; exact hjk
                    cases hov : ov j
                    · have hSL : L j = S := by rw [hS.out]; exact (hst2 j hjk hov).symm
                      rw [hov] at cH
                      have hR5 : ∀ v : World, Sm v4 v → v.rangeAt g (j * 512) (sb S) := fun v h => hSL ▸ (h.row hR4).range hjk
                      have hR4 : Hid (∀ v : World, Sm v4 v → v.rangeAt g (j * 512) (sb S)) := hR5
                      have hq0 : Hid (∀ v : World, (Op.equalIn 10000 39 (.agg (sb S).toArray) (.agg (sb S).toArray)).run Try.prog v = .ok true v) := fun v => by
                        have := eq39 S S v
                        rw [decide_eq_true rfl] at this
                        exact this
                      have h0j : (0 : Int) ≤ j := by omega
                      clear hR5 hSL hS hov
                      refine wp_region_to (fun v => Sm v4 v) 17 (by kernel_rfl) ?_
                      have hS0 := Sm.drew v4
                      refine wpTo_take (i := 0) (v := ?v0p) (show _ = some _ by simp only [List.getElem?_toArray, List.getElem?_cons_zero]; exact rfl) (by kernel_rfl) (by kernel_rfl) (by kernel_rfl) (by kernel_rfl) (by exact fun _ _ _ h => h) (Or.inl ⟨by rfl, ?hy0p⟩) hS0 ?r0p
                      case hy0p => (intro w hSw; (try dsimp only at hSw); go_simp; try with_reducible rfl)
                      (try simp only [Act.put]); (try simp only [List.setIfInBounds_toArray]); (repeat (first | simp only [List.set_cons_succ] | simp only [List.set_cons_zero]))
                      refine wpTo_take (i := 1) (v := ?v1p) (show _ = some _ by simp only [List.getElem?_toArray, List.getElem?_cons_succ, List.getElem?_cons_zero]; exact rfl) (by kernel_rfl) (by kernel_rfl) (by kernel_rfl) (by kernel_rfl) (by exact fun _ _ _ h => h) (Or.inl ⟨by rfl, ?hy1p⟩) hS0 ?r1p
                      case hy1p => (intro w hSw; (try dsimp only at hSw); go_simp; try with_reducible rfl)
                      (try simp only [Act.put]); (try simp only [List.setIfInBounds_toArray]); (repeat (first | simp only [List.set_cons_succ] | simp only [List.set_cons_zero]))
                      refine wpTo_take (i := 2) (v := ?v2p) (show _ = some _ by simp only [List.getElem?_toArray, List.getElem?_cons_succ, List.getElem?_cons_zero]; exact rfl) (by kernel_rfl) (by kernel_rfl) (by kernel_rfl) (by kernel_rfl) (by exact fun _ _ _ h => h) (Or.inl ⟨by rfl, ?hy2p⟩) hS0 ?r2p
                      case hy2p => (intro w hSw; (try dsimp only at hSw); go_simp; try with_reducible rfl)
                      (try simp only [Act.put]); (try simp only [List.setIfInBounds_toArray]); (repeat (first | simp only [List.set_cons_succ] | simp only [List.set_cons_zero]))
                      refine wpTo_take (i := 3) (v := ?v3p) (show _ = some _ by simp only [List.getElem?_toArray, List.getElem?_cons_succ, List.getElem?_cons_zero]; exact rfl) (by kernel_rfl) (by kernel_rfl) (by kernel_rfl) (by kernel_rfl) (by exact fun _ _ _ h => h) (Or.inl ⟨by rfl, ?hy3p⟩) hS0 ?r3p
                      case hy3p => (intro w hSw; (try dsimp only at hSw); go_simp; try with_reducible rfl)
                      (try simp only [Act.put]); (try simp only [List.setIfInBounds_toArray]); (repeat (first | simp only [List.set_cons_succ] | simp only [List.set_cons_zero]))
                      refine wpTo_take (i := 4) (v := ?v4p) (show _ = some _ by simp only [List.getElem?_toArray, List.getElem?_cons_succ, List.getElem?_cons_zero]; exact rfl) (by kernel_rfl) (by kernel_rfl) (by kernel_rfl) (by kernel_rfl) (by exact fun _ _ _ h => h) (Or.inl ⟨by rfl, ?hy4p⟩) hS0 ?r4p
                      case hy4p => (intro w hSw; (try dsimp only at hSw); go_simp; try with_reducible rfl)
                      (try simp only [Act.put]); (try simp only [List.setIfInBounds_toArray]); (repeat (first | simp only [List.set_cons_succ] | simp only [List.set_cons_zero]))
                      refine wpTo_take (i := 5) (v := ?v5p) (show _ = some _ by simp only [List.getElem?_toArray, List.getElem?_cons_succ, List.getElem?_cons_zero]; exact rfl) (by kernel_rfl) (by kernel_rfl) (by kernel_rfl) (by kernel_rfl) (by exact fun _ _ _ h => h) (Or.inl ⟨by rfl, ?hy5p⟩) hS0 ?r5p
                      case hy5p => (intro w hSw; (try dsimp only at hSw); go_simp; try with_reducible rfl)
                      (try simp only [Act.put]); (try simp only [List.setIfInBounds_toArray]); (repeat (first | simp only [List.set_cons_succ] | simp only [List.set_cons_zero]))
                      refine wpTo_take (i := 6) (v := ?v6p) (show _ = some _ by simp only [List.getElem?_toArray, List.getElem?_cons_succ, List.getElem?_cons_zero]; exact rfl) (by kernel_rfl) (by kernel_rfl) (by kernel_rfl) (by kernel_rfl) (by exact fun _ _ _ h => h) (Or.inl ⟨by rfl, ?hy6p⟩) hS0 ?r6p
                      case hy6p => (intro w hSw; (try dsimp only at hSw); have hcc := (hSw.cell _).trans cH; go_simp; try with_reducible rfl)
                      (try simp only [Act.put]); (try simp only [List.setIfInBounds_toArray]); (repeat (first | simp only [List.set_cons_succ] | simp only [List.set_cons_zero]))
                      refine wpTo_take (i := 7) (v := ?v7p) (show _ = some _ by simp only [List.getElem?_toArray, List.getElem?_cons_succ, List.getElem?_cons_zero]; exact rfl) (by kernel_rfl) (by kernel_rfl) (by kernel_rfl) (by kernel_rfl) (by exact fun _ _ _ h => h) (Or.inl ⟨by rfl, ?hy7p⟩) hS0 ?r7p
                      case hy7p => (intro w hSw; (try dsimp only at hSw); go_simp; try with_reducible rfl)
                      (try simp only [Act.put]); (try simp only [List.setIfInBounds_toArray]); (repeat (first | simp only [List.set_cons_succ] | simp only [List.set_cons_zero]))
                      refine wpTo_take (i := 8) (v := ?v8p) (show _ = some _ by simp only [List.getElem?_toArray, List.getElem?_cons_succ, List.getElem?_cons_zero]; exact rfl) (by kernel_rfl) (by kernel_rfl) (by kernel_rfl) (by kernel_rfl) (by exact fun _ _ _ h => h) (Or.inl ⟨by rfl, ?hy8p⟩) hS0 ?r8p
                      case hy8p => (intro w hSw; (try dsimp only at hSw); go_simp; try with_reducible rfl)
                      (try simp only [Act.put]); (try simp only [List.setIfInBounds_toArray]); (repeat (first | simp only [List.set_cons_succ] | simp only [List.set_cons_zero]))
                      refine wpTo_take (i := 9) (show _ = some _ by simp only [List.getElem?_toArray, List.getElem?_cons_succ, List.getElem?_cons_zero]; exact rfl) (by kernel_rfl) (by kernel_rfl) (by kernel_rfl) (by kernel_rfl) (by exact fun _ _ _ h => h) (yieldsIf_load_mid (by rfl) 39 (.tmp 17) rfl g4 0 rfl (sb S) _ (fun v h => (h.blk b4).whole) Try.underlying39 rfl (by rw [sb_length]; kernel_rfl)) hS0 ?_
                      (try simp only [Act.put]); (try simp only [List.setIfInBounds_toArray]); (repeat (first | simp only [List.set_cons_succ] | simp only [List.set_cons_zero]))
                      refine wpTo_take (i := 10) (v := ?v10p) (show _ = some _ by simp only [List.getElem?_toArray, List.getElem?_cons_succ, List.getElem?_cons_zero]; exact rfl) (by kernel_rfl) (by kernel_rfl) (by kernel_rfl) (by kernel_rfl) (by exact fun _ _ _ h => h) (Or.inl ⟨by rfl, ?hy10p⟩) hS0 ?r10p
                      case hy10p => (intro w hSw; (try dsimp only at hSw); go_simp; try with_reducible rfl)
                      (try simp only [Act.put]); (try simp only [List.setIfInBounds_toArray]); (repeat (first | simp only [List.set_cons_succ] | simp only [List.set_cons_zero]))
                      refine wpTo_take (i := 11) (v := ?v11p) (show _ = some _ by simp only [List.getElem?_toArray, List.getElem?_cons_succ, List.getElem?_cons_zero]; exact rfl) (by kernel_rfl) (by kernel_rfl) (by kernel_rfl) (by kernel_rfl) (by exact fun _ _ _ h => h) (Or.inl ⟨by rfl, ?hy11p⟩) hS0 ?r11p
                      case hy11p => (intro w hSw; (try dsimp only at hSw); go_simp; try with_reducible rfl)
                      (try simp only [Act.put]); (try simp only [List.setIfInBounds_toArray]); (repeat (first | simp only [List.set_cons_succ] | simp only [List.set_cons_zero]))
                      refine wpTo_take (i := 12) (v := ?v12p) (show _ = some _ by simp only [List.getElem?_toArray, List.getElem?_cons_succ, List.getElem?_cons_zero]; exact rfl) (by kernel_rfl) (by kernel_rfl) (by kernel_rfl) (by kernel_rfl) (by exact fun _ _ _ h => h) (Or.inl ⟨by rfl, ?hy12p⟩) hS0 ?r12p
                      case hy12p => (intro w hSw; (try dsimp only at hSw); go_simp; try with_reducible rfl)
                      (try simp only [Act.put]); (try simp only [List.setIfInBounds_toArray]); (repeat (first | simp only [List.set_cons_succ] | simp only [List.set_cons_zero]))
                      refine wpTo_take (i := 13) (show _ = some _ by simp only [List.getElem?_toArray, List.getElem?_cons_succ, List.getElem?_cons_zero]; exact rfl) (by kernel_rfl) (by kernel_rfl) (by kernel_rfl) (by kernel_rfl) (by exact fun _ _ _ h => h) (yieldsIf_load_mid (by rfl) 39 (.tmp 145) rfl g (j * 512) rfl (sb S) _ (fun v h => hR4.out v h) Try.underlying39 rfl (by rw [sb_length]; kernel_rfl)) hS0 ?_
                      (try simp only [Act.put]); (try simp only [List.setIfInBounds_toArray]); (repeat (first | simp only [List.set_cons_succ] | simp only [List.set_cons_zero]))
                      refine wpTo_take (i := 14) (v := ?v14q) (show _ = some _ by simp only [List.getElem?_toArray, List.getElem?_cons_succ, List.getElem?_cons_zero]; exact rfl) (by kernel_rfl) (by kernel_rfl) (by kernel_rfl) (by kernel_rfl) (by exact fun _ _ _ h => h) (Or.inl ⟨by rfl, ?hy14q⟩) hS0 ?r14q
                      case hy14q => (intro w hSw; (try dsimp only at hSw); have hq := hq0.out; have hgd := guard39; go_simp; try with_reducible rfl)
                      (try simp only [Act.put]); (try simp only [List.setIfInBounds_toArray]); (repeat (first | simp only [List.set_cons_succ] | simp only [List.set_cons_zero]))
                      refine wpTo_take (i := 15) (v := ?v15p) (show _ = some _ by simp only [List.getElem?_toArray, List.getElem?_cons_succ, List.getElem?_cons_zero]; exact rfl) (by kernel_rfl) (by kernel_rfl) (by kernel_rfl) (by kernel_rfl) (by exact fun _ _ _ h => h) (Or.inl ⟨by rfl, ?hy15p⟩) hS0 ?r15p
                      case hy15p => (intro w hSw; (try dsimp only at hSw); go_simp; try with_reducible rfl)
                      (try simp only [Act.put]); (try simp only [List.setIfInBounds_toArray]); (repeat (first | simp only [List.set_cons_succ] | simp only [List.set_cons_zero]))
                      refine wpTo_take (i := 16) (v := ?v16p) (show _ = some _ by simp only [List.getElem?_toArray, List.getElem?_cons_succ, List.getElem?_cons_zero]; exact rfl) (by kernel_rfl) (by kernel_rfl) (by kernel_rfl) (by kernel_rfl) (by exact fun _ _ _ h => h) (Or.inl ⟨by rfl, ?hy16p⟩) hS0 ?r16p
                      case hy16p => (intro w hSw; (try dsimp only at hSw); go_simp; try with_reducible rfl)
                      (try simp only [Act.put]); (try simp only [List.setIfInBounds_toArray]); (repeat (first | simp only [List.set_cons_succ] | simp only [List.set_cons_zero]))
                      refine wpTo_done (by kernel_rfl) ?_
                      go_wp2_with fail
                      go_roundw
                      case rel => exact ⟨j + 1, by omega, by go_num, hLd, below_drewN hB4 1, hRd, hbd⟩
                      case measure => simp [intOf]; omega
                    · rw [hov] at cH
                      have h0j : (0 : Int) ≤ j := by omega
                      clear hS hov hR4
                      refine wp_region_to (fun v => Sm v4 v) 17 (by kernel_rfl) ?_
                      have hS0 := Sm.drew v4
                      refine wpTo_take (i := 0) (v := ?v0q) (show _ = some _ by simp only [List.getElem?_toArray, List.getElem?_cons_zero]; exact rfl) (by kernel_rfl) (by kernel_rfl) (by kernel_rfl) (by kernel_rfl) (by exact fun _ _ _ h => h) (Or.inl ⟨by rfl, ?hy0q⟩) hS0 ?r0q
                      case hy0q => (intro w hSw; (try dsimp only at hSw); go_simp; try with_reducible rfl)
                      (try simp only [Act.put]); (try simp only [List.setIfInBounds_toArray]); (repeat (first | simp only [List.set_cons_succ] | simp only [List.set_cons_zero]))
                      refine wpTo_take (i := 1) (v := ?v1q) (show _ = some _ by simp only [List.getElem?_toArray, List.getElem?_cons_succ, List.getElem?_cons_zero]; exact rfl) (by kernel_rfl) (by kernel_rfl) (by kernel_rfl) (by kernel_rfl) (by exact fun _ _ _ h => h) (Or.inl ⟨by rfl, ?hy1q⟩) hS0 ?r1q
                      case hy1q => (intro w hSw; (try dsimp only at hSw); go_simp; try with_reducible rfl)
                      (try simp only [Act.put]); (try simp only [List.setIfInBounds_toArray]); (repeat (first | simp only [List.set_cons_succ] | simp only [List.set_cons_zero]))
                      refine wpTo_take (i := 2) (v := ?v2q) (show _ = some _ by simp only [List.getElem?_toArray, List.getElem?_cons_succ, List.getElem?_cons_zero]; exact rfl) (by kernel_rfl) (by kernel_rfl) (by kernel_rfl) (by kernel_rfl) (by exact fun _ _ _ h => h) (Or.inl ⟨by rfl, ?hy2q⟩) hS0 ?r2q
                      case hy2q => (intro w hSw; (try dsimp only at hSw); go_simp; try with_reducible rfl)
                      (try simp only [Act.put]); (try simp only [List.setIfInBounds_toArray]); (repeat (first | simp only [List.set_cons_succ] | simp only [List.set_cons_zero]))
                      refine wpTo_take (i := 3) (v := ?v3q) (show _ = some _ by simp only [List.getElem?_toArray, List.getElem?_cons_succ, List.getElem?_cons_zero]; exact rfl) (by kernel_rfl) (by kernel_rfl) (by kernel_rfl) (by kernel_rfl) (by exact fun _ _ _ h => h) (Or.inl ⟨by rfl, ?hy3q⟩) hS0 ?r3q
                      case hy3q => (intro w hSw; (try dsimp only at hSw); go_simp; try with_reducible rfl)
                      (try simp only [Act.put]); (try simp only [List.setIfInBounds_toArray]); (repeat (first | simp only [List.set_cons_succ] | simp only [List.set_cons_zero]))
                      refine wpTo_take (i := 4) (v := ?v4q) (show _ = some _ by simp only [List.getElem?_toArray, List.getElem?_cons_succ, List.getElem?_cons_zero]; exact rfl) (by kernel_rfl) (by kernel_rfl) (by kernel_rfl) (by kernel_rfl) (by exact fun _ _ _ h => h) (Or.inl ⟨by rfl, ?hy4q⟩) hS0 ?r4q
                      case hy4q => (intro w hSw; (try dsimp only at hSw); go_simp; try with_reducible rfl)
                      (try simp only [Act.put]); (try simp only [List.setIfInBounds_toArray]); (repeat (first | simp only [List.set_cons_succ] | simp only [List.set_cons_zero]))
                      refine wpTo_take (i := 5) (v := ?v5q) (show _ = some _ by simp only [List.getElem?_toArray, List.getElem?_cons_succ, List.getElem?_cons_zero]; exact rfl) (by kernel_rfl) (by kernel_rfl) (by kernel_rfl) (by kernel_rfl) (by exact fun _ _ _ h => h) (Or.inl ⟨by rfl, ?hy5q⟩) hS0 ?r5q
                      case hy5q => (intro w hSw; (try dsimp only at hSw); go_simp; try with_reducible rfl)
                      (try simp only [Act.put]); (try simp only [List.setIfInBounds_toArray]); (repeat (first | simp only [List.set_cons_succ] | simp only [List.set_cons_zero]))
                      refine wpTo_take (i := 6) (v := ?v6q) (show _ = some _ by simp only [List.getElem?_toArray, List.getElem?_cons_succ, List.getElem?_cons_zero]; exact rfl) (by kernel_rfl) (by kernel_rfl) (by kernel_rfl) (by kernel_rfl) (by exact fun _ _ _ h => h) (Or.inl ⟨by rfl, ?hy6q⟩) hS0 ?r6q
                      case hy6q => (intro w hSw; (try dsimp only at hSw); have hcc := (hSw.cell _).trans cH; go_simp; try with_reducible rfl)
                      (try simp only [Act.put]); (try simp only [List.setIfInBounds_toArray]); (repeat (first | simp only [List.set_cons_succ] | simp only [List.set_cons_zero]))
                      refine wpTo_take (i := 7) (v := ?v7q) (show _ = some _ by simp only [List.getElem?_toArray, List.getElem?_cons_succ, List.getElem?_cons_zero]; exact rfl) (by kernel_rfl) (by kernel_rfl) (by kernel_rfl) (by kernel_rfl) (by exact fun _ _ _ h => h) (Or.inl ⟨by rfl, ?hy7q⟩) hS0 ?r7q
                      case hy7q => (intro w hSw; (try dsimp only at hSw); go_simp; try with_reducible rfl)
                      (try simp only [Act.put]); (try simp only [List.setIfInBounds_toArray]); (repeat (first | simp only [List.set_cons_succ] | simp only [List.set_cons_zero]))
                      refine wpTo_take (i := 8) (v := ?v8q) (show _ = some _ by simp only [List.getElem?_toArray, List.getElem?_cons_succ, List.getElem?_cons_zero]; exact rfl) (by kernel_rfl) (by kernel_rfl) (by kernel_rfl) (by kernel_rfl) (by exact fun _ _ _ h => h) (Or.inl ⟨by rfl, ?hy8q⟩) hS0 ?r8q
                      case hy8q => (intro w hSw; (try dsimp only at hSw); go_simp; try with_reducible rfl)
                      (try simp only [Act.put]); (try simp only [List.setIfInBounds_toArray]); (repeat (first | simp only [List.set_cons_succ] | simp only [List.set_cons_zero]))
                      refine wpTo_take (i := 9) (show _ = some _ by simp only [List.getElem?_toArray, List.getElem?_cons_succ, List.getElem?_cons_zero]; exact rfl) (by kernel_rfl) (by kernel_rfl) (by kernel_rfl) (by kernel_rfl) (by exact fun _ _ _ h => h) (Or.inr ⟨by rfl, rfl⟩) hS0 ?_
                      (try simp only [Act.put]); (try simp only [List.setIfInBounds_toArray]); (repeat (first | simp only [List.set_cons_succ] | simp only [List.set_cons_zero]))
                      refine wpTo_take (i := 10) (show _ = some _ by simp only [List.getElem?_toArray, List.getElem?_cons_succ, List.getElem?_cons_zero]; exact rfl) (by kernel_rfl) (by kernel_rfl) (by kernel_rfl) (by kernel_rfl) (by exact fun _ _ _ h => h) (Or.inr ⟨by rfl, rfl⟩) hS0 ?_
                      (try simp only [Act.put]); (try simp only [List.setIfInBounds_toArray]); (repeat (first | simp only [List.set_cons_succ] | simp only [List.set_cons_zero]))
                      refine wpTo_take (i := 11) (show _ = some _ by simp only [List.getElem?_toArray, List.getElem?_cons_succ, List.getElem?_cons_zero]; exact rfl) (by kernel_rfl) (by kernel_rfl) (by kernel_rfl) (by kernel_rfl) (by exact fun _ _ _ h => h) (Or.inr ⟨by rfl, rfl⟩) hS0 ?_
                      (try simp only [Act.put]); (try simp only [List.setIfInBounds_toArray]); (repeat (first | simp only [List.set_cons_succ] | simp only [List.set_cons_zero]))
                      refine wpTo_take (i := 12) (show _ = some _ by simp only [List.getElem?_toArray, List.getElem?_cons_succ, List.getElem?_cons_zero]; exact rfl) (by kernel_rfl) (by kernel_rfl) (by kernel_rfl) (by kernel_rfl) (by exact fun _ _ _ h => h) (Or.inr ⟨by rfl, rfl⟩) hS0 ?_
                      (try simp only [Act.put]); (try simp only [List.setIfInBounds_toArray]); (repeat (first | simp only [List.set_cons_succ] | simp only [List.set_cons_zero]))
                      refine wpTo_take (i := 13) (show _ = some _ by simp only [List.getElem?_toArray, List.getElem?_cons_succ, List.getElem?_cons_zero]; exact rfl) (by kernel_rfl) (by kernel_rfl) (by kernel_rfl) (by kernel_rfl) (by exact fun _ _ _ h => h) (Or.inr ⟨by rfl, rfl⟩) hS0 ?_
                      (try simp only [Act.put]); (try simp only [List.setIfInBounds_toArray]); (repeat (first | simp only [List.set_cons_succ] | simp only [List.set_cons_zero]))
                      refine wpTo_take (i := 14) (show _ = some _ by simp only [List.getElem?_toArray, List.getElem?_cons_succ, List.getElem?_cons_zero]; exact rfl) (by kernel_rfl) (by kernel_rfl) (by kernel_rfl) (by kernel_rfl) (by exact fun _ _ _ h => h) (Or.inr ⟨by rfl, rfl⟩) hS0 ?_
                      (try simp only [Act.put]); (try simp only [List.setIfInBounds_toArray]); (repeat (first | simp only [List.set_cons_succ] | simp only [List.set_cons_zero]))
                      refine wpTo_take (i := 15) (v := ?v15q) (show _ = some _ by simp only [List.getElem?_toArray, List.getElem?_cons_succ, List.getElem?_cons_zero]; exact rfl) (by kernel_rfl) (by kernel_rfl) (by kernel_rfl) (by kernel_rfl) (by exact fun _ _ _ h => h) (Or.inl ⟨by rfl, ?hy15q⟩) hS0 ?r15q
                      case hy15q => (intro w hSw; (try dsimp only at hSw); go_simp; try with_reducible rfl)
                      (try simp only [Act.put]); (try simp only [List.setIfInBounds_toArray]); (repeat (first | simp only [List.set_cons_succ] | simp only [List.set_cons_zero]))
                      refine wpTo_take (i := 16) (v := ?v16q) (show _ = some _ by simp only [List.getElem?_toArray, List.getElem?_cons_succ, List.getElem?_cons_zero]; exact rfl) (by kernel_rfl) (by kernel_rfl) (by kernel_rfl) (by kernel_rfl) (by exact fun _ _ _ h => h) (Or.inl ⟨by rfl, ?hy16q⟩) hS0 ?r16q
                      case hy16q => (intro w hSw; (try dsimp only at hSw); go_simp; try with_reducible rfl)
                      (try simp only [Act.put]); (try simp only [List.setIfInBounds_toArray]); (repeat (first | simp only [List.set_cons_succ] | simp only [List.set_cons_zero]))
                      refine wpTo_done (by kernel_rfl) ?_
                      go_wp2_with fail
                      go_roundw
                      case rel => exact ⟨j + 1, by omega, by go_num, hLd, below_drewN hB4 1, hRd, hbd⟩
                      case measure => simp [intOf]; omega
                  · have hjI : ¬ (j : Int) < k := by omega
                    go_wp2_with fail
                    go_at_call 12; refine (works_any _).mono ?_; rintro e x4 ⟨rfl, k4⟩
                    go_wp2_with fail
                    go_ret
                    exact ⟨rfl, hB.trans (k4.mono hB.size)⟩
theorem lasts_all (w : World) (k : Int) (xo : Option Addr) (xn xc : Nat) (X : Nat → OpD) (yo : Option Addr) (yn yc : Nat) (Y : Nat → OpD) (zo : Option Addr) (zn zc : Nat) (zs0 : List Int) (hk : (Lit.int .i64 k).wf = true)
    (hxn : xn ≤ maxLen) (hX : Ops w xo xn X) (hyn : yn ≤ maxLen) (hY : Ops w yo yn Y) (hZ : Ints w zo zn zs0) (hzn : zn ≤ maxLen) :
    Calls Try.prog 5 #[.int .i64 k, .slice xo xn xc, .slice yo yn yc, .slice zo zn zc] w fun e w' => e = .returned (.bool true) ∧ Below w.heap.size w w' := by
  by_cases h1 : k > 1000
  · go_enter Try.func5, Try.ntmps5
    go_wp2_with (go_at_call 12; refine (works_any _).mono ?_; rintro e x4 ⟨rfl, k4⟩)
    go_ret
    exact ⟨rfl, k4⟩
  · by_cases h2 : 1 ≤ k
    · obtain ⟨m, rfl⟩ := Int.eq_ofNat_of_zero_le (show 0 ≤ k by omega)
      exact lasts_walk w m (by omega) (by omega) xo xn xc X yo yn yc Y zo zn zc zs0 hxn hX hyn hY hZ hzn
    · have hb := fun v => new_bad k v (by omega)
      have := wf_lt hk
      go_enter Try.func5, Try.ntmps5
      go_wp2_with fail
      go_at_call 10; refine (hb _).mono ?_; rintro e w' ⟨rfl, rfl⟩
      go_wp2_with fail
      go_at_call 12; refine (works_any _).mono ?_; rintro e x4 ⟨rfl, k4⟩
      go_wp2_with fail
      go_ret
      exact ⟨rfl, k4⟩
end Go.Proofs.Yteimfnnkjhopdaa
