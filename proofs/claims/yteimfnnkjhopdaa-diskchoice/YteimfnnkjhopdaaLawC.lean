/- DiskChoice: behind a failure of the power each sector is whole, just as it was chosen. -/
import Derived.Test.YteimfnnkjhopdaaLast2
import Derived.Test.YteimfnnkjhopdaaRows2
import Derived.Deep.DeepCutAuto
namespace Go.Proofs.Yteimfnnkjhopdaa
open Go.RowKit

set_option maxRecDepth 100000 in
set_option maxHeartbeats 20000000 in
theorem choice_walk (w : World) (k : Nat) (hk1 : 1 ≤ k) (hk : k ≤ 1000) (xo : Option Addr) (xn xc : Nat) (X : Nat → OpD) (zo : Option Addr) (zn zc : Nat) (zs0 : List Int)
    (hxn : xn ≤ maxLen) (hX : Ops w xo xn X) (hZ : Ints w zo zn zs0) (hzn : zn ≤ maxLen) :
    Calls Try.prog 6 #[.int .i64 (k : Int), .slice xo xn xc, .slice zo zn zc] w fun e w' => e = .returned (.bool true) ∧ Below w.heap.size w w' := by
  have hz := zero39
  have hgd := guard39
  have hkI : ¬ (k : Int) > 1000 := by omega
  have hxI : (xn : Int) ≤ 9223372036854775807 := by unfold maxLen at hxn; omega
  have hzI : (zn : Int) ≤ 9223372036854775807 := by unfold maxLen at hzn; omega
  have hzl := hZ.len
  go_enter Try.func6, Try.ntmps6
  go_wp2_with fail
  go_at_call 10; refine (new_any k w hk1 (by omega)).mono ?_; rintro e w1 ⟨r, f, m, cap, rfl, hr, hf, hm, hL, hB⟩
  go_wp2_with fail
  go_loopw [9] (fun v wr => ∃ (j : Nat) (d : St) (m : Nat), j ≤ xn ∧ j ≤ 300 ∧ v = .int .i64 (j : Int) ∧ Lay wr r f m cap d ∧ Below w.heap.size w wr ∧ w.heap.size ≤ m ∧ d.writes ≤ j ∧ d.flushes ≤ j ∧ d.n = k) (fun v _ => xn - (intOf v).toNat)
  case atStart => exact ⟨0, _, m, by omega, by omega, rfl, hL, hB, hm, Nat.le_refl _, Nat.le_refl _, rfl⟩
  case round =>
    clear hm hL hB
    obtain ⟨j, d, m, hj, hj3, rfl, hL, hB, hm, hw, hfl, hdn⟩ := hrel
    go_upto_region 7 with (fail)
    go_cut [44] from 37 to 52 (fun b wc => b = .bool (decide (j < xn ∧ j < 300)) ∧ wc = wr)
    case first =>
      rcases two_ways j xn with ⟨h1, h2⟩ | ⟨h1, h2⟩ | h1
      · have y1 : (j : Int) < xn := by omega
        have y2 : (j : Int) < 300 := by omega
        go_wp2_with fail
        go_meet
        case rel => exact ⟨by simp [h1, h2], rfl⟩
      · have y1 : (j : Int) < xn := by omega
        have y2 : ¬ (j : Int) < 300 := by omega
        go_wp2_with fail
        go_meet
        case rel => exact ⟨by simp [h1, h2], rfl⟩
      · have y1 : ¬ (j : Int) < xn := by omega
        go_wp2_with fail
        go_meet
        case rel => exact ⟨by simp [h1], rfl⟩
    case rest =>
      obtain ⟨rfl, rfl⟩ := hcut
      by_cases hgo : j < xn ∧ j < 300
      · rw [decide_eq_true hgo]
        obtain ⟨h1, h2⟩ := hgo
        cases xo with
        | none => have := hX.bare rfl; omega
        | some ad =>
          have y1 : (j : Int) < xn := by omega
          have hg := hX.good j h1
          obtain ⟨p0, p1, p2, p3⟩ := (hX.next hB).cell ad rfl j h1
          obtain ⟨o, eo⟩ : ∃ o, o = X j := ⟨_, rfl⟩
          rw [← eo] at hg p0 p1 p2 p3
          clear eo
          obtain ⟨oa, oi, ot, ko, kn, kc, ks⟩ := o
          have hac := act_counts d oa oi ot ks
          go_wp2_with (go_at_call 19; refine (acts_any _ r f m cap d hL oa oi ot ko kn kc ks hg.text (wf_lt hg.wf).2 (ints_side hg.ints hB (fp_ge hr hf hm)) hg.len (by omega) (by omega)).mono ?_; rintro e v1 ⟨rfl, m1, hm1, hL1, hF1⟩)
          go_roundw
          case rel => exact ⟨j + 1, _, m1, by omega, by omega, by go_num, hL1, hB.trans (hF1.below (b := w.heap.size) (fp_ge hr hf hm) hB.size), turn_ge hm hm1 hB.size, by omega, by omega, by omega⟩
          case measure => simp [intOf]; omega
      · rw [decide_eq_false hgo]
        clear hgo
        go_upto_region 10 with (fail)
        go_cut [59] from 53 (fun b wc2 => b = .bool false ∧ ∃ (d2 : St) (m2 : Nat), Lay wc2 r f m2 cap d2 ∧ Below w.heap.size w wc2 ∧ w.heap.size ≤ m2 ∧ d2.off = false ∧ d2.writes ≤ 300 ∧ d2.n = k)
        case first =>
          have hde := dead_any _ r f m cap d hL
          have hfp := fp_ge hr hf hm
          cases ho : d.off
          · rw [ho] at hde
            go_wp2_with fail
            go_at_call 20; refine hde.mono ?_; rintro e w' ⟨rfl, rfl⟩
            go_wp2_with fail
            go_meet
            case rel => exact ⟨rfl, d, m, hL, hB, hm, ho, (by omega), hdn⟩
          · rw [ho] at hde
            go_wp2_with fail
            go_at_call 20; refine hde.mono ?_; rintro e w' ⟨rfl, rfl⟩
            go_wp2_with fail
            go_at_call 21; refine (on_ok _ r f m cap d hL ho none 0 0 [] ⟨rfl, fun _ => rfl, fun _ h => (by cases h), fun _ h => (by cases h)⟩ (fun _ h => (by cases h)) (by decide)).mono ?_; rintro e v0 ⟨rfl, m0, hm0, hL0, hF0⟩
            go_wp2_with fail
            go_meet
            case rel => exact ⟨rfl, _, m0, hL0, hB.trans (hF0.below (b := w.heap.size) hfp hB.size), turn_ge hm hm0 hB.size, rfl, (by show d.writes ≤ 300; omega), hdn⟩
        case rest =>
          clear hL hB hm hw hfl hdn hX
          obtain ⟨rfl, d, m, hL, hB, hm, ho, hw, hdn⟩ := hcut
          go_wp2_with fail
          go_at_call 17; refine (sectors_any _ r f m cap d hL).mono ?_; rintro e v1 ⟨g, c1, rfl, hg1, hR1, k1⟩
          have hL1 := hL.next k1
          have hB1 := hB.trans (k1.mono hB.size)
          go_wp2_with fail
          go_at_call 25; refine (pending_any _ r f m cap d hL1 (by omega)).mono ?_; rintro e v2 ⟨x1, rfl, pw, k2⟩
          obtain ⟨po, pc, rfl, p1, -, hpb, hpl⟩ := ints_of_own pw (pend_wf2 d (by omega))
          clear pw
          have hL2 := hL1.next k2
          have hB2 := hB1.trans (k2.mono hB1.size)
          have hR2 : Rw v2 g k d.lasts := by rw [← hdn]; exact hR1.fr (X := fun _ => False) (Fr.of_below k2 (Nat.le_refl _)) (fun h => h)
          have hin := pend_in d
          have hmem := pend_mem d hL2.low
          have hris := pend_rising d
          obtain ⟨ps, hps⟩ : ∃ ps, ps = d.pend := ⟨_, rfl⟩
          obtain ⟨pn, hpn⟩ : ∃ pn, pn = ps.length := ⟨_, rfl⟩
          rw [← hps] at p1 hin hmem hris hpl ⊢
          rw [← hpn] at p1 hpl ⊢
          have hpI : (pn : Int) ≤ 9223372036854775807 := by unfold maxLen at hpl; omega
          have HIN : Hid (∀ x ∈ ps, 0 ≤ x ∧ x < k) := (by rw [← hdn]; exact hin)
          have HMEM : Hid (∀ i : Nat, (i : Int) ∈ ps ↔ (d.waits i).isSome = true) := hmem
          have HRIS : Hid (ps.Pairwise fun a b => a < b) := hris
          have HPN : Hid (ps.length = pn) := hpn.symm
          clear hps hpn hin hmem hris hpl
          have _hdn := hdn
          go_wp2_with (first | (at_make; refine make_secs rfl _ _ rfl k (by omega) rfl rfl ?_; intro v3 hH3 k3) | (at_make; refine make_bools rfl _ _ rfl k (by omega) rfl rfl ?_; intro v4 hG4 k4))
          obtain ⟨H, hHe⟩ : ∃ H, H = v2.heap.size := ⟨_, rfl⟩
          rw [← hHe] at hH3 ⊢
          have hL3 := hL2.next k3
          have hB3 := hB2.trans (k3.mono hB2.size)
          have hR3 : Rw v3 g k d.lasts := hR2.fr (X := fun _ => False) (Fr.of_below k3 (Nat.le_refl _)) (fun h => h)
          have hp3 := p1.next k3
          have hfH : ¬ fp r f m H := fun hx => by have := fp_lt hL2 _ hx; omega
          have hgH : g ≠ H := by have := hR2.lt; omega
          have hpH : ∀ ad, po = some ad → 0 < pn → ad.block ≠ H := fun ad had h0 => by subst had; have := p1.lt h0; omega
          have hwH : w.heap.size ≤ H := by have := hB2.size; omega
          obtain ⟨G, hGe⟩ : ∃ G, G = v3.heap.size := ⟨_, rfl⟩
          rw [← hGe] at hG4 ⊢
          have hL4 := hL3.next k4
          have hB4 := hB3.trans (k4.mono hB3.size)
          have hR4 : Rw v4 g k d.lasts := hR3.fr (X := fun _ => False) (Fr.of_below k4 (Nat.le_refl _)) (fun h => h)
          have hH4 : Rw v4 H k (fun _ => zs) := hH3.fr (X := fun _ => False) (Fr.of_below k4 (Nat.le_refl _)) (fun h => h)
          have hp4 := hp3.next k4
          have hfG : ¬ fp r f m G := fun hx => by have := fp_lt hL3 _ hx; omega
          have hgG : g ≠ G := by have := hR3.lt; omega
          have hpG : ∀ ad, po = some ad → 0 < pn → ad.block ≠ G := fun ad had h0 => by subst had; have := hp3.lt h0; omega
          have hHG : H ≠ G := by have := hH3.lt; omega
          have hwG : w.heap.size ≤ G := by have := hB3.size; omega
          clear hHe hGe hL hB hL1 hB1 hL2 hB2 hL3 hB3 hR1 hR2 hR3 hH3 p1 hp3 k1 k2 k3 k4 hg1 hpb
          go_loopw [14] (fun v wr => ∃ (j : Nat), j ≤ k ∧ v = .int .i64 (j : Int) ∧ Fr (fun x => x = H) v4 wr ∧ Rw wr H k (mix d.lasts j)) (fun v _ => k - (intOf v).toNat)
          case atStart => exact ⟨0, by omega, rfl, Fr.refl _ _, by rw [mix_zero]; exact hH4⟩
          case round =>
            obtain ⟨j, hj, rfl, hF5, hH5⟩ := hrel
            by_cases hjk : j < k
            · have hjI : (j : Int) < k := by omega
              have hrow := (hR4.fr hF5 hgH).range hjk
              have hms := mix_succ d.lasts j
              obtain ⟨S, hS⟩ : ∃ S, S = d.lasts j := ⟨_, rfl⟩
              rw [← hS] at hrow hms
              clear hS
              have HMS : Hid (upd (mix d.lasts j) j S = mix d.lasts (j + 1)) := hms
              clear hms
              go_wp2_with (first
                | (refine wpList_load_mid rfl 39 _ rfl g (j * 512) rfl (sb S) _ hrow Try.underlying39 rfl (by rw [sb_length]; kernel_rfl) ?_)
                | (refine put_row_l rfl _ _ rfl H k _ hH5 j hjk S rfl rfl ?_; intro hH6))
              go_roundw
              case rel => exact ⟨j + 1, by omega, by go_num, hF5.setCells H (j * 512) (sb S) (.inl rfl), by rw [← HMS.out]; exact hH6⟩
              case measure => simp [intOf]; omega
            · have hjI : ¬ (j : Int) < k := by omega
              have ej : j = k := by omega
              have hL6 := hL4.fr hF5 (fun x hx hy => hfH (hx ▸ hy))
              have hB6 := hB4.trans (hF5.below (b := w.heap.size) (fun x hx => by subst hx; exact hwH) hB4.size)
              have hp6 := hp4.fr hF5 hpH
              have hG6 := hG4.fr hF5 (fun e => hHG e.symm)
              have hH6 : Rw wr H k d.lasts := hH5.congr (fun i hi => by unfold mix; rw [if_pos (by omega)])
              clear hH5 hF5 hL4 hB4 hR4 hH4 hp4 hG4 hgH hgG ej
              go_wp2_with fail
              obtain ⟨w6, hw6⟩ : ∃ u, u = wr := ⟨_, rfl⟩
              subst hw6
              go_loopw [15] (fun v w7 => ∃ (j : Nat), j ≤ pn ∧ v = .int .i64 (j : Int) ∧ Fr (fun x => x = G) w6 w7 ∧ Blk w7 G 4 (bools k (among ps j))) (fun v _ => pn - (intOf v).toNat)
              case atStart => exact ⟨0, by omega, rfl, Fr.refl _ _, by rw [among_zero]; exact hG6⟩
              case round =>
                obtain ⟨w7, hw7⟩ : ∃ u, u = wr := ⟨_, rfl⟩
                subst hw7
                obtain ⟨j, hj, rfl, hF7, hG7⟩ := hrel
                by_cases hjp : j < pn
                · have hjI : (j : Int) < pn := by omega
                  have hp7 := hp6.fr hF7 hpG
                  cases po with
                  | none => have := hp6.bare rfl; omega
                  | some ad =>
                    have cx := hp7.cell ad rfl j hjp
                    obtain ⟨hx0, hxk⟩ := HIN.out (ps.getD j 0) (by rw [List.getD, List.getElem?_eq_getElem (show j < ps.length by rw [HPN.out]; exact hjp)]; exact List.getElem_mem _)
                    obtain ⟨x, hxe⟩ := Int.eq_ofNat_of_zero_le hx0
                    have HAS : Hid (upd (among ps j) x true = among ps (j + 1)) := among_succ ps j pn x HPN.out hjp hxe
                    have HXE : Hid (ps.getD j 0 = (x : Int)) := hxe
                    rw [hxe] at cx hxk
                    clear hxe hx0
                    have y1 : decide ((x : Int) < 0) = false := by rw [decide_eq_false (by omega)]
                    have y2 : decide ((k : Int) ≤ (x : Int)) = false := by rw [decide_eq_false (by omega)]
                    have hxk' : x < k := by omega
                    have y2n : decide (k ≤ x) = false := by rw [decide_eq_false (by omega)]
                    have cG := hG7.cell x _ (bools_get k _ x hxk')
                    have fG := hG7.fz x
                    by_cases hj0 : (j : Int) > 0
                    · have hlt : ps.getD (j - 1) 0 < (x : Int) := by
                        rw [← HXE.out]
                        have h1 := List.pairwise_iff_getElem.1 HRIS.out (j - 1) j (by rw [HPN.out]; omega) (by rw [HPN.out]; omega) (by omega)
                        rw [List.getD, List.getD, List.getElem?_eq_getElem (show j - 1 < ps.length by rw [HPN.out]; omega), List.getElem?_eq_getElem (show j < ps.length by rw [HPN.out]; exact hjp)]
                        exact h1
                      obtain ⟨q, hq⟩ : ∃ q, q = j - 1 := ⟨_, rfl⟩
                      have cp := hp7.cell ad rfl (j - 1) (by omega)
                      rw [← hq] at hlt cp
                      obtain ⟨y, hy⟩ : ∃ y, y = ps.getD q 0 := ⟨_, rfl⟩
                      rw [← hy] at hlt cp
                      have hwr : IntKind.i64.wrap ((j : Int) - 1) = (q : Int) := by rw [show (j : Int) - 1 = (q : Int) by omega]; rw [IntKind.wrap_i64]; omega
                      have hq0 : (q : Int) < pn := by omega
                      have y3 : decide ((x : Int) ≤ y) = false := by rw [decide_eq_false (by omega)]
                      have y4 : decide (0 < (j : Int)) = true := by rw [decide_eq_true (by omega)]
                      have y4n : decide (0 < j) = true := by rw [decide_eq_true (by omega)]
                      clear hy hq hlt hj0
                      go_wp2_with fail
                      go_quiet (fail)
                      have kk : Below w7.heap.size w7 (w7.drewN nq) := below_drewN (Below.refl _ w7) nq
                      have hF8 := (hF7.trans (Y := fun _ => False) (Fr.of_below kk (Nat.le_refl _)) (fun _ _ h => h.elim)).setCell ⟨G, x, none⟩ (.bool true) (.inl rfl)
                      have hG8 := (hG7.next kk).set x (.bool true)
                      rw [bools_set, HAS.out] at hG8
                      clear kk
                      go_wp2_with fail
                      go_roundw
                      case rel => exact ⟨j + 1, by omega, by go_num, hF8, hG8⟩
                      case measure => simp [intOf]; omega
                    · have y4 : decide (0 < (j : Int)) = false := by rw [decide_eq_false (by omega)]
                      have y4n : decide (0 < j) = false := by rw [decide_eq_false (by omega)]
                      clear hj0
                      go_wp2_with fail
                      go_quiet (fail)
                      have kk : Below w7.heap.size w7 (w7.drewN nq) := below_drewN (Below.refl _ w7) nq
                      have hF8 := (hF7.trans (Y := fun _ => False) (Fr.of_below kk (Nat.le_refl _)) (fun _ _ h => h.elim)).setCell ⟨G, x, none⟩ (.bool true) (.inl rfl)
                      have hG8 := (hG7.next kk).set x (.bool true)
                      rw [bools_set, HAS.out] at hG8
                      clear kk
                      go_wp2_with fail
                      go_roundw
                      case rel => exact ⟨j + 1, by omega, by go_num, hF8, hG8⟩
                      case measure => simp [intOf]; omega
                · have hjI : ¬ (j : Int) < pn := by omega
                  have ej : j = pn := by omega
                  have hL7 := hL6.fr hF7 (fun x hx hy => hfG (hx ▸ hy))
                  have hB7 := hB6.trans (hF7.below (b := w.heap.size) (fun x hx => by subst hx; exact hwG) hB6.size)
                  have hH7 := hH6.fr hF7 hHG
                  have hG8 : Blk w7 G 4 (bools k fun i => (d.waits i).isSome) := by
                    rw [bools_congr (g := among ps j)]
                    · exact hG7
                    · intro i hi
                      unfold among
                      rw [ej, List.take_of_length_le (by rw [HPN.out]; exact Nat.le_refl _)]
                      have := HMEM.out i
                      by_cases hq : (i : Int) ∈ ps
                      · rw [decide_eq_true hq]; exact this.1 hq
                      · rw [decide_eq_false hq]; exact Bool.not_eq_true _ ▸ (fun h => hq (this.2 h))
                  clear hF7 hG7 hG6 hH6 hL6 hB6 hp6 HIN HMEM HRIS HPN ej hpI hpH hpG
                  go_wp2_with fail
                  go_loopw [16] (fun v w8 => ∃ (j : Nat), j ≤ zn ∧ v = .int .i64 (j : Int) ∧ Fr (fun x => x = H) w7 w8 ∧ Rw w8 H k (kept d (zs0.take j))) (fun v _ => zn - (intOf v).toNat)
                  case atStart => exact ⟨0, by omega, rfl, Fr.refl _ _, by rw [List.take_zero, kept_nil]; exact hH7⟩
                  case round =>
                    obtain ⟨w8, hw8⟩ : ∃ u, u = wr := ⟨_, rfl⟩
                    subst hw8
                    obtain ⟨j, hj, rfl, hF8, hH8⟩ := hrel
                    have hB8 := hB7.trans (hF8.below (b := w.heap.size) (fun x hx => by subst hx; exact hwH) hB7.size)
                    by_cases hjz : j < zn
                    · have hjI : (j : Int) < zn := by omega
                      cases zo with
                      | none => have := hZ.bare rfl; omega
                      | some zd =>
                        have cx := (hZ.next hB8).cell zd rfl j hjz
                        have hwf := hZ.wf (zs0.getD j 0) (by simp [List.getD, List.getElem?_eq_getElem (show j < zs0.length by omega)])
                        have hts := take_snoc zs0 j zn hzl hjz
                        obtain ⟨x, ex⟩ : ∃ x, x = zs0.getD j 0 := ⟨_, rfl⟩
                        rw [← ex] at cx hwf hts
                        have HGD : Hid (zs0.getD j 0 = x) := ex.symm
                        clear ex
                        have HTS : Hid (zs0.take (j + 1) = zs0.take j ++ [x]) := hts
                        clear hts
                        by_cases hx0 : 0 ≤ x
                        · obtain ⟨i, rfl⟩ := Int.eq_ofNat_of_zero_le hx0
                          by_cases hik : i < k
                          · have hiI : (i : Int) < k := by omega
                            have cG := (hG8.fr hF8 (fun e => hHG e.symm)).cell i _ (bools_get k _ i hik)
                            cases hwi : d.waits i with
                            | none =>
                              rw [hwi] at cG
                              simp only [Option.isSome_none] at cG
                              have HH : Hid (kept d (zs0.take (j + 1)) = kept d (zs0.take j)) := by
                                show _ = _
                                rw [HTS.out, kept_miss d _ (i : Int) ((wl_ky d.waits i).trans hwi)]
                              clear hwi
                              go_wp2_with fail
                              go_roundw
                              case rel => exact ⟨j + 1, by omega, by go_num, hF8, by rw [HH.out]; exact hH8⟩
                              case measure => simp [intOf]; omega
                            | some S =>
                              rw [hwi] at cG
                              simp only [Option.isSome_some] at cG
                              have hL8 := hL7.fr hF8 (fun x hx hy => hfH (hx ▸ hy))
                              have hat : d.at i = S := by unfold St.at; rw [hwi]; rfl
                              have HH : Hid (upd (kept d (zs0.take j)) i S = kept d (zs0.take (j + 1))) := by
                                show _ = _
                                rw [HTS.out, kept_hit d _ i S hwi]
                              have HAT : Hid (d.at i = S) := hat
                              clear hwi hat
                              go_wp2_with fail
                              go_at_call 26; refine (read_ok _ r f m cap d hL8 i S ho (by omega) HAT.out).mono ?_; rintro e v3 ⟨rfl, k3⟩
                              have hF3 := hF8.trans (Y := fun _ => False) (Fr.of_below k3 (Nat.le_refl _)) (fun _ _ h => h.elim)
                              have hH3 : Rw v3 H k _ := hH8.fr (X := fun _ => False) (Fr.of_below k3 (Nat.le_refl _)) (fun h => h)
                              obtain ⟨b4, k4⟩ := boxed v3 S
                              have hF4 := hF3.trans (Y := fun _ => False) (Fr.of_below k4 (Nat.le_refl _)) (fun _ _ h => h.elim)
                              have hH4 : Rw _ H k _ := hH3.fr (X := fun _ => False) (Fr.of_below k4 (Nat.le_refl _)) (fun h => h)
                              have hB5 := hB8.trans ((k3.trans (k4.mono k3.size)).mono hB8.size)
                              have hz := zero39
                              go_wp2_with (refine store_sec rfl _ _ rfl v3.heap.size zs S (Blk.new v3 39 (sb zs)) rfl rfl ?_; intro _)
                              obtain ⟨v4, hv4⟩ : ∃ U, U = ((v3.alloc (.cells (sb zs).toArray 39)).setRow v3.heap.size (sb S).toArray) := ⟨_, rfl⟩
                              obtain ⟨g4, hg4⟩ : ∃ g, g = v3.heap.size := ⟨_, rfl⟩
                              rw [← hv4] at b4 hF4 hH4 hB5 ⊢
                              rw [← hg4] at b4 ⊢
                              clear hv4 hg4 k3 k4 hF3 hH3 cG cx
                              have cx := (hZ.next hB5).cell zd rfl j hjz
                              rw [show zs0.getD j 0 = (i : Int) from HGD.out] at cx
                              have h0i : (0 : Int) ≤ i := by omega
                              go_wp2_with fail
                              refine wp_region_to (fun v => Sm v4 v) 7 (by kernel_rfl) ?_
                              have hS0 := Sm.drew v4
                              refine wpTo_take (i := 0) (v := ?v0q) (show _ = some _ by simp only [List.getElem?_toArray, List.getElem?_cons_zero]; exact rfl) (by kernel_rfl) (by kernel_rfl) (by kernel_rfl) (by kernel_rfl) (by exact fun _ _ _ h => h) (Or.inl ⟨by rfl, ?hy0q⟩) hS0 ?r0q
                              case hy0q => (intro w hSw; (try dsimp only at hSw); go_simp; try with_reducible rfl)
                              (try simp only [Act.put]); (try simp only [List.setIfInBounds_toArray]); (repeat (first | simp only [List.set_cons_succ] | simp only [List.set_cons_zero]))
                              refine wpTo_take (i := 1) (v := ?v1q) (show _ = some _ by simp only [List.getElem?_toArray, List.getElem?_cons_succ, List.getElem?_cons_zero]; exact rfl) (by kernel_rfl) (by kernel_rfl) (by kernel_rfl) (by kernel_rfl) (by exact fun _ _ _ h => h) (Or.inl ⟨by rfl, ?hy1q⟩) hS0 ?r1q
                              case hy1q => (intro w hSw; (try dsimp only at hSw); go_simp; try with_reducible rfl)
                              (try simp only [Act.put]); (try simp only [List.setIfInBounds_toArray]); (repeat (first | simp only [List.set_cons_succ] | simp only [List.set_cons_zero]))
                              refine wpTo_take (i := 2) (v := ?v2q) (show _ = some _ by simp only [List.getElem?_toArray, List.getElem?_cons_succ, List.getElem?_cons_zero]; exact rfl) (by kernel_rfl) (by kernel_rfl) (by kernel_rfl) (by kernel_rfl) (by exact fun _ _ _ h => h) (Or.inl ⟨by rfl, ?hy2q⟩) hS0 ?r2q
                              case hy2q => (intro w hSw; (try dsimp only at hSw); go_simp; try with_reducible rfl)
                              (try simp only [Act.put]); (try simp only [List.setIfInBounds_toArray]); (repeat (first | simp only [List.set_cons_succ] | simp only [List.set_cons_zero]))
                              refine wpTo_take (i := 3) (v := ?v3q) (show _ = some _ by simp only [List.getElem?_toArray, List.getElem?_cons_succ, List.getElem?_cons_zero]; exact rfl) (by kernel_rfl) (by kernel_rfl) (by kernel_rfl) (by kernel_rfl) (by exact fun _ _ _ h => h) (Or.inl ⟨by rfl, ?hy3q⟩) hS0 ?r3q
                              case hy3q => (intro w hSw; (try dsimp only at hSw); go_simp; try with_reducible rfl)
                              (try simp only [Act.put]); (try simp only [List.setIfInBounds_toArray]); (repeat (first | simp only [List.set_cons_succ] | simp only [List.set_cons_zero]))
                              refine wpTo_take (i := 4) (v := ?v4q) (show _ = some _ by simp only [List.getElem?_toArray, List.getElem?_cons_succ, List.getElem?_cons_zero]; exact rfl) (by kernel_rfl) (by kernel_rfl) (by kernel_rfl) (by kernel_rfl) (by exact fun _ _ _ h => h) (Or.inl ⟨by rfl, ?hy4q⟩) hS0 ?r4q
                              case hy4q => (intro w hSw; (try dsimp only at hSw); have hcc := (hSw.cell _).trans cx; go_simp; try with_reducible rfl)
                              (try simp only [Act.put]); (try simp only [List.setIfInBounds_toArray]); (repeat (first | simp only [List.set_cons_succ] | simp only [List.set_cons_zero]))
                              refine wpTo_take (i := 5) (show _ = some _ by simp only [List.getElem?_toArray, List.getElem?_cons_succ, List.getElem?_cons_zero]; exact rfl) (by kernel_rfl) (by kernel_rfl) (by kernel_rfl) (by kernel_rfl) (by exact fun _ _ _ h => h) (yieldsIf_load_mid (by rfl) 39 (.tmp 17) rfl g4 0 rfl (sb S) _ (fun v h => (h.blk b4).whole) Try.underlying39 rfl (by rw [sb_length]; kernel_rfl)) hS0 ?_
                              (try simp only [Act.put]); (try simp only [List.setIfInBounds_toArray]); (repeat (first | simp only [List.set_cons_succ] | simp only [List.set_cons_zero]))
                              refine wpTo_take (i := 6) (v := ?v6q) (show _ = some _ by simp only [List.getElem?_toArray, List.getElem?_cons_succ, List.getElem?_cons_zero]; exact rfl) (by kernel_rfl) (by kernel_rfl) (by kernel_rfl) (by kernel_rfl) (by exact fun _ _ _ h => h) (Or.inl ⟨by rfl, ?hy6q⟩) hS0 ?r6q
                              case hy6q => (intro w hSw; (try dsimp only at hSw); go_simp; try with_reducible rfl)
                              (try simp only [Act.put]); (try simp only [List.setIfInBounds_toArray]); (repeat (first | simp only [List.set_cons_succ] | simp only [List.set_cons_zero]))
                              refine wpTo_last (by kernel_rfl) (show _ = some _ by simp only [List.getElem?_toArray, List.getElem?_cons_succ, List.getElem?_cons_zero]; exact rfl) (by kernel_rfl) (fun K hK => ?_)
                              rw [if_pos (by rfl)]
                              refine put_row _ _ rfl H k _ (hS0.row hH4) i hik S rfl rfl (fun hR5 => ?_)
                              refine hK.out _ _ ?_
                              clear hK K
                              (try simp only [Act.put]); (try simp only [List.setIfInBounds_toArray]); (repeat (first | simp only [List.set_cons_succ] | simp only [List.set_cons_zero]))
                              have hF6 := (Fr.drew hF4).setCells H (i * 512) (sb S) (.inl rfl)
                              go_wp2_with fail
                              go_roundw
                              case rel => exact ⟨j + 1, by omega, by go_num, hF6, by rw [← HH.out]; exact hR5⟩
                              case measure => simp [intOf]; omega
                          · have hiI : ¬ (i : Int) < k := by omega
                            have HH : Hid (kept d (zs0.take (j + 1)) = kept d (zs0.take j)) := by
                              show _ = _
                              rw [HTS.out, kept_miss d _ (i : Int) ((wl_ky d.waits i).trans (hL7.low i (by omega)))]
                            go_wp2_with fail
                            go_roundw
                            case rel => exact ⟨j + 1, by omega, by go_num, hF8, by rw [HH.out]; exact hH8⟩
                            case measure => simp [intOf]; omega
                        · have HH : Hid (kept d (zs0.take (j + 1)) = kept d (zs0.take j)) := by
                            show _ = _
                            rw [HTS.out, kept_miss d _ x (wl_neg d.waits x (by omega))]
                          go_wp2_with fail
                          go_roundw
                          case rel => exact ⟨j + 1, by omega, by go_num, hF8, by rw [HH.out]; exact hH8⟩
                          case measure => simp [intOf]; omega
                    · have hjI : ¬ (j : Int) < zn := by omega
                      have ej : j = zn := by omega
                      rw [ej, List.take_of_length_le (by omega)] at hH8
                      have hL8 := hL7.fr hF8 (fun x hx hy => hfH (hx ▸ hy))
                      clear hF8 ej hL7 hB7 hH7 hG8
                      go_wp2_with fail
                      go_at_call 24; refine (off_ok _ r f m cap d hL8).mono ?_; rintro e v1 ⟨rfl, m1, hm1, hL1, hF1⟩
                      have hB1 := hB8.trans (hF1.below (b := w.heap.size) (fp_ge hr hf hm) hB8.size)
                      have hmm := turn_ge hm hm1 hB8.size
                      have hH1 := hH8.fr hF1 hfH
                      have hnh1 := off_turn hfH hm1 hH8.lt
                      have hx := ints_side hZ hB1 (fp_ge hr hf hmm)
                      have hde : Calls Try.prog 20 #[.pointer (some ⟨r, 0, none⟩)] v1 fun e w' => e = .returned (.bool true) ∧ v1 = w' := dead_any _ r f m1 cap d.goOff hL1
                      go_wp2_with fail
                      go_at_call 20; refine hde.mono ?_; rintro e w' ⟨rfl, rfl⟩
                      go_wp2_with fail
                      go_at_call 21; refine (on_ok _ r f m1 cap d.goOff hL1 rfl zo zn zc zs0 hx.1 hx.2 (by unfold maxLen at hzn; omega)).mono ?_; rintro e v2 ⟨rfl, m2, hm2, hL2, hF2⟩
                      have hB2 := hB1.trans (hF2.below (b := w.heap.size) (fp_ge hr hf hmm) hB1.size)
                      have hH2 := hH1.fr hF2 hnh1
                      have hpd : (d.goOff.on zs0).pend = [] := pend_none _ rfl
                      have hde2 : Calls Try.prog 20 #[.pointer (some ⟨r, 0, none⟩)] v2 fun e w' => e = .returned (.bool false) ∧ v2 = w' := dead_any _ r f m2 cap (d.goOff.on zs0) hL2
                      go_wp2_with fail
                      go_at_call 20; refine hde2.mono ?_; rintro e w' ⟨rfl, rfl⟩
                      go_wp2_with fail
                      go_at_call 25; refine (pending_any _ r f m2 cap _ hL2 (by have : (d.goOff.on zs0).writes = d.writes := rfl; omega)).mono ?_; rintro e v3 ⟨x1, rfl, p1, k3⟩
                      rw [hpd] at p1
                      obtain ⟨ao1, co1, rfl, p1, -, -, -⟩ := ints_of_own p1 (fun x h => by cases h)
                      have hL3 := hL2.next k3
                      have hB3 := hB2.trans (k3.mono hB2.size)
                      have hH3 : Rw v3 H k (kept d zs0) := hH2.fr (X := fun _ => False) (Fr.of_below k3 (Nat.le_refl _)) (fun h => h)
                      have hdn3 : (d.goOff.on zs0).n = k := hdn
                      have ho3 : (d.goOff.on zs0).off = false := rfl
                      have hat3 : ∀ i, (d.goOff.on zs0).at i = kept d zs0 i := fun i => rfl
                      have hla3 : (d.goOff.on zs0).lasts = kept d zs0 := rfl
                      obtain ⟨D, hD⟩ : ∃ D, D = d.goOff.on zs0 := ⟨_, rfl⟩
                      obtain ⟨F, hF⟩ : ∃ F, F = kept d zs0 := ⟨_, rfl⟩
                      rw [← hD] at hL3 hdn3 ho3 hat3 hla3
                      rw [← hF] at hH3 hat3 hla3
                      have HAT : Hid (∀ i, D.at i = F i) := hat3
                      have HLA : Hid (D.lasts = F) := hla3
                      clear hD hF hat3 hla3 p1 k3 hL2 hB2 hH2 hL1 hB1 hH1 hL8 hB8 hH8 hF1 hF2 hpd hde hde2 hx hw hdn
                      simp only [List.length_nil]
                      go_wp2_with fail
                      go_loopw [19] (fun v wr => ∃ (j : Nat), j ≤ k ∧ v = .int .i64 (j : Int) ∧ Lay wr r f m2 cap D ∧ Below w.heap.size w wr ∧ Rw wr H k F) (fun v _ => k - (intOf v).toNat)
                      case atStart => exact ⟨0, by omega, rfl, hL3, hB3, hH3⟩
                      case round =>
                        clear hL3 hB3 hH3
                        obtain ⟨j, hj, rfl, hL, hB, hRw⟩ := hrel
                        by_cases hjk : j < k
                        · have hjI : (j : Int) < k := by omega
                          obtain ⟨S, hS0⟩ : ∃ S, S = F j := ⟨_, rfl⟩
                          have hS : Hid (S = F j) := hS0
                          clear hS0
                          go_wp2_with fail
                          go_at_call 26; refine (read_ok _ r f m2 cap D hL j S ho3 (by omega) ((HAT.out j).trans hS.out.symm)).mono ?_; rintro e v3 ⟨rfl, k3⟩
                          have hL3 := hL.next k3
                          have hB3 := hB.trans (k3.mono hB.size)
                          have hR3 : Rw v3 H k F := hRw.fr (X := fun _ => False) (Fr.of_below k3 (Nat.le_refl _)) (fun h => h)
                          obtain ⟨b4, k4⟩ := boxed v3 S
                          have hL4 := hL3.next k4
                          have hB4 := hB3.trans (k4.mono hB3.size)
                          have hR4 : Rw _ H k F := hR3.fr (X := fun _ => False) (Fr.of_below k4 (Nat.le_refl _)) (fun h => h)
                          have hz := zero39
                          go_wp2_with (refine store_sec rfl _ _ rfl v3.heap.size zs S (Blk.new v3 39 (sb zs)) rfl rfl ?_; intro _)
                          obtain ⟨v4, hv4⟩ : ∃ U, U = ((v3.alloc (.cells (sb zs).toArray 39)).setRow v3.heap.size (sb S).toArray) := ⟨_, rfl⟩
                          obtain ⟨g4, hg4⟩ : ∃ g, g = v3.heap.size := ⟨_, rfl⟩
                          rw [← hv4] at b4 hL4 hB4 hR4 ⊢
                          rw [← hg4] at b4 ⊢
                          clear hv4 hg4 k3 k4 hL hB hRw hL3 hB3 hR3
                          have hLd := hL4.drew
                          have hRd : Rw v4.drew H k F := hR4.same rfl
                          have hR5 : ∀ v : World, Sm v4 v → v.rangeAt H (j * 512) (sb S) := fun v h => hS.out ▸ (h.row hR4).range hjk
                          have hR4 : Hid (∀ v : World, Sm v4 v → v.rangeAt H (j * 512) (sb S)) := hR5
                          have hq0 : Hid (∀ v : World, (Op.equalIn 10000 39 (.agg (sb S).toArray) (.agg (sb S).toArray)).run Try.prog v = .ok true v) := fun v => by
                            have := eq39 S S v
                            rw [decide_eq_true rfl] at this
                            exact this
                          have h0j : (0 : Int) ≤ j := by omega
                          clear hR5 hS
                          refine wp_region_to (fun v => Sm v4 v) 10 (by kernel_rfl) ?_
                          have hS0 := Sm.drew v4
                          refine wpTo_take (i := 0) (v := ?v0p) (show _ = some _ by simp only [List.getElem?_toArray, List.getElem?_cons_zero]; exact rfl) (by kernel_rfl) (by kernel_rfl) (by kernel_rfl) (by kernel_rfl) (by exact fun _ _ _ h => h) (Or.inl ⟨by rfl, ?hy0p⟩) hS0 ?r0p
                          case hy0p => (intro w hSw; (try dsimp only at hSw); go_simp; try with_reducible rfl)
                          (try simp only [Act.put]); (try simp only [List.setIfInBounds_toArray]); (repeat (first | simp only [List.set_cons_succ] | simp only [List.set_cons_zero]))
                          refine wpTo_take (i := 1) (v := ?v1p) (show _ = some _ by simp only [List.getElem?_toArray, List.getElem?_cons_succ, List.getElem?_cons_zero]; exact rfl) (by kernel_rfl) (by kernel_rfl) (by kernel_rfl) (by kernel_rfl) (by exact fun _ _ _ h => h) (Or.inl ⟨by rfl, ?hy1p⟩) hS0 ?r1p
                          case hy1p => (intro w hSw; (try dsimp only at hSw); go_simp; try with_reducible rfl)
                          (try simp only [Act.put]); (try simp only [List.setIfInBounds_toArray]); (repeat (first | simp only [List.set_cons_succ] | simp only [List.set_cons_zero]))
                          refine wpTo_take (i := 2) (v := ?v2p) (show _ = some _ by simp only [List.getElem?_toArray, List.getElem?_cons_succ, List.getElem?_cons_zero]; exact rfl) (by kernel_rfl) (by kernel_rfl) (by kernel_rfl) (by kernel_rfl) (by exact fun _ _ _ h => h) (Or.inl ⟨by rfl, ?hy2p⟩) hS0 ?r2p
                          case hy2p => (intro w hSw; (try dsimp only at hSw); go_simp; try with_reducible rfl)
                          (try simp only [Act.put]); (try simp only [List.setIfInBounds_toArray]); (repeat (first | simp only [List.set_cons_succ] | simp only [List.set_cons_zero]))
                          refine wpTo_take (i := 3) (show _ = some _ by simp only [List.getElem?_toArray, List.getElem?_cons_succ, List.getElem?_cons_zero]; exact rfl) (by kernel_rfl) (by kernel_rfl) (by kernel_rfl) (by kernel_rfl) (by exact fun _ _ _ h => h) (yieldsIf_load_mid (by rfl) 39 (.tmp 20) rfl g4 0 rfl (sb S) _ (fun v h => (h.blk b4).whole) Try.underlying39 rfl (by rw [sb_length]; kernel_rfl)) hS0 ?_
                          (try simp only [Act.put]); (try simp only [List.setIfInBounds_toArray]); (repeat (first | simp only [List.set_cons_succ] | simp only [List.set_cons_zero]))
                          refine wpTo_take (i := 4) (v := ?v4p) (show _ = some _ by simp only [List.getElem?_toArray, List.getElem?_cons_succ, List.getElem?_cons_zero]; exact rfl) (by kernel_rfl) (by kernel_rfl) (by kernel_rfl) (by kernel_rfl) (by exact fun _ _ _ h => h) (Or.inl ⟨by rfl, ?hy4p⟩) hS0 ?r4p
                          case hy4p => (intro w hSw; (try dsimp only at hSw); go_simp; try with_reducible rfl)
                          (try simp only [Act.put]); (try simp only [List.setIfInBounds_toArray]); (repeat (first | simp only [List.set_cons_succ] | simp only [List.set_cons_zero]))
                          refine wpTo_take (i := 5) (v := ?v5p) (show _ = some _ by simp only [List.getElem?_toArray, List.getElem?_cons_succ, List.getElem?_cons_zero]; exact rfl) (by kernel_rfl) (by kernel_rfl) (by kernel_rfl) (by kernel_rfl) (by exact fun _ _ _ h => h) (Or.inl ⟨by rfl, ?hy5p⟩) hS0 ?r5p
                          case hy5p => (intro w hSw; (try dsimp only at hSw); go_simp; try with_reducible rfl)
                          (try simp only [Act.put]); (try simp only [List.setIfInBounds_toArray]); (repeat (first | simp only [List.set_cons_succ] | simp only [List.set_cons_zero]))
                          refine wpTo_take (i := 6) (v := ?v6p) (show _ = some _ by simp only [List.getElem?_toArray, List.getElem?_cons_succ, List.getElem?_cons_zero]; exact rfl) (by kernel_rfl) (by kernel_rfl) (by kernel_rfl) (by kernel_rfl) (by exact fun _ _ _ h => h) (Or.inl ⟨by rfl, ?hy6p⟩) hS0 ?r6p
                          case hy6p => (intro w hSw; (try dsimp only at hSw); go_simp; try with_reducible rfl)
                          (try simp only [Act.put]); (try simp only [List.setIfInBounds_toArray]); (repeat (first | simp only [List.set_cons_succ] | simp only [List.set_cons_zero]))
                          refine wpTo_take (i := 7) (show _ = some _ by simp only [List.getElem?_toArray, List.getElem?_cons_succ, List.getElem?_cons_zero]; exact rfl) (by kernel_rfl) (by kernel_rfl) (by kernel_rfl) (by kernel_rfl) (by exact fun _ _ _ h => h) (yieldsIf_load_mid (by rfl) 39 (.tmp 209) rfl H (j * 512) rfl (sb S) _ (fun v h => hR4.out v h) Try.underlying39 rfl (by rw [sb_length]; kernel_rfl)) hS0 ?_
                          (try simp only [Act.put]); (try simp only [List.setIfInBounds_toArray]); (repeat (first | simp only [List.set_cons_succ] | simp only [List.set_cons_zero]))
                          refine wpTo_take (i := 8) (v := ?v8p) (show _ = some _ by simp only [List.getElem?_toArray, List.getElem?_cons_succ, List.getElem?_cons_zero]; exact rfl) (by kernel_rfl) (by kernel_rfl) (by kernel_rfl) (by kernel_rfl) (by exact fun _ _ _ h => h) (Or.inl ⟨by rfl, ?hy8p⟩) hS0 ?r8p
                          case hy8p => (intro w hSw; (try dsimp only at hSw); have hq := hq0.out; have hgd := guard39; go_simp; try with_reducible rfl)
                          (try simp only [Act.put]); (try simp only [List.setIfInBounds_toArray]); (repeat (first | simp only [List.set_cons_succ] | simp only [List.set_cons_zero]))
                          refine wpTo_take (i := 9) (v := ?v9p) (show _ = some _ by simp only [List.getElem?_toArray, List.getElem?_cons_succ, List.getElem?_cons_zero]; exact rfl) (by kernel_rfl) (by kernel_rfl) (by kernel_rfl) (by kernel_rfl) (by exact fun _ _ _ h => h) (Or.inl ⟨by rfl, ?hy9p⟩) hS0 ?r9p
                          case hy9p => (intro w hSw; (try dsimp only at hSw); go_simp; try with_reducible rfl)
                          (try simp only [Act.put]); (try simp only [List.setIfInBounds_toArray]); (repeat (first | simp only [List.set_cons_succ] | simp only [List.set_cons_zero]))
                          refine wpTo_done (by kernel_rfl) ?_
                          go_wp2_with fail
                          go_roundw
                          case rel => exact ⟨j + 1, by omega, by go_num, hLd, below_drewN hB4 1, hRd⟩
                          case measure => simp [intOf]; omega
                        · have hjI : ¬ (j : Int) < k := by omega
                          go_wp2_with fail
                          go_at_call 17; refine (sectors_any _ r f m2 cap D hL).mono ?_; rintro e x1 ⟨g2, c2, rfl, -, r2, k2⟩
                          have hB2 := hB.trans (k2.mono hB.size)
                          rw [HLA.out, hdn3] at r2
                          have hR2 : Rw x1 H k F := hRw.fr (X := fun _ => False) (Fr.of_below k2 (Nat.le_refl _)) (fun h => h)
                          try simp only [hdn3]
                          go_wp2_with fail
                          go_at_call 18; refine (eqSectors_same _ g2 H k c2 k F r2 hR2 (by omega)).mono ?_; rintro e x3 ⟨rfl, k3⟩
                          have hB3 := hB2.trans (k3.mono hB2.size)
                          go_wp2_with fail
                          go_at_call 12; refine (works_any _).mono ?_; rintro e x4 ⟨rfl, k4⟩
                          go_wp2_with fail
                          go_ret
                          exact ⟨rfl, hB3.trans (k4.mono hB3.size)⟩
set_option maxRecDepth 100000 in
set_option maxHeartbeats 2000000 in
theorem choice_all (w : World) (k : Int) (xo : Option Addr) (xn xc : Nat) (X : Nat → OpD) (zo : Option Addr) (zn zc : Nat) (zs0 : List Int) (hk : (Lit.int .i64 k).wf = true)
    (hxn : xn ≤ maxLen) (hX : Ops w xo xn X) (hZ : Ints w zo zn zs0) (hzn : zn ≤ maxLen) :
    Calls Try.prog 6 #[.int .i64 k, .slice xo xn xc, .slice zo zn zc] w fun e w' => e = .returned (.bool true) ∧ Below w.heap.size w w' := by
  by_cases h1 : k > 1000
  · go_enter Try.func6, Try.ntmps6
    go_wp2_with (go_at_call 12; refine (works_any _).mono ?_; rintro e x4 ⟨rfl, k4⟩)
    go_ret
    exact ⟨rfl, k4⟩
  · by_cases h2 : 1 ≤ k
    · obtain ⟨m, rfl⟩ := Int.eq_ofNat_of_zero_le (show 0 ≤ k by omega)
      exact choice_walk w m (by omega) (by omega) xo xn xc X zo zn zc zs0 hxn hX hZ hzn
    · have hb := fun v => new_bad k v (by omega)
      have := wf_lt hk
      go_enter Try.func6, Try.ntmps6
      go_wp2_with fail
      go_at_call 10; refine (hb _).mono ?_; rintro e w' ⟨rfl, rfl⟩
      go_wp2_with fail
      go_at_call 12; refine (works_any _).mono ?_; rintro e x4 ⟨rfl, k4⟩
      go_wp2_with fail
      go_ret
      exact ⟨rfl, k4⟩
end Go.Proofs.Yteimfnnkjhopdaa
