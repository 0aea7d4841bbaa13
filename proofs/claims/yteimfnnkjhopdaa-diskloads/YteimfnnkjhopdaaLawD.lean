/- DiskLoads: a disk holds what it is loaded of, as memory of its own. -/
import Derived.Test.YteimfnnkjhopdaaLoad
import Derived.Test.YteimfnnkjhopdaaLast2
import Derived.Deep.DeepCutAuto
namespace Go.Proofs.Yteimfnnkjhopdaa
open Go.RowKit

/-- Texts that came in. -/
structure Txts (w : World) (ao : Option Addr) (n c : Nat) (X : Nat → ByteArray) : Prop where
  bare : ao = none → n = 0 ∧ c = 0
  cell : ∀ ad, ao = some ad → ∀ j, j < n → w.cell? (ad.add j) = some (.string (X j))
  len : ∀ j, j < n → (X j).size ≤ maxLen
theorem Txts.next {w w' : World} {ao : Option Addr} {n c : Nat} {X : Nat → ByteArray} (h : Txts w ao n c X) (hb : Below w.heap.size w w') : Txts w' ao n c X := ⟨h.bare, fun ad had j hj => cell_later hb (h.cell ad had j hj), h.len⟩
theorem own_next {w w' : World} {B : Nat} {e : TypeId} {size : Nat} {v : Value} {n : Nat} {xs : List Value} (h : w.ownsRow B e size v n xs) (hb : Below w.heap.size w w') : w'.ownsRow B e size v n xs := by
  obtain ⟨h1, h2 | ⟨g, cap, cur, h3, h4, h5, h6⟩⟩ := h
  · exact ⟨h1, .inl h2⟩
  · exact ⟨h1, .inr ⟨g, cap, cur, h3, h4, (hb.block g (lt_of_block h5)).trans h5, h6⟩⟩
theorem own_secs {w : World} {B n : Nat} {v : Value} {F : Nat → Sec} (h : w.ownsRow B 39 512 v n (flat n F)) (hn : 1 ≤ n) : ∃ g cap, v = .slice (some ⟨g, 0, none⟩) n cap ∧ Rw w g n F ∧ B ≤ g := by
  obtain ⟨_, h2 | ⟨g, cap, cur, rfl, hg, hh, _, _, _, ht⟩⟩ := h
  · exact absurd h2.2 (by omega)
  · exact ⟨g, cap, rfl, rw_of_flat hh ht, hg⟩
section
variable {B B' : Nat} {w w' : World} {r f m cap q x y z : Nat} {da db : St}
theorem Pair.low (h : Pair B w r f m cap da q x y z db) (hb : B' ≤ B) : Pair B' w r f m cap da q x y z db := ⟨h.a, h.b, h.dis, fun k hk => Nat.le_trans hb (h.ga k hk), fun k hk => Nat.le_trans hb (h.gb k hk)⟩
theorem Pair.fr {X : Nat → Prop} (h : Pair B w r f m cap da q x y z db) (hf : Fr X w w') (h1 : ∀ k, X k → ¬ fp r f m k) (h2 : ∀ k, X k → ¬ rfp q x y z k) : Pair B w' r f m cap da q x y z db := ⟨h.a.fr hf h1, h.b.fr hf h2, h.dis, h.ga, h.gb⟩
end
theorem pair_of {w w1 w2 : World} {r f m cap q x y z : Nat} {d e : St} (hr : w.heap.size ≤ r) (hf : w.heap.size ≤ f) (hm : w.heap.size ≤ m) (hL : Lay w1 r f m cap d) (hB : Below w.heap.size w w1) (h1 : w1.heap.size ≤ q) (h2 : w1.heap.size ≤ x) (h3 : w1.heap.size ≤ y) (h4 : w1.heap.size ≤ z) (hR : RLay w2 q x y z e) (hB2 : Below w1.heap.size w1 w2) : Pair w.heap.size w2 r f m cap d q x y z e := by
  have hs := hB.size
  have hlt := fp_lt hL
  refine ⟨hL.next hB2, hR, fun j hj hj2 => ?_, fp_ge hr hf hm, fun j hj => ?_⟩
  · have := hlt j hj
    rcases hj2 with rfl | rfl | rfl | rfl <;> omega
  · rcases hj with rfl | rfl | rfl | rfl <;> omega
set_option maxRecDepth 100000 in
set_option maxHeartbeats 16000000 in
theorem loads_walk (w : World) (uo : Option Addr) (tn tc : Nat) (X : Nat → ByteArray) (hT : Txts w uo tn tc X) (htn : tn ≤ 300) (yo : Option Addr) (yn yc : Nat) (Y : Nat → OpD) (hyn : yn ≤ maxLen) (hY : Ops w yo yn Y) (hYZ : ∀ i, i < yn → (Y i).kn ≤ 17592186043904) :
    Calls Try.prog 4 #[.slice uo tn tc, .slice yo yn yc] w fun e w' => e = .returned (.bool true) ∧ Below w.heap.size w w' := by
  have hyI : (yn : Int) ≤ 9223372036854775807 := by unfold maxLen at hyn; omega
  have htI : ¬ (tn : Int) > 300 := by omega
  obtain ⟨F, hF⟩ : ∃ F : Nat → Sec, F = fun i => textSec (X i) := ⟨_, rfl⟩
  have HF : Hid (∀ i, F i = textSec (X i)) := fun i => by rw [hF]
  clear hF
  have hO0 : w.ownsRow w.heap.size 39 512 (.slice none 0 0) 0 (flat 0 F) := World.ownsRow_nil _ _ _ _
  go_enter Try.func4, Try.ntmps4
  go_wp2_with fail
  go_loopw [5, 6] (fun u v wr => ∃ (j : Nat), j ≤ tn ∧ v = .int .i64 (j : Int) ∧ wr.ownsRow w.heap.size 39 512 u j (flat j F) ∧ Hid (j = 0 → u = .slice none 0 0) ∧ Below w.heap.size w wr) (fun _ v _ => tn - (intOf v).toNat)
  case atStart => exact ⟨0, by omega, rfl, hO0, fun _ => rfl, Below.refl _ _⟩
  case round =>
    clear hO0
    obtain ⟨j, hj, rfl, hO, hu0, hB⟩ := hrel
    by_cases hi : j < tn
    · have hjI : (j : Int) < tn := by omega
      cases uo with
      | none => have := (hT.bare rfl).1; omega
      | some ad =>
        have cx := (hT.next hB).cell ad rfl j hi
        have hxl := hT.len j hi
        obtain ⟨S, hS⟩ : ∃ S, S = textSec (X j) := ⟨_, rfl⟩
        have tS := fun v => text_any (X j) hxl v
        rw [← hS] at tS
        have HFj : Hid (F j = S) := (HF.out j).trans hS.symm
        obtain ⟨t, ht⟩ : ∃ t, t = X j := ⟨_, rfl⟩
        rw [← ht] at tS cx
        have TS : Hid (∀ v, Calls Try.prog 14 #[.string t] v fun e w' => e = .returned (.agg (sb S).toArray) ∧ Below v.heap.size v w') := tS
        clear ht hS tS hxl
        have tok0 : True := trivial
        go_wp2_with (first
          | (have _t := tok0; go_at_call 14; refine (TS.out _).mono ?_; rintro e v1 ⟨rfl, kk⟩
             have hB1 := hB.trans (kk.mono hB.size)
             have hO1 := own_next hO kk
             clear tok0 _t kk; have tok1 : True := trivial)
          | (have _t := tok1; refine build_sec rfl _ rfl S rfl ?_
             have hC2 : Blk (v1.alloc (.cells (sb S).toArray 39)) v1.heap.size 39 (sb S) := Blk.new v1 39 (sb S)
             have hO2 : (v1.alloc (.cells (sb S).toArray 39)).ownsRow w.heap.size 39 512 _ j (flat j F) := hO1.alloc _
             have hB2 : Below w.heap.size w (v1.alloc (.cells (sb S).toArray 39)) := hB1.alloc hB1.size _
             have hS2 := hB2.size
             obtain ⟨v2, hv2⟩ : ∃ U, U = v1.alloc (.cells (sb S).toArray 39) := ⟨_, rfl⟩
             obtain ⟨g2, hg2⟩ : ∃ g, g = v1.heap.size := ⟨_, rfl⟩
             rw [← hv2] at hC2 hO2 hB2 hS2 ⊢
             rw [← hg2] at hC2 ⊢
             clear tok1 _t hv2 hg2 hO1 hB1; have tok2 : True := trivial)
          | (have _t := tok2; at_builtin; refine push_sec rfl _ _ rfl w.heap.size _ j F rfl hO2 g2 S rfl hC2 (by omega) hS2 HFj.out ?_; intro u3 w3 hO3 hg3; clear tok2 _t))
        have hB3 := hB2.grown hg3 hS2 (fun k hk => (hO2.lt k hk).1)
        go_roundw
        case rel => exact ⟨j + 1, by omega, by go_num, hO3, fun e => by omega, hB3⟩
        case measure => simp [intOf]; omega
    · have hjI : ¬ (j : Int) < tn := by omega
      have ej : j = tn := by omega
      subst ej
      obtain ⟨tn, etn⟩ : ∃ t, t = j := ⟨_, rfl⟩
      subst etn
      by_cases ht0 : tn = 0
      · have := hu0.out ht0
        subst this ht0
        clear hO hu0
        go_wp2_with fail
        go_at_call 15; refine (load_bad _ 0).mono ?_; rintro e w' ⟨rfl, rfl⟩
        go_wp2_with fail
        go_at_call 16; refine (rload_bad _ 0).mono ?_; rintro e w' ⟨rfl, rfl⟩
        go_wp2_with fail
        go_at_call 12; refine (works_any _).mono ?_; rintro e x4 ⟨rfl, k4⟩
        go_wp2_with fail
        go_ret
        exact ⟨rfl, hB.trans (k4.mono hB.size)⟩
      · obtain ⟨g, gc, hu, hRg, hge⟩ := own_secs hO (by omega)
        subst hu
        clear hO hu0 hT
        go_wp2_with fail
        go_at_call 15; refine (load_any _ g tn gc F hRg (by omega) (by omega)).mono ?_; rintro e v1 ⟨r, rfl, hr, f, m, cap, hf, hm, hL, hB1⟩
        have hR1 : Rw v1 g tn F := hRg.fr (X := fun _ => False) (Fr.of_below hB1 (Nat.le_refl _)) (fun h => h)
        go_wp2_with fail
        go_at_call 16; refine (rload_any _ g tn gc F hR1 (by omega) (by omega)).mono ?_; rintro e v2 ⟨q, rfl, hq, x, y, z, hx, hy, hz, hR, hB2⟩
        have hP0 := pair_of hr hf hm hL hB1 hq hx hy hz hR hB2
        have hnA : ¬ fp r f m g := fun h => by have := hP0.ga g h; have := hRg.lt; omega
        have hnB : ¬ rfp q x y z g := fun h => by have := hP0.gb g h; have := hRg.lt; omega
        have hP := hP0.low hB.size
        have hR2 : Rw v2 g tn F := hR1.fr (X := fun _ => False) (Fr.of_below hB2 (Nat.le_refl _)) (fun h => h)
        have hBB := (hB.trans (hB1.mono hB.size)).trans (hB2.mono (Nat.le_trans hB.size hB1.size))
        clear hB hRg hP0 hR1 hr hf hm hL hB1 hq hx hy hz hR hB2
        have hB := hBB
        have hRg := hR2
        clear hBB hR2
        obtain ⟨C, hC⟩ : ∃ C, C = textSec ⟨#[111, 118, 101, 114]⟩ := ⟨_, rfl⟩
        have tC := fun v => text_any ⟨#[111, 118, 101, 114]⟩ (by decide) v
        rw [← hC] at tC
        have TC : Hid (∀ v, Calls Try.prog 14 #[.string ⟨#[111, 118, 101, 114]⟩] v fun e w' => e = .returned (.agg (sb C).toArray) ∧ Below v.heap.size v w') := tC
        clear hC tC
        go_wp2_with fail
        go_loopw [11] (fun v wr => ∃ (j : Nat) (F' : Nat → Sec), j ≤ tn ∧ v = .int .i64 (j : Int) ∧ Pair w.heap.size wr r f m cap (St.start tn F) q x y z (St.start tn F) ∧ Below w.heap.size w wr ∧ Rw wr g tn F') (fun v _ => tn - (intOf v).toNat)
        case atStart => exact ⟨0, F, by omega, rfl, hP, hB, hRg⟩
        case round =>
          clear hP hB hRg
          obtain ⟨j, F', hj, rfl, hP, hB, hRg⟩ := hrel
          by_cases hi : j < tn
          · have hjI : (j : Int) < tn := by omega
            have h0j : (0 : Int) ≤ j := by omega
            have tok0 : True := trivial
            go_wp2_with (first
              | (have _t := tok0; go_at_call 14; refine (TC.out _).mono ?_; rintro e v1 ⟨rfl, kk⟩
                 have hP1 := hP.next kk
                 have hB1 := hB.trans (kk.mono hB.size)
                 have hR1 : Rw v1 g tn F' := hRg.fr (X := fun _ => False) (Fr.of_below kk (Nat.le_refl _)) (fun h => h)
                 clear tok0 _t kk; have tok1 : True := trivial)
              | (have _t := tok1; refine put_row_l rfl _ _ rfl g tn F' hR1 j hi C rfl rfl ?_; intro hR2; clear tok1 _t))
            have hF := (Fr.refl (fun k => k = g) v1).setCells g (j * 512) (sb C) (.inl rfl)
            have hP2 := hP1.fr hF (fun k hk h => hnA (hk ▸ h)) (fun k hk h => hnB (hk ▸ h))
            have hB2 := hB1.trans (hF.below (b := w.heap.size) (fun k hk => by subst hk; exact hge) hB1.size)
            go_roundw
            case rel => exact ⟨j + 1, _, by omega, by go_num, hP2, hB2, hR2⟩
            case measure => simp [intOf]; omega
          · have hjI : ¬ (j : Int) < tn := by omega
            clear hRg hnA hnB hge
            have k0 := hP.b.c0
            go_wp2_with fail
            go_at_call 17; refine (sectors_any _ r f m cap _ hP.a).mono ?_; rintro e v1 ⟨g2, c2, rfl, hg2, hR2, kk⟩
            have hR2 : Rw v1 g2 tn F := hR2
            have hP1 := hP.next kk
            have hB1 := hB.trans (kk.mono hB.size)
            have hnA : ¬ fp r f m g2 := fun h => by have := fp_lt hP.a g2 h; omega
            have hnB : ¬ rfp q x y z g2 := fun h => by have := hP.b.lt g2 h; omega
            have hge : w.heap.size ≤ g2 := Nat.le_trans hB.size hg2
            clear hP hB kk k0 hg2
            have hP := hP1
            have hB := hB1
            have hRg := hR2
            have k0 : v1.cell? ⟨q, 0, none⟩ = some (.slice (some ⟨x, 0, none⟩) tn tn) := hP.b.c0
            have hRx : Rw v1 x tn F := hP.b.row
            simp only [show (St.start tn F).n = tn from rfl]
            go_wp2_with fail
            go_at_call 18; refine (eqSectors_same _ g2 x tn c2 tn F hR2 hRx (by omega)).mono ?_; rintro e v3 ⟨rfl, kk⟩
            have hP3 := hP1.next kk
            have hB3 := hB1.trans (kk.mono hB1.size)
            have hR3 : Rw v3 g2 tn F := hR2.fr (X := fun _ => False) (Fr.of_below kk (Nat.le_refl _)) (fun h => h)
            clear hP hB hRg hP1 hB1 hR2 hRx k0 kk
            have hP := hP3
            have hB := hB3
            have hRg := hR3
            clear hP3 hB3 hR3
            obtain ⟨C, hC⟩ : ∃ C, C = textSec ⟨#[116, 111, 108, 100]⟩ := ⟨_, rfl⟩
            have tC := fun v => text_any ⟨#[116, 111, 108, 100]⟩ (by decide) v
            rw [← hC] at tC
            have TD : Hid (∀ v, Calls Try.prog 14 #[.string ⟨#[116, 111, 108, 100]⟩] v fun e w' => e = .returned (.agg (sb C).toArray) ∧ Below v.heap.size v w') := tC
            clear hC tC
            go_wp2_with fail
            go_loopw [13] (fun v wr => ∃ (j : Nat) (F' : Nat → Sec), j ≤ tn ∧ v = .int .i64 (j : Int) ∧ Pair w.heap.size wr r f m cap (St.start tn F) q x y z (St.start tn F) ∧ Below w.heap.size w wr ∧ Rw wr g2 tn F') (fun v _ => tn - (intOf v).toNat)
            case atStart => exact ⟨0, F, by omega, rfl, hP, hB, hRg⟩
            case round =>
              clear hP hB hRg
              obtain ⟨j, F', hj, rfl, hP, hB, hRg⟩ := hrel
              by_cases hi : j < tn
              · have hjI : (j : Int) < tn := by omega
                have h0j : (0 : Int) ≤ j := by omega
                have tok0 : True := trivial
                go_wp2_with (first
                  | (have _t := tok0; go_at_call 14; refine (TD.out _).mono ?_; rintro e v1 ⟨rfl, kk⟩
                     have hP1 := hP.next kk
                     have hB1 := hB.trans (kk.mono hB.size)
                     have hR1 : Rw v1 g2 tn F' := hRg.fr (X := fun _ => False) (Fr.of_below kk (Nat.le_refl _)) (fun h => h)
                     clear tok0 _t kk; have tok1 : True := trivial)
                  | (have _t := tok1; refine put_row_l rfl _ _ rfl g2 tn F' hR1 j hi C rfl rfl ?_; intro hR2; clear tok1 _t))
                have hF := (Fr.refl (fun k => k = g2) v1).setCells g2 (j * 512) (sb C) (.inl rfl)
                have hP2 := hP1.fr hF (fun k hk h => hnA (hk ▸ h)) (fun k hk h => hnB (hk ▸ h))
                have hB2 := hB1.trans (hF.below (b := w.heap.size) (fun k hk => by subst hk; exact hge) hB1.size)
                go_roundw
                case rel => exact ⟨j + 1, _, by omega, by go_num, hP2, hB2, hR2⟩
                case measure => simp [intOf]; omega
              · have hjI : ¬ (j : Int) < tn := by omega
                clear hRg hnA hnB hge
                go_wp2_with fail
                go_loopw [14] (fun v wr => ∃ (j : Nat) (d : St) (m : Nat), j ≤ yn ∧ j ≤ 300 ∧ v = .int .i64 (j : Int) ∧ Pair w.heap.size wr r f m cap d q x y z d ∧ Below w.heap.size w wr ∧ d.writes ≤ j ∧ d.flushes ≤ j) (fun v _ => yn - (intOf v).toNat)
                case atStart => exact ⟨0, _, m, by omega, by omega, rfl, hP, hB, Nat.le_refl _, Nat.le_refl _⟩
                case round =>
                  clear hP hB
                  obtain ⟨j, d, m, hj, hj3, rfl, hP, hB, hw, hfl⟩ := hrel
                  go_upto_region 26 with (fail)
                  go_cut [92] from 85 to 102 (fun b wc => b = .bool (decide (j < yn ∧ j < 300)) ∧ wc = wr)
                  case first =>
                    rcases two_ways j yn with ⟨h1, h2⟩ | ⟨h1, h2⟩ | h1
                    · have y1 : (j : Int) < yn := by omega
                      have y2 : (j : Int) < 300 := by omega
                      go_wp2_with fail
                      go_meet
                      case rel => exact ⟨by simp [h1, h2], rfl⟩
                    · have y1 : (j : Int) < yn := by omega
                      have y2 : ¬ (j : Int) < 300 := by omega
                      go_wp2_with fail
                      go_meet
                      case rel => exact ⟨by simp [h1, h2], rfl⟩
                    · have y1 : ¬ (j : Int) < yn := by omega
                      go_wp2_with fail
                      go_meet
                      case rel => exact ⟨by simp [h1], rfl⟩
                  case rest =>
                    obtain ⟨rfl, rfl⟩ := hcut
                    by_cases hgo : j < yn ∧ j < 300
                    · rw [decide_eq_true hgo]
                      obtain ⟨h1, h2⟩ := hgo
                      cases yo with
                      | none => have := hY.bare rfl; omega
                      | some ad =>
                        have y1 : (j : Int) < yn := by omega
                        have hg := hY.good j h1
                        have hkn := hYZ j h1
                        obtain ⟨p0, p1, p2, p3⟩ := (hY.next hB).cell ad rfl j h1
                        obtain ⟨o, eo⟩ : ∃ o, o = Y j := ⟨_, rfl⟩
                        rw [← eo] at hg p0 p1 p2 p3 hkn
                        clear eo
                        obtain ⟨oa, oi, ot, ko, kn, kc, ks⟩ := o
                        have hac := act_counts d oa oi ot ks
                        go_wp2_with (go_at_call 13; refine (does_any w.heap.size _ r f m cap q x y z d hP hB.size oa oi ot ko kn kc ks hg.text (wf_lt hg.wf).2 (hg.ints.next hB) (fun ad e h0 => by subst e; exact hg.ints.lt h0) hg.bare hkn (by omega) (by omega)).mono ?_; rintro e v1 ⟨rfl, m1, hP1, hF1⟩)
                        go_roundw
                        case rel => exact ⟨j + 1, _, m1, by omega, by omega, by go_num, hP1, hB.trans hF1, by omega, by omega⟩
                        case measure => simp [intOf]; omega
                    · rw [decide_eq_false hgo]
                      clear hgo
                      have n0 : ∀ W : World, Ints W none 0 [] := fun W => ⟨rfl, fun _ => rfl, fun _ h => (by cases h), fun _ h => (by cases h)⟩
                      go_wp2_with fail
                      go_at_call 13; refine (does_any w.heap.size _ r f m cap q x y z d hP hB.size 8 0 ⟨#[]⟩ none 0 0 [] (by decide) (by decide) (n0 _) (fun ad e => by cases e) (fun _ => rfl) (by decide) (by omega) (by omega)).mono ?_; rintro e v2 ⟨rfl, m2, hP2, hF2⟩
                      have hB2 := hB.trans hF2
                      go_wp2_with fail
                      go_at_call 12; refine (works_any _).mono ?_; rintro e x4 ⟨rfl, k4⟩
                      go_wp2_with fail
                      go_ret
                      exact ⟨rfl, hB2.trans (k4.mono hB2.size)⟩
set_option maxRecDepth 100000 in
set_option maxHeartbeats 2000000 in
theorem loads_all (w : World) (uo : Option Addr) (tn tc : Nat) (X : Nat → ByteArray) (hT : Txts w uo tn tc X) (htm : tn ≤ maxLen) (yo : Option Addr) (yn yc : Nat) (Y : Nat → OpD) (hyn : yn ≤ maxLen) (hY : Ops w yo yn Y) (hYZ : ∀ i, i < yn → (Y i).kn ≤ 17592186043904) :
    Calls Try.prog 4 #[.slice uo tn tc, .slice yo yn yc] w fun e w' => e = .returned (.bool true) ∧ Below w.heap.size w w' := by
  by_cases h : tn ≤ 300
  · exact loads_walk w uo tn tc X hT h yo yn yc Y hyn hY hYZ
  · have htI : (tn : Int) > 300 := by omega
    have htJ : (tn : Int) ≤ 9223372036854775807 := by unfold maxLen at htm; omega
    go_enter Try.func4, Try.ntmps4
    go_wp2_with (go_at_call 12; refine (works_any _).mono ?_; rintro e x4 ⟨rfl, k4⟩)
    go_ret
    exact ⟨rfl, k4⟩
end Go.Proofs.Yteimfnnkjhopdaa
