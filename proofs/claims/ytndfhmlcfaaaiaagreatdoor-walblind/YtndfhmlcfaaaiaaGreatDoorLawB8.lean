/- WalBlind: to read, to ask, to open again change no later answer. -/
import Derived.Test.YtndfhmlcfaaaiaaGreatDoorTwoL
import Derived.Deep.CutBlock
import Derived.Deep.DeepCutAuto
namespace Go.Proofs.YtndfhmlcfaaaiaaGreatDoor
open Go.RowKit

theorem imF_wf {po : Option Addr} {w : World} {pn : Nat} {Ps : List Int} (h : Ints w po pn Ps) (n sn : Nat) (S : Nat → ByteArray) : ∀ y ∈ (List.range n).map (imF Ps sn S), (Lit.int .i64 y.1).wf = true := by
  intro y hy
  obtain ⟨k, _, rfl⟩ := List.mem_map.1 hy
  show (Lit.int .i64 (Ps.getD k 0)).wf = true
  rw [List.getD_eq_getElem?_getD]
  cases hk : Ps[k]? with
  | none => rfl
  | some z => exact h.wf z (List.mem_of_getElem? hk)
theorem pend_none {d : St} (h : d.waits = fun _ => none) : d.pend = [] := by
  unfold St.pend
  rw [h]
  simp
set_option maxRecDepth 100000 in
set_option maxHeartbeats 4000000 in
theorem blind_walk (w : World) (ps pl : Int) (oo : Option Addr) (on oc : Nat) (O : Nat → Op8) (hT : Tabs w) (om : on ≤ maxLen) (ho : Ops8 w oo on O) :
    Calls Tryz.prog 4 #[.agg #[.int .i64 ps, .int .i64 pl], .slice oo on oc] w fun e w' => e = .returned (.bool true) ∧ Below w.heap.size w w' := by
  have hz31 := zero31
  obtain ⟨us, hus⟩ : ∃ us : List Value, us = [.int .i64 ps, .int .i64 pl] := ⟨_, rfl⟩
  have htd := fun v => tidy_any v ps pl
  have hbg0 := fun (B : Nat) (v : World) h1 h2 h3 h4 => begun_any B w v ps pl h1 h2 h3 h4
  have harg : (.agg #[.int .i64 ps, .int .i64 pl] : Value) = .agg us.toArray := by rw [hus]
  have hul : us.length = 2 := by rw [hus]; rfl
  rw [harg] at htd ⊢
  simp only [harg] at hbg0
  clear hus harg
  have hU0 := Blk.new w 59 us
  have kb := (Below.refl w.heap.size w).alloc (Nat.le_refl _) (.cells us.toArray 59)
  have hT0 := hT.next kb
  have h2 := hT.two
  have hl1 := td_lt pl
  have hl2 := td_lt ps
  have hl3 := tL_def pl
  have hl4 := tN_def ps pl
  obtain ⟨L, hL⟩ : ∃ L, L = tL pl := ⟨_, rfl⟩
  obtain ⟨M, hM⟩ : ∃ M, M = tN ps pl := ⟨_, rfl⟩
  obtain ⟨H, hH⟩ : ∃ H, H = td ps + 1 := ⟨_, rfl⟩
  rw [← hL, ← hM] at htd
  rw [← hL] at hl3 hl4
  rw [← hM] at hl4
  simp only [← hL, ← hH] at hbg0
  have b1 : 3 ≤ L := by omega
  have b2 : L ≤ 22 := by omega
  have b3 : 1 ≤ H := by omega
  have b4 : H ≤ 20 := by omega
  have hMe : M = 2 + L + H := by omega
  have ww0 : IntKind.i64.wrap ((M : Int) - 2) = (M : Int) - 2 := by rw [IntKind.wrap_i64]; omega
  have ww3 : IntKind.i64.wrap ((M : Int) - 2 - (L : Int)) = (H : Int) := by rw [IntKind.wrap_i64]; omega
  obtain ⟨B, hB⟩ : ∃ B, B = w.heap.size := ⟨_, rfl⟩
  have HB : Hid (B = w.heap.size) := hB
  have hs0 : B ≤ (w.alloc (.cells us.toArray 59)).heap.size := by rw [hB]; simp
  rw [← hB] at hU0 kb h2 ⊢
  have HO : Hid (∀ v, Below B w v → Ops8 v oo on O) := fun v hv => ho.next (by rw [← hB]; exact hv)
  have HOB : Hid (∀ j, j < on → ∀ ad, (O j).po = some ad → 0 < (O j).pn → ad.block < B) := fun j hj ad had h0 => by
    have hg := (ho.good j hj).ints
    rw [had] at hg
    rw [hB]
    exact hg.lt h0
  have HME : Hid (M = 2 + L + H) := hMe
  have om2 := om
  unfold maxLen at om2
  clear hB hT hl1 hl2 hl3 hl4 hL hM hH hMe ho HOB
  go_enter Tryz.func4, Tryz.ntmps4
  go_upto_region 1 with fail
  rw [← HB.out]
  obtain ⟨w0', hw0⟩ : ∃ u, u = w.alloc (.cells us.toArray 59) := ⟨_, rfl⟩
  rw [← hw0] at hU0 kb hT0 hs0 ⊢
  clear hw0
  go_upto_region 2 with (first
    | (refine wpList_load_mid rfl 59 _ rfl B 0 rfl us _ hU0.whole Tryz.underlying59 rfl (by rw [hul]; kernel_rfl) ?_)
    | (go_at_call 13; refine (htd _).mono ?_; rintro e w1 ⟨rfl, kb1⟩))
  have hU1 := hU0.next kb1
  have hbg := hbg0 B w1 (Nat.le_trans hs0 kb1.size) h2 (hT0.next kb1) (kb.trans (kb1.mono hs0))
  clear htd hU0 hT0 kb kb1 hs0
  go_upto_region 3 with (first
    | (refine wpList_load_mid rfl 59 _ rfl B 0 rfl us _ hU1.whole Tryz.underlying59 rfl (by rw [hul]; kernel_rfl) ?_)
    | (go_at_call 14; refine hbg.mono ?_; rintro e w2 ⟨q, r, mm, f, m, cap, x, d, rfl, hL2, hV2, hW2, hxL, hxH, ha2, kb2, hfp2, hlp2⟩))
  have hU2 := hU1.next kb2
  have hbg2 := hbg0 B w2 hL2.size h2 hL2.dl.t hL2.below
  clear hbg hbg0 hU1 kb2 hfp2 hlp2
  go_upto_region 4 with (first
    | (refine wpList_load_mid rfl 59 _ rfl B 0 rfl us _ hU2.whole Tryz.underlying59 rfl (by rw [hul]; kernel_rfl) ?_)
    | (go_at_call 14; refine hbg2.mono ?_; rintro e w3 ⟨q2, r2, mm2, f2, m2, cap2, x2, d2, rfl, hL3, hV3, hW3, hxL2, hxH2, ha3, kb3, hfp3, hlp3⟩))
  have hlt2 := hL2.dl.lt
  have hBI : BI B w w3 L H q r mm f m cap x d q2 r2 mm2 f2 m2 cap2 x2 d2 (2 + 5 * 0) (fun _ => zp) (fun _ => zp) := ⟨⟨hL2.next kb3, hL3, fun k hk hk2 => by
    have h1 := hlt2 k hk
    rcases hk2 with e | e
    · have := hfp3 k e; omega
    · have := hlp3 k e; omega⟩, hV2, hV3, hW2, hW3, hxL, hxH, hxL2, hxH2, ha2, ha3⟩
  clear hbg2 hU2 hL2 hL3 hV2 hV3 hW2 hW3 hxL hxH hxL2 hxH2 ha2 ha3 kb3 hfp3 hlp3 hlt2 hul h2
  go_upto_block 0 with fail
  go_cut [8] (fun ua wc => ∃ (q mm m : Nat) (x : Lg) (d : St) (mm2 m2 : Nat) (x2 : Lg) (d2 : St) (pg : Nat → Pg), ua = .pointer (some ⟨q, 0, none⟩) ∧ BI B w wc L H q r mm f m cap x d q2 r2 mm2 f2 m2 cap2 x2 d2 400 pg pg)
  case first =>
    go_wp2_with fail
    go_loopw [8, 11] (fun ua ui wr => ∃ (j q mm m : Nat) (x : Lg) (d : St) (mm2 m2 : Nat) (x2 : Lg) (d2 : St) (pg : Nat → Pg), j ≤ 60 ∧ j ≤ on ∧ ui = .int .i64 (j : Int) ∧ ua = .pointer (some ⟨q, 0, none⟩) ∧ BI B w wr L H q r mm f m cap x d q2 r2 mm2 f2 m2 cap2 x2 d2 (2 + 5 * j) pg pg) (fun _ ui _ => 60 - (intOf ui).toNat)
    case atStart => exact ⟨0, q, mm, m, _, d, mm2, m2, _, d2, _, by omega, by omega, rfl, rfl, hBI⟩
    case round =>
      clear hBI
      obtain ⟨j, q, mm, m, x, d, mm2, m2, x2, d2, pg, hj60, hjon, rfl, rfl, hI⟩ := hrel
      by_cases hj1 : j < on
      · have hjI : (j : Int) < (on : Int) := by omega
        by_cases hj2 : j < 60
        · have hjJ : (j : Int) < 60 := by omega
          cases oo with
          | none => exact absurd ((HO.out _ hI.t.a.below).bare rfl) (by omega)
          | some od =>
          have hOj := (HO.out _ hI.t.a.below).good j hj1
          obtain ⟨p0, p1, p2, p3⟩ := (HO.out _ hI.t.a.below).cell od rfl j hj1
          obtain ⟨o, eo⟩ : ∃ o, o = O j := ⟨_, rfl⟩
          rw [← eo] at p0 p1 p2 p3 hOj
          obtain ⟨oa, oi, po, pn, pc, Ps, so, sn, sc, S⟩ := o
          dsimp only at p0 p1 p2 p3
          have HOJ : Hid (∀ v, Below B w v → Op8.Good ⟨oa, oi, po, pn, pc, Ps, so, sn, sc, S⟩ v) := fun v hv => by rw [eo]; exact (HO.out v hv).good j hj1
          have p1' : wr.cell? ⟨(od.add (j * 4)).block, (od.add (j * 4)).off + 1, none⟩ = some (.int .i64 oi) := p1
          have p2' : wr.cell? ⟨(od.add (j * 4)).block, (od.add (j * 4)).off + 2, none⟩ = some (.slice po pn pc) := p2
          have p3' : wr.cell? ⟨(od.add (j * 4)).block, (od.add (j * 4)).off + 3, none⟩ = some (.slice so sn sc) := p3
          clear p1 p2 p3 eo
          have hpn := hOj.len
          have hoi : oi < 9223372036854775808 := by
            have h1 := hOj.wf
            simp [Lit.wf] at h1
            omega
          have HWF : Hid (∀ y ∈ (List.range (min pn 200)).map (imF Ps sn S), (Lit.int .i64 y.1).wf = true) := imF_wf hOj.ints _ _ _
          go_upto_region 10 with fail
          obtain ⟨os, hos⟩ : ∃ os : List Value, os = oc8 oa oi po pn pc so sn sc := ⟨_, rfl⟩
          have h0os : os[0]? = some (.int .i64 oa) := by rw [hos]; rfl
          have h1os : os[1]? = some (.int .i64 oi) := by rw [hos]; rfl
          have hol : os.length = 4 := by rw [hos]; rfl
          have HOS : Hid (os = oc8 oa oi po pn pc so sn sc) := hos
          have hcells : (#[Value.int IntKind.i64 oa, Value.int IntKind.i64 oi, Value.slice po pn pc, Value.slice so sn sc] : Array Value) = os.toArray := by rw [hos]; rfl
          have ha12 := hI.t.a.apart_new (Nat.le_refl wr.heap.size)
          have hb12 := hI.t.b.apart_new (Nat.le_refl wr.heap.size)
          have hO0 : BO B w (wr.alloc (.cells os.toArray 56)) L H q r mm f m cap x d q2 r2 mm2 f2 m2 cap2 x2 d2 (2 + 5 * j) pg pg wr.heap.size os := ⟨hI.next ((Below.refl _ wr).alloc (Nat.le_refl _) (.cells os.toArray 56)), Blk.new wr 56 os, fun e => e.elim ha12.1 ha12.2, fun e => e.elim hb12.1 hb12.2⟩
          obtain ⟨P12, hP12⟩ : ∃ P, P = wr.heap.size := ⟨_, rfl⟩
          rw [hcells]
          obtain ⟨u0, hu0⟩ : ∃ u, u = wr.alloc (.cells os.toArray 56) := ⟨_, rfl⟩
          rw [← hu0] at hO0 ⊢
          rw [← hP12] at hO0 ⊢
          clear hu0 hP12 hos hcells hI p0 p1' p2' p3' ha12 hb12 hOj
          have him : ∀ (u : World), Below B w u → Calls Tryz.prog 19 #[.agg os.toArray] u fun e w' => ∃ ao ci, e = .returned (.slice ao ((List.range (min pn 200)).map (imF Ps sn S)).length ci) ∧ Ims w' ao ((List.range (min pn 200)).map (imF Ps sn S)) ∧ (∀ g, ao = some ⟨g, 0, none⟩ → u.heap.size ≤ g) ∧ Below u.heap.size u w' := fun u hu => by
            have hg := HOJ.out u hu
            have h0 := images_any u oa oi po pn pc Ps so sn sc S hg.ints hg.strs hg.len
            rw [← HOS.out] at h0
            refine h0.mono ?_
            rintro e w' ⟨v1, rfl, hown, hb⟩
            obtain ⟨ao, ci, rfl, h1, h2⟩ := ims_of_own hown
            exact ⟨ao, ci, rfl, h1, h2, hb⟩
          have c1 := hO0.o.cell 1 _ h1os
          have hrd := hO0.i.read oi hoi
          go_upto_region 12 with (first
            | (go_at_call 15; refine hrd.mono ?_; rintro e u1 ⟨rfl, kb1⟩; have hO1 := hO0.next kb1)
            | (go_at_call 16; refine (room_any u1 q r mm x hO1.i.t.a.dl.l hO1.i.va.alive).mono ?_; rintro e u2 ⟨rfl, kb2⟩; have hO2 := hO1.next kb2))
          clear hrd kb1 kb2 c1 hO0 hO1
          have c2 := hO2.o.cell 1 _ h1os
          obtain ⟨b, hb, e4, e2, e1⟩ := tmn_eq oi 3 (by omega)
          obtain ⟨t, ht⟩ : ∃ t, t = oi.tmod 3 := ⟨_, rfl⟩
          have e0 : oi.tmod 3 = t := ht.symm
          have e1' : t < 3 := by rw [ht]; exact e1
          have e2' : -3 < t := by rw [ht]; exact e2
          have w0 : IntKind.i64.wrap t = t := by rw [IntKind.wrap_i64]; omega
          clear ht e1 e2 e4 hb b e1' e2'
          by_cases ht0 : t = 0
          · subst ht0
            have hop := hO2.open (by omega) b1 (by omega) b3 (by omega)
            go_upto_region 17 with (go_at_call 17; refine hop.mono ?_; rintro e u3 ⟨q3, mm3, m3, x3, d3, rfl, hO3⟩)
            clear hop c2 hO2
            have c3 := hO3.o.cell 0 _ h0os
            by_cases a1 : oa = 1
            · have hg := HOJ.out
              obtain ⟨l, hl⟩ : ∃ l, l = (List.range (min pn 200)).map (imF Ps sn S) := ⟨_, rfl⟩
              have hhim := him
              rw [← hl] at hhim
              have hll : l.length ≤ 200 := by rw [hl]; simp; omega
              have hwf : ∀ y ∈ l, (Lit.int .i64 y.1).wf = true := by rw [hl]; exact HWF.out
              clear hl hg him
              subst a1
              by_cases hgd : okP H l ∧ l ≠ [] ∧ l.length ≤ min 120 (L - 2)
              · obtain ⟨g1, g2, g3⟩ := hgd
                have hlW : toI (fromI l) = l := toI_fromI g1
                have hlen := fromI_len l
                obtain ⟨W, hW⟩ : ∃ W, W = fromI l := ⟨_, rfl⟩
                rw [← hW] at hlW hlen
                have hnam : nam H W := okP_nam.1 (by rw [hlW]; exact g1)
                have hW0 : W ≠ [] := fun e => g2 (by rw [e] at hlen; exact List.eq_nil_of_length_eq_zero hlen.symm)
                have hW2 : W.length ≤ 120 := by omega
                have hW3 : W.length + 2 ≤ L := by omega
                have HLW : Hid (toI W = l) := hlW
                have HLEN : Hid (W.length = l.length) := hlen
                clear hW g1 g2 g3 hlen hlW
                have hcA := fun (v u : World) (ao : Option Addr) (cp : Nat) (hv : BO B w v L H q3 r mm3 f m3 cap x3 d3 q2 r2 mm2 f2 m2 cap2 x2 d2 (2 + 5 * j + 1) pg pg P12 os) (hI : Ims v ao l) (hu : BO B w u L H q3 r mm3 f m3 cap x3 d3 q2 r2 mm2 f2 m2 cap2 x2 d2 (2 + 5 * j + 1) pg pg P12 os) (hn : ∀ g, ao = some ⟨g, 0, none⟩ → u.heap.size ≤ g) => hv.com (by omega) ao cp l W HLW.out hI u hn hu hnam hW0 hW2 hW3
                have hcB := fun (mm5 m5 : Nat) (x5 : Lg) (d5 : St) (v u : World) (ao : Option Addr) (cp : Nat) (hv : BO B w v L H q3 r mm5 f m5 cap x5 d5 q2 r2 mm2 f2 m2 cap2 x2 d2 (2 + 5 * j + 1 + 1) (on1 pg W) pg P12 os) (hI : Ims v ao l) (hu : BO B w u L H q3 r mm5 f m5 cap x5 d5 q2 r2 mm2 f2 m2 cap2 x2 d2 (2 + 5 * j + 1 + 1) (on1 pg W) pg P12 os) (hn : ∀ g, ao = some ⟨g, 0, none⟩ → u.heap.size ≤ g) => hv.swap.com (by omega) ao cp l W HLW.out hI u hn hu.swap hnam hW0 hW2 hW3
                go_upto_region 19 with (first
                  | (refine wpList_load_mid rfl 56 _ rfl P12 0 rfl os _ hO3.o.whole Tryz.underlying56 rfl (by rw [hol]; kernel_rfl) ?_)
                  | (go_at_call 19; refine (hhim _ hO3.i.t.a.below).mono ?_; rintro e u4 ⟨ao4, ci4, rfl, hIm4, hIb4, kb4⟩; have hO4 := hO3.next kb4)
                  | (go_at_call 18; refine (hcA u4 _ ao4 ci4 hO4 hIm4 hO3 hIb4).mono ?_; rintro e u5 ⟨rfl, mm5, m5, x5, d5, hO5⟩))
                clear hIm4 hIb4 kb4 hO4 hcA
                go_upto_region 20 with (first
                  | (refine wpList_load_mid rfl 56 _ rfl P12 0 rfl os _ hO5.o.whole Tryz.underlying56 rfl (by rw [hol]; kernel_rfl) ?_)
                  | (go_at_call 19; refine (hhim _ hO5.i.t.a.below).mono ?_; rintro e u6 ⟨ao6, ci6, rfl, hIm6, hIb6, kb6⟩; have hO6 := hO5.next kb6)
                  | (go_at_call 18; refine (hcB mm5 m5 x5 d5 u6 _ ao6 ci6 hO6 hIm6 hO5 hIb6).mono ?_; rintro e u7 ⟨rfl, mm7, m7, x7, d7, hO7⟩))
                have hI7 := hO7.swap.i
                clear hIm6 hIb6 kb6 hO6 hcB hO5 hO7 hhim hO3
                go_wp2_with fail
                exact ⟨⟨j + 1, q3, mm5, m5, x5, d5, mm7, m7, x7, d7, _, by omega, by omega, by go_num, rfl, hI7.le (by omega)⟩, by simp only [intOf]; omega⟩
              · have hno : ¬ okP H l ∨ l = [] ∨ min 120 (L - 2) < l.length := by
                  by_cases e1 : okP H l
                  · by_cases e2 : l = []
                    · exact .inr (.inl e2)
                    · exact .inr (.inr (by have : ¬ l.length ≤ min 120 (L - 2) := fun e3 => hgd ⟨e1, e2, e3⟩; omega))
                  · exact .inl e1
                obtain ⟨C, hC⟩ : ∃ C, C = cmR L H l := ⟨_, rfl⟩
                have hcA := fun (v : World) (ao : Option Addr) (cp : Nat) (hv : BO B w v L H q3 r mm3 f m3 cap x3 d3 q2 r2 mm2 f2 m2 cap2 x2 d2 (2 + 5 * j + 1) pg pg P12 os) (hI : Ims v ao l) => hv.ref ao cp l hI (by omega) hwf hno
                have hcB := fun (v : World) (ao : Option Addr) (cp : Nat) (hv : BO B w v L H q3 r mm3 f m3 cap x3 d3 q2 r2 mm2 f2 m2 cap2 x2 d2 (2 + 5 * j + 1) pg pg P12 os) (hI : Ims v ao l) => hv.swap.ref ao cp l hI (by omega) hwf hno
                rw [← hC] at hcA hcB
                clear hC hno hgd hwf
                go_upto_region 19 with (first
                  | (refine wpList_load_mid rfl 56 _ rfl P12 0 rfl os _ hO3.o.whole Tryz.underlying56 rfl (by rw [hol]; kernel_rfl) ?_)
                  | (go_at_call 19; refine (hhim _ hO3.i.t.a.below).mono ?_; rintro e u4 ⟨ao4, ci4, rfl, hIm4, hIb4, kb4⟩; have hO4 := hO3.next kb4)
                  | (go_at_call 18; refine (hcA u4 ao4 ci4 hO4 hIm4).mono ?_; rintro e u5 ⟨rfl, kb5⟩; have hO5 := hO4.next kb5))
                clear hIm4 hIb4 kb4 hO4 hcA kb5
                go_upto_region 20 with (first
                  | (refine wpList_load_mid rfl 56 _ rfl P12 0 rfl os _ hO5.o.whole Tryz.underlying56 rfl (by rw [hol]; kernel_rfl) ?_)
                  | (go_at_call 19; refine (hhim _ hO5.i.t.a.below).mono ?_; rintro e u6 ⟨ao6, ci6, rfl, hIm6, hIb6, kb6⟩; have hO6 := hO5.next kb6)
                  | (go_at_call 18; refine (hcB u6 ao6 ci6 hO6 hIm6).mono ?_; rintro e u7 ⟨rfl, kb7⟩; have hO7 := hO6.next kb7))
                have hI7 := hO7.i
                clear hIm6 hIb6 kb6 hO6 hcB hO5 hO7 hhim hO3 kb7
                go_wp2_with fail
                exact ⟨⟨j + 1, q3, mm3, m3, x3, d3, mm2, m2, x2, d2, _, by omega, by omega, by go_num, rfl, hI7.le (by omega)⟩, by simp only [intOf]; omega⟩
            · go_wp2_with fail
              exact ⟨⟨j + 1, q3, mm3, m3, x3, d3, mm2, m2, x2, d2, _, by omega, by omega, by go_num, rfl, hO3.i.le (by omega)⟩, by simp only [intOf]; omega⟩
          · have ht1 : (t == 0) = false := by rw [beq_eq_false_iff_ne]; exact ht0
            go_upto_region 17 with fail
            clear c2
            have c3 := hO2.o.cell 0 _ h0os
            by_cases a1 : oa = 1
            · have hg := HOJ.out
              obtain ⟨l, hl⟩ : ∃ l, l = (List.range (min pn 200)).map (imF Ps sn S) := ⟨_, rfl⟩
              have hhim := him
              rw [← hl] at hhim
              have hll : l.length ≤ 200 := by rw [hl]; simp; omega
              have hwf : ∀ y ∈ l, (Lit.int .i64 y.1).wf = true := by rw [hl]; exact HWF.out
              clear hl hg him
              subst a1
              by_cases hgd : okP H l ∧ l ≠ [] ∧ l.length ≤ min 120 (L - 2)
              · obtain ⟨g1, g2, g3⟩ := hgd
                have hlW : toI (fromI l) = l := toI_fromI g1
                have hlen := fromI_len l
                obtain ⟨W, hW⟩ : ∃ W, W = fromI l := ⟨_, rfl⟩
                rw [← hW] at hlW hlen
                have hnam : nam H W := okP_nam.1 (by rw [hlW]; exact g1)
                have hW0 : W ≠ [] := fun e => g2 (by rw [e] at hlen; exact List.eq_nil_of_length_eq_zero hlen.symm)
                have hW2 : W.length ≤ 120 := by omega
                have hW3 : W.length + 2 ≤ L := by omega
                have HLW : Hid (toI W = l) := hlW
                have HLEN : Hid (W.length = l.length) := hlen
                clear hW g1 g2 g3 hlen hlW
                have hcA := fun (v u : World) (ao : Option Addr) (cp : Nat) (hv : BO B w v L H q r mm f m cap x d q2 r2 mm2 f2 m2 cap2 x2 d2 (2 + 5 * j) pg pg P12 os) (hI : Ims v ao l) (hu : BO B w u L H q r mm f m cap x d q2 r2 mm2 f2 m2 cap2 x2 d2 (2 + 5 * j) pg pg P12 os) (hn : ∀ g, ao = some ⟨g, 0, none⟩ → u.heap.size ≤ g) => hv.com (by omega) ao cp l W HLW.out hI u hn hu hnam hW0 hW2 hW3
                have hcB := fun (mm5 m5 : Nat) (x5 : Lg) (d5 : St) (v u : World) (ao : Option Addr) (cp : Nat) (hv : BO B w v L H q r mm5 f m5 cap x5 d5 q2 r2 mm2 f2 m2 cap2 x2 d2 (2 + 5 * j + 1) (on1 pg W) pg P12 os) (hI : Ims v ao l) (hu : BO B w u L H q r mm5 f m5 cap x5 d5 q2 r2 mm2 f2 m2 cap2 x2 d2 (2 + 5 * j + 1) (on1 pg W) pg P12 os) (hn : ∀ g, ao = some ⟨g, 0, none⟩ → u.heap.size ≤ g) => hv.swap.com (by omega) ao cp l W HLW.out hI u hn hu.swap hnam hW0 hW2 hW3
                go_upto_region 19 with (first
                  | (refine wpList_load_mid rfl 56 _ rfl P12 0 rfl os _ hO2.o.whole Tryz.underlying56 rfl (by rw [hol]; kernel_rfl) ?_)
                  | (go_at_call 19; refine (hhim _ hO2.i.t.a.below).mono ?_; rintro e u4 ⟨ao4, ci4, rfl, hIm4, hIb4, kb4⟩; have hO4 := hO2.next kb4)
                  | (go_at_call 18; refine (hcA u4 _ ao4 ci4 hO4 hIm4 hO2 hIb4).mono ?_; rintro e u5 ⟨rfl, mm5, m5, x5, d5, hO5⟩))
                clear hIm4 hIb4 kb4 hO4 hcA
                go_upto_region 20 with (first
                  | (refine wpList_load_mid rfl 56 _ rfl P12 0 rfl os _ hO5.o.whole Tryz.underlying56 rfl (by rw [hol]; kernel_rfl) ?_)
                  | (go_at_call 19; refine (hhim _ hO5.i.t.a.below).mono ?_; rintro e u6 ⟨ao6, ci6, rfl, hIm6, hIb6, kb6⟩; have hO6 := hO5.next kb6)
                  | (go_at_call 18; refine (hcB mm5 m5 x5 d5 u6 _ ao6 ci6 hO6 hIm6 hO5 hIb6).mono ?_; rintro e u7 ⟨rfl, mm7, m7, x7, d7, hO7⟩))
                have hI7 := hO7.swap.i
                clear hIm6 hIb6 kb6 hO6 hcB hO5 hO7 hhim hO2
                go_wp2_with fail
                exact ⟨⟨j + 1, q, mm5, m5, x5, d5, mm7, m7, x7, d7, _, by omega, by omega, by go_num, rfl, hI7.le (by omega)⟩, by simp only [intOf]; omega⟩
              · have hno : ¬ okP H l ∨ l = [] ∨ min 120 (L - 2) < l.length := by
                  by_cases e1 : okP H l
                  · by_cases e2 : l = []
                    · exact .inr (.inl e2)
                    · exact .inr (.inr (by have : ¬ l.length ≤ min 120 (L - 2) := fun e3 => hgd ⟨e1, e2, e3⟩; omega))
                  · exact .inl e1
                obtain ⟨C, hC⟩ : ∃ C, C = cmR L H l := ⟨_, rfl⟩
                have hcA := fun (v : World) (ao : Option Addr) (cp : Nat) (hv : BO B w v L H q r mm f m cap x d q2 r2 mm2 f2 m2 cap2 x2 d2 (2 + 5 * j) pg pg P12 os) (hI : Ims v ao l) => hv.ref ao cp l hI (by omega) hwf hno
                have hcB := fun (v : World) (ao : Option Addr) (cp : Nat) (hv : BO B w v L H q r mm f m cap x d q2 r2 mm2 f2 m2 cap2 x2 d2 (2 + 5 * j) pg pg P12 os) (hI : Ims v ao l) => hv.swap.ref ao cp l hI (by omega) hwf hno
                rw [← hC] at hcA hcB
                clear hC hno hgd hwf
                go_upto_region 19 with (first
                  | (refine wpList_load_mid rfl 56 _ rfl P12 0 rfl os _ hO2.o.whole Tryz.underlying56 rfl (by rw [hol]; kernel_rfl) ?_)
                  | (go_at_call 19; refine (hhim _ hO2.i.t.a.below).mono ?_; rintro e u4 ⟨ao4, ci4, rfl, hIm4, hIb4, kb4⟩; have hO4 := hO2.next kb4)
                  | (go_at_call 18; refine (hcA u4 ao4 ci4 hO4 hIm4).mono ?_; rintro e u5 ⟨rfl, kb5⟩; have hO5 := hO4.next kb5))
                clear hIm4 hIb4 kb4 hO4 hcA kb5
                go_upto_region 20 with (first
                  | (refine wpList_load_mid rfl 56 _ rfl P12 0 rfl os _ hO5.o.whole Tryz.underlying56 rfl (by rw [hol]; kernel_rfl) ?_)
                  | (go_at_call 19; refine (hhim _ hO5.i.t.a.below).mono ?_; rintro e u6 ⟨ao6, ci6, rfl, hIm6, hIb6, kb6⟩; have hO6 := hO5.next kb6)
                  | (go_at_call 18; refine (hcB u6 ao6 ci6 hO6 hIm6).mono ?_; rintro e u7 ⟨rfl, kb7⟩; have hO7 := hO6.next kb7))
                have hI7 := hO7.i
                clear hIm6 hIb6 kb6 hO6 hcB hO5 hO7 hhim hO2 kb7
                go_wp2_with fail
                exact ⟨⟨j + 1, q, mm, m, x, d, mm2, m2, x2, d2, _, by omega, by omega, by go_num, rfl, hI7.le (by omega)⟩, by simp only [intOf]; omega⟩
            · go_wp2_with fail
              exact ⟨⟨j + 1, q, mm, m, x, d, mm2, m2, x2, d2, _, by omega, by omega, by go_num, rfl, hO2.i.le (by omega)⟩, by simp only [intOf]; omega⟩
        · have hjJ : ¬ (j : Int) < 60 := by omega
          go_wp2_with fail
          go_meet
          exact ⟨q, mm, m, x, d, mm2, m2, x2, d2, pg, rfl, hI.le (by omega)⟩
      · have hjI : ¬ (j : Int) < (on : Int) := by omega
        go_wp2_with fail
        go_meet
        exact ⟨q, mm, m, x, d, mm2, m2, x2, d2, pg, rfl, hI.le (by omega)⟩
  case rest =>
    clear hBI
    obtain ⟨q, mm, m, x, d, mm2, m2, x2, d2, pg, rfl, hI⟩ := hcut
    have hMM : M ≤ 44 := by have := HME.out; omega
    go_wp2_with fail
    go_loopw [17] (fun ui wr => ∃ k : Nat, k ≤ M ∧ ui = .int .i64 (k : Int) ∧ BI B w wr L H q r mm f m cap x d q2 r2 mm2 f2 m2 cap2 x2 d2 400 pg pg) (fun ui _ => M - (intOf ui).toNat)
    case atStart => exact ⟨0, by omega, rfl, hI⟩
    case round =>
      clear hI
      obtain ⟨k, hk, rfl, hI⟩ := hrel
      by_cases hlt : k < M
      · have hkI : (k : Int) < (M : Int) := by omega
        have hra := hI.read (k : Int) (by omega)
        have hrb := fun (u : World) (h : BI B w u L H q r mm f m cap x d q2 r2 mm2 f2 m2 cap2 x2 d2 400 pg pg) => h.swap.read (k : Int) (by omega)
        obtain ⟨X, hX⟩ : ∃ X, X = (rdp H pg (k : Int)).1 := ⟨_, rfl⟩
        obtain ⟨E, hE⟩ : ∃ E, E = (rdp H pg (k : Int)).2 := ⟨_, rfl⟩
        rw [← hX, ← hE] at hra
        simp only [← hX, ← hE] at hrb
        clear hX hE
        go_upto_region 26 with (first
          | (go_at_call 15; refine hra.mono ?_; rintro e u1 ⟨rfl, kb1⟩; have hN1 := Blk.new u1 66 (pb zp))
          | (refine store_pg rfl _ _ rfl u1.heap.size zp X hN1 rfl rfl ?_; intro hS1))
        have kc1 := boxed_pg u1 X
        have hI2 := (hI.next kb1).next kc1
        obtain ⟨P18, hP18⟩ : ∃ P, P = u1.heap.size := ⟨_, rfl⟩
        obtain ⟨u2, hu2⟩ : ∃ u, u = (u1.alloc (.cells (pb zp).toArray 66)).setRow u1.heap.size (pb X).toArray := ⟨_, rfl⟩
        rw [← hu2] at hS1 hI2 ⊢
        rw [← hP18] at hS1 ⊢
        clear hu2 hP18 kc1 hN1 kb1 hI hra
        have hrb2 := hrb u2 hI2
        clear hrb
        go_upto_region 27 with (first
          | (go_at_call 15; refine hrb2.mono ?_; rintro e u3 ⟨rfl, kb3⟩; have hN3 := Blk.new u3 66 (pb zp))
          | (refine store_pg rfl _ _ rfl u3.heap.size zp X hN3 rfl rfl ?_; intro hS3))
        have kc3 := boxed_pg u3 X
        have hI4 := (hI2.next kb3).next kc3
        have hS4 := (hS1.next kb3).next kc3
        obtain ⟨P20, hP20⟩ : ∃ P, P = u3.heap.size := ⟨_, rfl⟩
        obtain ⟨u4, hu4⟩ : ∃ u, u = (u3.alloc (.cells (pb zp).toArray 66)).setRow u3.heap.size (pb X).toArray := ⟨_, rfl⟩
        rw [← hu4] at hS3 hS4 hI4 ⊢
        rw [← hP20] at hS3 ⊢
        clear hu4 hP20 kc3 hN3 kb3 hI2 hrb2 hS1
        have hqx := fun W => eq31 X X W
        rw [decide_eq_true rfl] at hqx
        have hgu := guard31
        go_wp2_with (first
          | (refine wpList_load_mid rfl 66 _ rfl P18 0 rfl (pb X) _ hS4.whole Tryz.underlying66 rfl (by rw [pb_length]; kernel_rfl) ?_)
          | (refine wpList_load_mid rfl 66 _ rfl P20 0 rfl (pb X) _ hS3.whole Tryz.underlying66 rfl (by rw [pb_length]; kernel_rfl) ?_))
        exact ⟨⟨k + 1, by omega, by go_num, hI4⟩, by simp only [intOf]; omega⟩
      · have hkI : ¬ (k : Int) < (M : Int) := by omega
        have hpd := pending_any wr r f m cap d hI.t.a.dl.k (by have := hI.wa; unfold Wk at this; omega)
        rw [pend_none hI.va.w] at hpd
        simp only [List.length_nil] at hpd
        go_wp2_with (first
          | (go_at_call 21; refine hpd.mono ?_; rintro e u1 ⟨v, rfl, hown, kb1⟩; obtain ⟨ao, c, rfl, hIn, -, -, -⟩ := ints_of_own hown (fun x hx => by cases hx); have hI1 := hI.next kb1)
          | (go_at_call 20; refine (eqInts_same u1 ao none 0 c 0 [] hIn ⟨rfl, fun _ => rfl, fun ad h => (by cases h), fun x h => (by cases h)⟩ (by unfold maxLen; omega)).mono ?_; rintro e u2 ⟨rfl, kb2⟩; have hI2 := hI1.next kb2)
          | (go_at_call 5; refine (works_any u2 hI2.t.a.dl.t).mono ?_; rintro e u3 ⟨rfl, kb3⟩))
        go_ret
        exact ⟨rfl, hI2.t.a.below.trans (kb3.mono hI2.t.a.size)⟩
end Go.Proofs.YtndfhmlcfaaaiaaGreatDoor
