/- WalCuts: of a log of which a sector rots all that was committed ahead of its record is there; a rotten home is told. -/
import Derived.Test.YtndfhmlcfaaaiaaDoorCuW
import Derived.Test.YtndfhmlcfaaaiaaDoorLawF8
import Derived.Test.YtndfhmlcfaaaiaaDoorCutE
import Derived.Deep.CutBlock
import Derived.Deep.DeepCutAuto
namespace Go.Proofs.YtndfhmlcfaaaiaaDoor
open Go.RowKit

structure FQ (B : Nat) (w v : World) (P g n N H c : Nat) (pX : Pg) (F : Nat → Pg) : Prop where
  p : Blk v P 31 (pb pX)
  st : v.cell? ⟨g, n, none⟩ = some (.slice (some ⟨N, 0, none⟩) H c)
  r : PRw v N H F
  t : Tabs v
  k : Below B w v
  s : B ≤ v.heap.size
theorem FQ.next {B : Nat} {w v v' : World} {P g n N H c : Nat} {pX : Pg} {F : Nat → Pg} (h : FQ B w v P g n N H c pX F) (hb : Below v.heap.size v v') : FQ B w v' P g n N H c pX F := ⟨h.p.next hb, cell_later hb h.st, h.r.next hb, h.t.next hb, h.k.trans (hb.mono h.s), Nat.le_trans h.s hb.size⟩
theorem upd_self {α : Type} (F : Nat → α) (i : Nat) : upd F i (F i) = F := by
  funext j
  by_cases h : j = i
  · subst h; exact upd_same _ _ _
  · exact upd_ne _ _ _ _ h
set_option maxRecDepth 100000 in
set_option maxHeartbeats 4000000 in
theorem cuts_walk (w : World) (ps pl : Int) (oo : Option Addr) (on oc : Nat) (O : Nat → Op8) (sn0 : Int) (ba bt : Int) (bc : Bool) (hT : Tabs w) (om : on ≤ maxLen) (ho : Ops8 w oo on O) :
    Calls Tryd.prog 5 #[.agg #[.int .i64 ps, .int .i64 pl], .slice oo on oc, .int .i64 sn0, .agg #[.int .i64 ba, .int .u32 bt, .bool bc]] w fun e w' => e = .returned (.bool true) ∧ Below w.heap.size w w' := by
  have hz31 := zero31
  obtain ⟨us, hus⟩ : ∃ us : List Value, us = [.int .i64 ps, .int .i64 pl] := ⟨_, rfl⟩
  have htd := fun v => tidy_any v ps pl
  have hbg0 := fun (B : Nat) (v : World) h1 h2 h3 h4 => begunZ_any B w v ps pl h1 h2 h3 h4
  have harg : (.agg #[.int .i64 ps, .int .i64 pl] : Value) = .agg us.toArray := by rw [hus]
  have hul : us.length = 2 := by rw [hus]; rfl
  rw [harg] at htd ⊢
  simp only [harg] at hbg0
  clear hus harg
  obtain ⟨bs, hbs⟩ : ∃ bs : List Value, bs = [.int .i64 ba, .int .u32 bt, .bool bc] := ⟨_, rfl⟩
  have hov := fun (v : World) (s : Sec) => over_burst v ba bt bc s
  have hargb : (.agg #[.int .i64 ba, .int .u32 bt, .bool bc] : Value) = .agg bs.toArray := by rw [hbs]
  have hbl : bs.length = 3 := by rw [hbs]; rfl
  rw [hargb] at hov ⊢
  clear hbs hargb
  have hU0 := (Blk.new w 45 us).alloc (.cells bs.toArray 61)
  have hV0 := Blk.new (w.alloc (.cells us.toArray 45)) 61 bs
  have hsz1 : (w.alloc (.cells us.toArray 45)).heap.size = w.heap.size + 1 := by simp
  rw [hsz1] at hV0
  have kb := ((Below.refl w.heap.size w).alloc (Nat.le_refl _) (.cells us.toArray 45)).alloc (by simp) (.cells bs.toArray 61)
  have hT0 := hT.next kb
  have h2 := hT.two
  have hl1 := td_lt pl
  have hl2 := td_lt ps
  have hl3 := tL_def pl
  have hl4 := tN_def ps pl
  obtain ⟨L, hL⟩ : ∃ L, L = tL pl := ⟨_, rfl⟩
  obtain ⟨M, hM⟩ : ∃ M, M = tN ps pl := ⟨_, rfl⟩
  obtain ⟨H, hH⟩ : ∃ H, H = td ps + 1 := ⟨_, rfl⟩
  rw [← hL, ← hM] at htd
  rw [← hL] at hl3 hl4
  rw [← hM] at hl4
  simp only [← hL, ← hH] at hbg0
  have b1 : 3 ≤ L := by omega
  have b2 : L ≤ 22 := by omega
  have b3 : 1 ≤ H := by omega
  have b4 : H ≤ 20 := by omega
  have hMe : M = 2 + L + H := by omega
  have ww0 : IntKind.i64.wrap ((M : Int) - 2) = (M : Int) - 2 := by rw [IntKind.wrap_i64]; omega
  have ww3 : IntKind.i64.wrap ((M : Int) - 2 - (L : Int)) = (H : Int) := by rw [IntKind.wrap_i64]; omega
  obtain ⟨B, hB⟩ : ∃ B, B = w.heap.size := ⟨_, rfl⟩
  have HB : Hid (B = w.heap.size) := hB
  have hs0 : B + 2 ≤ ((w.alloc (.cells us.toArray 45)).alloc (.cells bs.toArray 61)).heap.size := by rw [hB]; simp
  obtain ⟨BU, hBU⟩ : ∃ BU, BU = w.heap.size + 1 := ⟨_, rfl⟩
  have hBUB : BU = B + 1 := by omega
  have HBU : Hid (BU = B + 1) := hBUB
  rw [← hBU] at hV0
  rw [← hB] at hU0 kb h2 ⊢
  have HO : Hid (∀ v, Below B w v → Ops8 v oo on O) := fun v hv => ho.next (by rw [← hB]; exact hv)
  have HOB : Hid (∀ j, j < on → ∀ ad, (O j).po = some ad → 0 < (O j).pn → ad.block < B) := fun j hj ad had h0 => by
    have hg := (ho.good j hj).ints
    rw [had] at hg
    rw [hB]
    exact hg.lt h0
  obtain ⟨i0, hi, hz0, hz1, hz2⟩ := info_parts info31
  have hmade := made_flatP H
  have hzc : (Value.agg (pb zp).toArray).cells = (pb zp).toArray := rfl
  rw [← hzc] at hmade
  have HM : Hid ((madeCells (Value.agg (pb zp).toArray).cells (H * 480)).toList = flatP H (fun _ => zp)) := hmade
  obtain ⟨zv, hzv⟩ : ∃ z, z = Value.agg (pb zp).toArray := ⟨_, rfl⟩
  rw [← hzv] at hz0 HM
  have HZV : Hid (zv = Value.agg (pb zp).toArray) := hzv
  have HME : Hid (M = 2 + L + H) := hMe
  clear hmade hzc hzv hB hBU hBUB hT hl1 hl2 hl3 hl4 hL hM hH hMe ho
  go_enter Tryd.func5, Tryd.ntmps5
  go_upto_region 1 with fail
  try simp only [hsz1]
  rw [← HB.out, ← HBU.out]
  obtain ⟨w0', hw0⟩ : ∃ u, u = (w.alloc (.cells us.toArray 45)).alloc (.cells bs.toArray 61) := ⟨_, rfl⟩
  rw [← hw0] at hU0 hV0 kb hT0 hs0 ⊢
  clear hw0 hsz1
  go_upto_region 2 with (first
    | (refine wpList_load_mid rfl 45 _ rfl B 0 rfl us _ hU0.whole Tryd.underlying45 rfl (by rw [hul]; kernel_rfl) ?_)
    | (go_at_call 17; refine (htd _).mono ?_; rintro e w1 ⟨rfl, kb1⟩))
  have hU1 := hU0.next kb1
  have hV1 := hV0.next kb1
  have hbg := hbg0 B w1 (Nat.le_trans (by omega) kb1.size) h2 (hT0.next kb1) (kb.trans (kb1.mono (by omega)))
  clear hbg0 htd hU0 hV0 hT0 kb kb1 hs0
  go_upto_region 5 with (first
    | (refine wpList_load_mid rfl 45 _ rfl B 0 rfl us _ hU1.whole Tryd.underlying45 rfl (by rw [hul]; kernel_rfl) ?_)
    | (go_at_call 18; refine hbg.mono ?_; rintro e w2 ⟨q, r, mm, f, m, cap, x, d, rfl, hL2, hV2, hW2, hxL, hxH, kb2, hfp2, hlp2⟩))
  have hVb := hV1.next kb2
  clear hU1 hV1 hbg kb2 hfp2 hlp2 hul
  have hs2 := hL2.size
  go_upto_region 7 with (first
    | (at_make; refine wpList_make_full _ rfl _ _ 52 rfl w2.heap.size 31 i0 zv 480 Tryd.underlying52 hi hz0 hz1 .i64 .i64 H H H rfl rfl rfl rfl (by rw [hz2]; omega) (by unfold maxLen; omega) (Nat.le_refl _) ?_; intro w3 hown hgr
       rw [HM.out] at hown
       obtain ⟨_, hv | ⟨g, cpx, cur, hv, hgb, hh, hc1, hc2, hc3, ht⟩⟩ := hown
       · cases hv.1
       cases hv))
  have hR3 : PRw w3 w2.heap.size H (fun _ => zp) := pr_of_flat hh ht
  have hB3 : Below w2.heap.size w2 w3 := (Below.refl _ w2).grown hgr (Nat.le_refl _) (by intro k hk; cases hk)
  have hC0 := CU.start (N0 := w2.heap.size) (c0 := H) (hL2.next hB3) hV2 hW2 hxL hxH hR3 (hVb.next hB3)
  have hTI := TI.start H L O
  rw [← hV2.ws] at hTI
  clear hh ht hgr hc1 hc2 hc3 hgb hi hz0 hz1 hz2 HM HZV hR3 hB3 hL2 hW2 hxL hxH hVb
  obtain ⟨N0, hN0⟩ : ∃ N, N = w2.heap.size := ⟨_, rfl⟩
  rw [← hN0] at hC0 ⊢
  go_upto_region 8 with fail
  try rw [← hN0]
  have hws0 := hV2.ws
  clear hV2 hN0 hs2
  have hsz3 : (w3.alloc (.cells #[.slice (some ⟨N0, 0, none⟩) H H] 52)).heap.size = w3.heap.size + 1 := by simp
  try simp only [hsz3]
  obtain ⟨vs, hvs⟩ : ∃ v, v = Value.slice (some ⟨w3.heap.size, 0, none⟩) 1 1 := ⟨_, rfl⟩
  obtain ⟨ve, hve⟩ : ∃ v, v = Value.slice (some ⟨w3.heap.size + 1, 0, none⟩) 1 1 := ⟨_, rfl⟩
  rw [← hvs, ← hve] at hC0
  have hk0 : 2 + x.ws.length = 2 := by rw [hws0]; rfl
  have hC1 : CU B w ((w3.alloc (.cells #[.slice (some ⟨N0, 0, none⟩) H H] 52)).alloc (.cells #[.int .i64 0] 3)) r f cap L H q mm m x d (2 + x.ws.length) x.ws x.ws vs ve (fun _ => N0) (fun _ => H) BU bs := by rw [hk0]; exact hC0
  have hn0 : x.ws.length ≤ 19 := by rw [hws0]; exact Nat.zero_le _
  clear hC0 hk0 hws0
  go_upto_block 0 with fail
  try rw [← hvs]
  try rw [← hve]
  clear hvs hve
  obtain ⟨uu, hvv⟩ : ∃ u, u = (w3.alloc (.cells #[.slice (some ⟨N0, 0, none⟩) H H] 52)).alloc (.cells #[.int .i64 0] 3) := ⟨_, rfl⟩
  rw [← hvv] at hC1 ⊢
  clear hvv hsz3
  go_cut [14, 15] (fun uv ue wc => ∃ (j mm m : Nat) (x : Lg) (d : St) (Nf cf : Nat → Nat), j ≤ on ∧ CU B w wc r f cap L H q mm m x d (2 + x.ws.length) x.ws x.ws uv ue Nf cf BU bs ∧ x.ws.length ≤ 19 ∧ TI H L O j x.ws)
  case first =>
    go_wp2_with fail
    go_loopw [14, 15, 16] (fun uv ue ui wr => ∃ (j mm m : Nat) (x : Lg) (d : St) (vs ve : Value) (Nf cf : Nat → Nat), j ≤ on ∧ ui = .int .i64 (j : Int) ∧ uv = vs ∧ ue = ve ∧ CU B w wr r f cap L H q mm m x d (2 + x.ws.length) x.ws x.ws vs ve Nf cf BU bs ∧ x.ws.length ≤ 19 ∧ TI H L O j x.ws) (fun _ _ ui _ => on - (intOf ui).toNat)
    case atStart => exact ⟨0, mm, m, x, d, vs, ve, _, _, by omega, rfl, rfl, rfl, hC1, hn0, hTI⟩
    case round =>
      clear hC1 hn0 hTI
      obtain ⟨j, mm, m, x, d, vs, ve, Nf, cf, hjn, rfl, rfl, rfl, hC, hn19, hTI⟩ := hrel
      have HTI : Hid (TI H L O j x.ws) := hTI
      clear hTI
      have om2 := om
      unfold maxLen at om2
      obtain ⟨g1, cp1, D1, rfl, hg1, hD1, hcs1⟩ := cell_shape hC.st (Nat.succ_pos _)
      obtain ⟨g2, cp2, D2, rfl, hg2, hD2, hcs2⟩ := cell_shape hC.en (Nat.succ_pos _)
      have hlst := hcs1 x.ws.length _ (stC_at H Nf cf _ _ (Nat.lt_succ_self _))
      have hend := hcs2 x.ws.length _ (enC_at x.ws _ _ (Nat.lt_succ_self _))
      rw [List.take_length] at hend
      clear hcs1 hcs2 hD1 hD2 hg1 hg2
      obtain ⟨n, hn⟩ : ∃ n, n = x.ws.length := ⟨_, rfl⟩
      obtain ⟨T, hT⟩ : ∃ T, T = tot x.ws := ⟨_, rfl⟩
      rw [← hn] at hlst hend hn19 ⊢
      rw [← hT] at hend
      have HN : Hid (n = x.ws.length) := hn
      have HT : Hid (T = tot x.ws) := hT
      have hTL : T ≤ L := by
        have h1 := hC.z.rep.len
        rw [hC.eL] at h1
        omega
      clear hn hT
      have hnn : ((n + 1 : Nat) : Int) - 1 = (n : Int) := by omega
      have hnw : IntKind.i64.wrap (n : Int) = (n : Int) := by rw [IntKind.wrap_i64]; omega
      by_cases hj1 : j < on
      · have hjI : (j : Int) < (on : Int) := by omega
        by_cases h20 : n < 19
        · have hnI : ((n + 1 : Nat) : Int) < 20 := by omega
          cases oo with
          | none => exact absurd ((HO.out _ hC.lb.below).bare rfl) (by omega)
          | some od =>
          have hOj := (HO.out _ hC.lb.below).good j hj1
          obtain ⟨p0, p1, p2, p3⟩ := (HO.out _ hC.lb.below).cell od rfl j hj1
          obtain ⟨o, eo⟩ : ∃ o, o = O j := ⟨_, rfl⟩
          rw [← eo] at p0 p1 p2 p3 hOj
          have HQ : Hid (o = O j) := eo
          obtain ⟨oa, oi, po, pn, pc, Ps, so, sn, sc, S⟩ := o
          dsimp only at p0 p1 p2 p3
          have p1' : wr.cell? ⟨(od.add (j * 4)).block, (od.add (j * 4)).off + 1, none⟩ = some (.int .i64 oi) := p1
          have p2' : wr.cell? ⟨(od.add (j * 4)).block, (od.add (j * 4)).off + 2, none⟩ = some (.slice po pn pc) := p2
          have p3' : wr.cell? ⟨(od.add (j * 4)).block, (od.add (j * 4)).off + 3, none⟩ = some (.slice so sn sc) := p3
          clear p1 p2 p3 eo
          obtain ⟨l, hl⟩ : ∃ l, l = (List.range (min pn 200)).map (imF Ps sn S) := ⟨_, rfl⟩
          have hil : imsOf ⟨oa, oi, po, pn, pc, Ps, so, sn, sc, S⟩ = l := by rw [hl]; rfl
          have him : Calls Tryd.prog 11 #[.agg #[.int .i64 oa, .int .i64 oi, .slice po pn pc, .slice so sn sc]] wr fun e w' => ∃ ao ci, e = .returned (.slice ao l.length ci) ∧ Ims w' ao l ∧ (∀ g, ao = some ⟨g, 0, none⟩ → wr.heap.size ≤ g) ∧ Below wr.heap.size wr w' := by
            have h0 := images_any wr oa oi po pn pc Ps so sn sc S hOj.ints hOj.strs hOj.len
            refine Calls.mono h0 ?_
            rintro e w' ⟨v1, rfl, hown, hb⟩
            obtain ⟨ao, ci, rfl, h1, h2⟩ := ims_of_own hown
            rw [← hl] at h1 ⊢
            exact ⟨ao, ci, rfl, h1, h2, hb⟩
          have hll : l.length ≤ 200 := by rw [hl]; simp; omega
          have HIL : Hid (imsOf (O j) = l ∧ (O j).a = oa) := by
            have e := HQ.out
            rw [← e]
            exact ⟨hil, rfl⟩
          clear hl hOj hil
          by_cases hq : qual H L (O j)
          · obtain ⟨q1, q2, q3⟩ := id hq
            rw [HIL.out.1] at q2 q3
            rw [HIL.out.2] at q1
            have HQL : Hid (qual H L (O j)) := hq
            have HL0 : Hid (l ≠ []) := q2
            have hl0 : ¬ (l.length : Int) = 0 := by
              intro e
              exact q2 (List.eq_nil_of_length_eq_zero (by omega))
            have hl1 : ((l.length : Int) == 0) = false := by rw [beq_eq_false_iff_ne]; exact hl0
            have hft := fun (u : World) (ao : Option Addr) (c : Nat) (h : Ims u ao l) => fits_any u ao c l H L h (by omega) (by omega) (by omega)
            rw [decide_eq_true q3] at hft
            have hlW : toI (fromI l) = l := toI_fromI q3.1
            have hlen := fromI_len l
            obtain ⟨W, hW⟩ : ∃ W, W = fromI l := ⟨_, rfl⟩
            rw [← hW] at hlW hlen
            have HW : Hid (W = fromI l) := hW
            have hnam : nam H W := okP_nam.1 (by rw [hlW]; exact q3.1)
            have hWL : W.length + 2 ≤ L := by rw [hlen]; exact q3.2
            have hW0 : W ≠ [] := fun e => q2 (by rw [e] at hlen; exact List.eq_nil_of_length_eq_zero hlen.symm)
            have hov := fun (u : World) (g c cq : Nat) (F : Nat → Pg) (ao : Option Addr) (hr : PRw u g H F) (h : Ims u ao l) => over8_any u g H cq F ao c W hr b3 (by omega) (by rw [hlW]; exact h) (by omega) hnam.1
            have hT1 : IntKind.i64.wrap ((T : Int) + (l.length : Int)) = ((T + l.length : Nat) : Int) := by rw [IntKind.wrap_i64]; omega
            have hT2 : IntKind.i64.wrap (((T + l.length : Nat) : Int) + 2) = ((T + l.length + 2 : Nat) : Int) := by rw [IntKind.wrap_i64]; omega
            have HTC : Hid (TI H L O (j + 1) (x.ws ++ [W])) := by
              have h1 := HTI.out.com hq
              rw [HIL.out.1, ← hW] at h1
              exact h1
            have HLEN : Hid (W.length = l.length) := hlen
            subst q1
            by_cases hu : T + l.length + 2 ≤ L
            · have hcm := fun (u : World) (g c : Nat) (h : CU B w u r f cap L H q mm m x d (2 + x.ws.length) x.ws x.ws (.slice (some ⟨g1, 0, none⟩) (x.ws.length + 1) cp1) (.slice (some ⟨g2, 0, none⟩) (x.ws.length + 1) cp2) Nf cf BU bs) (hI : ImR u g l) (hA : ¬ fp r f m g ∧ ¬ lp q mm g) => com_z B w u q r mm f m cap x d (2 + x.ws.length) _ g c W h.lb h.z h.wk (by have := HN.out; omega) (by rw [hlW]; exact hI) hA ⟨hW0, by omega, by rw [h.eL, ← HT.out, hlen]; exact hu, by rw [h.eH]; exact hnam⟩
              simp only [hlen] at hcm hov
              have huI : ¬ (L : Int) < ((T + l.length + 2 : Nat) : Int) := by omega
              clear hq q2 q3 hlW hW hnam hWL hW0 hlen
              go_upto_region 13 with (first
                | (go_at_call 11; refine him.mono ?_; rintro e u1 ⟨ao, ci, rfl, hIm1, hIb, kb1⟩; have p0u := cell_later kb1 p0; have hC1 := hC.next kb1; have hend1 := cell_later kb1 hend; have hlst1 := cell_later kb1 hlst)
                | (go_at_call 19; refine (hft u1 ao ci hIm1).mono ?_; rintro e u2 ⟨rfl, kb2⟩; have hC2 := hC1.next kb2; have hIm2 := hIm1.next kb2; have hend2 := cell_later kb2 hend1; have hlst2 := cell_later kb2 hlst1))
              clear him hft
              rcases hIm2 with ⟨_, h0⟩ | ⟨g, rfl, hIR⟩
              · exact absurd h0 HL0.out
              have hapg := hC.lb.apart_new (hIb g rfl)
              have hcm2 := hcm u2 g ci hC2 hIR hapg
              have HUS : Hid (T + l.length + 2 = tot (x.ws ++ [W])) := by
                show _ = _
                rw [tot_snoc, ← HT.out, HLEN.out]
                omega
              clear hcm hC hC1 hlst hlst1 hlst2 hend1 hend kb1 kb2 hIm1 p0 p0u p1' p2' p3'
              go_wp2_with (first
                | (go_at_call 10; refine hcm2.mono ?_; rintro e u3 ⟨rfl, mm1, m1, d1, i1, i2, hF3, hW3, hL3, hZ3⟩; rw [← onL_snoc] at hZ3; have hC3 := hC2.com hF3 hL3 hZ3 hW3 rfl rfl; have hlst3 := cell_own hC3.st (stC_at H Nf cf _ _ (Nat.lt_succ_self x.ws.length)); rw [← HN.out] at hlst3; have hIm3 : Ims u3 (some ⟨g, 0, none⟩) l := Ims.fr (.inr ⟨g, rfl, hIR⟩) hF3 (fun g' e => by cases e; exact fun h => h.elim hapg.1 hapg.2); have hr3 := hC3.rows x.ws.length (Nat.le_refl _); rw [List.take_length, ← HN.out] at hr3; clear hC2 hF3 hL3 hZ3 hW3 hIR)
                | (go_at_call 20; refine (hov u3 (Nf n) ci (cf n) _ _ hr3 hIm3).mono ?_; rintro e u4 ⟨G, c4, rfl, hG4, hR4, kb4⟩; have hC4 := hC3.next kb4; have hs4 := hC4.lb.size; have k5 := (Below.refl u4.heap.size u4).alloc (Nat.le_refl _) (.cells #[.slice (some ⟨G, 0, none⟩) H c4] 52); have hC5 := hC4.next k5; have hR5 := hR4.next k5; have hc5 := cell_own (own1 u4 B 52 (.slice (some ⟨G, 0, none⟩) H c4) hs4) (i := 0) rfl)
                | (at_builtin; (refine push_cell rfl _ _ 62 52 _ 24 rfl Tryd.underlying62 info52 rfl (by decide) B _ (n + 1) (stC H Nf cf (n + 1)) rfl (by rw [HN.out]; exact hC5.st) _ _ rfl hc5 rfl (by omega) (hC5.lb.size) ?_); intro vs6 u6 ho6 hg6; rw [HN.out] at ho6 hg6; have hC6 := hC5.push_st (W := W) (G := G) (c := c4) hR5 hg6 ho6; have hs6 := hC6.lb.size; have k7 := (Below.refl u6.heap.size u6).alloc (Nat.le_refl _) (.cells #[.int .i64 ((T + l.length + 2 : Nat) : Int)] 3); have hC7 := hC6.next k7; have hc7 := cell_own (own1 u6 B 3 (.int .i64 ((T + l.length + 2 : Nat) : Int)) hs6) (i := 0) rfl)
                | (at_builtin; (refine push_cell rfl _ _ 22 3 _ 8 rfl Tryd.underlying22 info3i rfl (by decide) B _ (n + 1) (enC x.ws (n + 1)) rfl (by rw [HN.out]; exact hC7.en) _ _ rfl hc7 rfl (by omega) (hC7.lb.size) ?_); intro ve8 u8' ho8 hg8))
              rw [HN.out, HUS.out] at ho8
              rw [HN.out] at hg8
              have hC9 := hC7.push_en (W := W) hg8 ho8
              exact ⟨⟨j + 1, mm1, m1, _, d1, _, _, _, _, by omega, by go_num, rfl, rfl, hC9.le (by simp; omega), by simp only [List.length_append, List.length_singleton]; rw [← HN.out]; omega, HTC.out⟩, by simp only [intOf]; omega⟩
            · have huI : (L : Int) < ((T + l.length + 2 : Nat) : Int) := by omega
              clear hq q2 q3 hlW hW hnam hWL hW0 hlen hov
              go_wp2_with (first
                | (go_at_call 11; refine him.mono ?_; rintro e u1 ⟨ao, ci, rfl, hIm1, hIb, kb1⟩; have p0u := cell_later kb1 p0; have hC1 := hC.next kb1; have hend1 := cell_later kb1 hend)
                | (go_at_call 19; refine (hft u1 ao ci hIm1).mono ?_; rintro e u2 ⟨rfl, kb2⟩; have hC2 := hC1.next kb2; have hend2 := cell_later kb2 hend1))
              go_meet
              exact ⟨j, mm, m, x, d, Nf, cf, hjn, by rw [HN.out]; exact hC2, by rw [← HN.out]; exact hn19, HTI.out⟩
          · have HTS : Hid (TI H L O (j + 1) x.ws) := HTI.out.skip hq
            have hft := fun (u : World) (ao : Option Addr) (c : Nat) (h : Ims u ao l) => fits_any u ao c l H L h (by omega) (by omega) (by omega)
            by_cases q1 : oa = 1
            · by_cases q2 : l.length = 0
              · have hl0 : (l.length : Int) = 0 := by omega
                subst q1
                clear hq hft
                have hl1 : ((l.length : Int) == 0) = true := by rw [beq_iff_eq]; exact hl0
                clear hl0 q2
                go_wp2_with ((go_at_call 11; refine him.mono ?_; rintro e u1 ⟨ao, ci, rfl, hIm1, hIb, kb1⟩; have p0u := cell_later kb1 p0; have hC1 := hC.next kb1))
                exact ⟨⟨j + 1, mm, m, x, d, .slice (some ⟨g1, 0, none⟩) (n + 1) cp1, .slice (some ⟨g2, 0, none⟩) (n + 1) cp2, Nf, cf, by omega, by go_num, rfl, rfl, by rw [HN.out]; exact hC1, by rw [← HN.out]; exact hn19, HTS.out⟩, by simp only [intOf]; omega⟩
              · have hl0 : ¬ (l.length : Int) = 0 := by omega
                have q3 : ¬ fitP H L l := fun h => hq ⟨HIL.out.2.trans q1, by rw [HIL.out.1]; intro e; rw [e] at q2; exact q2 rfl, by rw [HIL.out.1]; exact h⟩
                rw [decide_eq_false q3] at hft
                have hl1 : ((l.length : Int) == 0) = false := by rw [beq_eq_false_iff_ne]; exact hl0
                subst q1
                clear hq q3
                go_wp2_with (first
                  | (go_at_call 11; refine him.mono ?_; rintro e u1 ⟨ao, ci, rfl, hIm1, hIb, kb1⟩; have p0u := cell_later kb1 p0; have hC1 := hC.next kb1)
                  | (go_at_call 19; refine (hft u1 ao ci hIm1).mono ?_; rintro e u2 ⟨rfl, kb2⟩; have hC2 := hC1.next kb2))
                exact ⟨⟨j + 1, mm, m, x, d, .slice (some ⟨g1, 0, none⟩) (n + 1) cp1, .slice (some ⟨g2, 0, none⟩) (n + 1) cp2, Nf, cf, by omega, by go_num, rfl, rfl, by rw [HN.out]; exact hC2, by rw [← HN.out]; exact hn19, HTS.out⟩, by simp only [intOf]; omega⟩
            · clear hq hft
              go_wp2_with ((go_at_call 11; refine him.mono ?_; rintro e u1 ⟨ao, ci, rfl, hIm1, hIb, kb1⟩; have p0u := cell_later kb1 p0; have hC1 := hC.next kb1))
              exact ⟨⟨j + 1, mm, m, x, d, .slice (some ⟨g1, 0, none⟩) (n + 1) cp1, .slice (some ⟨g2, 0, none⟩) (n + 1) cp2, Nf, cf, by omega, by go_num, rfl, rfl, by rw [HN.out]; exact hC1, by rw [← HN.out]; exact hn19, HTS.out⟩, by simp only [intOf]; omega⟩
        · have hnI : ¬ ((n + 1 : Nat) : Int) < 20 := by omega
          go_wp2_with fail
          go_meet
          exact ⟨j, mm, m, x, d, Nf, cf, hjn, by rw [HN.out]; exact hC, by rw [← HN.out]; exact hn19, HTI.out⟩
      · have hjI : ¬ (j : Int) < (on : Int) := by omega
        go_wp2_with fail
        go_meet
        exact ⟨j, mm, m, x, d, Nf, cf, hjn, by rw [HN.out]; exact hC, by rw [← HN.out]; exact hn19, HTI.out⟩
  case rest =>
    clear hC1 hn0 hTI
    have hz64 := zero39
    obtain ⟨j, mm, m, x, d, Nf, cf, hjn, hC, hn19, hTI⟩ := hcut
    have HJN : Hid (j ≤ on) := hjn
    have HTI : Hid (TI H L O j x.ws) := hTI
    clear hjn hTI
    obtain ⟨g1, cp1, D1, rfl, hg1, hD1, hcs1⟩ := cell_shape hC.st (Nat.succ_pos _)
    obtain ⟨g2, cp2, D2, rfl, hg2, hD2, hcs2⟩ := cell_shape hC.en (Nat.succ_pos _)
    clear hcs1 hcs2 hD1 hD2 hg1 hg2
    obtain ⟨n, hn⟩ : ∃ n, n = x.ws.length := ⟨_, rfl⟩
    rw [← hn] at hn19 ⊢
    have HN : Hid (n = x.ws.length) := hn
    clear hn
    obtain ⟨b, hb, e4, e2, e1⟩ := tmn_eq sn0 (L + H) (by omega)
    have hMQ : (M : Int) - 2 = ((L + H : Nat) : Int) := by have := HME.out; omega
    rw [← hMQ] at e4 e2 e1
    obtain ⟨t, ht⟩ : ∃ t, t = sn0.tmod ((M : Int) - 2) := ⟨_, rfl⟩
    have e0 : sn0.tmod ((M : Int) - 2) = t := ht.symm
    rw [← ht] at e4 e2 e1
    have w00 : IntKind.i64.wrap t = t := by rw [IntKind.wrap_i64]; omega
    have w01 : IntKind.i64.wrap (t + ((M : Int) - 2)) = t + ((M : Int) - 2) := by rw [IntKind.wrap_i64]; omega
    have w02 : IntKind.i64.wrap (b : Int) = (b : Int) := by rw [IntKind.wrap_i64]; omega
    obtain ⟨K, hK⟩ : ∃ K, K = 2 + b := ⟨_, rfl⟩
    have hKI : 2 + (b : Int) = (K : Int) := by omega
    have w03 : IntKind.i64.wrap (K : Int) = (K : Int) := by rw [IntKind.wrap_i64]; omega
    have hm0 : ¬ (M : Int) - 2 = 0 := by omega
    have HK : Hid (K = 2 + b ∧ b < L + H) := ⟨hK, hb⟩
    have hKn : K < d.n := by rw [hC.z.n, hC.eL, hC.eH]; omega
    have hrd := read_good wc r f m cap d hC.lb.dl.k K hC.z.on hKn
    obtain ⟨sc, hsc⟩ : ∃ sc, sc = d.at K := ⟨_, rfl⟩
    rw [← hsc] at hrd
    have HSC : Hid (sc = d.at K) := hsc
    have HKN : Hid (K < d.n) := hKn
    clear ht e2 e1 hK hb hMQ hsc hKn
    go_upto_region 21 with (first
      | (go_at_call 26; refine hrd.mono ?_; rintro e w5 ⟨rfl, kb5⟩; have hN5 := Blk.new w5 64 (sb zs))
      | (refine store_sec rfl _ _ rfl w5.heap.size zs sc hN5 rfl rfl ?_; intro hS5))
    clear e0 e4 w00 w01 w02 w03 hm0 hKI hrd
    have kc5 := (boxed w5 sc).2
    have hC5 := (hC.next kb5).next kc5
    have hU5 := hC5.ub
    obtain ⟨P5, hP5⟩ : ∃ P, P = w5.heap.size := ⟨_, rfl⟩
    obtain ⟨w6, hw6⟩ : ∃ u, u = (w5.alloc (.cells (sb zs).toArray 64)).setRow w5.heap.size (sb sc).toArray := ⟨_, rfl⟩
    rw [← hw6] at hS5 hC5 hU5 ⊢
    rw [← hP5] at hS5 ⊢
    clear hw6 hP5 kc5 hN5 kb5 hC
    go_upto_region 22 with (first
      | (refine wpList_load_mid rfl 61 _ rfl BU 0 rfl bs _ hU5.whole Tryd.underlying61 rfl (by rw [hbl]; kernel_rfl) ?_)
      | (refine load_sec rfl _ rfl P5 sc hS5 rfl ?_)
      | (go_at_call 27; refine (hov w6 sc).mono ?_; rintro e w7 ⟨tt, tb, rfl, kb7, hno, hyes⟩; have hN7 := Blk.new w7 64 (sb zs))
      | (refine store_sec rfl _ _ rfl w7.heap.size zs tt hN7 rfl rfl ?_; intro hS7))
    have kc7 := (boxed w7 tt).2
    have hC8 := (hC5.next kb7).next kc7
    obtain ⟨P7, hP7⟩ : ∃ P, P = w7.heap.size := ⟨_, rfl⟩
    obtain ⟨w8, hw8⟩ : ∃ u, u = (w7.alloc (.cells (sb zs).toArray 64)).setRow w7.heap.size (sb tt).toArray := ⟨_, rfl⟩
    rw [← hw8] at hS7 hC8 ⊢
    rw [← hP7] at hS7 ⊢
    clear hw8 hP7 kc7 hN7 kb7 hC5 hU5 hS5 hov
    have hwr := write_b B w w8 q r mm f m cap x d (2 + x.ws.length) hC8.lb hC8.wk (by have := HN.out; omega) hC8.z.on hC8.z.armed K HKN.out tt
    have hfl := fun (u : World) (mm m : Nat) (d' : St) (k : Nat) (h : CV B w u r f cap L H q mm m x d' k x.ws x.ws (.slice (some ⟨g1, 0, none⟩) (x.ws.length + 1) cp1) (.slice (some ⟨g2, 0, none⟩) (x.ws.length + 1) cp2) Nf cf) (hk : k ≤ 10000) (hon : d'.off = false) (ha : d'.armed = 0) => fl_b B w u q r mm f m cap x d' k h.lb h.wk hk hon ha
    have hV8 := hC8.cv
    have hz8 := hC8.z
    go_upto_region 24 with (first
      | (refine load_want (by rfl) 64 _ rfl P7 0 rfl (sb tt) _ hS7.whole Tryd.underlying64 rfl (by rw [sb_length]; kernel_rfl) ?_)
      | (go_at_call 28; refine hwr.mono ?_; rintro e w9 ⟨rfl, mm9, m9, d9, i1, i2, hF9, hL9, hat9, hla9, hon9, har9, hW9, hn9⟩; have hV9 := hV8.turn hF9 hL9 hW9 rfl rfl)
      | (go_at_call 29; refine (hfl w9 mm9 m9 d9 _ hV9 (by have := HN.out; omega) hon9 har9).mono ?_; rintro e w10 ⟨rfl, mmA, mA, dA, iA1, iA2, hFA, hLA, hatA, hwA, honA, harA, hWA, hnA⟩; have hVA := hV9.turn hFA hLA hWA rfl rfl))
    clear hwr hfl hV8 hV9 hL9 hLA hF9 hFA hC8 hS7 i1 i2 iA1 iA2 hW9
    have hnn : ((n + 1 : Nat) : Int) - 1 = (n : Int) := by omega
    have hnw : IntKind.i64.wrap (n : Int) = (n : Int) := by rw [IntKind.wrap_i64]; omega
    have hLw : IntKind.i64.wrap (2 + (L : Int)) = 2 + (L : Int) := by rw [IntKind.wrap_i64]; omega
    have hgu := guard31
    have hKL : 2 ≤ K ∧ K < 2 + L + H := by have h1 := HK.out; omega
    obtain ⟨i9, hi9⟩ : ∃ i9, i9 = K - 2 := ⟨_, rfl⟩
    have hi9I : (K : Int) - 2 = (i9 : Int) := by omega
    have hi9w : IntKind.i64.wrap (i9 : Int) = (i9 : Int) := by rw [IntKind.wrap_i64]; omega
    have HI9 : Hid (K = 2 + i9) := by show _ = _; omega
    by_cases hkl : K < 2 + L
    · have hklI : (K : Int) < 2 + (L : Int) := by omega
      cases tb with
      | true =>
        have HBS : Hid (BurstD (d.at K) tt) := by have h1 := hyes rfl; rw [HSC.out] at h1; exact h1
        have HAT : Hid (dA.at = upd d.at K tt) := hatA.trans hat9
        have HIL9 : Hid (i9 < L) := by show _ < _; omega
        clear hno hyes hatA hat9 hkl hKL hi9
        go_wp2_with fail
        go_loopw [24] (fun uh wr => ∃ b9 : Nat, b9 ≤ n ∧ uh = .int .i64 (b9 : Int) ∧ CV B w wr r f cap L H q mmA mA x dA (2 + x.ws.length + 1 + 1) x.ws x.ws (.slice (some ⟨g1, 0, none⟩) (x.ws.length + 1) cp1) (.slice (some ⟨g2, 0, none⟩) (x.ws.length + 1) cp2) Nf cf ∧ ∀ j, b9 < j → j ≤ n → i9 < tot (x.ws.take j)) (fun uh _ => (intOf uh).toNat)
        case atStart => exact ⟨n, Nat.le_refl _, rfl, hVA, fun j h1 h2 => by omega⟩
        case round =>
          obtain ⟨b9, hbn, rfl, hVr, hup⟩ := hrel
          have HUP : Hid (∀ j, b9 < j → j ≤ n → i9 < tot (x.ws.take j)) := hup
          clear hup
          have hce := cell_own hVr.en (enC_at x.ws (x.ws.length + 1) b9 (by have := HN.out; omega))
          obtain ⟨E, hE⟩ : ∃ E, E = tot (x.ws.take b9) := ⟨_, rfl⟩
          rw [← hE] at hce
          have HE : Hid (E = tot (x.ws.take b9)) := hE
          clear hE
          have hbI : (b9 : Int) < ((n + 1 : Nat) : Int) := by omega
          by_cases h0 : 0 < b9
          · have h0I : (0 : Int) < (b9 : Int) := by omega
            by_cases hgt : i9 < E
            · have hgtI : (i9 : Int) < (E : Int) := by omega
              obtain ⟨c9, hc9⟩ : ∃ c9, b9 = c9 + 1 := ⟨b9 - 1, by omega⟩
              have hc9I : (b9 : Int) - 1 = (c9 : Int) := by omega
              have hc9w : IntKind.i64.wrap (c9 : Int) = (c9 : Int) := by rw [IntKind.wrap_i64]; omega
              have HC9 : Hid (b9 = c9 + 1) := hc9
              have HGT : Hid (i9 < E) := hgt
              clear hc9
              go_wp2_with fail
              refine ⟨⟨c9, by have := HC9.out; omega, rfl, hVr, fun j h1 h2 => ?_⟩, by have := HC9.out; simp only [intOf]; omega⟩
              by_cases e : j = b9
              · rw [e, ← HE.out]; exact HGT.out
              · exact HUP.out j (by have := HC9.out; omega) h2
            · have hgtI : ¬ (i9 : Int) < (E : Int) := by omega
              have HLE : Hid (tot (x.ws.take b9) ≤ i9) := by show _ ≤ _; rw [← HE.out]; omega
              clear hgt
              have hrep : RepW dA.at L H x.g (x.ws.take b9) (onL (fun _ => zp) (x.ws.take b9)) := by
                have h1 := cut_zl hz8 (by rw [hVr.eL]; omega) (by have := HI9.out; omega) (by rw [hVr.eL]; have h2 := HIL9.out; have := HI9.out; omega) HBS.out HAT.out b9 (by have := HN.out; omega) (by have h2 := HLE.out; have := HI9.out; omega) (fun h => by have h2 := HUP.out (b9 + 1) (by omega) (by have := HN.out; omega); have := HI9.out; omega)
                rwa [hVr.eL, hVr.eH] at h1
              have hop := openW_b B w wr r f mA cap dA L H x.g (2 + x.ws.length + 1 + 1) (x.ws.take b9) _ hVr.lb.db honA hwA harA (by rw [hnA, hn9, hz8.n, hVr.eL, hVr.eH]) hrep hVr.wk (by have := HN.out; omega) b1 (by omega) b3 (by omega)
              clear hrep
              go_wp2_with (first
                | (go_at_call 7; refine hop.mono ?_; rintro e v6 ⟨q6, mm6, m6, x6, d6, rfl, hm6, hF6, hLB6, hRd6, hx6L, hx6H⟩; have hst6 := hVr.opened rfl hF6 b9 (by have := HN.out; omega); have hsc6 := hst6.1; have hho := holdsR_any B w v6 q6 r mm6 f m6 cap x6 d6 _ hLB6 hRd6.on hRd6.alive hRd6.rd (Nf b9) H (cf b9) _ hst6.2 hx6H; rw [decide_eq_true (fun i _ => rfl)] at hho; clear hop hst6)
                | (go_at_call 25; refine hho.mono ?_; rintro e v7 ⟨rfl, kb7⟩; have hLB7 := hLB6.next kb7)
                | (go_at_call 16; refine (works_any _ hLB7.dl.t).mono ?_; rintro e v8 ⟨rfl, kb8⟩))
              go_ret
              exact ⟨rfl, hLB7.below.trans (kb8.mono hLB7.size)⟩
          · have h0I : ¬ (0 : Int) < (b9 : Int) := by omega
            have HLE : Hid (tot (x.ws.take b9) ≤ i9) := by
              show _ ≤ _
              rw [show b9 = 0 by omega]
              exact Nat.zero_le _
            clear h0
            have hrep : RepW dA.at L H x.g (x.ws.take b9) (onL (fun _ => zp) (x.ws.take b9)) := by
              have h1 := cut_zl hz8 (by rw [hVr.eL]; omega) (by have := HI9.out; omega) (by rw [hVr.eL]; have h2 := HIL9.out; have := HI9.out; omega) HBS.out HAT.out b9 (by have := HN.out; omega) (by have h2 := HLE.out; have := HI9.out; omega) (fun h => by have h2 := HUP.out (b9 + 1) (by omega) (by have := HN.out; omega); have := HI9.out; omega)
              rwa [hVr.eL, hVr.eH] at h1
            have hop := openW_b B w wr r f mA cap dA L H x.g (2 + x.ws.length + 1 + 1) (x.ws.take b9) _ hVr.lb.db honA hwA harA (by rw [hnA, hn9, hz8.n, hVr.eL, hVr.eH]) hrep hVr.wk (by have := HN.out; omega) b1 (by omega) b3 (by omega)
            clear hrep
            go_wp2_with (first
              | (go_at_call 7; refine hop.mono ?_; rintro e v6 ⟨q6, mm6, m6, x6, d6, rfl, hm6, hF6, hLB6, hRd6, hx6L, hx6H⟩; have hst6 := hVr.opened rfl hF6 b9 (by have := HN.out; omega); have hsc6 := hst6.1; have hho := holdsR_any B w v6 q6 r mm6 f m6 cap x6 d6 _ hLB6 hRd6.on hRd6.alive hRd6.rd (Nf b9) H (cf b9) _ hst6.2 hx6H; rw [decide_eq_true (fun i _ => rfl)] at hho; clear hop hst6)
              | (go_at_call 25; refine hho.mono ?_; rintro e v7 ⟨rfl, kb7⟩; have hLB7 := hLB6.next kb7)
              | (go_at_call 16; refine (works_any _ hLB7.dl.t).mono ?_; rintro e v8 ⟨rfl, kb8⟩))
            go_ret
            exact ⟨rfl, hLB7.below.trans (kb8.mono hLB7.size)⟩
      | false =>
        have hts : tt = d.at K := (hno rfl).trans HSC.out
        have hAT : dA.at = d.at := by rw [hatA, hat9, hts]; exact upd_self _ _
        obtain ⟨P9, hP9⟩ : ∃ P9 : Nat, P9 = 0 := ⟨_, rfl⟩
        have HP9 : Hid (P9 < H) := by show _ < _; omega
        have hrr := rd_still hz8 hAT P9 (by rw [hVA.eH]; exact HP9.out)
        have hpw : IntKind.i64.wrap ((i9 : Int) - (L : Int)) = (i9 : Int) - (L : Int) := by rw [IntKind.wrap_i64]; omega
        have hmx : max ((i9 : Int) - (L : Int)) 0 = (P9 : Int) := by omega
        clear hno hyes hatA hat9 hkl hKL hi9 hts hAT hP9
        have hr8 := read8_any w10 q r mmA f mA cap x dA hVA.lb.dl (P9 : Int) (by have := HP9.out; omega) honA hz8.alive
        rw [hrr] at hr8
        dsimp only at hr8
        obtain ⟨pX, hpX⟩ : ∃ p, p = onL (fun _ => zp) x.ws P9 := ⟨_, rfl⟩
        rw [← hpX] at hr8
        have HPX : Hid (pX = onL (fun _ => zp) x.ws P9) := hpX
        clear hrr hpX
        go_upto_region 32 with (first
          | (go_at_call 8; refine hr8.mono ?_; rintro e w11 ⟨rfl, kb11⟩; have hN11 := Blk.new w11 31 (pb zp))
          | (refine store_pg rfl _ _ rfl w11.heap.size zp pX hN11 rfl rfl ?_; intro hS11))
        have kc11 := boxed_pg w11 pX
        have hV12 := (hVA.next kb11).next kc11
        obtain ⟨P28, hP28⟩ : ∃ P, P = w11.heap.size := ⟨_, rfl⟩
        obtain ⟨w12, hw12⟩ : ∃ u, u = (w11.alloc (.cells (pb zp).toArray 31)).setRow w11.heap.size (pb pX).toArray := ⟨_, rfl⟩
        rw [← hw12] at hS11 hV12 ⊢
        rw [← hP28] at hS11 ⊢
        clear hw12 hP28 kc11 hN11 kb11 hr8
        have hqp := fun W => eq31 pX pX W
        rw [decide_eq_true rfl] at hqp
        have hn1I : (n : Int) < ((n + 1 : Nat) : Int) := by omega
        have hn1J : (n : Int) < (n : Int) + 1 := by omega
        have hP9I : (P9 : Int) < (H : Int) := by have := HP9.out; omega
        have hrw := hV12.rows x.ws.length (Nat.le_refl _)
        rw [List.take_length, ← HN.out] at hrw
        have hcl := cell_own hV12.st (stC_at H Nf cf _ _ (Nat.lt_succ_self x.ws.length))
        rw [← HN.out] at hcl
        obtain ⟨F9, hF9⟩ : ∃ F9, F9 = onL (fun _ => zp) x.ws := ⟨_, rfl⟩
        rw [← hF9] at hrw
        have HRG : Hid (∀ u, FQ B w u P28 g1 n (Nf n) H (cf n) pX F9 → u.rangeAt (Nf n) (P9 * 480) (pb pX)) := fun u hu => by rw [HPX.out, ← hF9]; exact hu.r.range HP9.out
        have hS0 : FQ B w w12.drew P28 g1 n (Nf n) H (cf n) pX F9 := FQ.next ⟨hS11, hcl, hrw, hV12.lb.dl.t, hV12.lb.below, hV12.lb.size⟩ (below_drw w12)
        clear hF9 hrw hcl hV12 hS11
        go_upto_region 34 with fail
        refine wp_region_to (fun v => FQ B w v P28 g1 n (Nf n) H (cf n) pX F9) 18 (by kernel_rfl) ?_
        refine wpTo_take (i := 0) (v := ?v0z1) (show _ = some _ by simp only [List.getElem?_toArray, List.getElem?_cons_zero]; exact rfl) (by kernel_rfl) (by kernel_rfl) (by kernel_rfl) (by kernel_rfl) (by exact fun _ _ _ h => h) (Or.inl ⟨by rfl, ?hy0z1⟩) hS0 ?r0z1
        case hy0z1 => (intro w hSw; (try dsimp only at hSw); go_simp; try with_reducible rfl)
        (try simp only [Act.put]); (try simp only [List.setIfInBounds_toArray]); (repeat (first | simp only [List.set_cons_succ] | simp only [List.set_cons_zero]))
        refine wpTo_take (i := 1) (v := ?v1z2) (show _ = some _ by simp only [List.getElem?_toArray, List.getElem?_cons_succ, List.getElem?_cons_zero]; exact rfl) (by kernel_rfl) (by kernel_rfl) (by kernel_rfl) (by kernel_rfl) (by exact fun _ _ _ h => h) (Or.inl ⟨by rfl, ?hy1z2⟩) hS0 ?r1z2
        case hy1z2 => (intro w hSw; (try dsimp only at hSw); go_simp; try with_reducible rfl)
        (try simp only [Act.put]); (try simp only [List.setIfInBounds_toArray]); (repeat (first | simp only [List.set_cons_succ] | simp only [List.set_cons_zero]))
        refine wpTo_take (i := 2) (v := ?v2z3) (show _ = some _ by simp only [List.getElem?_toArray, List.getElem?_cons_succ, List.getElem?_cons_zero]; exact rfl) (by kernel_rfl) (by kernel_rfl) (by kernel_rfl) (by kernel_rfl) (by exact fun _ _ _ h => h) (Or.inl ⟨by rfl, ?hy2z3⟩) hS0 ?r2z3
        case hy2z3 => (intro w hSw; (try dsimp only at hSw); go_simp; try with_reducible rfl)
        (try simp only [Act.put]); (try simp only [List.setIfInBounds_toArray]); (repeat (first | simp only [List.set_cons_succ] | simp only [List.set_cons_zero]))
        refine wpTo_take (i := 3) (show _ = some _ by simp only [List.getElem?_toArray, List.getElem?_cons_succ, List.getElem?_cons_zero]; exact rfl) (by kernel_rfl) (by kernel_rfl) (by kernel_rfl) (by kernel_rfl) (by exact fun _ _ _ h => h) (yieldsIf_load_mid (by rfl) 31 (.tmp 28) rfl P28 0 rfl (pb pX) _ (fun v h => (FQ.p h).whole) Tryd.underlying31 rfl (by rw [pb_length]; kernel_rfl)) hS0 ?_
        (try simp only [Act.put]); (try simp only [List.setIfInBounds_toArray]); (repeat (first | simp only [List.set_cons_succ] | simp only [List.set_cons_zero]))
        refine wpTo_take (i := 4) (v := ?v4z4) (show _ = some _ by simp only [List.getElem?_toArray, List.getElem?_cons_succ, List.getElem?_cons_zero]; exact rfl) (by kernel_rfl) (by kernel_rfl) (by kernel_rfl) (by kernel_rfl) (by exact fun _ _ _ h => h) (Or.inl ⟨by rfl, ?hy4z4⟩) hS0 ?r4z4
        case hy4z4 => (intro w hSw; (try dsimp only at hSw); go_simp; try with_reducible rfl)
        (try simp only [Act.put]); (try simp only [List.setIfInBounds_toArray]); (repeat (first | simp only [List.set_cons_succ] | simp only [List.set_cons_zero]))
        refine wpTo_take (i := 5) (v := ?v5z5) (show _ = some _ by simp only [List.getElem?_toArray, List.getElem?_cons_succ, List.getElem?_cons_zero]; exact rfl) (by kernel_rfl) (by kernel_rfl) (by kernel_rfl) (by kernel_rfl) (by exact fun _ _ _ h => h) (Or.inl ⟨by rfl, ?hy5z5⟩) hS0 ?r5z5
        case hy5z5 => (intro w hSw; (try dsimp only at hSw); go_simp; try with_reducible rfl)
        (try simp only [Act.put]); (try simp only [List.setIfInBounds_toArray]); (repeat (first | simp only [List.set_cons_succ] | simp only [List.set_cons_zero]))
        refine wpTo_take (i := 6) (v := ?v6z6) (show _ = some _ by simp only [List.getElem?_toArray, List.getElem?_cons_succ, List.getElem?_cons_zero]; exact rfl) (by kernel_rfl) (by kernel_rfl) (by kernel_rfl) (by kernel_rfl) (by exact fun _ _ _ h => h) (Or.inl ⟨by rfl, ?hy6z6⟩) hS0 ?r6z6
        case hy6z6 => (intro w hSw; (try dsimp only at hSw); go_simp; try with_reducible rfl)
        (try simp only [Act.put]); (try simp only [List.setIfInBounds_toArray]); (repeat (first | simp only [List.set_cons_succ] | simp only [List.set_cons_zero]))
        refine wpTo_take (i := 7) (v := ?v7z7) (show _ = some _ by simp only [List.getElem?_toArray, List.getElem?_cons_succ, List.getElem?_cons_zero]; exact rfl) (by kernel_rfl) (by kernel_rfl) (by kernel_rfl) (by kernel_rfl) (by exact fun _ _ _ h => h) (Or.inl ⟨by rfl, ?hy7z7⟩) hS0 ?r7z7
        case hy7z7 => (intro w hSw; (try dsimp only at hSw); have hcc := hSw.st; go_simp; try with_reducible rfl)
        (try simp only [Act.put]); (try simp only [List.setIfInBounds_toArray]); (repeat (first | simp only [List.set_cons_succ] | simp only [List.set_cons_zero]))
        refine wpTo_take (i := 8) (v := ?v8z8) (show _ = some _ by simp only [List.getElem?_toArray, List.getElem?_cons_succ, List.getElem?_cons_zero]; exact rfl) (by kernel_rfl) (by kernel_rfl) (by kernel_rfl) (by kernel_rfl) (by exact fun _ _ _ h => h) (Or.inl ⟨by rfl, ?hy8z8⟩) hS0 ?r8z8
        case hy8z8 => (intro w hSw; (try dsimp only at hSw); go_simp; try with_reducible rfl)
        (try simp only [Act.put]); (try simp only [List.setIfInBounds_toArray]); (repeat (first | simp only [List.set_cons_succ] | simp only [List.set_cons_zero]))
        refine wpTo_take (i := 9) (v := ?v9z9) (show _ = some _ by simp only [List.getElem?_toArray, List.getElem?_cons_succ, List.getElem?_cons_zero]; exact rfl) (by kernel_rfl) (by kernel_rfl) (by kernel_rfl) (by kernel_rfl) (by exact fun _ _ _ h => h) (Or.inl ⟨by rfl, ?hy9z9⟩) hS0 ?r9z9
        case hy9z9 => (intro w hSw; (try dsimp only at hSw); go_simp; try with_reducible rfl)
        (try simp only [Act.put]); (try simp only [List.setIfInBounds_toArray]); (repeat (first | simp only [List.set_cons_succ] | simp only [List.set_cons_zero]))
        refine wpTo_take (i := 10) (v := ?v10z10) (show _ = some _ by simp only [List.getElem?_toArray, List.getElem?_cons_succ, List.getElem?_cons_zero]; exact rfl) (by kernel_rfl) (by kernel_rfl) (by kernel_rfl) (by kernel_rfl) (by exact fun _ _ _ h => h) (Or.inl ⟨by rfl, ?hy10z10⟩) hS0 ?r10z10
        case hy10z10 => (intro w hSw; (try dsimp only at hSw); go_simp; try with_reducible rfl)
        (try simp only [Act.put]); (try simp only [List.setIfInBounds_toArray]); (repeat (first | simp only [List.set_cons_succ] | simp only [List.set_cons_zero]))
        refine wpTo_take (i := 11) (show _ = some _ by simp only [List.getElem?_toArray, List.getElem?_cons_succ, List.getElem?_cons_zero]; exact rfl) (by kernel_rfl) (by kernel_rfl) (by kernel_rfl) (by kernel_rfl) (by exact fun _ _ _ h => h) (yieldsIf_load_mid (by rfl) 31 (.tmp 235) rfl (Nf n) (P9 * 480) rfl (pb pX) _ (fun v h => HRG.out v h) Tryd.underlying31 rfl (by rw [pb_length]; kernel_rfl)) hS0 ?_
        (try simp only [Act.put]); (try simp only [List.setIfInBounds_toArray]); (repeat (first | simp only [List.set_cons_succ] | simp only [List.set_cons_zero]))
        refine wpTo_take (i := 12) (v := ?v12z11) (show _ = some _ by simp only [List.getElem?_toArray, List.getElem?_cons_succ, List.getElem?_cons_zero]; exact rfl) (by kernel_rfl) (by kernel_rfl) (by kernel_rfl) (by kernel_rfl) (by exact fun _ _ _ h => h) (Or.inl ⟨by rfl, ?hy12z11⟩) hS0 ?r12z11
        case hy12z11 => (intro w hSw; (try dsimp only at hSw); go_simp; try with_reducible rfl)
        (try simp only [Act.put]); (try simp only [List.setIfInBounds_toArray]); (repeat (first | simp only [List.set_cons_succ] | simp only [List.set_cons_zero]))
        refine wpTo_take (i := 13) (v := ?v13z12) (show _ = some _ by simp only [List.getElem?_toArray, List.getElem?_cons_succ, List.getElem?_cons_zero]; exact rfl) (by kernel_rfl) (by kernel_rfl) (by kernel_rfl) (by kernel_rfl) (by exact fun _ _ _ h => h) (Or.inl ⟨by rfl, ?hy13z12⟩) hS0 ?r13z12
        case hy13z12 => (intro w hSw; (try dsimp only at hSw); go_simp; try with_reducible rfl)
        (try simp only [Act.put]); (try simp only [List.setIfInBounds_toArray]); (repeat (first | simp only [List.set_cons_succ] | simp only [List.set_cons_zero]))
        refine wpTo_take (i := 14) (v := ?v14z13) (show _ = some _ by simp only [List.getElem?_toArray, List.getElem?_cons_succ, List.getElem?_cons_zero]; exact rfl) (by kernel_rfl) (by kernel_rfl) (by kernel_rfl) (by kernel_rfl) (by exact fun _ _ _ h => h) (Or.inl ⟨by rfl, ?hy14z13⟩) hS0 ?r14z13
        case hy14z13 => (intro w hSw; (try dsimp only at hSw); go_simp; try with_reducible rfl)
        (try simp only [Act.put]); (try simp only [List.setIfInBounds_toArray]); (repeat (first | simp only [List.set_cons_succ] | simp only [List.set_cons_zero]))
        refine wpTo_one (i := 15) (by kernel_rfl) (show _ = some _ by simp only [List.getElem?_toArray, List.getElem?_cons_succ, List.getElem?_cons_zero]; exact rfl) (fun K hK => ?_)
        go_simp
        go_at_call 16; refine (works_any _ hS0.t).mono ?_; rintro e v2 ⟨rfl, kx2⟩
        have hS1 := hS0.next kx2
        (try simp only [])
        refine hK.out _ _ (hS1) (fun _ => ?_)
        clear hK K
        (try simp only [Act.put]); (try simp only [List.setIfInBounds_toArray]); (repeat (first | simp only [List.set_cons_succ] | simp only [List.set_cons_zero]))
        refine wpTo_take (i := 16) (v := ?v16z14) (show _ = some _ by simp only [List.getElem?_toArray, List.getElem?_cons_succ, List.getElem?_cons_zero]; exact rfl) (by kernel_rfl) (by kernel_rfl) (by kernel_rfl) (by kernel_rfl) (by exact fun _ _ _ h => h) (Or.inl ⟨by rfl, ?hy16z14⟩) hS1 ?r16z14
        case hy16z14 => (intro w hSw; (try dsimp only at hSw); go_simp; try with_reducible rfl)
        (try simp only [Act.put]); (try simp only [List.setIfInBounds_toArray]); (repeat (first | simp only [List.set_cons_succ] | simp only [List.set_cons_zero]))
        refine wpTo_take (i := 17) (v := ?v17z15) (show _ = some _ by simp only [List.getElem?_toArray, List.getElem?_cons_succ, List.getElem?_cons_zero]; exact rfl) (by kernel_rfl) (by kernel_rfl) (by kernel_rfl) (by kernel_rfl) (by exact fun _ _ _ h => h) (Or.inl ⟨by rfl, ?hy17z15⟩) hS1 ?r17z15
        case hy17z15 => (intro w hSw; (try dsimp only at hSw); go_simp; try with_reducible rfl)
        (try simp only [Act.put]); (try simp only [List.setIfInBounds_toArray]); (repeat (first | simp only [List.set_cons_succ] | simp only [List.set_cons_zero]))
        refine wpTo_done (by kernel_rfl) ?_
        go_wp2_with fail
        go_ret
        exact ⟨rfl, hS1.k⟩
    · have hklI : ¬ (K : Int) < 2 + (L : Int) := by omega
      obtain ⟨P9, hP9⟩ : ∃ P9 : Nat, P9 = i9 - L := ⟨_, rfl⟩
      have HP9 : Hid (P9 < H) := by show _ < _; omega
      have HKP : Hid (K = 2 + x.L + P9) := by show _ = _; rw [hVA.eL]; omega
      have hpI : (i9 : Int) - (L : Int) = (P9 : Int) := by omega
      have hpw : IntKind.i64.wrap (P9 : Int) = (P9 : Int) := by rw [IntKind.wrap_i64]; omega
      have hmx : max (P9 : Int) 0 = (P9 : Int) := by omega
      cases tb with
      | true =>
        have hbs : BurstD (d.at (2 + x.L + P9)) tt := by have h1 := hyes rfl; rw [HSC.out, HKP.out] at h1; exact h1
        have hAT : dA.at = upd d.at (2 + x.L + P9) tt := by rw [← HKP.out]; exact hatA.trans hat9
        have hrot := rd_rot hz8 (p := P9) (by rw [hVA.eH]; exact HP9.out) (by have := HP9.out; omega) hbs hAT
        have HTCH : Hid (Touch H L O (P9 : Int) n on ↔ (ov x.ws P9).isSome = true) := by
          show _ ↔ _
          rw [HN.out]
          exact TI.touch HTI.out HJN.out P9 HP9.out
        have htc : ∀ u : World, Below B w u → B ≤ u.heap.size → Calls Tryd.prog 30 #[.slice oo on oc, .int .i64 (P9 : Int), .int .i64 (n : Int), .int .i64 (H : Int), .int .i64 (L : Int)] u (TchR u (Touch H L O (P9 : Int) n on)) := fun u hu hs => touched_any u oo on oc O (P9 : Int) n H L (fun v hv => HO.out v (hu.trans (hv.mono hs))) om (by omega) (by omega) (by omega)
        clear hno hyes hatA hat9 hkl hKL hi9 hbs hAT hP9
        rcases hrot with ⟨hov, hrr⟩ | ⟨hov, hrr⟩
        · have HNT : Hid (¬ Touch H L O (P9 : Int) n on) := fun h => by have h1 := HTCH.out.1 h; rw [hov] at h1; cases h1
          clear hov
          have hr8 := read8_any w10 q r mmA f mA cap x dA hVA.lb.dl (P9 : Int) (by have := HP9.out; omega) honA hz8.alive
          rw [hrr] at hr8
          dsimp only at hr8
          clear hrr
          have hqz := fun W => eq31 zp zp W
          rw [decide_eq_true rfl] at hqz
          go_upto_region 32 with (first
            | (go_at_call 8; refine hr8.mono ?_; rintro e w11 ⟨rfl, kb11⟩; have hN11 := Blk.new w11 31 (pb zp))
            | (refine store_pg rfl _ _ rfl w11.heap.size zp zp hN11 rfl rfl ?_; intro hS11))
          have kc11 := boxed_pg w11 zp
          have hV12 := (hVA.next kb11).next kc11
          obtain ⟨P28, hP28⟩ : ∃ P, P = w11.heap.size := ⟨_, rfl⟩
          obtain ⟨w12, hw12⟩ : ∃ u, u = (w11.alloc (.cells (pb zp).toArray 31)).setRow w11.heap.size (pb zp).toArray := ⟨_, rfl⟩
          rw [← hw12] at hS11 hV12 ⊢
          rw [← hP28] at hS11 ⊢
          clear hw12 hP28 kc11 hN11 kb11 hr8
          have ht12 := htc w12 hV12.lb.below hV12.lb.size
          clear htc
          go_wp2_with (first
            | (go_at_call 30; refine ht12.mono ?_; rintro e w13 ⟨b13, rfl, hb13, kb13⟩; have hV13 := hV12.next kb13; have hS13 := hS11.next kb13; have hbf : b13 = false := (by cases b13 with | false => rfl | true => exact absurd (hb13.1 rfl) HNT.out); subst hbf; clear hb13)
            | (refine load_want (by rfl) 31 _ rfl P28 0 rfl (pb zp) _ hS13.whole Tryd.underlying31 rfl (by rw [pb_length]; kernel_rfl) ?_)
            | (go_at_call 16; refine (works_any _ hV13.lb.dl.t).mono ?_; rintro e w14 ⟨rfl, kb14⟩))
          go_ret
          exact ⟨rfl, hV13.lb.below.trans (kb14.mono hV13.lb.size)⟩
        · have HT : Hid (Touch H L O (P9 : Int) n on) := HTCH.out.2 hov
          clear hov
          have hr8 := read8_any w10 q r mmA f mA cap x dA hVA.lb.dl (P9 : Int) (by have := HP9.out; omega) honA hz8.alive
          rw [hrr] at hr8
          dsimp only at hr8
          obtain ⟨pX, hpX⟩ : ∃ p, p = onL (fun _ => zp) x.ws P9 := ⟨_, rfl⟩
          rw [← hpX] at hr8
          have HPX : Hid (pX = onL (fun _ => zp) x.ws P9) := hpX
          clear hrr hpX
          go_upto_region 32 with (first
            | (go_at_call 8; refine hr8.mono ?_; rintro e w11 ⟨rfl, kb11⟩; have hN11 := Blk.new w11 31 (pb zp))
            | (refine store_pg rfl _ _ rfl w11.heap.size zp pX hN11 rfl rfl ?_; intro hS11))
          have kc11 := boxed_pg w11 pX
          have hV12 := (hVA.next kb11).next kc11
          obtain ⟨P28, hP28⟩ : ∃ P, P = w11.heap.size := ⟨_, rfl⟩
          obtain ⟨w12, hw12⟩ : ∃ u, u = (w11.alloc (.cells (pb zp).toArray 31)).setRow w11.heap.size (pb pX).toArray := ⟨_, rfl⟩
          rw [← hw12] at hS11 hV12 ⊢
          rw [← hP28] at hS11 ⊢
          clear hw12 hP28 kc11 hN11 kb11 hr8
          have ht12 := htc w12 hV12.lb.below hV12.lb.size
          clear htc
          go_upto_region 34 with (go_at_call 30; refine ht12.mono ?_; rintro e w13 ⟨b13, rfl, hb13, kb13⟩; have hV13 := hV12.next kb13; have hS13 := hS11.next kb13; have hbf : b13 = true := hb13.2 HT.out; subst hbf; clear hb13 hV12 hS11)
          have hqp := fun W => eq31 pX pX W
          rw [decide_eq_true rfl] at hqp
          have hn1I : (n : Int) < ((n + 1 : Nat) : Int) := by omega
          have hn1J : (n : Int) < (n : Int) + 1 := by omega
          have hP9I : (P9 : Int) < (H : Int) := by have := HP9.out; omega
          have hrw := hV13.rows x.ws.length (Nat.le_refl _)
          rw [List.take_length, ← HN.out] at hrw
          have hcl := cell_own hV13.st (stC_at H Nf cf _ _ (Nat.lt_succ_self x.ws.length))
          rw [← HN.out] at hcl
          obtain ⟨F9, hF9⟩ : ∃ F9, F9 = onL (fun _ => zp) x.ws := ⟨_, rfl⟩
          rw [← hF9] at hrw
          have HRG : Hid (∀ u, FQ B w u P28 g1 n (Nf n) H (cf n) pX F9 → u.rangeAt (Nf n) (P9 * 480) (pb pX)) := fun u hu => by rw [HPX.out, ← hF9]; exact hu.r.range HP9.out
          have hS0 : FQ B w w13.drew P28 g1 n (Nf n) H (cf n) pX F9 := FQ.next ⟨hS13, hcl, hrw, hV13.lb.dl.t, hV13.lb.below, hV13.lb.size⟩ (below_drw w13)
          clear hF9 hrw hcl hV13 hS13
          refine wp_region_to (fun v => FQ B w v P28 g1 n (Nf n) H (cf n) pX F9) 18 (by kernel_rfl) ?_
          refine wpTo_take (i := 0) (v := ?v0z16) (show _ = some _ by simp only [List.getElem?_toArray, List.getElem?_cons_zero]; exact rfl) (by kernel_rfl) (by kernel_rfl) (by kernel_rfl) (by kernel_rfl) (by exact fun _ _ _ h => h) (Or.inl ⟨by rfl, ?hy0z16⟩) hS0 ?r0z16
          case hy0z16 => (intro w hSw; (try dsimp only at hSw); go_simp; try with_reducible rfl)
          (try simp only [Act.put]); (try simp only [List.setIfInBounds_toArray]); (repeat (first | simp only [List.set_cons_succ] | simp only [List.set_cons_zero]))
          refine wpTo_take (i := 1) (v := ?v1z17) (show _ = some _ by simp only [List.getElem?_toArray, List.getElem?_cons_succ, List.getElem?_cons_zero]; exact rfl) (by kernel_rfl) (by kernel_rfl) (by kernel_rfl) (by kernel_rfl) (by exact fun _ _ _ h => h) (Or.inl ⟨by rfl, ?hy1z17⟩) hS0 ?r1z17
          case hy1z17 => (intro w hSw; (try dsimp only at hSw); go_simp; try with_reducible rfl)
          (try simp only [Act.put]); (try simp only [List.setIfInBounds_toArray]); (repeat (first | simp only [List.set_cons_succ] | simp only [List.set_cons_zero]))
          refine wpTo_take (i := 2) (v := ?v2z18) (show _ = some _ by simp only [List.getElem?_toArray, List.getElem?_cons_succ, List.getElem?_cons_zero]; exact rfl) (by kernel_rfl) (by kernel_rfl) (by kernel_rfl) (by kernel_rfl) (by exact fun _ _ _ h => h) (Or.inl ⟨by rfl, ?hy2z18⟩) hS0 ?r2z18
          case hy2z18 => (intro w hSw; (try dsimp only at hSw); go_simp; try with_reducible rfl)
          (try simp only [Act.put]); (try simp only [List.setIfInBounds_toArray]); (repeat (first | simp only [List.set_cons_succ] | simp only [List.set_cons_zero]))
          refine wpTo_take (i := 3) (show _ = some _ by simp only [List.getElem?_toArray, List.getElem?_cons_succ, List.getElem?_cons_zero]; exact rfl) (by kernel_rfl) (by kernel_rfl) (by kernel_rfl) (by kernel_rfl) (by exact fun _ _ _ h => h) (yieldsIf_load_mid (by rfl) 31 (.tmp 28) rfl P28 0 rfl (pb pX) _ (fun v h => (FQ.p h).whole) Tryd.underlying31 rfl (by rw [pb_length]; kernel_rfl)) hS0 ?_
          (try simp only [Act.put]); (try simp only [List.setIfInBounds_toArray]); (repeat (first | simp only [List.set_cons_succ] | simp only [List.set_cons_zero]))
          refine wpTo_take (i := 4) (v := ?v4z19) (show _ = some _ by simp only [List.getElem?_toArray, List.getElem?_cons_succ, List.getElem?_cons_zero]; exact rfl) (by kernel_rfl) (by kernel_rfl) (by kernel_rfl) (by kernel_rfl) (by exact fun _ _ _ h => h) (Or.inl ⟨by rfl, ?hy4z19⟩) hS0 ?r4z19
          case hy4z19 => (intro w hSw; (try dsimp only at hSw); go_simp; try with_reducible rfl)
          (try simp only [Act.put]); (try simp only [List.setIfInBounds_toArray]); (repeat (first | simp only [List.set_cons_succ] | simp only [List.set_cons_zero]))
          refine wpTo_take (i := 5) (v := ?v5z20) (show _ = some _ by simp only [List.getElem?_toArray, List.getElem?_cons_succ, List.getElem?_cons_zero]; exact rfl) (by kernel_rfl) (by kernel_rfl) (by kernel_rfl) (by kernel_rfl) (by exact fun _ _ _ h => h) (Or.inl ⟨by rfl, ?hy5z20⟩) hS0 ?r5z20
          case hy5z20 => (intro w hSw; (try dsimp only at hSw); go_simp; try with_reducible rfl)
          (try simp only [Act.put]); (try simp only [List.setIfInBounds_toArray]); (repeat (first | simp only [List.set_cons_succ] | simp only [List.set_cons_zero]))
          refine wpTo_take (i := 6) (v := ?v6z21) (show _ = some _ by simp only [List.getElem?_toArray, List.getElem?_cons_succ, List.getElem?_cons_zero]; exact rfl) (by kernel_rfl) (by kernel_rfl) (by kernel_rfl) (by kernel_rfl) (by exact fun _ _ _ h => h) (Or.inl ⟨by rfl, ?hy6z21⟩) hS0 ?r6z21
          case hy6z21 => (intro w hSw; (try dsimp only at hSw); go_simp; try with_reducible rfl)
          (try simp only [Act.put]); (try simp only [List.setIfInBounds_toArray]); (repeat (first | simp only [List.set_cons_succ] | simp only [List.set_cons_zero]))
          refine wpTo_take (i := 7) (v := ?v7z22) (show _ = some _ by simp only [List.getElem?_toArray, List.getElem?_cons_succ, List.getElem?_cons_zero]; exact rfl) (by kernel_rfl) (by kernel_rfl) (by kernel_rfl) (by kernel_rfl) (by exact fun _ _ _ h => h) (Or.inl ⟨by rfl, ?hy7z22⟩) hS0 ?r7z22
          case hy7z22 => (intro w hSw; (try dsimp only at hSw); have hcc := hSw.st; go_simp; try with_reducible rfl)
          (try simp only [Act.put]); (try simp only [List.setIfInBounds_toArray]); (repeat (first | simp only [List.set_cons_succ] | simp only [List.set_cons_zero]))
          refine wpTo_take (i := 8) (v := ?v8z23) (show _ = some _ by simp only [List.getElem?_toArray, List.getElem?_cons_succ, List.getElem?_cons_zero]; exact rfl) (by kernel_rfl) (by kernel_rfl) (by kernel_rfl) (by kernel_rfl) (by exact fun _ _ _ h => h) (Or.inl ⟨by rfl, ?hy8z23⟩) hS0 ?r8z23
          case hy8z23 => (intro w hSw; (try dsimp only at hSw); go_simp; try with_reducible rfl)
          (try simp only [Act.put]); (try simp only [List.setIfInBounds_toArray]); (repeat (first | simp only [List.set_cons_succ] | simp only [List.set_cons_zero]))
          refine wpTo_take (i := 9) (v := ?v9z24) (show _ = some _ by simp only [List.getElem?_toArray, List.getElem?_cons_succ, List.getElem?_cons_zero]; exact rfl) (by kernel_rfl) (by kernel_rfl) (by kernel_rfl) (by kernel_rfl) (by exact fun _ _ _ h => h) (Or.inl ⟨by rfl, ?hy9z24⟩) hS0 ?r9z24
          case hy9z24 => (intro w hSw; (try dsimp only at hSw); go_simp; try with_reducible rfl)
          (try simp only [Act.put]); (try simp only [List.setIfInBounds_toArray]); (repeat (first | simp only [List.set_cons_succ] | simp only [List.set_cons_zero]))
          refine wpTo_take (i := 10) (v := ?v10z25) (show _ = some _ by simp only [List.getElem?_toArray, List.getElem?_cons_succ, List.getElem?_cons_zero]; exact rfl) (by kernel_rfl) (by kernel_rfl) (by kernel_rfl) (by kernel_rfl) (by exact fun _ _ _ h => h) (Or.inl ⟨by rfl, ?hy10z25⟩) hS0 ?r10z25
          case hy10z25 => (intro w hSw; (try dsimp only at hSw); go_simp; try with_reducible rfl)
          (try simp only [Act.put]); (try simp only [List.setIfInBounds_toArray]); (repeat (first | simp only [List.set_cons_succ] | simp only [List.set_cons_zero]))
          refine wpTo_take (i := 11) (show _ = some _ by simp only [List.getElem?_toArray, List.getElem?_cons_succ, List.getElem?_cons_zero]; exact rfl) (by kernel_rfl) (by kernel_rfl) (by kernel_rfl) (by kernel_rfl) (by exact fun _ _ _ h => h) (yieldsIf_load_mid (by rfl) 31 (.tmp 235) rfl (Nf n) (P9 * 480) rfl (pb pX) _ (fun v h => HRG.out v h) Tryd.underlying31 rfl (by rw [pb_length]; kernel_rfl)) hS0 ?_
          (try simp only [Act.put]); (try simp only [List.setIfInBounds_toArray]); (repeat (first | simp only [List.set_cons_succ] | simp only [List.set_cons_zero]))
          refine wpTo_take (i := 12) (v := ?v12z26) (show _ = some _ by simp only [List.getElem?_toArray, List.getElem?_cons_succ, List.getElem?_cons_zero]; exact rfl) (by kernel_rfl) (by kernel_rfl) (by kernel_rfl) (by kernel_rfl) (by exact fun _ _ _ h => h) (Or.inl ⟨by rfl, ?hy12z26⟩) hS0 ?r12z26
          case hy12z26 => (intro w hSw; (try dsimp only at hSw); go_simp; try with_reducible rfl)
          (try simp only [Act.put]); (try simp only [List.setIfInBounds_toArray]); (repeat (first | simp only [List.set_cons_succ] | simp only [List.set_cons_zero]))
          refine wpTo_take (i := 13) (v := ?v13z27) (show _ = some _ by simp only [List.getElem?_toArray, List.getElem?_cons_succ, List.getElem?_cons_zero]; exact rfl) (by kernel_rfl) (by kernel_rfl) (by kernel_rfl) (by kernel_rfl) (by exact fun _ _ _ h => h) (Or.inl ⟨by rfl, ?hy13z27⟩) hS0 ?r13z27
          case hy13z27 => (intro w hSw; (try dsimp only at hSw); go_simp; try with_reducible rfl)
          (try simp only [Act.put]); (try simp only [List.setIfInBounds_toArray]); (repeat (first | simp only [List.set_cons_succ] | simp only [List.set_cons_zero]))
          refine wpTo_take (i := 14) (v := ?v14z28) (show _ = some _ by simp only [List.getElem?_toArray, List.getElem?_cons_succ, List.getElem?_cons_zero]; exact rfl) (by kernel_rfl) (by kernel_rfl) (by kernel_rfl) (by kernel_rfl) (by exact fun _ _ _ h => h) (Or.inl ⟨by rfl, ?hy14z28⟩) hS0 ?r14z28
          case hy14z28 => (intro w hSw; (try dsimp only at hSw); go_simp; try with_reducible rfl)
          (try simp only [Act.put]); (try simp only [List.setIfInBounds_toArray]); (repeat (first | simp only [List.set_cons_succ] | simp only [List.set_cons_zero]))
          refine wpTo_one (i := 15) (by kernel_rfl) (show _ = some _ by simp only [List.getElem?_toArray, List.getElem?_cons_succ, List.getElem?_cons_zero]; exact rfl) (fun K hK => ?_)
          go_simp
          go_at_call 16; refine (works_any _ hS0.t).mono ?_; rintro e v2 ⟨rfl, kx2⟩
          have hS1 := hS0.next kx2
          (try simp only [])
          refine hK.out _ _ (hS1) (fun _ => ?_)
          clear hK K
          (try simp only [Act.put]); (try simp only [List.setIfInBounds_toArray]); (repeat (first | simp only [List.set_cons_succ] | simp only [List.set_cons_zero]))
          refine wpTo_take (i := 16) (v := ?v16z29) (show _ = some _ by simp only [List.getElem?_toArray, List.getElem?_cons_succ, List.getElem?_cons_zero]; exact rfl) (by kernel_rfl) (by kernel_rfl) (by kernel_rfl) (by kernel_rfl) (by exact fun _ _ _ h => h) (Or.inl ⟨by rfl, ?hy16z29⟩) hS1 ?r16z29
          case hy16z29 => (intro w hSw; (try dsimp only at hSw); go_simp; try with_reducible rfl)
          (try simp only [Act.put]); (try simp only [List.setIfInBounds_toArray]); (repeat (first | simp only [List.set_cons_succ] | simp only [List.set_cons_zero]))
          refine wpTo_take (i := 17) (v := ?v17z30) (show _ = some _ by simp only [List.getElem?_toArray, List.getElem?_cons_succ, List.getElem?_cons_zero]; exact rfl) (by kernel_rfl) (by kernel_rfl) (by kernel_rfl) (by kernel_rfl) (by exact fun _ _ _ h => h) (Or.inl ⟨by rfl, ?hy17z30⟩) hS1 ?r17z30
          case hy17z30 => (intro w hSw; (try dsimp only at hSw); go_simp; try with_reducible rfl)
          (try simp only [Act.put]); (try simp only [List.setIfInBounds_toArray]); (repeat (first | simp only [List.set_cons_succ] | simp only [List.set_cons_zero]))
          refine wpTo_done (by kernel_rfl) ?_
          go_wp2_with fail
          go_ret
          exact ⟨rfl, hS1.k⟩
      | false =>
        have hts : tt = d.at K := (hno rfl).trans HSC.out
        have hAT : dA.at = d.at := by rw [hatA, hat9, hts]; exact upd_self _ _
        have hrr := rd_still hz8 hAT P9 (by rw [hVA.eH]; exact HP9.out)
        clear hno hyes hatA hat9 hkl hKL hi9 hts hAT hP9
        have hr8 := read8_any w10 q r mmA f mA cap x dA hVA.lb.dl (P9 : Int) (by have := HP9.out; omega) honA hz8.alive
        rw [hrr] at hr8
        dsimp only at hr8
        obtain ⟨pX, hpX⟩ : ∃ p, p = onL (fun _ => zp) x.ws P9 := ⟨_, rfl⟩
        rw [← hpX] at hr8
        have HPX : Hid (pX = onL (fun _ => zp) x.ws P9) := hpX
        clear hrr hpX
        go_upto_region 32 with (first
          | (go_at_call 8; refine hr8.mono ?_; rintro e w11 ⟨rfl, kb11⟩; have hN11 := Blk.new w11 31 (pb zp))
          | (refine store_pg rfl _ _ rfl w11.heap.size zp pX hN11 rfl rfl ?_; intro hS11))
        have kc11 := boxed_pg w11 pX
        have hV12 := (hVA.next kb11).next kc11
        obtain ⟨P28, hP28⟩ : ∃ P, P = w11.heap.size := ⟨_, rfl⟩
        obtain ⟨w12, hw12⟩ : ∃ u, u = (w11.alloc (.cells (pb zp).toArray 31)).setRow w11.heap.size (pb pX).toArray := ⟨_, rfl⟩
        rw [← hw12] at hS11 hV12 ⊢
        rw [← hP28] at hS11 ⊢
        clear hw12 hP28 kc11 hN11 kb11 hr8
        have hqp := fun W => eq31 pX pX W
        rw [decide_eq_true rfl] at hqp
        have hn1I : (n : Int) < ((n + 1 : Nat) : Int) := by omega
        have hn1J : (n : Int) < (n : Int) + 1 := by omega
        have hP9I : (P9 : Int) < (H : Int) := by have := HP9.out; omega
        have hrw := hV12.rows x.ws.length (Nat.le_refl _)
        rw [List.take_length, ← HN.out] at hrw
        have hcl := cell_own hV12.st (stC_at H Nf cf _ _ (Nat.lt_succ_self x.ws.length))
        rw [← HN.out] at hcl
        obtain ⟨F9, hF9⟩ : ∃ F9, F9 = onL (fun _ => zp) x.ws := ⟨_, rfl⟩
        rw [← hF9] at hrw
        have HRG : Hid (∀ u, FQ B w u P28 g1 n (Nf n) H (cf n) pX F9 → u.rangeAt (Nf n) (P9 * 480) (pb pX)) := fun u hu => by rw [HPX.out, ← hF9]; exact hu.r.range HP9.out
        have hS0 : FQ B w w12.drew P28 g1 n (Nf n) H (cf n) pX F9 := FQ.next ⟨hS11, hcl, hrw, hV12.lb.dl.t, hV12.lb.below, hV12.lb.size⟩ (below_drw w12)
        clear hF9 hrw hcl hV12 hS11
        go_upto_region 34 with fail
        refine wp_region_to (fun v => FQ B w v P28 g1 n (Nf n) H (cf n) pX F9) 18 (by kernel_rfl) ?_
        refine wpTo_take (i := 0) (v := ?v0z31) (show _ = some _ by simp only [List.getElem?_toArray, List.getElem?_cons_zero]; exact rfl) (by kernel_rfl) (by kernel_rfl) (by kernel_rfl) (by kernel_rfl) (by exact fun _ _ _ h => h) (Or.inl ⟨by rfl, ?hy0z31⟩) hS0 ?r0z31
        case hy0z31 => (intro w hSw; (try dsimp only at hSw); go_simp; try with_reducible rfl)
        (try simp only [Act.put]); (try simp only [List.setIfInBounds_toArray]); (repeat (first | simp only [List.set_cons_succ] | simp only [List.set_cons_zero]))
        refine wpTo_take (i := 1) (v := ?v1z32) (show _ = some _ by simp only [List.getElem?_toArray, List.getElem?_cons_succ, List.getElem?_cons_zero]; exact rfl) (by kernel_rfl) (by kernel_rfl) (by kernel_rfl) (by kernel_rfl) (by exact fun _ _ _ h => h) (Or.inl ⟨by rfl, ?hy1z32⟩) hS0 ?r1z32
        case hy1z32 => (intro w hSw; (try dsimp only at hSw); go_simp; try with_reducible rfl)
        (try simp only [Act.put]); (try simp only [List.setIfInBounds_toArray]); (repeat (first | simp only [List.set_cons_succ] | simp only [List.set_cons_zero]))
        refine wpTo_take (i := 2) (v := ?v2z33) (show _ = some _ by simp only [List.getElem?_toArray, List.getElem?_cons_succ, List.getElem?_cons_zero]; exact rfl) (by kernel_rfl) (by kernel_rfl) (by kernel_rfl) (by kernel_rfl) (by exact fun _ _ _ h => h) (Or.inl ⟨by rfl, ?hy2z33⟩) hS0 ?r2z33
        case hy2z33 => (intro w hSw; (try dsimp only at hSw); go_simp; try with_reducible rfl)
        (try simp only [Act.put]); (try simp only [List.setIfInBounds_toArray]); (repeat (first | simp only [List.set_cons_succ] | simp only [List.set_cons_zero]))
        refine wpTo_take (i := 3) (show _ = some _ by simp only [List.getElem?_toArray, List.getElem?_cons_succ, List.getElem?_cons_zero]; exact rfl) (by kernel_rfl) (by kernel_rfl) (by kernel_rfl) (by kernel_rfl) (by exact fun _ _ _ h => h) (yieldsIf_load_mid (by rfl) 31 (.tmp 28) rfl P28 0 rfl (pb pX) _ (fun v h => (FQ.p h).whole) Tryd.underlying31 rfl (by rw [pb_length]; kernel_rfl)) hS0 ?_
        (try simp only [Act.put]); (try simp only [List.setIfInBounds_toArray]); (repeat (first | simp only [List.set_cons_succ] | simp only [List.set_cons_zero]))
        refine wpTo_take (i := 4) (v := ?v4z34) (show _ = some _ by simp only [List.getElem?_toArray, List.getElem?_cons_succ, List.getElem?_cons_zero]; exact rfl) (by kernel_rfl) (by kernel_rfl) (by kernel_rfl) (by kernel_rfl) (by exact fun _ _ _ h => h) (Or.inl ⟨by rfl, ?hy4z34⟩) hS0 ?r4z34
        case hy4z34 => (intro w hSw; (try dsimp only at hSw); go_simp; try with_reducible rfl)
        (try simp only [Act.put]); (try simp only [List.setIfInBounds_toArray]); (repeat (first | simp only [List.set_cons_succ] | simp only [List.set_cons_zero]))
        refine wpTo_take (i := 5) (v := ?v5z35) (show _ = some _ by simp only [List.getElem?_toArray, List.getElem?_cons_succ, List.getElem?_cons_zero]; exact rfl) (by kernel_rfl) (by kernel_rfl) (by kernel_rfl) (by kernel_rfl) (by exact fun _ _ _ h => h) (Or.inl ⟨by rfl, ?hy5z35⟩) hS0 ?r5z35
        case hy5z35 => (intro w hSw; (try dsimp only at hSw); go_simp; try with_reducible rfl)
        (try simp only [Act.put]); (try simp only [List.setIfInBounds_toArray]); (repeat (first | simp only [List.set_cons_succ] | simp only [List.set_cons_zero]))
        refine wpTo_take (i := 6) (v := ?v6z36) (show _ = some _ by simp only [List.getElem?_toArray, List.getElem?_cons_succ, List.getElem?_cons_zero]; exact rfl) (by kernel_rfl) (by kernel_rfl) (by kernel_rfl) (by kernel_rfl) (by exact fun _ _ _ h => h) (Or.inl ⟨by rfl, ?hy6z36⟩) hS0 ?r6z36
        case hy6z36 => (intro w hSw; (try dsimp only at hSw); go_simp; try with_reducible rfl)
        (try simp only [Act.put]); (try simp only [List.setIfInBounds_toArray]); (repeat (first | simp only [List.set_cons_succ] | simp only [List.set_cons_zero]))
        refine wpTo_take (i := 7) (v := ?v7z37) (show _ = some _ by simp only [List.getElem?_toArray, List.getElem?_cons_succ, List.getElem?_cons_zero]; exact rfl) (by kernel_rfl) (by kernel_rfl) (by kernel_rfl) (by kernel_rfl) (by exact fun _ _ _ h => h) (Or.inl ⟨by rfl, ?hy7z37⟩) hS0 ?r7z37
        case hy7z37 => (intro w hSw; (try dsimp only at hSw); have hcc := hSw.st; go_simp; try with_reducible rfl)
        (try simp only [Act.put]); (try simp only [List.setIfInBounds_toArray]); (repeat (first | simp only [List.set_cons_succ] | simp only [List.set_cons_zero]))
        refine wpTo_take (i := 8) (v := ?v8z38) (show _ = some _ by simp only [List.getElem?_toArray, List.getElem?_cons_succ, List.getElem?_cons_zero]; exact rfl) (by kernel_rfl) (by kernel_rfl) (by kernel_rfl) (by kernel_rfl) (by exact fun _ _ _ h => h) (Or.inl ⟨by rfl, ?hy8z38⟩) hS0 ?r8z38
        case hy8z38 => (intro w hSw; (try dsimp only at hSw); go_simp; try with_reducible rfl)
        (try simp only [Act.put]); (try simp only [List.setIfInBounds_toArray]); (repeat (first | simp only [List.set_cons_succ] | simp only [List.set_cons_zero]))
        refine wpTo_take (i := 9) (v := ?v9z39) (show _ = some _ by simp only [List.getElem?_toArray, List.getElem?_cons_succ, List.getElem?_cons_zero]; exact rfl) (by kernel_rfl) (by kernel_rfl) (by kernel_rfl) (by kernel_rfl) (by exact fun _ _ _ h => h) (Or.inl ⟨by rfl, ?hy9z39⟩) hS0 ?r9z39
        case hy9z39 => (intro w hSw; (try dsimp only at hSw); go_simp; try with_reducible rfl)
        (try simp only [Act.put]); (try simp only [List.setIfInBounds_toArray]); (repeat (first | simp only [List.set_cons_succ] | simp only [List.set_cons_zero]))
        refine wpTo_take (i := 10) (v := ?v10z40) (show _ = some _ by simp only [List.getElem?_toArray, List.getElem?_cons_succ, List.getElem?_cons_zero]; exact rfl) (by kernel_rfl) (by kernel_rfl) (by kernel_rfl) (by kernel_rfl) (by exact fun _ _ _ h => h) (Or.inl ⟨by rfl, ?hy10z40⟩) hS0 ?r10z40
        case hy10z40 => (intro w hSw; (try dsimp only at hSw); go_simp; try with_reducible rfl)
        (try simp only [Act.put]); (try simp only [List.setIfInBounds_toArray]); (repeat (first | simp only [List.set_cons_succ] | simp only [List.set_cons_zero]))
        refine wpTo_take (i := 11) (show _ = some _ by simp only [List.getElem?_toArray, List.getElem?_cons_succ, List.getElem?_cons_zero]; exact rfl) (by kernel_rfl) (by kernel_rfl) (by kernel_rfl) (by kernel_rfl) (by exact fun _ _ _ h => h) (yieldsIf_load_mid (by rfl) 31 (.tmp 235) rfl (Nf n) (P9 * 480) rfl (pb pX) _ (fun v h => HRG.out v h) Tryd.underlying31 rfl (by rw [pb_length]; kernel_rfl)) hS0 ?_
        (try simp only [Act.put]); (try simp only [List.setIfInBounds_toArray]); (repeat (first | simp only [List.set_cons_succ] | simp only [List.set_cons_zero]))
        refine wpTo_take (i := 12) (v := ?v12z41) (show _ = some _ by simp only [List.getElem?_toArray, List.getElem?_cons_succ, List.getElem?_cons_zero]; exact rfl) (by kernel_rfl) (by kernel_rfl) (by kernel_rfl) (by kernel_rfl) (by exact fun _ _ _ h => h) (Or.inl ⟨by rfl, ?hy12z41⟩) hS0 ?r12z41
        case hy12z41 => (intro w hSw; (try dsimp only at hSw); go_simp; try with_reducible rfl)
        (try simp only [Act.put]); (try simp only [List.setIfInBounds_toArray]); (repeat (first | simp only [List.set_cons_succ] | simp only [List.set_cons_zero]))
        refine wpTo_take (i := 13) (v := ?v13z42) (show _ = some _ by simp only [List.getElem?_toArray, List.getElem?_cons_succ, List.getElem?_cons_zero]; exact rfl) (by kernel_rfl) (by kernel_rfl) (by kernel_rfl) (by kernel_rfl) (by exact fun _ _ _ h => h) (Or.inl ⟨by rfl, ?hy13z42⟩) hS0 ?r13z42
        case hy13z42 => (intro w hSw; (try dsimp only at hSw); go_simp; try with_reducible rfl)
        (try simp only [Act.put]); (try simp only [List.setIfInBounds_toArray]); (repeat (first | simp only [List.set_cons_succ] | simp only [List.set_cons_zero]))
        refine wpTo_take (i := 14) (v := ?v14z43) (show _ = some _ by simp only [List.getElem?_toArray, List.getElem?_cons_succ, List.getElem?_cons_zero]; exact rfl) (by kernel_rfl) (by kernel_rfl) (by kernel_rfl) (by kernel_rfl) (by exact fun _ _ _ h => h) (Or.inl ⟨by rfl, ?hy14z43⟩) hS0 ?r14z43
        case hy14z43 => (intro w hSw; (try dsimp only at hSw); go_simp; try with_reducible rfl)
        (try simp only [Act.put]); (try simp only [List.setIfInBounds_toArray]); (repeat (first | simp only [List.set_cons_succ] | simp only [List.set_cons_zero]))
        refine wpTo_one (i := 15) (by kernel_rfl) (show _ = some _ by simp only [List.getElem?_toArray, List.getElem?_cons_succ, List.getElem?_cons_zero]; exact rfl) (fun K hK => ?_)
        go_simp
        go_at_call 16; refine (works_any _ hS0.t).mono ?_; rintro e v2 ⟨rfl, kx2⟩
        have hS1 := hS0.next kx2
        (try simp only [])
        refine hK.out _ _ (hS1) (fun _ => ?_)
        clear hK K
        (try simp only [Act.put]); (try simp only [List.setIfInBounds_toArray]); (repeat (first | simp only [List.set_cons_succ] | simp only [List.set_cons_zero]))
        refine wpTo_take (i := 16) (v := ?v16z44) (show _ = some _ by simp only [List.getElem?_toArray, List.getElem?_cons_succ, List.getElem?_cons_zero]; exact rfl) (by kernel_rfl) (by kernel_rfl) (by kernel_rfl) (by kernel_rfl) (by exact fun _ _ _ h => h) (Or.inl ⟨by rfl, ?hy16z44⟩) hS1 ?r16z44
        case hy16z44 => (intro w hSw; (try dsimp only at hSw); go_simp; try with_reducible rfl)
        (try simp only [Act.put]); (try simp only [List.setIfInBounds_toArray]); (repeat (first | simp only [List.set_cons_succ] | simp only [List.set_cons_zero]))
        refine wpTo_take (i := 17) (v := ?v17z45) (show _ = some _ by simp only [List.getElem?_toArray, List.getElem?_cons_succ, List.getElem?_cons_zero]; exact rfl) (by kernel_rfl) (by kernel_rfl) (by kernel_rfl) (by kernel_rfl) (by exact fun _ _ _ h => h) (Or.inl ⟨by rfl, ?hy17z45⟩) hS1 ?r17z45
        case hy17z45 => (intro w hSw; (try dsimp only at hSw); go_simp; try with_reducible rfl)
        (try simp only [Act.put]); (try simp only [List.setIfInBounds_toArray]); (repeat (first | simp only [List.set_cons_succ] | simp only [List.set_cons_zero]))
        refine wpTo_done (by kernel_rfl) ?_
        go_wp2_with fail
        go_ret
        exact ⟨rfl, hS1.k⟩
end Go.Proofs.YtndfhmlcfaaaiaaDoor
