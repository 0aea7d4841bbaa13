/- WalLasts: wherever the power goes, all that was committed is there. -/
import Derived.Test.YtndfhmlcfaaaiaaDoorAgain
namespace Go.Proofs.YtndfhmlcfaaaiaaDoor
open Go.RowKit

/-- A log that lives, and a row of pages that says what it tells. -/
structure LI (B : Nat) (w u : World) (r f cap L H q mm m : Nat) (x : Lg) (d : St) (k : Nat) (pg : Nat → Pg) (Np : Nat) : Prop where
  lb : LB B w u q r mm f m cap x d
  lv : Lv d x k pg
  wk : Wk d k
  eL : x.L = L
  eH : x.H = H
  row : PRw u Np H pg
  nf : ¬ fp r f m Np
  nl : ¬ lp q mm Np
/-- A disk without power, and two rows of pages. -/
structure LD (B : Nat) (w u : World) (r f cap L H m : Nat) (d : St) (k : Nat) (P : (Nat → Pg) → Prop) (pgN pgX : Nat → Pg) (Np Nx : Nat) : Prop where
  db : DB B w u r f m cap d
  dd : Dd d L H k P
  wk : Wk d k
  rowN : PRw u Np H pgN
  rowX : PRw u Nx H pgX
  nfN : ¬ fp r f m Np
  nfX : ¬ fp r f m Nx
section
variable {B : Nat} {w u u' : World} {r f cap L H q mm m k Np Nx : Nat} {x : Lg} {d : St} {pg pgN pgX : Nat → Pg} {P : (Nat → Pg) → Prop}
theorem LI.next (h : LI B w u r f cap L H q mm m x d k pg Np) (hb : Below u.heap.size u u') : LI B w u' r f cap L H q mm m x d k pg Np := ⟨h.lb.next hb, h.lv, h.wk, h.eL, h.eH, h.row.next hb, h.nf, h.nl⟩
theorem LI.le {k' : Nat} (h : LI B w u r f cap L H q mm m x d k pg Np) (hk : k ≤ k') : LI B w u r f cap L H q mm m x d k' pg Np := ⟨h.lb, h.lv.le hk, h.wk.le hk, h.eL, h.eH, h.row, h.nf, h.nl⟩
theorem LD.next (h : LD B w u r f cap L H m d k P pgN pgX Np Nx) (hb : Below u.heap.size u u') : LD B w u' r f cap L H m d k P pgN pgX Np Nx := ⟨h.db.next hb, h.dd, h.wk, h.rowN.next hb, h.rowX.next hb, h.nfN, h.nfX⟩
/-- The log turns; another row says what it tells. -/
theorem LI.turn {mm' m' k' : Nat} {x' : Lg} {d' : St} {pg' : Nat → Pg} (h : LI B w u r f cap L H q mm m x d k pg Np) (hr : PRw u Nx H pg') (nf : ¬ fp r f m Nx) (nl : ¬ lp q mm Nx)
    (h1 : mm' = mm ∨ u.heap.size ≤ mm') (h2 : m' = m ∨ u.heap.size ≤ m') (hF : Fr (fun k => fp r f m k ∨ lp q mm k) u u') (hW : Wk d' k') (hL : LB B w u' q r mm' f m' cap x' d') (hV : Lv d' x' k' pg') (eL : x'.L = x.L) (eH : x'.H = x.H) : LI B w u' r f cap L H q mm' m' x' d' k' pg' Nx := by
  have ha := apart_move nf nl hr.lt h2 h1
  exact ⟨hL, hV, hW, eL.trans h.eL, eH.trans h.eH, hr.fr hF (fun hx => hx.elim nf nl), ha.1, ha.2⟩
/-- The power goes in a call of the log. -/
theorem LI.dies {mm' m' k' : Nat} {x' : Lg} {d' : St} {pg' : Nat → Pg} (h : LI B w u r f cap L H q mm m x d k pg Np) (hr : PRw u Nx H pg') (nf : ¬ fp r f m Nx) (nl : ¬ lp q mm Nx)
    (h1 : mm' = mm ∨ u.heap.size ≤ mm') (h2 : m' = m ∨ u.heap.size ≤ m') (hF : Fr (fun k => fp r f m k ∨ lp q mm k) u u') (hW : Wk d' k') (hL : LB B w u' q r mm' f m' cap x' d') (hD : Dd d' x.L x.H k' P) : LD B w u' r f cap L H m' d' k' P pg pg' Np Nx := by
  have ha := apart_move nf nl hr.lt h2 h1
  have hb := apart_move h.nf h.nl h.row.lt h2 h1
  have hD2 := hD
  rw [h.eL, h.eH] at hD2
  exact ⟨hL.db, hD2, hW, h.row.fr hF (fun hx => hx.elim h.nf h.nl), hr.fr hF (fun hx => hx.elim nf nl), hb.1, ha.1⟩
end
/-- A log opened again, and two rows of pages. -/
structure LN (B : Nat) (w u : World) (r f cap L H q mm m : Nat) (x : Lg) (d : St) (k : Nat) (pg pgN pgX : Nat → Pg) (Np Nx : Nat) : Prop where
  lb : LB B w u q r mm f m cap x d
  lv : Lv d x k pg
  wk : Wk d k
  eL : x.L = L
  eH : x.H = H
  rowN : PRw u Np H pgN
  rowX : PRw u Nx H pgX
  aN : ¬ fp r f m Np ∧ ¬ lp q mm Np
  aX : ¬ fp r f m Nx ∧ ¬ lp q mm Nx
section
variable {B : Nat} {w u u' : World} {r f cap L H q mm m m' k k' Np Nx : Nat} {x : Lg} {d d' : St} {pg pgN pgX : Nat → Pg} {P : (Nat → Pg) → Prop}
theorem LN.next (h : LN B w u r f cap L H q mm m x d k pg pgN pgX Np Nx) (hb : Below u.heap.size u u') : LN B w u' r f cap L H q mm m x d k pg pgN pgX Np Nx := ⟨h.lb.next hb, h.lv, h.wk, h.eL, h.eH, h.rowN.next hb, h.rowX.next hb, h.aN, h.aX⟩
theorem LD.again (h : LD B w u r f cap L H m d k' P pgN pgX Np Nx) (hL : LB B w u' q r mm f m' cap x d') (hW : Wk d' k) (hV : Lv d' x k pg) (eL : x.L = L) (eH : x.H = H) (hq : u.heap.size ≤ q) (hmm : u.heap.size ≤ mm) (hm : m' = m ∨ u.heap.size ≤ m') (hF : Fr (fp r f m) u u') : LN B w u' r f cap L H q mm m' x d' k pg pgN pgX Np Nx := by
  have a1 := h.rowN.lt
  have a2 := h.rowX.lt
  refine ⟨hL, hV, hW, eL, eH, h.rowN.fr hF h.nfN, h.rowX.fr hF h.nfX, ⟨?_, ?_⟩, ⟨?_, ?_⟩⟩
  · rintro (e | e | e)
    · exact h.nfN (.inl e)
    · exact h.nfN (.inr (.inl e))
    · rcases hm with e2 | e2
      · exact h.nfN (.inr (.inr (e.trans e2)))
      · omega
  · rintro (e | e) <;> omega
  · rintro (e | e | e)
    · exact h.nfX (.inl e)
    · exact h.nfX (.inr (.inl e))
    · rcases hm with e2 | e2
      · exact h.nfX (.inr (.inr (e.trans e2)))
      · omega
  · rintro (e | e) <;> omega
theorem LN.liX (h : LN B w u r f cap L H q mm m x d k pg pgN pgX Np Nx) (he : ∀ i, i < H → pg i = pgX i) : LI B w u r f cap L H q mm m x d k pg Nx := ⟨h.lb, h.lv, h.wk, h.eL, h.eH, h.rowX.congr (fun i hi => (he i hi).symm), h.aX.1, h.aX.2⟩
theorem LN.liN (h : LN B w u r f cap L H q mm m x d k pg pgN pgX Np Nx) (he : pg = pgN) : LI B w u r f cap L H q mm m x d k pg Np := ⟨h.lb, h.lv, h.wk, h.eL, h.eH, by rw [he]; exact h.rowN, h.aN.1, h.aN.2⟩
end
/-- With the op at hand. -/
structure LDo (w u : World) (B r f cap L H m : Nat) (d : St) (k : Nat) (P : (Nat → Pg) → Prop) (pgN pgX : Nat → Pg) (Np Nx P12 : Nat) (os : List Value) : Prop where
  l : LD B w u r f cap L H m d k P pgN pgX Np Nx
  o : Blk u P12 25 os
theorem LDo.drew {w u : World} {B r f cap L H m k Np Nx P12 : Nat} {d : St} {P : (Nat → Pg) → Prop} {pgN pgX : Nat → Pg} {os : List Value} (h : LDo w u B r f cap L H m d k P pgN pgX Np Nx P12 os) : LDo w u.drew B r f cap L H m d k P pgN pgX Np Nx P12 os := ⟨h.l.next (below_drw u), h.o.next (below_drw u)⟩
theorem LDo.o2 {w u : World} {B r f cap L H m k Np Nx P12 : Nat} {d : St} {P : (Nat → Pg) → Prop} {pgN pgX : Nat → Pg} {os : List Value} (h : LDo w u B r f cap L H m d k P pgN pgX Np Nx P12 os) {x : Value} (hx : os[2]? = some x) : u.cell? ⟨P12, 2, none⟩ = some x := h.o.cell 2 _ hx
theorem ims_of_own {w : World} {base n : Nat} {v : Value} {F : Nat → Int × Pg} (h : w.ownsRow base 74 481 v n (flatI n F)) : ∃ ao cp, v = .slice ao ((List.range n).map F).length cp ∧ Ims w ao ((List.range n).map F) ∧ ∀ g, ao = some ⟨g, 0, none⟩ → base ≤ g := by
  rcases irow_of_own h with ⟨rfl, rfl⟩ | ⟨G, cp, rfl, hG, hI⟩
  · exact ⟨none, 0, rfl, .inl ⟨rfl, rfl⟩, fun g hg => by cases hg⟩
  · exact ⟨some ⟨G, 0, none⟩, cp, by simp, .inr ⟨G, rfl, hI.im⟩, fun g hg => by cases hg; exact hG⟩
theorem addr_add (a : Addr) (i j : Nat) : (a.add i).add j = a.add (i + j) := by
  obtain ⟨b, o, s⟩ := a
  cases s with
  | none => by_cases hi : i = 0 <;> by_cases hj : j = 0 <;> simp [Addr.add, hi, hj, Nat.add_assoc]
  | some x => by_cases hi : i = 0 <;> by_cases hj : j = 0 <;> simp [Addr.add, hi, hj, Nat.add_assoc]
theorem Ops8.drop {w : World} {od : Addr} {on : Nat} {O : Nat → Op8} (h : Ops8 w (some od) on O) (j : Nat) (hj : j ≤ on) : Ops8 w (some (od.add (j * 4))) (on - j) (fun i => O (j + i)) := by
  refine ⟨fun e => (by cases e), fun ad had i hi => ?_, fun i hi => h.good (j + i) (by omega)⟩
  cases had
  have := h.cell od rfl (j + i) (by omega)
  have e : (od.add (j * 4)).add (i * 4) = od.add ((j + i) * 4) := by rw [addr_add]; congr 1; omega
  rw [e]
  exact this
def fromI (l : List (Int × Pg)) : List Im := l.map fun y => (y.1.toNat, y.2)
theorem toI_fromI {H : Nat} {l : List (Int × Pg)} (h : okP H l) : toI (fromI l) = l := by
  unfold toI fromI
  rw [List.map_map]
  conv => rhs; rw [← List.map_id l]
  refine List.map_congr_left fun y hy => ?_
  have := (h.1 y.1 (List.mem_map.2 ⟨y, hy, rfl⟩)).1
  simp only [Function.comp, id]
  rw [show ((y.1.toNat : Nat) : Int) = y.1 by omega]
theorem fromI_len (l : List (Int × Pg)) : (fromI l).length = l.length := by simp [fromI]
set_option maxRecDepth 100000 in
set_option maxHeartbeats 1000000 in
theorem lasts_walk (w : World) (ps pl : Int) (oo : Option Addr) (on oc : Nat) (O : Nat → Op8) (hT : Tabs w) (onc : on ≤ oc) (ho : Ops8 w oo on O) :
    Calls Tryd.prog 4 #[.agg #[.int .i64 ps, .int .i64 pl], .slice oo on oc] w fun e w' => e = .returned (.bool true) ∧ Below w.heap.size w w' := by
  have hz31 := zero31
  obtain ⟨us, hus⟩ : ∃ us : List Value, us = [.int .i64 ps, .int .i64 pl] := ⟨_, rfl⟩
  have htd := fun v => tidy_any v ps pl
  have hbg0 := fun (B : Nat) (v : World) h1 h2 h3 h4 => begun_any B w v ps pl h1 h2 h3 h4
  have harg : (.agg #[.int .i64 ps, .int .i64 pl] : Value) = .agg us.toArray := by rw [hus]
  have hul : us.length = 2 := by rw [hus]; rfl
  rw [harg] at htd ⊢
  simp only [harg] at hbg0
  clear hus harg
  have hU0 := Blk.new w 45 us
  have kb := (Below.refl w.heap.size w).alloc (Nat.le_refl _) (.cells us.toArray 45)
  have hT0 := hT.next kb
  have h2 := hT.two
  have hl1 := td_lt pl
  have hl2 := td_lt ps
  have hl3 := tL_def pl
  have hl4 := tN_def ps pl
  obtain ⟨L, hL⟩ : ∃ L, L = tL pl := ⟨_, rfl⟩
  obtain ⟨M, hM⟩ : ∃ M, M = tN ps pl := ⟨_, rfl⟩
  obtain ⟨H, hH⟩ : ∃ H, H = td ps + 1 := ⟨_, rfl⟩
  rw [← hL, ← hM] at htd
  rw [← hL] at hl3 hl4
  rw [← hM] at hl4
  simp only [← hL, ← hH] at hbg0
  have b1 : 3 ≤ L := by omega
  have b2 : L ≤ 22 := by omega
  have b3 : 1 ≤ H := by omega
  have b4 : H ≤ 20 := by omega
  have hMe : M = 2 + L + H := by omega
  have ww0 : IntKind.i64.wrap ((M : Int) - 2) = (M : Int) - 2 := by rw [IntKind.wrap_i64]; omega
  have ww3 : IntKind.i64.wrap ((M : Int) - 2 - (L : Int)) = (H : Int) := by rw [IntKind.wrap_i64]; omega
  obtain ⟨B, hB⟩ : ∃ B, B = w.heap.size := ⟨_, rfl⟩
  have HB : Hid (B = w.heap.size) := hB
  have hs0 : B ≤ (w.alloc (.cells us.toArray 45)).heap.size := by rw [hB]; simp
  rw [← hB] at hU0 kb h2 ⊢
  have HO : Hid (∀ v, Below B w v → Ops8 v oo on O) := fun v hv => ho.next (by rw [← hB]; exact hv)
  have HOB : Hid (∀ j, j < on → ∀ ad, (O j).po = some ad → 0 < (O j).pn → ad.block < B) := fun j hj ad had h0 => by
    have hg := (ho.good j hj).ints
    rw [had] at hg
    rw [hB]
    exact hg.lt h0
  obtain ⟨i0, hi, hz0, hz1, hz2⟩ := info_parts info31
  have hmade := made_flatP H
  have hzc : (Value.agg (pb zp).toArray).cells = (pb zp).toArray := rfl
  rw [← hzc] at hmade
  have HM : Hid ((madeCells (Value.agg (pb zp).toArray).cells (H * 480)).toList = flatP H (fun _ => zp)) := hmade
  obtain ⟨zv, hzv⟩ : ∃ z, z = Value.agg (pb zp).toArray := ⟨_, rfl⟩
  rw [← hzv] at hz0 HM
  have HZV : Hid (zv = Value.agg (pb zp).toArray) := hzv
  clear hmade hzc hzv hB hT hl1 hl2 hl3 hl4 hL hM hH hMe ho
  go_enter Tryd.func4, Tryd.ntmps4
  go_upto_region 1 with fail
  rw [← HB.out]
  obtain ⟨w0', hw0⟩ : ∃ u, u = w.alloc (.cells us.toArray 45) := ⟨_, rfl⟩
  rw [← hw0] at hU0 kb hT0 hs0 ⊢
  clear hw0
  go_upto_region 2 with (first
    | (refine wpList_load_mid rfl 45 _ rfl B 0 rfl us _ hU0.whole Tryd.underlying45 rfl (by rw [hul]; kernel_rfl) ?_)
    | (go_at_call 17; refine (htd _).mono ?_; rintro e w1 ⟨rfl, kb1⟩))
  have hU1 := hU0.next kb1
  have hbg := hbg0 B w1 (Nat.le_trans hs0 kb1.size) h2 (hT0.next kb1) (kb.trans (kb1.mono hs0))
  clear hbg0 htd hU0 hT0 kb kb1 hs0
  go_upto_region 5 with (first
    | (refine wpList_load_mid rfl 45 _ rfl B 0 rfl us _ hU1.whole Tryd.underlying45 rfl (by rw [hul]; kernel_rfl) ?_)
    | (go_at_call 18; refine hbg.mono ?_; rintro e w2 ⟨q, r, mm, f, m, cap, x, d, rfl, hL2, hV2, hW2, hxL, hxH, ha2, kb2, hfp2, hlp2⟩))
  clear hU1 hbg ha2 kb2 hfp2 hlp2 hul
  have hs2 := hL2.size
  go_upto_region 6 with (at_make; refine wpList_make_full _ rfl _ _ 52 rfl w2.heap.size 31 i0 zv 480 Tryd.underlying52 hi hz0 hz1 .i64 .i64 H H H rfl rfl rfl rfl (by rw [hz2]; omega) (by unfold maxLen; omega) (Nat.le_refl _) ?_; intro w3 hown hgr)
  rw [HM.out] at hown
  obtain ⟨_, hv | ⟨g, cpx, cur, hv, hgb, hh, hc1, hc2, hc3, ht⟩⟩ := hown
  · cases hv.1
  · cases hv
    have hR3 : PRw w3 w2.heap.size H (fun _ => zp) := pr_of_flat hh ht
    have hB3 : Below w2.heap.size w2 w3 := (Below.refl _ w2).grown hgr (Nat.le_refl _) (by intro k hk; cases hk)
    have hap := hL2.apart_new (Nat.le_refl w2.heap.size)
    have hI3 : LI B w w3 r f cap L H q mm m x d (2 + 5 * 0) (fun _ => zp) w2.heap.size := ⟨hL2.next hB3, hV2, hW2, hxL, hxH, hR3, hap.1, hap.2⟩
    obtain ⟨Np, hNp⟩ : ∃ Np, Np = w2.heap.size := ⟨_, rfl⟩
    rw [← hNp] at hI3 ⊢
    clear hh ht hgr hc1 hc2 hc3 hgb hR3 hB3 hap hL2 hV2 hW2 hxL hxH hNp hi hz0 hz1 hz2 HM HZV hs2 ww0 ww3
    go_wp2_with fail
    go_loopw [8, 9, 10, 11] (fun ul un ux ui wr => ∃ (j q mm m : Nat) (x : Lg) (d : St) (pg : Nat → Pg) (Np cp : Nat), j ≤ 60 ∧ j ≤ on ∧ ui = .int .i64 (j : Int) ∧ ul = .pointer (some ⟨q, 0, none⟩) ∧ un = .slice (some ⟨Np, 0, none⟩) H cp ∧ ux = .slice (some ⟨Np, 0, none⟩) H cp ∧ LI B w wr r f cap L H q mm m x d (2 + 5 * j) pg Np) (fun _ _ _ ui _ => 60 - (intOf ui).toNat)
    case atStart => exact ⟨0, q, mm, m, _, d, _, Np, _, by omega, by omega, rfl, rfl, rfl, rfl, hI3⟩
    case round =>
      clear hI3
      obtain ⟨j, q, mm, m, x, d, pg, Np, cp, hj60, hjon, rfl, rfl, rfl, rfl, hI⟩ := hrel
      by_cases hlt : j < on ∧ j < 60
      · obtain ⟨hj1, hj2⟩ := hlt
        have hjI : (j : Int) < (on : Int) := by omega
        have hjJ : (j : Int) < 60 := by omega
        cases oo with
        | none => exact absurd ((HO.out _ hI.lb.below).bare rfl) (by omega)
        | some od =>
        have hOj := (HO.out _ hI.lb.below).good j hj1
        obtain ⟨p0, p1, p2, p3⟩ := (HO.out _ hI.lb.below).cell od rfl j hj1
        have hob := HOB.out j hj1
        obtain ⟨o, eo⟩ : ∃ o, o = O j := ⟨_, rfl⟩
        rw [← eo] at p0 p1 p2 p3 hOj hob
        obtain ⟨oa, oi, po, pn, pc, Ps, so, sn, sc, S⟩ := o
        dsimp only at p0 p1 p2 p3 hob
        have HOJ : Hid (∀ v, Below B w v → Op8.Good ⟨oa, oi, po, pn, pc, Ps, so, sn, sc, S⟩ v) := fun v hv => by rw [eo]; exact (HO.out v hv).good j hj1
        have p1' : wr.cell? ⟨(od.add (j * 4)).block, (od.add (j * 4)).off + 1, none⟩ = some (.int .i64 oi) := p1
        have p2' : wr.cell? ⟨(od.add (j * 4)).block, (od.add (j * 4)).off + 2, none⟩ = some (.slice po pn pc) := p2
        have p3' : wr.cell? ⟨(od.add (j * 4)).block, (od.add (j * 4)).off + 3, none⟩ = some (.slice so sn sc) := p3
        clear p1 p2 p3 eo
        have hpn := hOj.len
        go_upto_region 13 with fail
        obtain ⟨os, hos⟩ : ∃ os : List Value, os = oc8 oa oi po pn pc so sn sc := ⟨_, rfl⟩
        have h0os : os[0]? = some (.int .i64 oa) := by rw [hos]; rfl
        have h1os : os[1]? = some (.int .i64 oi) := by rw [hos]; rfl
        have h2os : os[2]? = some (.slice po pn pc) := by rw [hos]; rfl
        have hol : os.length = 4 := by rw [hos]; rfl
        have HOS : Hid (os = oc8 oa oi po pn pc so sn sc) := hos
        have hcells : (#[Value.int IntKind.i64 oa, Value.int IntKind.i64 oi, Value.slice po pn pc, Value.slice so sn sc] : Array Value) = os.toArray := by rw [hos]; rfl
        have hQ0 := Blk.new wr 25 os
        have hI0 := hI.next ((Below.refl _ wr).alloc (Nat.le_refl _) (.cells os.toArray 25))
        have ha12 := hI.lb.apart_new (Nat.le_refl wr.heap.size)
        obtain ⟨P12, hP12⟩ : ∃ P, P = wr.heap.size := ⟨_, rfl⟩
        rw [hcells]
        obtain ⟨u0, hu0⟩ : ∃ u, u = wr.alloc (.cells os.toArray 25) := ⟨_, rfl⟩
        rw [← hu0] at hI0 hQ0 ⊢
        rw [← hP12] at hQ0 ha12 ⊢
        clear hu0 hP12 hos hcells hI p0 p1' p2' p3'
        have hpn2 : pn ≤ maxLen := hpn
        have hAG : Hid (∀ (u : World) (m9 : Nat) (d9 : St) (P9 : (Nat → Pg) → Prop), DB B w u r f m9 cap d9 → AgS d9 L H (2 + 5 * j + 1) P9 → Wk d9 (2 + 5 * j + 1) → Calls Tryd.prog 24 #[.pointer (some ⟨r, 0, none⟩), .slice po pn pc, .slice (some (od.add (j * 4))) (on - j) (oc - j)] u (AgR B w u r f m9 cap L H (2 + 5 * j + 1) P9)) := fun u m9 d9 P9 hd hs hk => again_any B w u r f m9 cap d9 L H (2 + 5 * j + 1) P9 hd hs hk (by omega) b1 (by omega) b3 (by omega) po pn pc Ps (fun v hv => (HOJ.out v hv).ints) hob hpn2 (some (od.add (j * 4))) (on - j) (oc - j) (fun i => O (j + i)) (fun v hv => (HO.out v hv).drop j (by omega))
        clear hpn hpn2 hOj
        by_cases a5 : oa = 5
        · subst a5
          go_upto_region 26 with (go_at_call 22; refine (off_any u0 r f m cap d hI0.lb.dl.k).mono ?_; rintro e u1 ⟨rfl, hL1, hF1, -⟩)
          have hdd := hI0.lv.rs.gone
          rw [hI0.eL, hI0.eH] at hdd
          have hLD : LD B w u1 r f cap L H m d.goOff (2 + 5 * j + 1) (fun p => p = pg) pg pg Np Np := ⟨hI0.lb.db.turn hL1 (.inl rfl) hF1, hdd.mono (by omega) (fun p hp => hp), hI0.wk.le (by omega), hI0.row.fr hF1 hI0.nf, hI0.row.fr hF1 hI0.nf, hI0.nf, hI0.nf⟩
          have hQ := hQ0.fr hF1 ha12.1
          have hq12 := ha12.1
          have HP9 : Hid (∀ p, p = pg → p = pg ∨ p = pg) := fun p hp => .inl hp
          clear hdd hL1 hF1 hI0 hQ0 ha12
          have hde := dead_any u1 r f m cap d.goOff hLD.db.k
          rw [hLD.dd.off] at hde
          go_upto_region 30 with (go_at_call 23; refine hde.mono ?_; rintro e u5 ⟨rfl, rfl⟩)
          have hS0 : Blk (u1).drew P12 25 os := hQ
          have hL0 := hLD.next (below_drw u1)
          clear hde hLD hQ
          refine wp_region_to (fun u => Blk u P12 25 os) 8 (by kernel_rfl) ?_
          refine wpTo_take (i := 0) (v := ?v0z1) (show _ = some _ by simp only [List.getElem?_toArray, List.getElem?_cons_zero]; exact rfl) (by kernel_rfl) (by kernel_rfl) (by kernel_rfl) (by kernel_rfl) (by exact fun _ _ _ h => h) (Or.inl ⟨by rfl, ?hy0z1⟩) hS0 ?r0z1
          case hy0z1 => (intro w hSw; (try dsimp only at hSw); go_simp; try with_reducible rfl)
          (try simp only [Act.put]); (try simp only [List.setIfInBounds_toArray]); (repeat (first | simp only [List.set_cons_succ] | simp only [List.set_cons_zero]))
          refine wpTo_take (i := 1) (v := ?v1z2) (show _ = some _ by simp only [List.getElem?_toArray, List.getElem?_cons_succ, List.getElem?_cons_zero]; exact rfl) (by kernel_rfl) (by kernel_rfl) (by kernel_rfl) (by kernel_rfl) (by exact fun _ _ _ h => h) (Or.inl ⟨by rfl, ?hy1z2⟩) hS0 ?r1z2
          case hy1z2 => (intro w hSw; (try dsimp only at hSw); go_simp; try with_reducible rfl)
          (try simp only [Act.put]); (try simp only [List.setIfInBounds_toArray]); (repeat (first | simp only [List.set_cons_succ] | simp only [List.set_cons_zero]))
          refine wpTo_take (i := 2) (v := ?v2z3) (show _ = some _ by simp only [List.getElem?_toArray, List.getElem?_cons_succ, List.getElem?_cons_zero]; exact rfl) (by kernel_rfl) (by kernel_rfl) (by kernel_rfl) (by kernel_rfl) (by exact fun _ _ _ h => h) (Or.inl ⟨by rfl, ?hy2z3⟩) hS0 ?r2z3
          case hy2z3 => (intro w hSw; (try dsimp only at hSw); have hc2 := Blk.cell hSw 2 _ h2os; go_simp; try with_reducible rfl)
          (try simp only [Act.put]); (try simp only [List.setIfInBounds_toArray]); (repeat (first | simp only [List.set_cons_succ] | simp only [List.set_cons_zero]))
          refine wpTo_take (i := 3) (v := ?v3z4) (show _ = some _ by simp only [List.getElem?_toArray, List.getElem?_cons_succ, List.getElem?_cons_zero]; exact rfl) (by kernel_rfl) (by kernel_rfl) (by kernel_rfl) (by kernel_rfl) (by exact fun _ _ _ h => h) (Or.inl ⟨by rfl, ?hy3z4⟩) hS0 ?r3z4
          case hy3z4 => (intro w hSw; (try dsimp only at hSw); go_simp; try with_reducible rfl)
          (try simp only [Act.put]); (try simp only [List.setIfInBounds_toArray]); (repeat (first | simp only [List.set_cons_succ] | simp only [List.set_cons_zero]))
          refine wpTo_take (i := 4) (v := ?v4z5) (show _ = some _ by simp only [List.getElem?_toArray, List.getElem?_cons_succ, List.getElem?_cons_zero]; exact rfl) (by kernel_rfl) (by kernel_rfl) (by kernel_rfl) (by kernel_rfl) (by exact fun _ _ _ h => h) (Or.inl ⟨by rfl, ?hy4z5⟩) hS0 ?r4z5
          case hy4z5 => (intro w hSw; (try dsimp only at hSw); go_simp; try with_reducible rfl)
          (try simp only [Act.put]); (try simp only [List.setIfInBounds_toArray]); (repeat (first | simp only [List.set_cons_succ] | simp only [List.set_cons_zero]))
          refine wpTo_take (i := 5) (v := ?v5z6) (show _ = some _ by simp only [List.getElem?_toArray, List.getElem?_cons_succ, List.getElem?_cons_zero]; exact rfl) (by kernel_rfl) (by kernel_rfl) (by kernel_rfl) (by kernel_rfl) (by exact fun _ _ _ h => h) (Or.inl ⟨by rfl, ?hy5z6⟩) hS0 ?r5z6
          case hy5z6 => (intro w hSw; (try dsimp only at hSw); go_simp; try with_reducible rfl)
          (try simp only [Act.put]); (try simp only [List.setIfInBounds_toArray]); (repeat (first | simp only [List.set_cons_succ] | simp only [List.set_cons_zero]))
          refine wpTo_one (i := 6) (by kernel_rfl) (show _ = some _ by simp only [List.getElem?_toArray, List.getElem?_cons_succ, List.getElem?_cons_zero]; exact rfl) (fun K hK => ?_)
          go_simp
          go_at_call 24; rw [if_neg (show ¬ oc = j by omega)]; refine (hAG.out _ _ _ _ hL0.db (.inl hL0.dd) hL0.wk).mono ?_; rintro e v6 ⟨q6, mm6, m6, x6, d6, pg6, rfl, hLB6, hP6, hV6, hW6, hx6L, hx6H, hq6, hmm6, hm6, hF6⟩
          (try simp only [])
          have hS6 := hS0.fr hF6 hq12
          have hN6 := hL0.again hLB6 (hW6.le (show 2 + 5 * j + 1 + 4 ≤ 2 + 5 * (j + 1) by omega)) (hV6.le (show 2 + 5 * j + 1 + 4 ≤ 2 + 5 * (j + 1) by omega)) hx6L hx6H hq6 hmm6 hm6 hF6
          refine hK.out _ _ (hS6) (fun _ => ?_)
          clear hK K
          (try simp only [Act.put]); (try simp only [List.setIfInBounds_toArray]); (repeat (first | simp only [List.set_cons_succ] | simp only [List.set_cons_zero]))
          refine wpTo_take (i := 7) (v := ?v7z7) (show _ = some _ by simp only [List.getElem?_toArray, List.getElem?_cons_succ, List.getElem?_cons_zero]; exact rfl) (by kernel_rfl) (by kernel_rfl) (by kernel_rfl) (by kernel_rfl) (by exact fun _ _ _ h => h) (Or.inl ⟨by rfl, ?hy7z7⟩) hS6 ?r7z7
          case hy7z7 => (intro w hSw; (try dsimp only at hSw); go_simp; try with_reducible rfl)
          (try simp only [Act.put]); (try simp only [List.setIfInBounds_toArray]); (repeat (first | simp only [List.set_cons_succ] | simp only [List.set_cons_zero]))
          refine wpTo_done (by kernel_rfl) ?_
          have hho := fun (u : World) (Nz cz : Nat) (F : Nat → Pg) (h : LN B w u r f cap L H q6 mm6 m6 x6 d6 (2 + 5 * (j + 1)) pg6 pg pg Np Np) (hr : PRw u Nz H F) => holds_any B w u q6 r mm6 f m6 cap x6 d6 (2 + 5 * (j + 1)) pg6 h.lb h.lv Nz H cz F hr h.eH
          have hpc := HP9.out _ hP6
          by_cases hE : ∀ i, i < H → pg6 i = pg i
          · have hh1 := fun u h => hho u Np cp pg h (LN.rowX h)
            rw [decide_eq_true hE] at hh1
            have HEX : Hid (∀ i, i < H → pg6 i = pg i) := hE
            clear hE hpc hho
            go_wp2_with (first
              | (go_at_call 25; refine (hh1 _ hN6).mono ?_; rintro e v7 ⟨rfl, kb7⟩
                 have hN6 := hN6.next kb7))
            exact ⟨⟨j + 1, q6, mm6, m6, x6, d6, pg6, Np, cp, by omega, by omega, by go_num, rfl, rfl, rfl, hN6.liX HEX.out⟩, by simp only [intOf]; omega⟩
          · have hh1 := fun u h => hho u Np cp pg h (LN.rowX h)
            rw [decide_eq_false hE] at hh1
            have hpN : pg6 = pg := hpc.elim id (fun e => absurd (fun i _ => by rw [e]) hE)
            have hh2 := fun u h => hho u Np cp pg h (LN.rowN h)
            rw [decide_eq_true (fun i _ => by rw [hpN])] at hh2
            have HPN : Hid (pg6 = pg) := hpN
            clear hE hpc hho hpN
            go_upto_region 33 with (go_at_call 25; refine (hh1 _ hN6).mono ?_; rintro e v7 ⟨rfl, kb7⟩)
            have hN7 := hN6.next kb7
            go_wp2_with (go_at_call 25; refine (hh2 _ hN7).mono ?_; rintro e v8 ⟨rfl, kb8⟩)
            have hN8 := hN7.next kb8
            exact ⟨⟨j + 1, q6, mm6, m6, x6, d6, pg6, Np, cp, by omega, by omega, by go_num, rfl, rfl, rfl, hN8.liN HPN.out⟩, by simp only [intOf]; omega⟩
        · by_cases a2 : oa = 2
          · subst a2
            have hck := ckp_b B w u0 q r mm f m cap x d (2 + 5 * j) pg hI0.lb hI0.lv hI0.wk (by omega)
            go_upto_region 26 with (go_at_call 12; refine hck.mono ?_; rintro e u1 ⟨mm1, m1, x1, d1, i1, i2, hF1, hW1, hL1, ⟨rfl, hV1, hx1L, hx1H, -, -⟩ | ⟨-, rfl, hD1⟩⟩)
            · have hI1 := hI0.turn hI0.row hI0.nf hI0.nl i1 i2 hF1 hW1 hL1 hV1 hx1L hx1H
              clear hck
              go_wp2_with fail
              exact ⟨⟨j + 1, q, mm1, m1, x1, d1, pg, Np, cp, by omega, by omega, by go_num, rfl, rfl, rfl, hI1.le (by omega)⟩, by simp only [intOf]; omega⟩
            · have hLD := hI0.dies hI0.row hI0.nf hI0.nl i1 i2 hF1 hW1 hL1 hD1
              have hQ := hQ0.fr hF1 (fun h => h.elim ha12.1 ha12.2)
              have hq12 := (apart_move ha12.1 ha12.2 hQ0.lt i2 i1).1
              have HP9 : Hid (∀ p, p = pg → p = pg ∨ p = pg) := fun p hp => .inl hp
              clear hck hL1 hF1 hI0 hQ0 ha12 hW1 hD1 i1 i2
              have hde := dead_any u1 r f m1 cap d1 hLD.db.k
              rw [hLD.dd.off] at hde
              go_upto_region 30 with (go_at_call 23; refine hde.mono ?_; rintro e u5 ⟨rfl, rfl⟩)
              have hS0 : Blk (u1).drew P12 25 os := hQ
              have hL0 := hLD.next (below_drw u1)
              clear hde hLD hQ
              refine wp_region_to (fun u => Blk u P12 25 os) 8 (by kernel_rfl) ?_
              refine wpTo_take (i := 0) (v := ?v0z8) (show _ = some _ by simp only [List.getElem?_toArray, List.getElem?_cons_zero]; exact rfl) (by kernel_rfl) (by kernel_rfl) (by kernel_rfl) (by kernel_rfl) (by exact fun _ _ _ h => h) (Or.inl ⟨by rfl, ?hy0z8⟩) hS0 ?r0z8
              case hy0z8 => (intro w hSw; (try dsimp only at hSw); go_simp; try with_reducible rfl)
              (try simp only [Act.put]); (try simp only [List.setIfInBounds_toArray]); (repeat (first | simp only [List.set_cons_succ] | simp only [List.set_cons_zero]))
              refine wpTo_take (i := 1) (v := ?v1z9) (show _ = some _ by simp only [List.getElem?_toArray, List.getElem?_cons_succ, List.getElem?_cons_zero]; exact rfl) (by kernel_rfl) (by kernel_rfl) (by kernel_rfl) (by kernel_rfl) (by exact fun _ _ _ h => h) (Or.inl ⟨by rfl, ?hy1z9⟩) hS0 ?r1z9
              case hy1z9 => (intro w hSw; (try dsimp only at hSw); go_simp; try with_reducible rfl)
              (try simp only [Act.put]); (try simp only [List.setIfInBounds_toArray]); (repeat (first | simp only [List.set_cons_succ] | simp only [List.set_cons_zero]))
              refine wpTo_take (i := 2) (v := ?v2z10) (show _ = some _ by simp only [List.getElem?_toArray, List.getElem?_cons_succ, List.getElem?_cons_zero]; exact rfl) (by kernel_rfl) (by kernel_rfl) (by kernel_rfl) (by kernel_rfl) (by exact fun _ _ _ h => h) (Or.inl ⟨by rfl, ?hy2z10⟩) hS0 ?r2z10
              case hy2z10 => (intro w hSw; (try dsimp only at hSw); have hc2 := Blk.cell hSw 2 _ h2os; go_simp; try with_reducible rfl)
              (try simp only [Act.put]); (try simp only [List.setIfInBounds_toArray]); (repeat (first | simp only [List.set_cons_succ] | simp only [List.set_cons_zero]))
              refine wpTo_take (i := 3) (v := ?v3z11) (show _ = some _ by simp only [List.getElem?_toArray, List.getElem?_cons_succ, List.getElem?_cons_zero]; exact rfl) (by kernel_rfl) (by kernel_rfl) (by kernel_rfl) (by kernel_rfl) (by exact fun _ _ _ h => h) (Or.inl ⟨by rfl, ?hy3z11⟩) hS0 ?r3z11
              case hy3z11 => (intro w hSw; (try dsimp only at hSw); go_simp; try with_reducible rfl)
              (try simp only [Act.put]); (try simp only [List.setIfInBounds_toArray]); (repeat (first | simp only [List.set_cons_succ] | simp only [List.set_cons_zero]))
              refine wpTo_take (i := 4) (v := ?v4z12) (show _ = some _ by simp only [List.getElem?_toArray, List.getElem?_cons_succ, List.getElem?_cons_zero]; exact rfl) (by kernel_rfl) (by kernel_rfl) (by kernel_rfl) (by kernel_rfl) (by exact fun _ _ _ h => h) (Or.inl ⟨by rfl, ?hy4z12⟩) hS0 ?r4z12
              case hy4z12 => (intro w hSw; (try dsimp only at hSw); go_simp; try with_reducible rfl)
              (try simp only [Act.put]); (try simp only [List.setIfInBounds_toArray]); (repeat (first | simp only [List.set_cons_succ] | simp only [List.set_cons_zero]))
              refine wpTo_take (i := 5) (v := ?v5z13) (show _ = some _ by simp only [List.getElem?_toArray, List.getElem?_cons_succ, List.getElem?_cons_zero]; exact rfl) (by kernel_rfl) (by kernel_rfl) (by kernel_rfl) (by kernel_rfl) (by exact fun _ _ _ h => h) (Or.inl ⟨by rfl, ?hy5z13⟩) hS0 ?r5z13
              case hy5z13 => (intro w hSw; (try dsimp only at hSw); go_simp; try with_reducible rfl)
              (try simp only [Act.put]); (try simp only [List.setIfInBounds_toArray]); (repeat (first | simp only [List.set_cons_succ] | simp only [List.set_cons_zero]))
              refine wpTo_one (i := 6) (by kernel_rfl) (show _ = some _ by simp only [List.getElem?_toArray, List.getElem?_cons_succ, List.getElem?_cons_zero]; exact rfl) (fun K hK => ?_)
              go_simp
              go_at_call 24; rw [if_neg (show ¬ oc = j by omega)]; refine (hAG.out _ _ _ _ hL0.db (.inl hL0.dd) hL0.wk).mono ?_; rintro e v6 ⟨q6, mm6, m6, x6, d6, pg6, rfl, hLB6, hP6, hV6, hW6, hx6L, hx6H, hq6, hmm6, hm6, hF6⟩
              (try simp only [])
              have hS6 := hS0.fr hF6 hq12
              have hN6 := hL0.again hLB6 (hW6.le (show 2 + 5 * j + 1 + 4 ≤ 2 + 5 * (j + 1) by omega)) (hV6.le (show 2 + 5 * j + 1 + 4 ≤ 2 + 5 * (j + 1) by omega)) hx6L hx6H hq6 hmm6 hm6 hF6
              refine hK.out _ _ (hS6) (fun _ => ?_)
              clear hK K
              (try simp only [Act.put]); (try simp only [List.setIfInBounds_toArray]); (repeat (first | simp only [List.set_cons_succ] | simp only [List.set_cons_zero]))
              refine wpTo_take (i := 7) (v := ?v7z14) (show _ = some _ by simp only [List.getElem?_toArray, List.getElem?_cons_succ, List.getElem?_cons_zero]; exact rfl) (by kernel_rfl) (by kernel_rfl) (by kernel_rfl) (by kernel_rfl) (by exact fun _ _ _ h => h) (Or.inl ⟨by rfl, ?hy7z14⟩) hS6 ?r7z14
              case hy7z14 => (intro w hSw; (try dsimp only at hSw); go_simp; try with_reducible rfl)
              (try simp only [Act.put]); (try simp only [List.setIfInBounds_toArray]); (repeat (first | simp only [List.set_cons_succ] | simp only [List.set_cons_zero]))
              refine wpTo_done (by kernel_rfl) ?_
              have hho := fun (u : World) (Nz cz : Nat) (F : Nat → Pg) (h : LN B w u r f cap L H q6 mm6 m6 x6 d6 (2 + 5 * (j + 1)) pg6 pg pg Np Np) (hr : PRw u Nz H F) => holds_any B w u q6 r mm6 f m6 cap x6 d6 (2 + 5 * (j + 1)) pg6 h.lb h.lv Nz H cz F hr h.eH
              have hpc := HP9.out _ hP6
              by_cases hE : ∀ i, i < H → pg6 i = pg i
              · have hh1 := fun u h => hho u Np cp pg h (LN.rowX h)
                rw [decide_eq_true hE] at hh1
                have HEX : Hid (∀ i, i < H → pg6 i = pg i) := hE
                clear hE hpc hho
                go_wp2_with (first
                  | (go_at_call 25; refine (hh1 _ hN6).mono ?_; rintro e v7 ⟨rfl, kb7⟩
                     have hN6 := hN6.next kb7))
                exact ⟨⟨j + 1, q6, mm6, m6, x6, d6, pg6, Np, cp, by omega, by omega, by go_num, rfl, rfl, rfl, hN6.liX HEX.out⟩, by simp only [intOf]; omega⟩
              · have hh1 := fun u h => hho u Np cp pg h (LN.rowX h)
                rw [decide_eq_false hE] at hh1
                have hpN : pg6 = pg := hpc.elim id (fun e => absurd (fun i _ => by rw [e]) hE)
                have hh2 := fun u h => hho u Np cp pg h (LN.rowN h)
                rw [decide_eq_true (fun i _ => by rw [hpN])] at hh2
                have HPN : Hid (pg6 = pg) := hpN
                clear hE hpc hho hpN
                go_upto_region 33 with (go_at_call 25; refine (hh1 _ hN6).mono ?_; rintro e v7 ⟨rfl, kb7⟩)
                have hN7 := hN6.next kb7
                go_wp2_with (go_at_call 25; refine (hh2 _ hN7).mono ?_; rintro e v8 ⟨rfl, kb8⟩)
                have hN8 := hN7.next kb8
                exact ⟨⟨j + 1, q6, mm6, m6, x6, d6, pg6, Np, cp, by omega, by omega, by go_num, rfl, rfl, rfl, hN8.liN HPN.out⟩, by simp only [intOf]; omega⟩
          · by_cases a4 : oa = 4
            · subst a4
              have c1 := hQ0.cell 1 _ h1os
              obtain ⟨b, hb, e4, e2, e1⟩ := tmn_eq oi 40 (by omega)
              obtain ⟨t, ht⟩ : ∃ t, t = oi.tmod 40 := ⟨_, rfl⟩
              have e0 : oi.tmod 40 = t := ht.symm
              have e5 : (t + 40).tmod 40 = (b : Int) := by rw [ht]; exact e4
              have e1' : t < 40 := by rw [ht]; exact e1
              have e2' : -40 < t := by rw [ht]; exact e2
              have w0 : IntKind.i64.wrap t = t := by rw [IntKind.wrap_i64]; omega
              have w1 : IntKind.i64.wrap (t + 40) = t + 40 := by rw [IntKind.wrap_i64]; omega
              have w2 : IntKind.i64.wrap (b : Int) = (b : Int) := by rw [IntKind.wrap_i64]; omega
              have harm := arm_b B w u0 q r mm f m cap x d (2 + 5 * j) pg hI0.lb hI0.lv hI0.wk b (by omega)
              clear ht e1 e2 e4 hb e1' e2'
              go_wp2_with (go_at_call 21; refine harm.mono ?_; rintro e u1 ⟨rfl, mm1, m1, i1, i2, hF1, hW1, hL1, hV1⟩)
              have hI1 := hI0.turn hI0.row hI0.nf hI0.nl i1 i2 hF1 hW1 hL1 hV1 rfl rfl
              exact ⟨⟨j + 1, q, mm1, m1, x, _, pg, Np, cp, by omega, by omega, by go_num, rfl, rfl, rfl, hI1.le (by omega)⟩, by simp only [intOf]; omega⟩
            · by_cases a1 : oa = 1
              · subst a1
                have hg := HOJ.out _ hI0.lb.below
                obtain ⟨l, hl⟩ : ∃ l, l = (List.range (min pn 200)).map (imF Ps sn S) := ⟨_, rfl⟩
                have him : Calls Tryd.prog 11 #[.agg os.toArray] u0 fun e w' => ∃ ao ci, e = .returned (.slice ao l.length ci) ∧ Ims w' ao l ∧ (∀ g, ao = some ⟨g, 0, none⟩ → u0.heap.size ≤ g) ∧ Below u0.heap.size u0 w' := by
                  have h0 := images_any u0 1 oi po pn pc Ps so sn sc S hg.ints hg.strs hg.len
                  rw [← HOS.out] at h0
                  refine h0.mono ?_
                  rintro e w' ⟨v1, rfl, hown, hb⟩
                  obtain ⟨ao, ci, rfl, h1, h2⟩ := ims_of_own hown
                  rw [← hl] at h1 ⊢
                  exact ⟨ao, ci, rfl, h1, h2, hb⟩
                have hll : l.length ≤ 200 := by rw [hl]; simp; omega
                have hft := fun (u : World) (ao : Option Addr) (c : Nat) (h : Ims u ao l) => fits_any u ao c l H L h (by omega) (by omega) (by omega)
                clear hl hg
                by_cases hfit : fitP H L l
                · rw [decide_eq_true hfit] at hft
                  have hlW : toI (fromI l) = l := toI_fromI hfit.1
                  have hlen := fromI_len l
                  obtain ⟨W, hW⟩ : ∃ W, W = fromI l := ⟨_, rfl⟩
                  rw [← hW] at hlW hlen
                  have hnam : nam H W := okP_nam.1 (by rw [hlW]; exact hfit.1)
                  have hWL : W.length + 2 ≤ L := by rw [hlen]; exact hfit.2
                  have hov := fun (u : World) (ao : Option Addr) (c : Nat) (hr : PRw u Np H pg) (h : Ims u ao l) => over8_any u Np H cp pg ao c W hr b3 (by omega) (by rw [hlW]; exact h) (by omega) hnam.1
                  simp only [hlen] at hov
                  clear hW
                  by_cases hl0 : l = []
                  · have hcr := fun (u : World) (ao : Option Addr) (c : Nat) (hL : LL u q r mm x) (h : Ims u ao l) => com_ref u q r mm x ao c l hL h (by omega) (by intro y hy; rw [hl0] at hy; cases hy) (.inr (.inl hl0))
                    have hcz : comR x l = 0 := by
                      unfold comR
                      rw [if_neg (by rw [hI0.eH]; exact fun h => h hfit.1), if_pos hl0]
                    rw [hcz] at hcr
                    have HW0 : Hid (W = []) := by
                      show _ = _
                      rw [hl0] at hlen
                      exact List.eq_nil_of_length_eq_zero hlen
                    clear hl0 hfit hcz hlen hlW hnam
                    go_wp2_with (first
                      | (refine wpList_load_mid rfl 25 _ rfl P12 0 rfl os _ hQ0.whole Tryd.underlying25 rfl (by rw [hol]; kernel_rfl) ?_)
                      | (go_at_call 11; refine him.mono ?_; rintro e u1 ⟨ao, ci, rfl, hIm1, hIb, kb1⟩
                         have hI1 := hI0.next kb1)
                      | (go_at_call 19; refine (hft u1 ao ci hIm1).mono ?_; rintro e u2 ⟨rfl, kb2⟩
                         have hI2 := hI1.next kb2
                         have hIm2 := hIm1.next kb2)
                      | (go_at_call 20; refine (hov u2 ao ci hI2.row hIm2).mono ?_; rintro e u3 ⟨G3, c3, rfl, hG3, hR3, kb3⟩
                         have hI3 := hI2.next kb3
                         have hIm3 := hIm2.next kb3
                         have hap3 := hI2.lb.apart_new hG3)
                      | (go_at_call 10; refine (hcr u3 ao ci hI3.lb.dl.l hIm3).mono ?_; rintro e u4 ⟨rfl, kb4⟩))
                    rw [HW0.out] at hR3
                    have hI4 := hI3.next kb4
                    exact ⟨⟨j + 1, q, mm, m, x, d, pg, G3, c3, by omega, by omega, by go_num, rfl, rfl, rfl, LI.le ⟨hI4.lb, hI4.lv, hI4.wk, hI4.eL, hI4.eH, hR3.next kb4, hap3.1, hap3.2⟩ (by omega)⟩, by simp only [intOf]; omega⟩
                  · have HL0 : Hid (l ≠ []) := hl0
                    have hW0 : W ≠ [] := fun e => hl0 (by rw [e] at hlen; exact List.eq_nil_of_length_eq_zero hlen.symm)
                    have hcm := fun (u : World) (g c : Nat) (h : LI B w u r f cap L H q mm m x d (2 + 5 * j) pg Np) (hI : ImR u g l) (hA : ¬ fp r f m g ∧ ¬ lp q mm g) => com_b B w u q r mm f m cap x d (2 + 5 * j) pg g c W h.lb h.lv h.wk (by omega) (by rw [hlW]; exact hI) hA (by rw [h.eH]; exact hnam) hW0 (by omega) (by rw [h.eL]; exact hWL)
                    simp only [hlen] at hcm
                    clear hl0 hfit hlen hlW hnam hW0
                    go_upto_region 17 with (first
                      | (refine wpList_load_mid rfl 25 _ rfl P12 0 rfl os _ hQ0.whole Tryd.underlying25 rfl (by rw [hol]; kernel_rfl) ?_)
                      | (go_at_call 11; refine him.mono ?_; rintro e u1 ⟨ao, ci, rfl, hIm1, hIb, kb1⟩
                         have hI1 := hI0.next kb1
                         have hQ1 := hQ0.next kb1)
                      | (go_at_call 19; refine (hft u1 ao ci hIm1).mono ?_; rintro e u2 ⟨rfl, kb2⟩
                         have hI2 := hI1.next kb2
                         have hQ2 := hQ1.next kb2
                         have hIm2 := hIm1.next kb2)
                      | (go_at_call 20; refine (hov u2 ao ci hI2.row hIm2).mono ?_; rintro e u3 ⟨G3, c3, rfl, hG3, hR3, kb3⟩
                         have hI3 := hI2.next kb3
                         have hQ3 := hQ2.next kb3
                         have hIm3 := hIm2.next kb3
                         have hap3 := hI2.lb.apart_new hG3))
                    rcases hIm3 with ⟨_, h0⟩ | ⟨g, rfl, hIR⟩
                    · exact absurd h0 HL0.out
                    have hapg := hI0.lb.apart_new (hIb g rfl)
                    have hcm3 := hcm u3 g ci hI3 hIR hapg
                    clear hcm hov hft him hIm1 hIm2 hI1 hI2 hQ1 hQ2 hI0 hQ0 kb1 kb2 kb3
                    go_upto_region 26 with (go_at_call 10; refine hcm3.mono ?_; rintro e u4 ⟨mm1, m1, x1, d1, i1, i2, hF1, hW1, hL1, ⟨rfl, hV1, hx1L, hx1H, -⟩ | ⟨-, rfl, hD1⟩⟩)
                    · have hI4 := hI3.turn hR3 hap3.1 hap3.2 i1 i2 hF1 hW1 hL1 hV1 hx1L hx1H
                      clear hcm3
                      go_wp2_with fail
                      exact ⟨⟨j + 1, q, mm1, m1, x1, d1, on1 pg W, G3, c3, by omega, by omega, by go_num, rfl, rfl, rfl, hI4.le (by omega)⟩, by simp only [intOf]; omega⟩
                    · have hLD := hI3.dies hR3 hap3.1 hap3.2 i1 i2 hF1 hW1 hL1 hD1
                      have hQ := hQ3.fr hF1 (fun h => h.elim ha12.1 ha12.2)
                      have hq12 := (apart_move ha12.1 ha12.2 hQ3.lt i2 i1).1
                      obtain ⟨pgX, hpX⟩ : ∃ p, p = on1 pg W := ⟨_, rfl⟩
                      rw [← hpX] at hLD
                      have HP9 : Hid (∀ p, (p = pg ∨ p = pgX) → p = pg ∨ p = pgX) := fun p hp => hp
                      clear hcm3 hL1 hF1 hI3 hQ3 ha12 hW1 hD1 i1 i2 hR3 hap3 hapg hIR hG3 hpX
                      have hde := dead_any u4 r f m1 cap d1 hLD.db.k
                      rw [hLD.dd.off] at hde
                      go_upto_region 30 with (go_at_call 23; refine hde.mono ?_; rintro e u5 ⟨rfl, rfl⟩)
                      have hS0 : Blk (u4).drew P12 25 os := hQ
                      have hL0 := hLD.next (below_drw u4)
                      clear hde hLD hQ
                      refine wp_region_to (fun u => Blk u P12 25 os) 8 (by kernel_rfl) ?_
                      refine wpTo_take (i := 0) (v := ?v0z15) (show _ = some _ by simp only [List.getElem?_toArray, List.getElem?_cons_zero]; exact rfl) (by kernel_rfl) (by kernel_rfl) (by kernel_rfl) (by kernel_rfl) (by exact fun _ _ _ h => h) (Or.inl ⟨by rfl, ?hy0z15⟩) hS0 ?r0z15
                      case hy0z15 => (intro w hSw; (try dsimp only at hSw); go_simp; try with_reducible rfl)
                      (try simp only [Act.put]); (try simp only [List.setIfInBounds_toArray]); (repeat (first | simp only [List.set_cons_succ] | simp only [List.set_cons_zero]))
                      refine wpTo_take (i := 1) (v := ?v1z16) (show _ = some _ by simp only [List.getElem?_toArray, List.getElem?_cons_succ, List.getElem?_cons_zero]; exact rfl) (by kernel_rfl) (by kernel_rfl) (by kernel_rfl) (by kernel_rfl) (by exact fun _ _ _ h => h) (Or.inl ⟨by rfl, ?hy1z16⟩) hS0 ?r1z16
                      case hy1z16 => (intro w hSw; (try dsimp only at hSw); go_simp; try with_reducible rfl)
                      (try simp only [Act.put]); (try simp only [List.setIfInBounds_toArray]); (repeat (first | simp only [List.set_cons_succ] | simp only [List.set_cons_zero]))
                      refine wpTo_take (i := 2) (v := ?v2z17) (show _ = some _ by simp only [List.getElem?_toArray, List.getElem?_cons_succ, List.getElem?_cons_zero]; exact rfl) (by kernel_rfl) (by kernel_rfl) (by kernel_rfl) (by kernel_rfl) (by exact fun _ _ _ h => h) (Or.inl ⟨by rfl, ?hy2z17⟩) hS0 ?r2z17
                      case hy2z17 => (intro w hSw; (try dsimp only at hSw); have hc2 := Blk.cell hSw 2 _ h2os; go_simp; try with_reducible rfl)
                      (try simp only [Act.put]); (try simp only [List.setIfInBounds_toArray]); (repeat (first | simp only [List.set_cons_succ] | simp only [List.set_cons_zero]))
                      refine wpTo_take (i := 3) (v := ?v3z18) (show _ = some _ by simp only [List.getElem?_toArray, List.getElem?_cons_succ, List.getElem?_cons_zero]; exact rfl) (by kernel_rfl) (by kernel_rfl) (by kernel_rfl) (by kernel_rfl) (by exact fun _ _ _ h => h) (Or.inl ⟨by rfl, ?hy3z18⟩) hS0 ?r3z18
                      case hy3z18 => (intro w hSw; (try dsimp only at hSw); go_simp; try with_reducible rfl)
                      (try simp only [Act.put]); (try simp only [List.setIfInBounds_toArray]); (repeat (first | simp only [List.set_cons_succ] | simp only [List.set_cons_zero]))
                      refine wpTo_take (i := 4) (v := ?v4z19) (show _ = some _ by simp only [List.getElem?_toArray, List.getElem?_cons_succ, List.getElem?_cons_zero]; exact rfl) (by kernel_rfl) (by kernel_rfl) (by kernel_rfl) (by kernel_rfl) (by exact fun _ _ _ h => h) (Or.inl ⟨by rfl, ?hy4z19⟩) hS0 ?r4z19
                      case hy4z19 => (intro w hSw; (try dsimp only at hSw); go_simp; try with_reducible rfl)
                      (try simp only [Act.put]); (try simp only [List.setIfInBounds_toArray]); (repeat (first | simp only [List.set_cons_succ] | simp only [List.set_cons_zero]))
                      refine wpTo_take (i := 5) (v := ?v5z20) (show _ = some _ by simp only [List.getElem?_toArray, List.getElem?_cons_succ, List.getElem?_cons_zero]; exact rfl) (by kernel_rfl) (by kernel_rfl) (by kernel_rfl) (by kernel_rfl) (by exact fun _ _ _ h => h) (Or.inl ⟨by rfl, ?hy5z20⟩) hS0 ?r5z20
                      case hy5z20 => (intro w hSw; (try dsimp only at hSw); go_simp; try with_reducible rfl)
                      (try simp only [Act.put]); (try simp only [List.setIfInBounds_toArray]); (repeat (first | simp only [List.set_cons_succ] | simp only [List.set_cons_zero]))
                      refine wpTo_one (i := 6) (by kernel_rfl) (show _ = some _ by simp only [List.getElem?_toArray, List.getElem?_cons_succ, List.getElem?_cons_zero]; exact rfl) (fun K hK => ?_)
                      go_simp
                      go_at_call 24; rw [if_neg (show ¬ oc = j by omega)]; refine (hAG.out _ _ _ _ hL0.db (.inl hL0.dd) hL0.wk).mono ?_; rintro e v6 ⟨q6, mm6, m6, x6, d6, pg6, rfl, hLB6, hP6, hV6, hW6, hx6L, hx6H, hq6, hmm6, hm6, hF6⟩
                      (try simp only [])
                      have hS6 := hS0.fr hF6 hq12
                      have hN6 := hL0.again hLB6 (hW6.le (show 2 + 5 * j + 1 + 4 ≤ 2 + 5 * (j + 1) by omega)) (hV6.le (show 2 + 5 * j + 1 + 4 ≤ 2 + 5 * (j + 1) by omega)) hx6L hx6H hq6 hmm6 hm6 hF6
                      refine hK.out _ _ (hS6) (fun _ => ?_)
                      clear hK K
                      (try simp only [Act.put]); (try simp only [List.setIfInBounds_toArray]); (repeat (first | simp only [List.set_cons_succ] | simp only [List.set_cons_zero]))
                      refine wpTo_take (i := 7) (v := ?v7z21) (show _ = some _ by simp only [List.getElem?_toArray, List.getElem?_cons_succ, List.getElem?_cons_zero]; exact rfl) (by kernel_rfl) (by kernel_rfl) (by kernel_rfl) (by kernel_rfl) (by exact fun _ _ _ h => h) (Or.inl ⟨by rfl, ?hy7z21⟩) hS6 ?r7z21
                      case hy7z21 => (intro w hSw; (try dsimp only at hSw); go_simp; try with_reducible rfl)
                      (try simp only [Act.put]); (try simp only [List.setIfInBounds_toArray]); (repeat (first | simp only [List.set_cons_succ] | simp only [List.set_cons_zero]))
                      refine wpTo_done (by kernel_rfl) ?_
                      have hho := fun (u : World) (Nz cz : Nat) (F : Nat → Pg) (h : LN B w u r f cap L H q6 mm6 m6 x6 d6 (2 + 5 * (j + 1)) pg6 pg pgX Np G3) (hr : PRw u Nz H F) => holds_any B w u q6 r mm6 f m6 cap x6 d6 (2 + 5 * (j + 1)) pg6 h.lb h.lv Nz H cz F hr h.eH
                      have hpc := HP9.out _ hP6
                      by_cases hE : ∀ i, i < H → pg6 i = pgX i
                      · have hh1 := fun u h => hho u G3 c3 pgX h (LN.rowX h)
                        rw [decide_eq_true hE] at hh1
                        have HEX : Hid (∀ i, i < H → pg6 i = pgX i) := hE
                        clear hE hpc hho
                        go_wp2_with (first
                          | (go_at_call 25; refine (hh1 _ hN6).mono ?_; rintro e v7 ⟨rfl, kb7⟩
                             have hN6 := hN6.next kb7))
                        exact ⟨⟨j + 1, q6, mm6, m6, x6, d6, pg6, G3, c3, by omega, by omega, by go_num, rfl, rfl, rfl, hN6.liX HEX.out⟩, by simp only [intOf]; omega⟩
                      · have hh1 := fun u h => hho u G3 c3 pgX h (LN.rowX h)
                        rw [decide_eq_false hE] at hh1
                        have hpN : pg6 = pg := hpc.elim id (fun e => absurd (fun i _ => by rw [e]) hE)
                        have hh2 := fun u h => hho u Np cp pg h (LN.rowN h)
                        rw [decide_eq_true (fun i _ => by rw [hpN])] at hh2
                        have HPN : Hid (pg6 = pg) := hpN
                        clear hE hpc hho hpN
                        go_upto_region 33 with (go_at_call 25; refine (hh1 _ hN6).mono ?_; rintro e v7 ⟨rfl, kb7⟩)
                        have hN7 := hN6.next kb7
                        go_wp2_with (go_at_call 25; refine (hh2 _ hN7).mono ?_; rintro e v8 ⟨rfl, kb8⟩)
                        have hN8 := hN7.next kb8
                        exact ⟨⟨j + 1, q6, mm6, m6, x6, d6, pg6, Np, cp, by omega, by omega, by go_num, rfl, rfl, rfl, hN8.liN HPN.out⟩, by simp only [intOf]; omega⟩
                · rw [decide_eq_false hfit] at hft
                  clear hfit
                  go_wp2_with (first
                    | (refine wpList_load_mid rfl 25 _ rfl P12 0 rfl os _ hQ0.whole Tryd.underlying25 rfl (by rw [hol]; kernel_rfl) ?_)
                    | (go_at_call 11; refine him.mono ?_; rintro e u1 ⟨ao, ci, rfl, hIm1, hIb, kb1⟩
                       have hI1 := hI0.next kb1)
                    | (go_at_call 19; refine (hft u1 ao ci hIm1).mono ?_; rintro e u2 ⟨rfl, kb2⟩))
                  have hI2 := hI1.next kb2
                  exact ⟨⟨j + 1, q, mm, m, x, d, pg, Np, cp, by omega, by omega, by go_num, rfl, rfl, rfl, hI2.le (by omega)⟩, by simp only [intOf]; omega⟩
              · go_wp2_with fail
                exact ⟨⟨j + 1, q, mm, m, x, d, pg, Np, cp, by omega, by omega, by go_num, rfl, rfl, rfl, hI0.le (by omega)⟩, by simp only [intOf]; omega⟩
      · by_cases hlt1 : j < on
        · have hjI : (j : Int) < (on : Int) := by omega
          have hjJ : ¬ (j : Int) < 60 := by omega
          have harm : Calls Tryd.prog 21 #[.pointer (some ⟨r, 0, none⟩), .int .i64 0] wr fun e v' => e = .returned (.int .i64 0) ∧ ∃ mm' m', (mm' = mm ∨ wr.heap.size ≤ mm') ∧ (m' = m ∨ wr.heap.size ≤ m') ∧ Fr (fun k => fp r f m k ∨ lp q mm k) wr v' ∧ Wk { d with armed := 0 } (2 + 5 * j) ∧ LB B w v' q r mm' f m' cap x { d with armed := 0 } ∧ Lv { d with armed := 0 } x (2 + 5 * j) pg := arm_b B w wr q r mm f m cap x d (2 + 5 * j) pg hI.lb hI.lv hI.wk 0 (by omega)
          have hfin : ∀ (u : World) (m1 : Nat) (d1 : St), DB B w u r f m1 cap d1 → Rs d1 L H (2 + 5 * j) pg → Wk d1 (2 + 5 * j) → Calls Tryd.prog 24 #[.pointer (some ⟨r, 0, none⟩), .slice none 0 0, .slice none 0 0] u (AgR B w u r f m1 cap L H (2 + 5 * j) fun p => p = pg) := fun u m1 d1 h1 h2 h3 => again_any B w u r f m1 cap d1 L H (2 + 5 * j) (fun p => p = pg) h1 (.inr ⟨pg, rfl, h2⟩) h3 (by omega) b1 (by omega) b3 (by omega) none 0 0 [] (fun v _ => ⟨rfl, fun _ => rfl, fun ad h => (by cases h), fun x hx => (by cases hx)⟩) (fun ad h => by cases h) (by unfold maxLen; omega) none 0 0 (fun _ => Op8.none) (fun v _ => ⟨fun _ => rfl, fun ad h => (by cases h), fun i hi => absurd hi (by omega)⟩)
          go_wp2_with (first
            | (go_at_call 21; refine harm.mono ?_; rintro e u1 ⟨rfl, mm1, m1, i1, i2, hF1, hW1, hL1, hV1⟩
               have hI1 := hI.turn hI.row hI.nf hI.nl i1 i2 hF1 hW1 hL1 hV1 rfl rfl
               have hrs1 := hV1.rs
               rw [hI.eL, hI.eH] at hrs1)
            | (go_at_call 24; refine (hfin u1 m1 _ hL1.db hrs1 hW1).mono ?_; rintro e v6 ⟨q6, mm6, m6, x6, d6, pg6, rfl, hLB6, hP6, hV6, hW6, hx6L, hx6H, hq6, hmm6, hm6, hF6⟩
               have hR6 := hI1.row.fr hF6 hI1.nf
               have hho := holds_any B w v6 q6 r mm6 f m6 cap x6 d6 _ pg6 hLB6 hV6 Np H cp pg hR6 hx6H
               rw [decide_eq_true (fun i _ => by rw [hP6])] at hho)
            | (go_at_call 25; refine hho.mono ?_; rintro e v7 ⟨rfl, kb7⟩
               have hLB7 := hLB6.next kb7)
            | (go_at_call 16; refine (works_any _ hLB7.dl.t).mono ?_; rintro e v8 ⟨rfl, kb8⟩))
          go_ret
          refine ⟨rfl, ?_⟩
          have hfb := hLB7.below.trans (kb8.mono hLB7.size)
          exact hfb
        · have hjI : ¬ (j : Int) < (on : Int) := by omega
          have harm : Calls Tryd.prog 21 #[.pointer (some ⟨r, 0, none⟩), .int .i64 0] wr fun e v' => e = .returned (.int .i64 0) ∧ ∃ mm' m', (mm' = mm ∨ wr.heap.size ≤ mm') ∧ (m' = m ∨ wr.heap.size ≤ m') ∧ Fr (fun k => fp r f m k ∨ lp q mm k) wr v' ∧ Wk { d with armed := 0 } (2 + 5 * j) ∧ LB B w v' q r mm' f m' cap x { d with armed := 0 } ∧ Lv { d with armed := 0 } x (2 + 5 * j) pg := arm_b B w wr q r mm f m cap x d (2 + 5 * j) pg hI.lb hI.lv hI.wk 0 (by omega)
          have hfin : ∀ (u : World) (m1 : Nat) (d1 : St), DB B w u r f m1 cap d1 → Rs d1 L H (2 + 5 * j) pg → Wk d1 (2 + 5 * j) → Calls Tryd.prog 24 #[.pointer (some ⟨r, 0, none⟩), .slice none 0 0, .slice none 0 0] u (AgR B w u r f m1 cap L H (2 + 5 * j) fun p => p = pg) := fun u m1 d1 h1 h2 h3 => again_any B w u r f m1 cap d1 L H (2 + 5 * j) (fun p => p = pg) h1 (.inr ⟨pg, rfl, h2⟩) h3 (by omega) b1 (by omega) b3 (by omega) none 0 0 [] (fun v _ => ⟨rfl, fun _ => rfl, fun ad h => (by cases h), fun x hx => (by cases hx)⟩) (fun ad h => by cases h) (by unfold maxLen; omega) none 0 0 (fun _ => Op8.none) (fun v _ => ⟨fun _ => rfl, fun ad h => (by cases h), fun i hi => absurd hi (by omega)⟩)
          go_wp2_with (first
            | (go_at_call 21; refine harm.mono ?_; rintro e u1 ⟨rfl, mm1, m1, i1, i2, hF1, hW1, hL1, hV1⟩
               have hI1 := hI.turn hI.row hI.nf hI.nl i1 i2 hF1 hW1 hL1 hV1 rfl rfl
               have hrs1 := hV1.rs
               rw [hI.eL, hI.eH] at hrs1)
            | (go_at_call 24; refine (hfin u1 m1 _ hL1.db hrs1 hW1).mono ?_; rintro e v6 ⟨q6, mm6, m6, x6, d6, pg6, rfl, hLB6, hP6, hV6, hW6, hx6L, hx6H, hq6, hmm6, hm6, hF6⟩
               have hR6 := hI1.row.fr hF6 hI1.nf
               have hho := holds_any B w v6 q6 r mm6 f m6 cap x6 d6 _ pg6 hLB6 hV6 Np H cp pg hR6 hx6H
               rw [decide_eq_true (fun i _ => by rw [hP6])] at hho)
            | (go_at_call 25; refine hho.mono ?_; rintro e v7 ⟨rfl, kb7⟩
               have hLB7 := hLB6.next kb7)
            | (go_at_call 16; refine (works_any _ hLB7.dl.t).mono ?_; rintro e v8 ⟨rfl, kb8⟩))
          go_ret
          refine ⟨rfl, ?_⟩
          have hfb := hLB7.below.trans (kb8.mono hLB7.size)
          exact hfb
end Go.Proofs.YtndfhmlcfaaaiaaDoor
