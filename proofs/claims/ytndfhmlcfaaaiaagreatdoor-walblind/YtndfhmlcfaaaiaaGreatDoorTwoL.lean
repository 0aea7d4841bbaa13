/- Two logs, each on a disk of its own; images as they come. -/
import Derived.Test.YtndfhmlcfaaaiaaGreatDoorTidy
import Derived.Test.YtndfhmlcfaaaiaaGreatDoorComR
import Derived.Test.YtndfhmlcfaaaiaaGreatDoorImgs
import Derived.Test.YtndfhmlcfaaaiaaGreatDoorFrame8
import Derived.Test.YtndfhmlcfaaaiaaGreatDoorPend
import Derived.Test.YtndfhmlcfaaaiaaGreatDoorEqs
namespace Go.Proofs.YtndfhmlcfaaaiaaGreatDoor
open Go.RowKit

theorem ims_of_own {w : World} {base n : Nat} {v : Value} {F : Nat → Int × Pg} (h : w.ownsRow base 82 481 v n (flatI n F)) : ∃ ao cp, v = .slice ao ((List.range n).map F).length cp ∧ Ims w ao ((List.range n).map F) ∧ ∀ g, ao = some ⟨g, 0, none⟩ → base ≤ g := by
  rcases irow_of_own h with ⟨rfl, rfl⟩ | ⟨G, cp, rfl, hG, hI⟩
  · exact ⟨none, 0, rfl, .inl ⟨rfl, rfl⟩, fun g hg => by cases hg⟩
  · exact ⟨some ⟨G, 0, none⟩, cp, by simp, .inr ⟨G, rfl, hI.im⟩, fun g hg => by cases hg; exact hG⟩
def fromI (l : List (Int × Pg)) : List Im := l.map fun y => (y.1.toNat, y.2)
theorem toI_fromI {H : Nat} {l : List (Int × Pg)} (h : okP H l) : toI (fromI l) = l := by
  unfold toI fromI
  rw [List.map_map]
  conv => rhs; rw [← List.map_id l]
  refine List.map_congr_left fun y hy => ?_
  have := (h.1 y.1 (List.mem_map.2 ⟨y, hy, rfl⟩)).1
  simp only [Function.comp, id]
  rw [show ((y.1.toNat : Nat) : Int) = y.1 by omega]
theorem fromI_len (l : List (Int × Pg)) : (fromI l).length = l.length := by simp [fromI]
theorem tmn_eq (l : Int) (n : Nat) (hn : 0 < n) : ∃ b : Nat, b < n ∧ ((l.tmod (n : Int) + (n : Int)).tmod (n : Int)) = (b : Int) ∧ -(n : Int) < l.tmod (n : Int) ∧ l.tmod (n : Int) < (n : Int) := by
  have h1 := Int.tmod_lt_of_pos l (show (0 : Int) < (n : Int) by omega)
  have h2 : -(n : Int) < l.tmod (n : Int) := by
    rcases Int.le_total 0 l with h | h
    · have := Int.tmod_nonneg (n : Int) h; omega
    · have h3 := Int.tmod_lt_of_pos (-l) (show (0 : Int) < (n : Int) by omega)
      rw [Int.neg_tmod] at h3
      omega
  have h3 := Int.tmod_nonneg (n : Int) (show 0 ≤ l.tmod (n : Int) + (n : Int) by omega)
  have h4 := Int.tmod_lt_of_pos (l.tmod (n : Int) + (n : Int)) (show (0 : Int) < (n : Int) by omega)
  obtain ⟨b, hb⟩ := Int.eq_ofNat_of_zero_le h3
  exact ⟨b, by omega, hb, h2, h1⟩
theorem Wk.le {d : St} {k k' : Nat} (h : Wk d k) (hk : k ≤ k') : Wk d k' := by
  unfold Wk at h ⊢
  omega
theorem Lv.le {d : St} {x : Lg} {k k' : Nat} {pg : Nat → Pg} (h : Lv d x k pg) (hk : k ≤ k') : Lv d x k' pg := ⟨h.on, h.w, h.n, h.alive, Nat.le_trans h.gk hk, h.rep⟩
/-- What a page reads as. -/
theorem readR_b (B : Nat) (w v : World) (q r mm f m cap : Nat) (x : Lg) (d : St) (pg : Nat → Pg) (h : LB B w v q r mm f m cap x d) (hon : d.off = false) (hal : x.dead = false) (p : Nat) (hp : p < 9223372036854775808) (hr : rdR d x (p : Int) = (pg p, 0)) :
    Calls Tryz.prog 15 #[.pointer (some ⟨q, 0, none⟩), .int .i64 (p : Int)] v fun e v' => e = .returned (.tuple #[.agg (pb (pg p)).toArray, .int .i64 0]) ∧ Below v.heap.size v v' ∧ LB B w v' q r mm f m cap x d := by
  have h0 := read8_any v q r mm f m cap x d h.dl (p : Int) (by omega) hon hal
  rw [hr] at h0
  refine h0.mono ?_
  rintro e v' ⟨rfl, hb⟩
  exact ⟨rfl, hb, h.next hb⟩
section
variable {B : Nat} {w u u' : World} {q r mm f m cap : Nat} {x : Lg} {d : St}
theorem LB.off (h : LB B w u q r mm f m cap x d) {X : Nat → Prop} (hf : Fr X u u') (hX : ∀ b, X b → (¬ fp r f m b ∧ ¬ lp q mm b) ∧ B ≤ b) : LB B w u' q r mm f m cap x d := by
  have hs := h.size
  refine ⟨⟨h.dl.l.fr hf (fun k hk => (hX k hk).1.2), h.dl.k.fr hf (fun k hk => (hX k hk).1.1), h.dl.n, h.dl.t.fr hf (fun k hk => Nat.le_trans h.two (hX k hk).2), h.dl.apart, h.dl.fp2, h.dl.lp2⟩, h.fpB, h.lpB, h.below.trans (hf.below (fun k hk => (hX k hk).2) hs), h.two⟩
end
/-- Two logs. -/
structure TW (B : Nat) (w v : World) (q r mm f m cap : Nat) (x : Lg) (d : St) (q2 r2 mm2 f2 m2 cap2 : Nat) (x2 : Lg) (d2 : St) : Prop where
  a : LB B w v q r mm f m cap x d
  b : LB B w v q2 r2 mm2 f2 m2 cap2 x2 d2
  ap : ∀ k, (fp r f m k ∨ lp q mm k) → ¬ (fp r2 f2 m2 k ∨ lp q2 mm2 k)
section
variable {B : Nat} {w v v' : World} {q r mm f m cap q2 r2 mm2 f2 m2 cap2 q' mm' m' : Nat} {x x' x2 : Lg} {d d' d2 : St}
theorem TW.next (h : TW B w v q r mm f m cap x d q2 r2 mm2 f2 m2 cap2 x2 d2) (hb : Below v.heap.size v v') : TW B w v' q r mm f m cap x d q2 r2 mm2 f2 m2 cap2 x2 d2 := ⟨h.a.next hb, h.b.next hb, h.ap⟩
theorem TW.swap (h : TW B w v q r mm f m cap x d q2 r2 mm2 f2 m2 cap2 x2 d2) : TW B w v q2 r2 mm2 f2 m2 cap2 x2 d2 q r mm f m cap x d := ⟨h.b, h.a, fun k hk hk2 => h.ap k hk2 hk⟩
theorem TW.turn (h : TW B w v q r mm f m cap x d q2 r2 mm2 f2 m2 cap2 x2 d2) (h1 : mm' = mm ∨ v.heap.size ≤ mm') (h2 : m' = m ∨ v.heap.size ≤ m') (hF : Fr (fun k => fp r f m k ∨ lp q mm k) v v') (hL : LB B w v' q r mm' f m' cap x' d') : TW B w v' q r mm' f m' cap x' d' q2 r2 mm2 f2 m2 cap2 x2 d2 := by
  have hlt := h.b.dl.lt
  refine ⟨hL, h.b.off hF (fun k hk => ⟨⟨fun e => h.ap k hk (.inl e), fun e => h.ap k hk (.inr e)⟩, hk.elim (h.a.fpB k) (h.a.lpB k)⟩), fun k hk hk2 => ?_⟩
  have := hlt k hk2
  rcases hk with (e | e | e) | (e | e)
  · exact h.ap k (.inl (.inl e)) hk2
  · exact h.ap k (.inl (.inr (.inl e))) hk2
  · rcases h2 with e2 | e2
    · exact h.ap k (.inl (.inr (.inr (e.trans e2)))) hk2
    · omega
  · exact h.ap k (.inr (.inl e)) hk2
  · rcases h1 with e2 | e2
    · exact h.ap k (.inr (.inr (e.trans e2))) hk2
    · omega
theorem TW.opened (h : TW B w v q r mm f m cap x d q2 r2 mm2 f2 m2 cap2 x2 d2) (hq : v.heap.size ≤ q') (hmm : v.heap.size ≤ mm') (h2 : m' = m ∨ v.heap.size ≤ m') (hF : Fr (fp r f m) v v') (hL : LB B w v' q' r mm' f m' cap x' d') : TW B w v' q' r mm' f m' cap x' d' q2 r2 mm2 f2 m2 cap2 x2 d2 := by
  have hlt := h.b.dl.lt
  refine ⟨hL, h.b.off hF (fun k hk => ⟨⟨fun e => h.ap k (.inl hk) (.inl e), fun e => h.ap k (.inl hk) (.inr e)⟩, h.a.fpB k hk⟩), fun k hk hk2 => ?_⟩
  have := hlt k hk2
  rcases hk with (e | e | e) | (e | e)
  · exact h.ap k (.inl (.inl e)) hk2
  · exact h.ap k (.inl (.inr (.inl e))) hk2
  · rcases h2 with e2 | e2
    · exact h.ap k (.inl (.inr (.inr (e.trans e2)))) hk2
    · omega
  · omega
  · omega
end
/-- Both tell the same pages. -/
structure BI (B : Nat) (w v : World) (L H : Nat) (q r mm f m cap : Nat) (x : Lg) (d : St) (q2 r2 mm2 f2 m2 cap2 : Nat) (x2 : Lg) (d2 : St) (k : Nat) (pg pg2 : Nat → Pg) : Prop where
  t : TW B w v q r mm f m cap x d q2 r2 mm2 f2 m2 cap2 x2 d2
  va : Lv d x k pg
  vb : Lv d2 x2 k pg2
  wa : Wk d k
  wb : Wk d2 k
  eL : x.L = L
  eH : x.H = H
  eL2 : x2.L = L
  eH2 : x2.H = H
  ra : d.armed = 0
  rb : d2.armed = 0
section
variable {B : Nat} {w v v' : World} {L H q r mm f m cap q2 r2 mm2 f2 m2 cap2 q' mm' m' k k' : Nat} {x x' x2 : Lg} {d d' d2 : St} {pg pg2 pg' : Nat → Pg}
theorem BI.next (h : BI B w v L H q r mm f m cap x d q2 r2 mm2 f2 m2 cap2 x2 d2 k pg pg2) (hb : Below v.heap.size v v') : BI B w v' L H q r mm f m cap x d q2 r2 mm2 f2 m2 cap2 x2 d2 k pg pg2 := ⟨h.t.next hb, h.va, h.vb, h.wa, h.wb, h.eL, h.eH, h.eL2, h.eH2, h.ra, h.rb⟩
theorem BI.swap (h : BI B w v L H q r mm f m cap x d q2 r2 mm2 f2 m2 cap2 x2 d2 k pg pg2) : BI B w v L H q2 r2 mm2 f2 m2 cap2 x2 d2 q r mm f m cap x d k pg2 pg := ⟨h.t.swap, h.vb, h.va, h.wb, h.wa, h.eL2, h.eH2, h.eL, h.eH, h.rb, h.ra⟩
theorem BI.le (h : BI B w v L H q r mm f m cap x d q2 r2 mm2 f2 m2 cap2 x2 d2 k pg pg2) (hk : k ≤ k') : BI B w v L H q r mm f m cap x d q2 r2 mm2 f2 m2 cap2 x2 d2 k' pg pg2 := ⟨h.t, h.va.le hk, h.vb.le hk, h.wa.le hk, h.wb.le hk, h.eL, h.eH, h.eL2, h.eH2, h.ra, h.rb⟩
theorem BI.turn (h : BI B w v L H q r mm f m cap x d q2 r2 mm2 f2 m2 cap2 x2 d2 k pg pg2) (h1 : mm' = mm ∨ v.heap.size ≤ mm') (h2 : m' = m ∨ v.heap.size ≤ m') (hF : Fr (fun k => fp r f m k ∨ lp q mm k) v v') (hW : Wk d' (k + 1)) (hL : LB B w v' q r mm' f m' cap x' d') (hV : Lv d' x' (k + 1) pg') (eL : x'.L = x.L) (eH : x'.H = x.H) (ha : d'.armed = 0) : BI B w v' L H q r mm' f m' cap x' d' q2 r2 mm2 f2 m2 cap2 x2 d2 (k + 1) pg' pg2 :=
  ⟨h.t.turn h1 h2 hF hL, hV, h.vb.le (by omega), hW, h.wb.le (by omega), eL.trans h.eL, eH.trans h.eH, h.eL2, h.eH2, ha, h.rb⟩
theorem BI.opened (h : BI B w v L H q r mm f m cap x d q2 r2 mm2 f2 m2 cap2 x2 d2 k pg pg2) (hq : v.heap.size ≤ q') (hmm : v.heap.size ≤ mm') (h2 : m' = m ∨ v.heap.size ≤ m') (hF : Fr (fp r f m) v v') (hW : Wk d' (k + 1)) (hL : LB B w v' q' r mm' f m' cap x' d') (hV : Lv d' x' (k + 1) pg') (eL : x'.L = L) (eH : x'.H = H) (ha : d'.armed = 0) : BI B w v' L H q' r mm' f m' cap x' d' q2 r2 mm2 f2 m2 cap2 x2 d2 (k + 1) pg' pg2 :=
  ⟨h.t.opened hq hmm h2 hF hL, hV, h.vb.le (by omega), hW, h.wb.le (by omega), eL, eH, h.eL2, h.eH2, ha, h.rb⟩
end
/-- With the op at hand. -/
structure BO (B : Nat) (w v : World) (L H : Nat) (q r mm f m cap : Nat) (x : Lg) (d : St) (q2 r2 mm2 f2 m2 cap2 : Nat) (x2 : Lg) (d2 : St) (k : Nat) (pg pg2 : Nat → Pg) (g : Nat) (os : List Value) : Prop where
  i : BI B w v L H q r mm f m cap x d q2 r2 mm2 f2 m2 cap2 x2 d2 k pg pg2
  o : Blk v g 56 os
  na : ¬ (fp r f m g ∨ lp q mm g)
  nb : ¬ (fp r2 f2 m2 g ∨ lp q2 mm2 g)
def rdp (H : Nat) (pg : Nat → Pg) (p : Int) : Pg × Int := if p < 0 ∨ (H : Int) ≤ p then (zp, 2) else (pg p.toNat, 0)
def cmR (L H : Nat) (l : List (Int × Pg)) : Int := if ¬ okP H l then 2 else if l = [] then 0 else if min 120 (L - 2) < l.length then 82 else 6
section
variable {B : Nat} {w v v' : World} {L H q r mm f m cap q2 r2 mm2 f2 m2 cap2 q' mm' m' k k' g : Nat} {x x' x2 : Lg} {d d' d2 : St} {pg pg2 pg' : Nat → Pg} {os : List Value}
theorem BO.next (h : BO B w v L H q r mm f m cap x d q2 r2 mm2 f2 m2 cap2 x2 d2 k pg pg2 g os) (hb : Below v.heap.size v v') : BO B w v' L H q r mm f m cap x d q2 r2 mm2 f2 m2 cap2 x2 d2 k pg pg2 g os := ⟨h.i.next hb, h.o.next hb, h.na, h.nb⟩
theorem BO.swap (h : BO B w v L H q r mm f m cap x d q2 r2 mm2 f2 m2 cap2 x2 d2 k pg pg2 g os) : BO B w v L H q2 r2 mm2 f2 m2 cap2 x2 d2 q r mm f m cap x d k pg2 pg g os := ⟨h.i.swap, h.o, h.nb, h.na⟩
theorem BO.stay (h : BO B w v L H q r mm f m cap x d q2 r2 mm2 f2 m2 cap2 x2 d2 k pg pg2 g os) (hb : Below v.heap.size v v') : BI B w v' L H q r mm f m cap x d q2 r2 mm2 f2 m2 cap2 x2 d2 k pg pg2 := h.i.next hb
/-- A Commit of images that may be committed. -/
theorem BO.com (h : BO B w v L H q r mm f m cap x d q2 r2 mm2 f2 m2 cap2 x2 d2 k pg pg2 g os) (hk : k ≤ 10000) (ao : Option Addr) (cp : Nat) (l : List (Int × Pg)) (W : List Im) (hlW : toI W = l) (hI : Ims v ao l) (u : World) (hnew : ∀ g, ao = some ⟨g, 0, none⟩ → u.heap.size ≤ g) (ho : BO B w u L H q r mm f m cap x d q2 r2 mm2 f2 m2 cap2 x2 d2 k pg pg2 g os) (hok : nam H W) (hW1 : W ≠ []) (hW2 : W.length ≤ 120) (hW3 : W.length + 2 ≤ L) :
    Calls Tryz.prog 18 #[.pointer (some ⟨q, 0, none⟩), .slice ao l.length cp] v fun e v' => e = .returned (.int .i64 0) ∧ ∃ mm' m' x' d', BO B w v' L H q r mm' f m' cap x' d' q2 r2 mm2 f2 m2 cap2 x2 d2 (k + 1) (on1 pg W) pg2 g os := by
  subst hlW
  rcases hI with ⟨_, h0⟩ | ⟨G, rfl, hIR⟩
  · exfalso
    unfold toI at h0
    exact hW1 (List.map_eq_nil_iff.1 h0)
  have hG := ho.i.t.a.apart_new (hnew G rfl)
  rw [toI_length]
  refine (com_sure B w v q r mm f m cap x d k pg G cp W h.i.t.a h.i.va h.i.wa hk hIR hG (by rw [h.i.eH]; exact hok) hW1 hW2 (by rw [h.i.eL]; exact hW3) h.i.ra).mono ?_
  rintro e v' ⟨rfl, mm', m', x', d', h1, h2, hF, hW, hL, hV, eL, eH, ha⟩
  have hap := apart_move (fun e => h.na (.inl e)) (fun e => h.na (.inr e)) h.o.lt h2 h1
  exact ⟨rfl, mm', m', x', d', h.i.turn h1 h2 hF hW hL hV eL eH ha, h.o.fr hF h.na, fun e => e.elim hap.1 hap.2, h.nb⟩
/-- One that is refused, or has nothing to do. -/
theorem BO.ref (h : BO B w v L H q r mm f m cap x d q2 r2 mm2 f2 m2 cap2 x2 d2 k pg pg2 g os) (ao : Option Addr) (cp : Nat) (l : List (Int × Pg)) (hI : Ims v ao l) (hl : l.length ≤ 100000) (hwf : ∀ y ∈ l, (Lit.int .i64 y.1).wf = true) (hno : ¬ okP H l ∨ l = [] ∨ min 120 (L - 2) < l.length) :
    Calls Tryz.prog 18 #[.pointer (some ⟨q, 0, none⟩), .slice ao l.length cp] v fun e v' => e = .returned (.int .i64 (cmR L H l)) ∧ Below v.heap.size v v' := by
  have hc := com_ref v q r mm x ao cp l h.i.t.a.dl.l hI hl hwf (by rw [h.i.eH, h.i.eL]; rcases hno with e | e | e; exact .inl e; exact .inr (.inl e); exact .inr (.inr (.inl e)))
  have e : comR x l = cmR L H l := by unfold comR cmR; rw [h.i.eH, h.i.eL]
  rw [e] at hc
  exact hc
/-- It is opened again. -/
theorem BO.open (h : BO B w v L H q r mm f m cap x d q2 r2 mm2 f2 m2 cap2 x2 d2 k pg pg2 g os) (hk : k ≤ 10000) (hL3 : 3 ≤ L) (hL4 : L ≤ 4000) (hH1 : 1 ≤ H) (hH2 : H ≤ 16384) :
    Calls Tryz.prog 17 #[.pointer (some ⟨r, 0, none⟩)] v fun e v' => ∃ q' mm' m' x' d', e = .returned (.tuple #[.pointer (some ⟨q', 0, none⟩), .int .i64 0]) ∧ BO B w v' L H q' r mm' f m' cap x' d' q2 r2 mm2 f2 m2 cap2 x2 d2 (k + 1) pg pg2 g os := by
  have hrs := h.i.va.rs
  rw [h.i.eL, h.i.eH] at hrs
  refine (open_sure B w v r f m cap d L H k pg h.i.t.a.db hrs h.i.wa hk hL3 hL4 hH1 hH2 h.i.ra).mono ?_
  rintro e v' ⟨q', mm', m', x', d', rfl, hm, hF, hW, hL, hV, eL, eH, ha, hq, hmm⟩
  have hg := h.o.lt
  refine ⟨q', mm', m', x', d', rfl, h.i.opened hq hmm hm hF hW hL hV eL eH ha, h.o.fr hF (fun e => h.na (.inl e)), ?_, h.nb⟩
  rintro ((e | e | e) | (e | e))
  · exact h.na (.inl (.inl e))
  · exact h.na (.inl (.inr (.inl e)))
  · rcases hm with e2 | e2
    · exact h.na (.inl (.inr (.inr (e.trans e2))))
    · omega
  · omega
  · omega
/-- What it reads as, whatever page is asked for. -/
theorem BI.read (h : BI B w v L H q r mm f m cap x d q2 r2 mm2 f2 m2 cap2 x2 d2 k pg pg2) (p : Int) (hp : p < 9223372036854775808) :
    Calls Tryz.prog 15 #[.pointer (some ⟨q, 0, none⟩), .int .i64 p] v fun e v' => e = .returned (.tuple #[.agg (pb (rdp H pg p).1).toArray, .int .i64 (rdp H pg p).2]) ∧ Below v.heap.size v v' := by
  have hr : rdR d x p = rdp H pg p := by
    unfold rdp
    by_cases hh : p < 0 ∨ (H : Int) ≤ p
    · rw [if_pos hh]
      unfold rdR
      rw [h.eH, if_pos hh]
    · rw [if_neg hh]
      obtain ⟨n, rfl⟩ := Int.eq_ofNat_of_zero_le (show 0 ≤ p by omega)
      rw [Int.toNat_natCast]
      exact rd_sem h.va n (by rw [h.eH]; omega)
  have h0 := read8_any v q r mm f m cap x d h.t.a.dl p hp h.va.on h.va.alive
  rw [hr] at h0
  exact h0
end
end Go.Proofs.YtndfhmlcfaaaiaaGreatDoor
