/- Whether one of the first Commits writes a page. -/
import Derived.Test.YtndfhmlcfaaaiaaDoorComz
import Derived.Test.YtndfhmlcfaaaiaaDoorLawL8
namespace Go.Proofs.YtndfhmlcfaaaiaaDoor
open Go.RowKit

def imsOf (o : Op8) : List (Int × Pg) := (List.range (min o.pn 200)).map (imF o.Ps o.sn o.S)
/-- An op that is a Commit of images that may be committed. -/
def qual (H L : Nat) (o : Op8) : Prop := o.a = 1 ∧ imsOf o ≠ [] ∧ fitP H L (imsOf o)
instance (H L : Nat) (o : Op8) : Decidable (qual H L o) := by unfold qual; exact inferInstance
/-- How many of the first ops are such. -/
def qn (H L : Nat) (O : Nat → Op8) : Nat → Nat
  | 0 => 0
  | j + 1 => if qual H L (O j) then qn H L O j + 1 else qn H L O j
def Touch (H L : Nat) (O : Nat → Op8) (p : Int) (many : Nat) (n : Nat) : Prop := ∃ j, j < n ∧ qual H L (O j) ∧ qn H L O j < many ∧ p ∈ pgs (imsOf (O j))
def TchR (w : World) (T : Prop) (e : Ending) (w' : World) : Prop := ∃ b : Bool, e = .returned (.bool b) ∧ (b = true ↔ T) ∧ Below w.heap.size w w'
theorem Touch.succ_no {H L : Nat} {O : Nat → Op8} {p : Int} {many j : Nat} (h : ¬ Touch H L O p many j) (hq : ¬ (qual H L (O j) ∧ p ∈ pgs (imsOf (O j)))) : ¬ Touch H L O p many (j + 1) := by
  rintro ⟨i, hi, h1, h2, h3⟩
  by_cases e : i = j
  · subst e; exact hq ⟨h1, h3⟩
  · exact h ⟨i, by omega, h1, h2, h3⟩
theorem qn_mono (H L : Nat) (O : Nat → Op8) (j : Nat) : ∀ i, j ≤ i → qn H L O j ≤ qn H L O i := by
  intro i hi
  induction i with
  | zero => have : j = 0 := by omega
            subst this; exact Nat.le_refl _
  | succ i ih =>
    by_cases e : j = i + 1
    · subst e; exact Nat.le_refl _
    · have h0 := ih (by omega)
      have h1 : qn H L O i ≤ qn H L O (i + 1) := by
        show _ ≤ (if _ then _ else _)
        split
        · exact Nat.le_succ _
        · exact Nat.le_refl _
      exact Nat.le_trans h0 h1
theorem Touch.end_no {H L : Nat} {O : Nat → Op8} {p : Int} {many j n : Nat} (h : ¬ Touch H L O p many j) (hm : many ≤ qn H L O j) : ¬ Touch H L O p many n := by
  rintro ⟨i, hi, h1, h2, h3⟩
  by_cases e : i < j
  · exact h ⟨i, e, h1, h2, h3⟩
  · have := qn_mono H L O j i (by omega)
    omega
set_option maxRecDepth 100000 in
set_option maxHeartbeats 800000 in
theorem touched_any (w : World) (oo : Option Addr) (on oc : Nat) (O : Nat → Op8) (p : Int) (many H L : Nat) (ho : ∀ v, Below w.heap.size w v → Ops8 v oo on O) (hon : on ≤ maxLen) (hm : many ≤ 1000) (hL : 2 ≤ L) (hL2 : L ≤ 4000) :
    Calls Tryd.prog 30 #[.slice oo on oc, .int .i64 p, .int .i64 (many : Int), .int .i64 (H : Int), .int .i64 (L : Int)] w (TchR w (Touch H L O p many on)) := by
  have HO : Hid (∀ v, Below w.heap.size w v → Ops8 v oo on O) := ho
  clear ho
  unfold maxLen at hon
  go_enter Tryd.func30, Tryd.ntmps30
  go_wp2_with fail
  go_loopw [2, 11] (fun um ui wr => ∃ (j mj : Nat), j ≤ on ∧ ui = .int .i64 (j : Int) ∧ um = .int .i64 (mj : Int) ∧ mj + qn H L O j = many ∧ ¬ Touch H L O p many j ∧ Below w.heap.size w wr) (fun _ ui _ => on - (intOf ui).toNat)
  case atStart => exact ⟨0, many, by omega, rfl, rfl, rfl, fun ⟨i, hi, _⟩ => by omega, Below.refl _ _⟩
  case round =>
    obtain ⟨j, mj, hjn, rfl, rfl, hmj, hno, hb⟩ := hrel
    have HNO : Hid (¬ Touch H L O p many j) := hno
    have HMJ : Hid (mj + qn H L O j = many) := hmj
    have hmb : mj ≤ 1000 := by omega
    clear hno hmj
    by_cases hj1 : j < on
    · have hjI : (j : Int) < (on : Int) := by omega
      by_cases hm0 : 0 < mj
      · have hmI : (0 : Int) < (mj : Int) := by omega
        cases oo with
        | none => exact absurd ((HO.out _ hb).bare rfl) (by omega)
        | some od =>
        have hOj := (HO.out _ hb).good j hj1
        obtain ⟨p0, p1, p2, p3⟩ := (HO.out _ hb).cell od rfl j hj1
        obtain ⟨o, eo⟩ : ∃ o, o = O j := ⟨_, rfl⟩
        rw [← eo] at p0 p1 p2 p3 hOj
        have HQ : Hid (o = O j) := eo
        obtain ⟨oa, oi, po, pn, pc, Ps, so, sn, sc, S⟩ := o
        dsimp only at p0 p1 p2 p3
        have p1' : wr.cell? ⟨(od.add (j * 4)).block, (od.add (j * 4)).off + 1, none⟩ = some (.int .i64 oi) := p1
        have p2' : wr.cell? ⟨(od.add (j * 4)).block, (od.add (j * 4)).off + 2, none⟩ = some (.slice po pn pc) := p2
        have p3' : wr.cell? ⟨(od.add (j * 4)).block, (od.add (j * 4)).off + 3, none⟩ = some (.slice so sn sc) := p3
        clear p1 p2 p3 eo
        obtain ⟨l, hl⟩ : ∃ l, l = (List.range (min pn 200)).map (imF Ps sn S) := ⟨_, rfl⟩
        have hil : imsOf ⟨oa, oi, po, pn, pc, Ps, so, sn, sc, S⟩ = l := by rw [hl]; rfl
        have him : Calls Tryd.prog 11 #[.agg #[.int .i64 oa, .int .i64 oi, .slice po pn pc, .slice so sn sc]] wr fun e w' => ∃ ao ci, e = .returned (.slice ao l.length ci) ∧ Ims w' ao l ∧ (∀ g, ao = some ⟨g, 0, none⟩ → wr.heap.size ≤ g) ∧ Below wr.heap.size wr w' := by
          have h0 := images_any wr oa oi po pn pc Ps so sn sc S hOj.ints hOj.strs hOj.len
          refine Calls.mono h0 ?_
          rintro e w' ⟨v1, rfl, hown, hb⟩
          obtain ⟨ao, ci, rfl, h1, h2⟩ := ims_of_own hown
          rw [← hl] at h1 ⊢
          exact ⟨ao, ci, rfl, h1, h2, hb⟩
        have hll : l.length ≤ 200 := by rw [hl]; simp; omega
        have HIL : Hid (imsOf (O j) = l ∧ (O j).a = oa) := by
          have e := HQ.out
          rw [← e]
          exact ⟨hil, rfl⟩
        clear hl hOj hil
        by_cases hq : qual H L (O j)
        · obtain ⟨q1, q2, q3⟩ := id hq
          rw [HIL.out.1] at q2 q3
          rw [HIL.out.2] at q1
          have HQL : Hid (qual H L (O j)) := hq
          have hl0 : ¬ (l.length : Int) = 0 := by
            intro e
            exact q2 (List.eq_nil_of_length_eq_zero (by omega))
          have hl1 : ((l.length : Int) == 0) = false := by rw [beq_eq_false_iff_ne]; exact hl0
          have hft := fun (u : World) (ao : Option Addr) (c : Nat) (h : Ims u ao l) => fits_any u ao c l H L h (by omega) hL hL2
          rw [decide_eq_true q3] at hft
          have hm1 : (mj : Int) - 1 = ((mj - 1 : Nat) : Int) := by omega
          obtain ⟨m1, hm1e⟩ : ∃ m1, m1 = mj - 1 := ⟨_, rfl⟩
          rw [← hm1e] at hm1
          have hmw : IntKind.i64.wrap (m1 : Int) = (m1 : Int) := by rw [IntKind.wrap_i64]; omega
          have HM1 : Hid (m1 + 1 = mj) := by show _ = _; omega
          clear hm1e hq q2 q3
          subst q1
          go_wp2_with (first
            | (go_at_call 11; refine him.mono ?_; rintro e u1 ⟨ao, ci, rfl, hIm1, hIb, kb1⟩
               have p0u := cell_later kb1 p0)
            | (go_at_call 19; refine (hft u1 ao ci hIm1).mono ?_; rintro e u2 ⟨rfl, kb2⟩))
          have hbs := hb.size
          have kb12 := kb1.trans (kb2.mono kb1.size)
          have hb2 := hb.trans (kb12.mono hbs)
          have hIm2 := hIm1.next kb2
          have HI : Hid (∀ v, Below u2.heap.size u2 v → Ims v ao l) := fun v hv => hIm2.next hv
          clear him hft hIm1 hIb kb1 kb2 p0u hIm2 kb12 hbs
          go_loopw [13] (fun i v => ∃ k : Nat, k ≤ l.length ∧ i = .int .i64 (k : Int) ∧ (∀ (k' : Nat) y, k' < k → l[k']? = some y → y.1 ≠ p) ∧ Below u2.heap.size u2 v) (fun i _ => l.length - (intOf i).toNat)
          case atStart => exact ⟨0, by omega, rfl, fun k' y h => by omega, Below.refl _ _⟩
          case round =>
            obtain ⟨k, hk, rfl, hne, hb3⟩ := hrel
            have HNE : Hid (∀ (k' : Nat) y, k' < k → l[k']? = some y → y.1 ≠ p) := hne
            clear hne
            have HB3 : Hid (Below w.heap.size w wr) := hb2.trans (hb3.mono hb2.size)
            by_cases hkl : k < l.length
            · have hkI : (k : Int) < (l.length : Int) := by omega
              obtain ⟨y, hy⟩ : ∃ y, l[k]? = some y := ⟨_, List.getElem?_eq_getElem hkl⟩
              obtain ⟨gi, rfl, hgi⟩ := (HI.out _ hb3).at hy
              have hyc := hgi.num hy
              obtain ⟨t, ht⟩ : ∃ t, t = y.1 := ⟨_, rfl⟩
              rw [← ht] at hyc
              have HY : Hid (l[k]? = some y ∧ t = y.1) := ⟨hy, ht⟩
              clear ht hy
              by_cases htp : t = p
              · have HT : Hid (Touch H L O p many on) := ⟨j, hj1, HQL.out, by have := HMJ.out; omega, by
                  rw [HIL.out.1, ← htp, HY.out.2]
                  exact List.mem_map.2 ⟨y, List.mem_of_getElem? HY.out.1, rfl⟩⟩
                subst htp
                go_wp2_with fail
                go_ret
                exact ⟨true, rfl, ⟨fun _ => HT.out, fun _ => rfl⟩, HB3.out⟩
              · go_wp2_with fail
                refine ⟨⟨k + 1, by omega, by go_num, fun k' y' h1 h2 => ?_, hb3⟩, by simp only [intOf]; omega⟩
                by_cases e : k' = k
                · subst e
                  rw [HY.out.1] at h2
                  cases h2
                  rw [← HY.out.2]
                  exact htp
                · exact HNE.out k' y' (by omega) h2
            · have hkI : ¬ (k : Int) < (l.length : Int) := by omega
              have HTN : Hid (¬ Touch H L O p many (j + 1)) := Touch.succ_no HNO.out (fun h => by
                have h2 := h.2
                rw [HIL.out.1] at h2
                obtain ⟨y, hy, hyp⟩ := List.mem_map.1 h2
                obtain ⟨k', hk'⟩ := List.mem_iff_getElem?.1 hy
                exact HNE.out k' y (by have := (List.getElem?_eq_some_iff.1 hk').1; omega) hk' hyp)
              have HQN : Hid (m1 + qn H L O (j + 1) = many) := by
                show m1 + (if qual H L (O j) then qn H L O j + 1 else qn H L O j) = many
                rw [if_pos HQL.out]
                have h1 := HMJ.out
                have h2 := HM1.out
                omega
              go_wp2_with fail
              exact ⟨⟨j + 1, m1, by omega, by go_num, rfl, HQN.out, HTN.out, HB3.out⟩, by simp only [intOf]; omega⟩
        · have HTN : Hid (¬ Touch H L O p many (j + 1)) := Touch.succ_no HNO.out (fun h => hq h.1)
          have HQN : Hid (mj + qn H L O (j + 1) = many) := by
            show mj + (if qual H L (O j) then qn H L O j + 1 else qn H L O j) = many
            rw [if_neg hq]
            exact HMJ.out
          have hft := fun (u : World) (ao : Option Addr) (c : Nat) (h : Ims u ao l) => fits_any u ao c l H L h (by omega) hL hL2
          by_cases q1 : oa = 1
          · by_cases q2 : l.length = 0
            · have hl0 : (l.length : Int) = 0 := by omega
              subst q1
              clear hq hft
              have hl1 : ((l.length : Int) == 0) = true := by rw [beq_iff_eq]; exact hl0
              clear hl0 q2
              go_wp2_with (go_at_call 11; refine him.mono ?_; rintro e u1 ⟨ao, ci, rfl, hIm1, hIb, kb1⟩
                           have p0u := cell_later kb1 p0)
              exact ⟨⟨j + 1, mj, by omega, by go_num, rfl, HQN.out, HTN.out, hb.trans (kb1.mono hb.size)⟩, by simp only [intOf]; omega⟩
            · have hl0 : ¬ (l.length : Int) = 0 := by omega
              have q3 : ¬ fitP H L l := fun h => hq ⟨HIL.out.2.trans q1, by rw [HIL.out.1]; intro e; rw [e] at q2; exact q2 rfl, by rw [HIL.out.1]; exact h⟩
              rw [decide_eq_false q3] at hft
              have hl1 : ((l.length : Int) == 0) = false := by rw [beq_eq_false_iff_ne]; exact hl0
              subst q1
              clear hq q3
              go_wp2_with (first
                | (go_at_call 11; refine him.mono ?_; rintro e u1 ⟨ao, ci, rfl, hIm1, hIb, kb1⟩
                   have p0u := cell_later kb1 p0)
                | (go_at_call 19; refine (hft u1 ao ci hIm1).mono ?_; rintro e u2 ⟨rfl, kb2⟩))
              have h1 := hb.trans (kb1.mono hb.size)
              exact ⟨⟨j + 1, mj, by omega, by go_num, rfl, HQN.out, HTN.out, h1.trans (kb2.mono h1.size)⟩, by simp only [intOf]; omega⟩
          · clear hq hft
            go_wp2_with (go_at_call 11; refine him.mono ?_; rintro e u1 ⟨ao, ci, rfl, hIm1, hIb, kb1⟩
                         have p0u := cell_later kb1 p0)
            exact ⟨⟨j + 1, mj, by omega, by go_num, rfl, HQN.out, HTN.out, hb.trans (kb1.mono hb.size)⟩, by simp only [intOf]; omega⟩
      · have hmI : ¬ (0 : Int) < (mj : Int) := by omega
        go_wp2_with fail
        go_ret
        exact ⟨false, rfl, ⟨fun h => (by cases h), fun h => absurd h (Touch.end_no HNO.out (by have := HMJ.out; omega))⟩, hb⟩
    · have hjI : ¬ (j : Int) < (on : Int) := by omega
      have ej : j = on := by omega
      go_wp2_with fail
      go_ret
      exact ⟨false, rfl, ⟨fun h => (by cases h), fun h => absurd h (by have := HNO.out; rwa [ej] at this)⟩, hb⟩
end Go.Proofs.YtndfhmlcfaaaiaaDoor
