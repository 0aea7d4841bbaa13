/- The power is back, and the log is opened; where the power goes in that, too, once more. -/
import Derived.Test.YtndfhmlcfaaaiaaDoorFits
namespace Go.Proofs.YtndfhmlcfaaaiaaDoor
open Go.RowKit

theorem tmn_eq (l : Int) (n : Nat) (hn : 0 < n) : ∃ b : Nat, b < n ∧ ((l.tmod (n : Int) + (n : Int)).tmod (n : Int)) = (b : Int) ∧ -(n : Int) < l.tmod (n : Int) ∧ l.tmod (n : Int) < (n : Int) := by
  have h1 := Int.tmod_lt_of_pos l (show (0 : Int) < (n : Int) by omega)
  have h2 : -(n : Int) < l.tmod (n : Int) := by
    rcases Int.le_total 0 l with h | h
    · have := Int.tmod_nonneg (n : Int) h; omega
    · have h3 := Int.tmod_lt_of_pos (-l) (show (0 : Int) < (n : Int) by omega)
      rw [Int.neg_tmod] at h3
      omega
  have h3 := Int.tmod_nonneg (n : Int) (show 0 ≤ l.tmod (n : Int) + (n : Int) by omega)
  have h4 := Int.tmod_lt_of_pos (l.tmod (n : Int) + (n : Int)) (show (0 : Int) < (n : Int) by omega)
  obtain ⟨b, hb⟩ := Int.eq_ofNat_of_zero_le h3
  exact ⟨b, by omega, hb, h2, h1⟩
section
variable {v u u' : World} {r f m m1 m2 : Nat}
theorem fr_then (h1 : Fr (fp r f m) v u) (hm : m1 = m ∨ v.heap.size ≤ m1) (h2 : Fr (fp r f m1) u u') : Fr (fp r f m) v u' := by
  refine h1.trans h2 (fun j hj hx => ?_)
  rcases hx with e | e | e
  · exact .inl e
  · exact .inr (.inl e)
  · rcases hm with e2 | e2
    · exact .inr (.inr (e.trans e2))
    · omega
theorem m_then (hs : v.heap.size ≤ u.heap.size) (hm : m1 = m ∨ v.heap.size ≤ m1) (h2 : m2 = m1 ∨ u.heap.size ≤ m2) : m2 = m ∨ v.heap.size ≤ m2 := by
  rcases h2 with e | e
  · rw [e]; exact hm
  · exact .inr (Nat.le_trans hs e)
end
/-- The disk is armed. -/
theorem arm_d (B : Nat) (w v : World) (r f m cap : Nat) (d : St) (L H k : Nat) (pg : Nat → Pg) (h : DB B w v r f m cap d) (hR : Rs d L H k pg) (hwk : Wk d k) (n : Nat) (hn : n < 9223372036854775808) :
    Calls Tryd.prog 21 #[.pointer (some ⟨r, 0, none⟩), .int .i64 (n : Int)] v fun e v' => e = .returned (.int .i64 0) ∧ ∃ m', (m' = m ∨ v.heap.size ≤ m') ∧ Fr (fp r f m) v v' ∧ DB B w v' r f m' cap { d with armed := n } ∧ Rs { d with armed := n } L H k pg ∧ Wk { d with armed := n } k := by
  have hr := ar_any v r f m cap d h.k (n : Int) (by omega)
  have e : d.ar (n : Int) = ({ d with armed := n }, 0) := by
    unfold St.ar
    rw [if_neg (by omega), Int.toNat_natCast]
  rw [e] at hr
  refine hr.mono ?_
  rintro e v' ⟨rfl, m', hm, hl, hF⟩
  exact ⟨rfl, m', hm, hF, h.turn hl hm hF, ⟨hR.on, hR.w, hR.n, hR.ok⟩, hwk⟩
/-- The state of a disk while it is opened again. -/
structure Ag (B : Nat) (w v u : World) (r f m cap m1 : Nat) (d1 : St) (k : Nat) : Prop where
  db : DB B w u r f m1 cap d1
  hm : m1 = m ∨ v.heap.size ≤ m1
  fr : Fr (fp r f m) v u
  wk : Wk d1 k
def AgS (d : St) (L H k : Nat) (P : (Nat → Pg) → Prop) : Prop := Dd d L H k P ∨ ∃ pg, P pg ∧ Rs d L H k pg
theorem Ag.then {B : Nat} {w v u u' : World} {r f m cap m1 m2 k k2 : Nat} {d1 d2 : St} (h : Ag B w v u r f m cap m1 d1 k) (hd : DB B w u' r f m2 cap d2) (hm : m2 = m1 ∨ u.heap.size ≤ m2) (hF : Fr (fp r f m1) u u') (hw : Wk d2 k2) : Ag B w v u' r f m cap m2 d2 k2 :=
  ⟨hd, m_then h.fr.size h.hm hm, fr_then h.fr h.hm hF, hw⟩
theorem Wk.le {d : St} {k k' : Nat} (h : Wk d k) (hk : k ≤ k') : Wk d k' := by
  unfold Wk at h ⊢
  omega
theorem Lv.le {d : St} {x : Lg} {k k' : Nat} {pg : Nat → Pg} (h : Lv d x k pg) (hk : k ≤ k') : Lv d x k' pg := ⟨h.on, h.w, h.n, h.alive, Nat.le_trans h.gk hk, h.rep⟩
/-- What it answers. -/
def AgR (B : Nat) (w v : World) (r f m cap L H k : Nat) (P : (Nat → Pg) → Prop) (e : Ending) (v' : World) : Prop :=
  ∃ q mm m' x d' pg, e = .returned (.pointer (some ⟨q, 0, none⟩)) ∧ LB B w v' q r mm f m' cap x d' ∧ P pg ∧ Lv d' x (k + 4) pg ∧ Wk d' (k + 4) ∧ x.L = L ∧ x.H = H ∧ v.heap.size ≤ q ∧ v.heap.size ≤ mm ∧ (m' = m ∨ v.heap.size ≤ m') ∧ Fr (fp r f m) v v'
set_option maxRecDepth 100000 in
set_option maxHeartbeats 800000 in
theorem again_any (B : Nat) (w v : World) (r f m cap : Nat) (d : St) (L H k : Nat) (P : (Nat → Pg) → Prop) (h : DB B w v r f m cap d) (hs : AgS d L H k P) (hwk : Wk d k) (hk : k ≤ 9000) (hL3 : 3 ≤ L) (hL4 : L ≤ 4000) (hH1 : 1 ≤ H) (hH2 : H ≤ 16384)
    (ao : Option Addr) (n c : Nat) (xs : List Int) (hx : ∀ u, Below B w u → Ints u ao n xs) (hxb : ∀ ad, ao = some ad → 0 < n → ad.block < B) (hn : n ≤ maxLen) (oo : Option Addr) (on oc : Nat) (O : Nat → Op8) (ho : ∀ u, Below B w u → Ops8 u oo on O) :
    Calls Tryd.prog 24 #[.pointer (some ⟨r, 0, none⟩), .slice ao n c, .slice oo on oc] v (AgR B w v r f m cap L H k P) := by
  have hA0 : Ag B w v v r f m cap m d k := ⟨h, .inl rfl, Fr.refl _ _, hwk⟩
  have hob := (ho v h.below).bare
  have hn2 : n ≤ 9223372036854775807 := by unfold maxLen at hn; omega
  have HX : Hid (∀ u, Below B w u → Ints u ao n xs) := hx
  have HO : Hid (∀ u, Below B w u → Ops8 u oo on O) := ho
  have HS : Hid (AgS d L H k P) := hs
  clear h hwk hx ho hs
  go_enter Tryd.func24, Tryd.ntmps24
  go_wp2_with fail
  go_loopw [7] (fun i wr => ∃ (j m1 : Nat) (d1 : St), j ≤ 3 ∧ i = .int .i64 (j : Int) ∧ Ag B w v wr r f m cap m1 d1 (k + j) ∧ AgS d1 L H (k + j) P) (fun i _ => 4 - (intOf i).toNat)
  case atStart => exact ⟨0, m, d, by omega, rfl, hA0, HS.out⟩
  case round =>
    obtain ⟨j, m1, d1, hj, rfl, hA, hS⟩ := hrel
    clear hA0 HS
    have hjI : (j : Int) < 4 := by omega
    go_upto_region 4 with fail
    go_cut [21] from 14 to 22 (fun y wc => y = .bool false ∧ ∃ m2 d2 pg, Ag B w v wc r f m cap m2 d2 (k + j) ∧ P pg ∧ Rs d2 L H (k + j) pg)
    case first =>
      rcases hS with hD | ⟨pg, hP, hR⟩
      · have hde := dead_any wr r f m1 cap d1 hA.db.k
        rw [hD.off] at hde
        have hon := on_b B w wr r f m1 cap d1 L H (k + j) P hA.db hD ao n c xs (HX.out _ hA.db.below) (fun ad had h0 hf => by have := hxb ad had h0; have := hA.db.fpB _ hf; omega) hn2
        go_wp2_with (first
          | (go_at_call 23; refine hde.mono ?_; rintro e u1 ⟨rfl, rfl⟩)
          | (go_at_call 48; refine hon.mono ?_; rintro e u2 ⟨rfl, m2, pg, hm2, hF2, hD2, hP2, hR2, -⟩))
        go_meet
        exact ⟨rfl, m2, _, pg, hA.then hD2 hm2 hF2 hA.wk, hP2, hR2⟩
      · have hde := dead_any wr r f m1 cap d1 hA.db.k
        rw [hR.on] at hde
        go_wp2_with (go_at_call 23; refine hde.mono ?_; rintro e u1 ⟨rfl, rfl⟩)
        go_meet
        exact ⟨rfl, m1, d1, pg, hA, hP, hR⟩
    case rest =>
      obtain ⟨rfl, m2, d2, pg, hA2, hP, hR⟩ := hcut
      clear hA hS
      go_upto_region 6 with fail
      go_cut [51] from 22 to 52 (fun y wc => y = .bool false ∧ ∃ m3 d3, Ag B w v wc r f m cap m3 d3 (k + j) ∧ Rs d3 L H (k + j) pg ∧ (j = 3 → d3.armed = 0))
      case first =>
        by_cases hj3 : j = 3
        · have harm0 := arm_d B w wc r f m2 cap d2 L H (k + j) pg hA2.db hR hA2.wk 0 (by omega)
          have harm : Calls Tryd.prog 21 #[.pointer (some ⟨r, 0, none⟩), .int .i64 0] wc fun e v' => e = .returned (.int .i64 0) ∧ ∃ m', (m' = m2 ∨ wc.heap.size ≤ m') ∧ Fr (fp r f m2) wc v' ∧ DB B w v' r f m' cap { d2 with armed := 0 } ∧ Rs { d2 with armed := 0 } L H (k + j) pg ∧ Wk { d2 with armed := 0 } (k + j) := harm0
          have HJ3 : Hid (j = 3) := hj3
          have hjE2 : ((j : Int) == 3) = true := by rw [beq_iff_eq]; omega
          have hjN : ¬ (j : Int) < 3 := by omega
          clear harm0 hj3
          go_wp2_with (go_at_call 21; refine harm.mono ?_; rintro e u2 ⟨rfl, m3, hm3, hF3, hD3, hR3, hW3⟩)
          go_meet
          exact ⟨rfl, m3, _, hA2.then hD3 hm3 hF3 hW3, hR3, fun _ => rfl⟩
        · have hjL : (j : Int) < 3 := by omega
          have hjE : ¬ (j : Int) = 3 := by omega
          have hjE2 : ((j : Int) == 3) = false := by rw [beq_eq_false_iff_ne]; exact hjE
          by_cases hjo : j < on
          · have hjoI : (j : Int) < (on : Int) := by omega
            cases oo with
            | none => exact absurd (hob rfl) (by omega)
            | some od =>
            have hcz : wc.cell? ⟨(od.add (j * 4)).block, (od.add (j * 4)).off + 1, none⟩ = some (.int .i64 (O j).i) := ((HO.out _ hA2.db.below).cell od rfl j hjo).2.1
            obtain ⟨z, hz⟩ : ∃ z, z = (O j).i := ⟨_, rfl⟩
            rw [← hz] at hcz
            clear hz
            obtain ⟨b, hb, e4, e2, e1⟩ := tmn_eq z 12 (by omega)
            obtain ⟨a, ha⟩ : ∃ a, a = z.tmod 12 := ⟨_, rfl⟩
            have e0 : z.tmod 12 = a := ha.symm
            have e5 : (a + 12).tmod 12 = (b : Int) := by rw [ha]; exact e4
            have e1' : a < 12 := by rw [ha]; exact e1
            have e2' : -12 < a := by rw [ha]; exact e2
            have w0 : IntKind.i64.wrap a = a := by rw [IntKind.wrap_i64]; omega
            have w1 : IntKind.i64.wrap (a + 12) = a + 12 := by rw [IntKind.wrap_i64]; omega
            have w2 : IntKind.i64.wrap (b : Int) = (b : Int) := by rw [IntKind.wrap_i64]; omega
            have harm := arm_d B w wc r f m2 cap d2 L H (k + j) pg hA2.db hR hA2.wk b (by omega)
            clear ha e1 e2 e4 hb e1' e2'
            go_wp2_with (go_at_call 21; refine harm.mono ?_; rintro e u2 ⟨rfl, m3, hm3, hF3, hD3, hR3, hW3⟩)
            go_meet
            exact ⟨rfl, m3, _, hA2.then hD3 hm3 hF3 hW3, hR3, fun h => absurd h hj3⟩
          · have hjoI : ¬ (j : Int) < (on : Int) := by omega
            go_wp2_with fail
            go_meet
            exact ⟨rfl, m2, d2, hA2, hR, fun h => absurd h hj3⟩
      case rest =>
        obtain ⟨rfl, m3, d3, hA3, hR3, ha3⟩ := hcut
        clear hA2 hR
        have hop := open_b B w wc r f m3 cap d3 L H (k + j) pg hA3.db hR3 hA3.wk (by omega) hL3 hL4 hH1 hH2
        go_wp2_with (go_at_call 7; refine hop.mono ?_; rintro e u4 ⟨m4, d4, hm4, hF4, hW4, hD4, ⟨q, mm, x, rfl, hLB, hLv, hxL, hxH, -, hq, hmm⟩ | ⟨ha, rfl, hDd⟩⟩)
        · go_ret
          have hA4 := hA3.then hD4 hm4 hF4 hW4
          have hs3 := hA3.fr.size
          exact ⟨q, mm, m4, x, d4, pg, rfl, hLB, hP, hLv.le (by omega), hW4.le (by omega), hxL, hxH, by omega, by omega, hA4.hm, hA4.fr⟩
        · have hA4 := hA3.then hD4 hm4 hF4 hW4
          have hj2 : j < 3 := by
            by_cases e : j = 3
            · exact absurd (ha3 e) ha
            · omega
          have hde := dead_any u4 r f m4 cap d4 hD4.k
          rw [hDd.off] at hde
          go_wp2_with (go_at_call 23; refine hde.mono ?_; rintro e u5 ⟨rfl, rfl⟩)
          refine ⟨⟨j + 1, m4, d4, by omega, by go_num, hA4, .inl (hDd.mono (Nat.le_refl _) (fun p hp => by rw [hp]; exact hP))⟩, by simp only [intOf]; omega⟩
end Go.Proofs.YtndfhmlcfaaaiaaDoor
