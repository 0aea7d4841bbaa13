/- DiskBlind: to ask changes nothing. -/
import Derived.Test.YteimfnnkjhopdaaTwo
import Derived.Deep.DeepCutAuto
namespace Go.Proofs.Yteimfnnkjhopdaa
open Go.RowKit

theorem act_seven (d : St) (i : Int) (t : ByteArray) (ks : List Int) : d.act 7 i t ks = d := rfl
theorem all_counts (d : St) : d.all.writes = d.writes ∧ d.all.flushes = d.flushes ∧ d.all.n = d.n := ⟨rfl, rfl, rfl⟩
theorem act_counts (d : St) (a i : Int) (t : ByteArray) (ks : List Int) : (d.act a i t ks).writes ≤ d.writes + 1 ∧ (d.act a i t ks).flushes ≤ d.flushes + 1 ∧ (d.act a i t ks).n = d.n := by
  unfold St.act
  split
  · unfold St.wr
    split
    · exact ⟨Nat.le_succ _, Nat.le_succ _, rfl⟩
    · split
      · exact ⟨Nat.le_succ _, Nat.le_succ _, rfl⟩
      · rw [op_writes, op_flushes, op_n]
        exact ⟨Nat.le_refl _, Nat.le_succ _, rfl⟩
  · split
    · unfold St.fl
      split
      · exact ⟨Nat.le_succ _, Nat.le_succ _, rfl⟩
      · split
        · show d.tick.op.1.writes ≤ _ ∧ d.tick.op.1.flushes ≤ _ ∧ d.tick.op.1.n = _
          rw [op_writes, op_flushes, op_n]
          exact ⟨Nat.le_succ _, Nat.le_refl _, rfl⟩
        · show d.tick.op.1.writes ≤ _ ∧ d.tick.op.1.flushes ≤ _ ∧ d.tick.op.1.n = _
          rw [op_writes, op_flushes, op_n]
          exact ⟨Nat.le_succ _, Nat.le_refl _, rfl⟩
    · split
      · unfold St.ar
        split <;> exact ⟨Nat.le_succ _, Nat.le_succ _, rfl⟩
      · split
        · exact ⟨Nat.le_succ _, Nat.le_succ _, rfl⟩
        · split
          · unfold St.po
            split <;> exact ⟨Nat.le_succ _, Nat.le_succ _, rfl⟩
          · exact ⟨Nat.le_succ _, Nat.le_succ _, rfl⟩
theorem pend_wf (d : St) (hn : d.n ≤ 16384) : ∀ x ∈ d.pend, (Lit.int .i64 x).wf = true := by
  intro x hx
  unfold St.pend at hx
  obtain ⟨i, hi, rfl⟩ := List.mem_map.1 hx
  have := List.mem_range.1 (List.mem_filter.1 hi).1
  exact wf64 _ (by omega) (by omega)
theorem Rnd.same {B : Nat} {w0 w : World} {ra fa ma ca rb fb mb cb g : Nat} {da db d : St} {os : List Value} (h : Rnd B w0 w ra fa ma ca da rb fb mb cb db g os) (e : db = d) : Rnd B w0 w ra fa ma ca da rb fb mb cb d g os := e ▸ h

set_option maxRecDepth 100000 in
set_option maxHeartbeats 8000000 in
theorem blind_loop (w : World) (k : Nat) (hk1 : 1 ≤ k) (hk : k ≤ 1000) (oo : Option Addr) (n c : Nat) (O : Nat → OpD) (hn : n ≤ maxLen) (ho : Ops w oo n O) :
    Calls Try.prog 7 #[.int .i64 (k : Int), .slice oo n c] w fun e w' => e = .returned (.bool true) ∧ Below w.heap.size w w' := by
  have hz := zero39
  have hgd := guard39
  have hkI : ¬ (k : Int) > 1000 := by omega
  have hnI : (n : Int) ≤ 9223372036854775807 := by unfold maxLen at hn; omega
  go_enter Try.func7, Try.ntmps7
  go_wp2_with fail
  go_at_call 10; refine (new_any k w hk1 (by omega)).mono ?_; rintro e w1 ⟨ra, fa, ma, ca, rfl, h1, h2, h3, hLa, hB1⟩
  go_wp2_with fail
  go_at_call 10; refine (new_any k w1 hk1 (by omega)).mono ?_; rintro e w2 ⟨rb, fb, mb, cb, rfl, h4, h5, h6, hLb, hB2⟩
  have hs1 := hB1.size
  have hlt := fp_lt hLa
  have hT : Two w.heap.size w2 ra fa ma ca (St.start k (fun _ => zs)) rb fb mb cb (St.start k (fun _ => zs)) := ⟨hLa.next hB2, hLb, (fun x hx hy => by have := hlt x hx; have := fp_ge h4 h5 h6 x hy; omega), fp_ge h1 h2 h3, (fun x hx => by have := fp_ge h4 h5 h6 x hx; omega)⟩
  have hB : Below w.heap.size w w2 := hB1.trans (hB2.mono hs1)
  clear h1 h2 h3 h4 h5 h6 hLa hLb hB1 hB2 hlt hs1
  go_wp2_with fail
  go_loopw [9] (fun v wr => ∃ (j : Nat) (d : St) (ma mb : Nat), j ≤ n ∧ j ≤ 300 ∧ v = .int .i64 (j : Int) ∧ Two w.heap.size wr ra fa ma ca d rb fb mb cb d ∧ Below w.heap.size w wr ∧ d.writes ≤ j ∧ d.flushes ≤ j ∧ d.n = k) (fun v _ => n - (intOf v).toNat)
  case atStart => exact ⟨0, _, ma, mb, by omega, by omega, rfl, hT, hB, Nat.le_refl _, Nat.le_refl _, rfl⟩
  case round =>
    obtain ⟨j, d, ma, mb, hj, hj3, rfl, hT0, hB0, hw, hf, hdn⟩ := hrel
    clear hT hB
    go_upto_region 10 with (fail)
    go_cut [52] from 45 to 146 (fun b wc => b = .bool (decide (j < n ∧ j < 300)) ∧ wc = wr)
    case first =>
      by_cases h1 : j < n
      · have y1 : (j : Int) < n := by omega
        by_cases h2 : j < 300
        · have y2 : (j : Int) < 300 := by omega
          go_wp2_with fail
          go_meet
          case rel => exact ⟨by simp [h1, h2], rfl⟩
        · have y2 : ¬ (j : Int) < 300 := by omega
          go_wp2_with fail
          go_meet
          case rel => exact ⟨by simp [h1, h2], rfl⟩
      · have y1 : ¬ (j : Int) < n := by omega
        go_wp2_with fail
        go_meet
        case rel => exact ⟨by simp [h1], rfl⟩
    case rest =>
      obtain ⟨rfl, rfl⟩ := hcut
      obtain ⟨wr, hwr⟩ : ∃ u, u = wc := ⟨_, rfl⟩
      rw [← hwr] at hT0 hB0 ⊢
      clear hwr
      by_cases hgo : j < n ∧ j < 300
      · rw [decide_eq_true hgo]
        obtain ⟨hjn, hj4⟩ := hgo
        have hjI : (j : Int) < n := by omega
        cases oo with
        | none => have := ho.bare rfl; omega
        | some ad =>
          have hg := ho.good j hjn
          obtain ⟨p0, p1, p2, p3⟩ := (ho.next hB0).cell ad rfl j hjn
          have hi63 := (wf_lt hg.wf).2
          obtain ⟨o, eo⟩ : ∃ o, o = O j := ⟨_, rfl⟩
          rw [← eo] at hg p0 p1 p2 p3 hi63
          clear eo
          obtain ⟨oa, oi, ot, ko, kn, kc, ks⟩ := o
          obtain ⟨D, hD⟩ : ∃ D, D = d.act oa oi ot ks := ⟨_, rfl⟩
          have HD : Hid (D = d.act oa oi ot ks) := hD
          have hcnt := act_counts d oa oi ot ks
          have kk : Below wr.heap.size wr (wr.alloc (.cells (oc oa oi ot ko kn kc).toArray 34)) := (Below.refl _ wr).alloc (Nat.le_refl _) _
          have hR : Rnd w.heap.size w (wr.alloc (.cells (oc oa oi ot ko kn kc).toArray 34)) ra fa ma ca d rb fb mb cb d wr.heap.size (oc oa oi ot ko kn kc) := ⟨hT0.next kk, Blk.new wr 34 _, (fun hx => by have := fp_lt hT0.a _ hx; omega), (fun hx => by have := fp_lt hT0.b _ hx; omega), hB0.trans (kk.mono hB0.size), Nat.le_trans hB0.size kk.size⟩
          have c0 := hR.blk.cell 0 _ rfl
          have c1 := hR.blk.cell 1 _ rfl
          clear kk
          rw [← hD] at hcnt
          have HW : Hid (D.writes ≤ j + 1 ∧ D.flushes ≤ j + 1 ∧ D.n = k) := ⟨by omega, by omega, by omega⟩
          have HN : Hid (D.n ≤ 16384) := (show D.n ≤ 16384 by omega)
          clear hD hcnt
          obtain ⟨S, hS⟩ : ∃ S, S = (D.rd oi).1 := ⟨_, rfl⟩
          obtain ⟨E, hE⟩ : ∃ E, E = (D.rd oi).2 := ⟨_, rfl⟩
          have rdD : ∀ (W : World) (r f m cap : Nat), Lay W r f m cap D → Calls Try.prog 26 #[.pointer (some ⟨r, 0, none⟩), .int .i64 oi] W fun e w' => e = .returned (.tuple #[.agg (sb S).toArray, .int .i64 E]) ∧ Below W.heap.size W w' := fun W r f m cap h => by
            rw [hS, hE]
            exact rd_any W r f m cap D h oi
          clear hS hE
          have hq := eq39 S S
          rw [decide_eq_true rfl] at hq
          have tok0 : True := trivial
          go_upto_if 68 with (first
            | (have _t := tok0; go_at_call 26; refine (rd_any _ _ _ _ _ _ hR.two.a oi).mono ?_; rintro e v1 ⟨rfl, kk⟩
               have hR1 := hR.next kk; clear hR; have hR := hR1; clear hR1
               clear c0 c1; have c0 := hR.blk.cell 0 _ rfl; have c1 := hR.blk.cell 1 _ rfl
               clear kk
               clear tok0 _t; have tok1 : True := trivial)
            | (have _t := tok1; go_at_call 19; refine (acts_any _ _ _ _ _ _ hR.two.a 7 0 ⟨#[]⟩ none 0 0 [] (by decide) (by decide) ⟨⟨rfl, fun _ => rfl, fun _ h => (by cases h), fun _ h => (by cases h)⟩, fun _ h => (by cases h)⟩ (by decide) (by omega) (by omega)).mono ?_; rintro e v2 ⟨rfl, hT⟩
               rw [act_seven] at hT
               obtain ⟨ma, hR1⟩ := hR.turnA hT; clear hR hT; have hR := hR1; clear hR1
               clear c0 c1; have c0 := hR.blk.cell 0 _ rfl; have c1 := hR.blk.cell 1 _ rfl
               clear tok1 _t; have tok2 : True := trivial))
          clear tok2
          clear c0 c1
          go_cut [] from 45 to 146 (fun wc => ∃ ma, Rnd w.heap.size w wc ra fa ma ca d rb fb mb cb d wr.heap.size (oc oa oi ot ko kn kc))
          case first =>
            by_cases hm8 : (j : Int) % 8 = 0
            · have hm8t : (j : Int).tmod 8 = 0 := by rw [Int.tmod_eq_emod_of_nonneg (by omega)]; exact hm8
              go_wp2_with (go_at_call 17; refine (sectors_any _ _ _ _ _ _ hR.two.a).mono ?_; rintro e vx ⟨_, _, rfl, -, -, kk⟩)
              go_meet
              case rel => exact ⟨_, hR.next kk⟩
            · have hm8t : ¬ (j : Int).tmod 8 = 0 := by rw [Int.tmod_eq_emod_of_nonneg (by omega)]; exact hm8
              go_wp2_with fail
              go_meet
              case rel => exact ⟨_, hR⟩
          case rest =>
          clear hR
          obtain ⟨ma, hR⟩ := hcut
          have c0 := hR.blk.cell 0 _ rfl
          have c1 := hR.blk.cell 1 _ rfl
          have tok0 : True := trivial
          go_upto_region 18 with (first
            | (have _t := tok0; refine load_op rfl _ rfl wr.heap.size oa oi ot ko kn kc hR.blk rfl ?_
               clear tok0 _t; have tok1 : True := trivial)
            | (have _t := tok1; go_at_call 19; refine (acts_any _ _ _ _ _ _ hR.two.a oa oi ot ko kn kc ks hg.text hi63 (ints_side hg.ints hR.below hR.two.ga) hg.len (by omega) (by omega)).mono ?_; rintro e v6 ⟨rfl, hT⟩
               rw [← HD.out] at hT
               obtain ⟨ma, hR1⟩ := hR.turnA hT; clear hR hT; have hR := hR1; clear hR1
               clear c0 c1; have c0 := hR.blk.cell 0 _ rfl; have c1 := hR.blk.cell 1 _ rfl
               clear tok1 _t; have tok2 : True := trivial))
          clear tok2
          go_cut [86] from 45 to 146 (fun b wc => b = .bool (decide (oa ≠ 3 ∧ oa ≠ 7 ∧ oa ≠ 8)) ∧ ∃ ma, Rnd w.heap.size w wc ra fa ma ca D rb fb mb cb d wr.heap.size (oc oa oi ot ko kn kc))
          case first =>
            by_cases a3 : oa = 3
            · rw [a3] at c0
              go_wp2_with fail
              go_meet
              case rel => exact ⟨by simp [a3], _, hR⟩
            ·
              by_cases a7 : oa = 7
              · rw [a7] at c0
                go_wp2_with fail
                go_meet
                case rel => exact ⟨by simp [a7], _, hR⟩
              ·
                by_cases a8 : oa = 8
                · rw [a8] at c0
                  go_wp2_with fail
                  go_meet
                  case rel => exact ⟨by simp [a8], _, hR⟩
                ·
                  have b3 : (oa != 3) = true := by simp [a3]
                  have b7 : (oa != 7) = true := by simp [a7]
                  have b8 : (oa != 8) = true := by simp [a8]
                  have hdd : decide (oa ≠ 3 ∧ oa ≠ 7 ∧ oa ≠ 8) = true := by simp [a3, a7, a8]
                  clear a3 a7 a8
                  go_wp2_with fail
                  go_meet
                  case rel => exact ⟨by rw [hdd], _, hR⟩
          case rest =>
          clear hR c0
          obtain ⟨rfl, ma, hR⟩ := hcut
          go_upto_if 86 with (fail)
          go_cut [] from 45 to 146 (fun wc => ∃ ma mb, Rnd w.heap.size w wc ra fa ma ca D rb fb mb cb D wr.heap.size (oc oa oi ot ko kn kc))
          case first =>
            by_cases hk3 : oa ≠ 3 ∧ oa ≠ 7 ∧ oa ≠ 8
            · rw [decide_eq_true hk3]
              clear hk3
              have c1 := hR.blk.cell 1 _ rfl
              have c0 := hR.blk.cell 0 _ rfl
              have tok0 : True := trivial
              go_wp2_with (first
                | (have _t := tok0; refine load_op rfl _ rfl wr.heap.size oa oi ot ko kn kc hR.blk rfl ?_
                   clear tok0 _t; have tok1 : True := trivial)
                | (have _t := tok1; go_at_call 19; refine (acts_any _ _ _ _ _ _ hR.two.b oa oi ot ko kn kc ks hg.text hi63 (ints_side hg.ints hR.below hR.two.gb) hg.len (by omega) (by omega)).mono ?_; rintro e v9 ⟨rfl, hT⟩
                   rw [← HD.out] at hT
                   obtain ⟨mb, hR1⟩ := hR.turnB hT; clear hR hT; have hR := hR1; clear hR1
                   clear c0 c1; have c0 := hR.blk.cell 0 _ rfl; have c1 := hR.blk.cell 1 _ rfl
                   clear tok1 _t; have tok2 : True := trivial))
              clear tok2
              go_meet
              case rel => exact ⟨_, _, hR⟩
            · have HSK : Hid (d = D) := by
                show d = D
                rw [HD.out]
                have h3 : oa = 3 ∨ oa = 7 ∨ oa = 8 := by omega
                rcases h3 with rfl | rfl | rfl <;> rfl
              rw [decide_eq_false hk3]
              clear hk3
              go_wp2_with fail
              go_meet
              case rel => exact ⟨_, _, hR.same HSK.out⟩
          case rest =>
          clear hR
          obtain ⟨ma, mb, hR⟩ := hcut
          have c0 := hR.blk.cell 0 _ rfl
          have c1 := hR.blk.cell 1 _ rfl
          have tok0 : True := trivial
          go_wp2_with (first
            | (have _t := tok0; go_at_call 26; refine (rdD _ _ _ _ _ hR.two.a).mono ?_; rintro e v21 ⟨rfl, kk⟩
               have hR1 := hR.next kk; clear hR; have hR := hR1; clear hR1
               clear c0 c1; have c0 := hR.blk.cell 0 _ rfl; have c1 := hR.blk.cell 1 _ rfl
               clear kk
               clear tok0 _t; have tok1 : True := trivial)
            | (have _t := tok1; refine store_sec rfl _ _ rfl v21.heap.size zs S (Blk.new v21 39 (sb zs)) rfl rfl ?_; intro _
               obtain ⟨s1, kk⟩ := boxed v21 S
               have hR1 := hR.next kk; clear hR; have hR := hR1; clear hR1
               clear c0 c1; have c0 := hR.blk.cell 0 _ rfl; have c1 := hR.blk.cell 1 _ rfl
               obtain ⟨v22, hU⟩ : ∃ U, U = ((v21.alloc (.cells (sb zs).toArray 39)).setRow v21.heap.size (sb S).toArray) := ⟨_, rfl⟩
               obtain ⟨g1, hg1⟩ : ∃ g, g = v21.heap.size := ⟨_, rfl⟩
               rw [← hU] at s1 hR c0 c1 ⊢
               rw [← hg1] at s1 ⊢
               clear hU hg1 kk
               clear tok1 _t; have tok2 : True := trivial)
            | (have _t := tok2; go_at_call 26; refine (rdD _ _ _ _ _ hR.two.b).mono ?_; rintro e v23 ⟨rfl, kk⟩
               have s1 := s1.next kk
               have hR1 := hR.next kk; clear hR; have hR := hR1; clear hR1
               clear c0 c1; have c0 := hR.blk.cell 0 _ rfl; have c1 := hR.blk.cell 1 _ rfl
               clear kk
               clear tok2 _t; have tok3 : True := trivial)
            | (have _t := tok3; refine store_sec rfl _ _ rfl v23.heap.size zs S (Blk.new v23 39 (sb zs)) rfl rfl ?_; intro _
               obtain ⟨s2, kk⟩ := boxed v23 S
               have s1 := s1.next kk
               have hR1 := hR.next kk; clear hR; have hR := hR1; clear hR1
               clear c0 c1; have c0 := hR.blk.cell 0 _ rfl; have c1 := hR.blk.cell 1 _ rfl
               obtain ⟨v24, hU⟩ : ∃ U, U = ((v23.alloc (.cells (sb zs).toArray 39)).setRow v23.heap.size (sb S).toArray) := ⟨_, rfl⟩
               obtain ⟨g2, hg1⟩ : ∃ g, g = v23.heap.size := ⟨_, rfl⟩
               rw [← hU] at s2 s1 hR c0 c1 ⊢
               rw [← hg1] at s2 ⊢
               clear hU hg1 kk
               clear tok3 _t; have tok4 : True := trivial)
            | (have _t := tok4; go_at_call 27; refine (counts_any _ _ _ _ _ _ hR.two.a).mono ?_; rintro e v25 ⟨rfl, kk⟩
               have s1 := s1.next kk
               have s2 := s2.next kk
               have hR1 := hR.next kk; clear hR; have hR := hR1; clear hR1
               clear c0 c1; have c0 := hR.blk.cell 0 _ rfl; have c1 := hR.blk.cell 1 _ rfl
               clear kk
               clear tok4 _t; have tok5 : True := trivial)
            | (have _t := tok5; go_at_call 27; refine (counts_any _ _ _ _ _ _ hR.two.b).mono ?_; rintro e v26 ⟨rfl, kk⟩
               have s1 := s1.next kk
               have s2 := s2.next kk
               have hR1 := hR.next kk; clear hR; have hR := hR1; clear hR1
               clear c0 c1; have c0 := hR.blk.cell 0 _ rfl; have c1 := hR.blk.cell 1 _ rfl
               clear kk
               clear tok5 _t; have tok6 : True := trivial)
            | (have _t := tok6; refine load_sec_g (by rfl) _ rfl g1 S s1 rfl ?_
               clear tok6 _t; have tok7 : True := trivial)
            | (have _t := tok7; refine load_sec_g (by rfl) _ rfl g2 S s2 rfl ?_
               clear tok7 _t; have tok8 : True := trivial)
            | (have _t := tok8; go_at_call 20; refine (dead_any _ _ _ _ _ _ hR.two.a).mono ?_; rintro e w' ⟨rfl, rfl⟩
               clear tok8 _t; have tok9 : True := trivial)
            | (have _t := tok9; go_at_call 20; refine (dead_any _ _ _ _ _ _ hR.two.b).mono ?_; rintro e w' ⟨rfl, rfl⟩
               clear tok9 _t; have tok10 : True := trivial)
            | (have _t := tok10; go_at_call 25; refine (pending_any _ _ _ _ _ _ hR.two.a (by have := HW.out; omega)).mono ?_; rintro e v27 ⟨x1, rfl, p1, kk⟩
               obtain ⟨ao1, co1, rfl, p1, -, -, pl⟩ := ints_of_own p1 (pend_wf _ HN.out)
               have hR1 := hR.next kk; clear hR; have hR := hR1; clear hR1
               clear c0 c1; have c0 := hR.blk.cell 0 _ rfl; have c1 := hR.blk.cell 1 _ rfl
               clear kk
               clear tok10 _t; have tok11 : True := trivial)
            | (have _t := tok11; go_at_call 25; refine (pending_any _ _ _ _ _ _ hR.two.b (by have := HW.out; omega)).mono ?_; rintro e v28 ⟨x2, rfl, p2, kk⟩
               obtain ⟨ao2, co2, rfl, p2, -, -, -⟩ := ints_of_own p2 (pend_wf _ HN.out)
               have p1 := p1.next kk
               have hR1 := hR.next kk; clear hR; have hR := hR1; clear hR1
               clear c0 c1; have c0 := hR.blk.cell 0 _ rfl; have c1 := hR.blk.cell 1 _ rfl
               clear kk
               clear tok11 _t; have tok12 : True := trivial)
            | (have _t := tok12; go_at_call 28; refine (eqInts_same _ ao1 ao2 _ co1 co2 _ p1 p2 pl).mono ?_; rintro e v29 ⟨rfl, kk⟩
               have hR1 := hR.next kk; clear hR; have hR := hR1; clear hR1
               clear c0 c1; have c0 := hR.blk.cell 0 _ rfl; have c1 := hR.blk.cell 1 _ rfl
               clear kk
               clear tok12 _t; have tok13 : True := trivial))
          clear tok13
          go_roundw
          case rel => exact ⟨j + 1, D, ma, mb, by omega, by omega, by go_num, hR.two, hR.below, HW.out.1, HW.out.2.1, HW.out.2.2⟩
          case measure => simp [intOf]; omega
      · rw [decide_eq_false hgo]
        clear hgo
        have tok0 : True := trivial
        go_wp2_with (first
          | (have _t := tok0; go_at_call 17; refine (sectors_any _ _ _ _ _ _ hT0.a).mono ?_; rintro e x1 ⟨g1, c1, rfl, -, r1, k1⟩
             have hT1 := hT0.next k1
             have hB1 := hB0.trans (k1.mono hB0.size)
             clear tok0 _t; have tok1 : True := trivial)
          | (have _t := tok1; go_at_call 17; refine (sectors_any _ _ _ _ _ _ hT1.b).mono ?_; rintro e x2 ⟨g2, c2, rfl, -, r2, k2⟩
             have hB2 := hB1.trans (k2.mono hB1.size)
             have r3 := r1.fr (X := fun _ => False) (Fr.of_below k2 (Nat.le_refl _)) (fun h => h)
             clear tok1 _t; have tok2 : True := trivial)
          | (have _t := tok2; go_at_call 18; refine (eqSectors_same _ g1 g2 k c1 c2 d.lasts (by rw [← hdn]; exact r3) (by rw [← hdn]; exact r2) (by omega)).mono ?_; rintro e x3 ⟨rfl, k3⟩
             have hB3 := hB2.trans (k3.mono hB2.size)
             clear tok2 _t; have tok3 : True := trivial)
          | (have _t := tok3; go_at_call 12; refine (works_any _).mono ?_; rintro e x4 ⟨rfl, k4⟩; clear tok3 _t))
        go_ret
        exact ⟨rfl, hB3.trans (k4.mono hB3.size)⟩
theorem blind_all (w : World) (k : Int) (oo : Option Addr) (n c : Nat) (O : Nat → OpD) (hk : (Lit.int .i64 k).wf = true) (hn : n ≤ maxLen) (ho : Ops w oo n O) :
    Calls Try.prog 7 #[.int .i64 k, .slice oo n c] w fun e w' => e = .returned (.bool true) ∧ Below w.heap.size w w' := by
  by_cases h1 : k > 1000
  · go_enter Try.func7, Try.ntmps7
    go_wp2_with (go_at_call 12; refine (works_any _).mono ?_; rintro e x4 ⟨rfl, k4⟩)
    go_ret
    exact ⟨rfl, k4⟩
  · by_cases h2 : 1 ≤ k
    · obtain ⟨m, rfl⟩ := Int.eq_ofNat_of_zero_le (show 0 ≤ k by omega)
      exact blind_loop w m (by omega) (by omega) oo n c O hn ho
    · have hb := fun v => new_bad k v (by omega)
      have := wf_lt hk
      go_enter Try.func7, Try.ntmps7
      go_wp2_with fail
      go_at_call 10; refine (hb _).mono ?_; rintro e w' ⟨rfl, rfl⟩
      go_wp2_with fail
      go_at_call 10; refine (hb _).mono ?_; rintro e w' ⟨rfl, rfl⟩
      go_wp2_with fail
      go_at_call 12; refine (works_any _).mono ?_; rintro e x4 ⟨rfl, k4⟩
      go_wp2_with fail
      go_ret
      exact ⟨rfl, k4⟩
end Go.Proofs.Yteimfnnkjhopdaa
