/- DiskArms: an armed disk goes at just the operation that was said. -/
import Derived.Test.YteimfnnkjhopdaaTwo
namespace Go.Proofs.Yteimfnnkjhopdaa
open Go.RowKit

/-- An armed disk behind so many operations. -/
def ArmS (K done : Nat) (d : St) : Prop := d.n = 8 ∧ ((done < K ∧ d.off = false ∧ d.armed + done = K ∧ d.writes + d.flushes = done) ∨ (K ≤ done ∧ d.off = true ∧ d.armed = 0 ∧ d.writes + d.flushes = K))
/-- What an operation answers. -/
def armE (K done : Nat) : Int := if done < K then 0 else 6
theorem op_arm (d : St) (K done : Nat) (hn : d.n = 8) (h1 : done < K) (ho : d.off = false) (ha : d.armed + done = K) (hw : d.writes + d.flushes = done + 1) : ArmS K (done + 1) d.op.1 ∧ d.op.2 = armE K (done + 1) ∧ d.op.1.off = decide (K ≤ done + 1) := by
  unfold St.op armE
  rw [if_neg (show ¬ d.armed = 0 by omega)]
  by_cases h : d.armed = 1
  · rw [if_pos h, if_neg (by omega)]
    exact ⟨⟨hn, .inr ⟨by omega, rfl, rfl, by show d.writes + d.flushes = K; omega⟩⟩, rfl, by simp; omega⟩
  · rw [if_neg h, if_pos (by omega)]
    exact ⟨⟨hn, .inl ⟨by omega, ho, by show d.armed - 1 + (done + 1) = K; omega, hw⟩⟩, rfl, by simp [ho]; omega⟩
theorem wr_arm (d : St) (K done : Nat) (h : ArmS K done d) (i : Int) (h0 : 0 ≤ i) (h8 : i < 8) (s : Sec) : ArmS K (done + 1) (d.wr i s).1 ∧ (d.wr i s).2 = armE K (done + 1) ∧ (d.wr i s).1.off = decide (K ≤ done + 1) := by
  obtain ⟨hn, ⟨h1, ho, ha, hw⟩ | ⟨h1, ho, ha, hw⟩⟩ := h
  · unfold St.wr
    rw [if_neg (by simp [ho]), if_neg (by omega)]
    exact op_arm (d.write i.toNat s) K done hn h1 ho ha (by show d.writes + 1 + d.flushes = done + 1; omega)
  · unfold St.wr armE
    rw [if_pos ho, if_neg (by omega)]
    exact ⟨⟨hn, .inr ⟨by omega, ho, ha, hw⟩⟩, rfl, by simp [ho]; omega⟩
theorem fl_arm (d : St) (K done : Nat) (h : ArmS K done d) : ArmS K (done + 1) d.fl.1 ∧ d.fl.2 = armE K (done + 1) ∧ d.fl.1.off = decide (K ≤ done + 1) := by
  obtain ⟨hn, ⟨h1, ho, ha, hw⟩ | ⟨h1, ho, ha, hw⟩⟩ := h
  · have h2 := op_arm d.tick K done hn h1 ho ha (by show d.writes + (d.flushes + 1) = done + 1; omega)
    unfold St.fl
    rw [if_neg (by simp [ho])]
    split
    · rename_i h3
      rw [h3] at h2
      exact ⟨h2.1, h2.2.1, h2.2.2⟩
    · exact h2
  · unfold St.fl armE
    rw [if_pos ho, if_neg (by omega)]
    exact ⟨⟨hn, .inr ⟨by omega, ho, ha, hw⟩⟩, rfl, by simp [ho]; omega⟩
theorem arm_small (d : St) (K done : Nat) (h : ArmS K done d) (hK : K ≤ 40) : d.writes < 1000000000 ∧ d.flushes < 1000000000 := by
  obtain ⟨hn, ⟨h1, ho, ha, hw⟩ | ⟨h1, ho, ha, hw⟩⟩ := h <;> omega
theorem mod8 (i : Int) : ∃ x y q : Int, i.tmod 8 = x ∧ i % 8 = y ∧ IntKind.i64.wrap (x + 8) = x + 8 ∧ (x + 8).tmod 8 = q ∧ (x + 8) % 8 = q ∧ 0 ≤ q ∧ q < 8 ∧ -8 < x ∧ x < 8 := by
  have h1 := Int.tmod_lt_of_pos i (show (0 : Int) < 8 by decide)
  have h2 : -8 < i.tmod 8 := by
    have := Int.neg_lt_of_neg_lt (Int.tmod_lt_of_pos (-i) (show (0 : Int) < 8 by decide) |> fun h => (by rw [Int.neg_tmod] at h; omega : -(8 : Int) < i.tmod 8) |> fun h => (by omega : -(i.tmod 8) < 8))
    omega
  refine ⟨i.tmod 8, i % 8, (i.tmod 8 + 8) % 8, rfl, rfl, by rw [IntKind.wrap_i64]; omega, Int.tmod_eq_emod_of_nonneg (by omega), rfl, by omega, by omega, h2, h1⟩
theorem mod40 (i : Int) : ∃ x q : Int, i.tmod 40 = x ∧ IntKind.i64.wrap (x + 40) = x + 40 ∧ (x + 40).tmod 40 = q ∧ (x + 40) % 40 = q ∧ IntKind.i64.wrap (q + 1) = q + 1 ∧ 0 ≤ q ∧ q < 40 ∧ -40 < x ∧ x < 40 := by
  have h1 := Int.tmod_lt_of_pos i (show (0 : Int) < 40 by decide)
  have h2 : -40 < i.tmod 40 := by
    have h := Int.tmod_lt_of_pos (-i) (show (0 : Int) < 40 by decide)
    rw [Int.neg_tmod] at h
    omega
  refine ⟨i.tmod 40, (i.tmod 40 + 40) % 40, rfl, by rw [IntKind.wrap_i64]; omega, Int.tmod_eq_emod_of_nonneg (by omega), rfl, by rw [IntKind.wrap_i64]; omega, by omega, by omega, h2, h1⟩

set_option maxRecDepth 100000 in
set_option maxHeartbeats 8000000 in
theorem arms_all (w : World) (k : Int) (oo : Option Addr) (n c : Nat) (O : Nat → OpD) (_hk : (Lit.int .i64 k).wf = true) (hn : n ≤ maxLen) (hops : Ops w oo n O) :
    Calls Try.prog 8 #[.int .i64 k, .slice oo n c] w fun e w' => e = .returned (.bool true) ∧ Below w.heap.size w w' := by
  have hz := zero39
  have hnI : (n : Int) ≤ 9223372036854775807 := by unfold maxLen at hn; omega
  obtain ⟨x, q, m1, m2, m3, m4, m5, q0, q40, xl, xh⟩ := mod40 k
  obtain ⟨K, hK⟩ := Int.eq_ofNat_of_zero_le (show 0 ≤ q + 1 by omega)
  rw [hK] at m5
  have HK : Hid (1 ≤ K ∧ K ≤ 40) := ⟨by omega, by omega⟩
  have hKq : q + 1 = (K : Int) := hK
  have hKI : (K : Int) ≤ 40 := by omega
  clear hK
  go_enter Try.func8, Try.ntmps8
  go_wp2_with fail
  go_at_call 10; refine (new_any 8 w (by omega) (by omega)).mono ?_; rintro e w1 ⟨r, f, m, cap, rfl, hr, hf, hm, hL, hB⟩
  go_wp2_with fail
  go_at_call 22; refine (ar_any _ r f m cap _ hL (K : Int) (by omega)).mono ?_; rintro e w2 ⟨rfl, m, hm1, hL1, hF1⟩
  have hB1 := hB.trans (hF1.below (b := w.heap.size) (fp_ge hr hf hm) hB.size)
  have hm2 := turn_ge hm hm1 hB.size
  have har : (St.start 8 (fun _ => zs)).ar (K : Int) = ({ (St.start 8 (fun _ => zs)) with armed := K }, 0) := by unfold St.ar; rw [if_neg (by omega)]; rfl
  rw [har] at hL1
  rw [har]
  have hA1 : ArmS K 0 { (St.start 8 (fun _ => zs)) with armed := K } := ⟨rfl, .inl ⟨by have := HK.out; omega, rfl, by show K + 0 = K; omega, rfl⟩⟩
  clear hm hL hB hF1 hm1 har
  go_wp2_with fail
  go_loopw [8, 9] (fun u v wr => ∃ (done j : Nat) (d : St) (m : Nat), j ≤ n ∧ j ≤ 300 ∧ done ≤ j ∧ u = .int .i64 (done : Int) ∧ v = .int .i64 (j : Int) ∧ ArmS K done d ∧ Lay wr r f m cap d ∧ Below w.heap.size w wr ∧ w.heap.size ≤ m) (fun _ v _ => n - (intOf v).toNat)
  case atStart => exact ⟨0, 0, _, m, by omega, by omega, by omega, rfl, rfl, hA1, hL1, hB1, hm2⟩
  case round =>
    obtain ⟨done, j, d, m, hj, hj3, hdj, rfl, rfl, hA, hL, hB, hm⟩ := hrel
    clear hL1 hB1 hm2 hA1
    have hsm := arm_small d K done hA HK.out.2
    by_cases hgo : j < n ∧ j < 300
    · obtain ⟨hjn, hj4⟩ := hgo
      have hjI : (j : Int) < n := by omega
      have hj3I : (j : Int) < 300 := by omega
      cases oo with
      | none => have := hops.bare rfl; omega
      | some ad =>
        have hg := hops.good j hjn
        obtain ⟨p0, p1, p2, p3⟩ := (hops.next hB).cell ad rfl j hjn
        obtain ⟨o, eo⟩ : ∃ o, o = O j := ⟨_, rfl⟩
        rw [← eo] at hg p0 p1 p2 p3
        clear eo
        obtain ⟨oa, oi, ot, ko, kn, kc, ks⟩ := o
        have kk : Below wr.heap.size wr (wr.alloc (.cells (oc oa oi ot ko kn kc).toArray 34)) := (Below.refl _ wr).alloc (Nat.le_refl _) _
        have hS : Blk (wr.alloc (.cells (oc oa oi ot ko kn kc).toArray 34)) wr.heap.size 34 (oc oa oi ot ko kn kc) := Blk.new wr 34 _
        have hnf : ¬ fp r f m wr.heap.size := fun hx => by have := fp_lt hL _ hx; omega
        have hLU := hL.next kk
        have hBU := hB.trans (kk.mono hB.size)
        have hfp := fp_ge hr hf hm
        clear kk
        have c0 := hS.cell 0 _ rfl
        by_cases b1 : oa = 1
        · subst b1
          obtain ⟨x8, y8, q8, e1, e2, e3, e4, e5, e6, e7, e8, e9⟩ := mod8 oi
          have hst := wr_arm d K done hA q8 e6 e7 (textSec ot)
          obtain ⟨p, hp⟩ : ∃ p, p = d.wr q8 (textSec ot) := ⟨_, rfl⟩
          have hwr := fun v h => wr_any v r f m cap d h q8 (textSec ot) hsm.1
          rw [← hp] at hst hwr
          clear hp
          go_wp2_with fail
          refine wp_region_to (fun v => Blk v wr.heap.size 34 (oc 1 oi ot ko kn kc)) 11 (by kernel_rfl) ?_
          have hS0 : Blk (wr.alloc (.cells (oc 1 oi ot ko kn kc).toArray 34)).drew wr.heap.size 34 (oc 1 oi ot ko kn kc) := hS.drew
          have hL0 := hLU.drew
          have hB0 : Below w.heap.size w (wr.alloc (.cells (oc 1 oi ot ko kn kc).toArray 34)).drew := ⟨hBU.os, hBU.tape, hBU.output, hBU.size, hBU.block⟩
          refine wpTo_take (i := 0) (v := ?v0q) (show _ = some _ by simp only [List.getElem?_toArray, List.getElem?_cons_zero]; exact rfl) (by kernel_rfl) (by kernel_rfl) (by kernel_rfl) (by kernel_rfl) (by exact fun _ _ _ h => h) (Or.inl ⟨by rfl, ?hy0q⟩) hS0 ?r0q
          case hy0q => (intro w hSw; (try dsimp only at hSw); go_simp; try with_reducible rfl)
          (try simp only [Act.put]); (try simp only [List.setIfInBounds_toArray]); (repeat (first | simp only [List.set_cons_succ] | simp only [List.set_cons_zero]))
          refine wpTo_take (i := 1) (v := ?v1q) (show _ = some _ by simp only [List.getElem?_toArray, List.getElem?_cons_succ, List.getElem?_cons_zero]; exact rfl) (by kernel_rfl) (by kernel_rfl) (by kernel_rfl) (by kernel_rfl) (by exact fun _ _ _ h => h) (Or.inl ⟨by rfl, ?hy1q⟩) hS0 ?r1q
          case hy1q => (intro w hSw; (try dsimp only at hSw); go_simp; try with_reducible rfl)
          (try simp only [Act.put]); (try simp only [List.setIfInBounds_toArray]); (repeat (first | simp only [List.set_cons_succ] | simp only [List.set_cons_zero]))
          refine wpTo_take (i := 2) (v := ?v2q) (show _ = some _ by simp only [List.getElem?_toArray, List.getElem?_cons_succ, List.getElem?_cons_zero]; exact rfl) (by kernel_rfl) (by kernel_rfl) (by kernel_rfl) (by kernel_rfl) (by exact fun _ _ _ h => h) (Or.inl ⟨by rfl, ?hy2q⟩) hS0 ?r2q
          case hy2q => (intro w hSw; (try dsimp only at hSw); have hcc := hSw.cell 1 _ rfl; go_simp; try with_reducible rfl)
          (try simp only [Act.put]); (try simp only [List.setIfInBounds_toArray]); (repeat (first | simp only [List.set_cons_succ] | simp only [List.set_cons_zero]))
          refine wpTo_take (i := 3) (v := ?v3q) (show _ = some _ by simp only [List.getElem?_toArray, List.getElem?_cons_succ, List.getElem?_cons_zero]; exact rfl) (by kernel_rfl) (by kernel_rfl) (by kernel_rfl) (by kernel_rfl) (by exact fun _ _ _ h => h) (Or.inl ⟨by rfl, ?hy3q⟩) hS0 ?r3q
          case hy3q => (intro w hSw; (try dsimp only at hSw); go_simp; try with_reducible rfl)
          (try simp only [Act.put]); (try simp only [List.setIfInBounds_toArray]); (repeat (first | simp only [List.set_cons_succ] | simp only [List.set_cons_zero]))
          refine wpTo_take (i := 4) (v := ?v4q) (show _ = some _ by simp only [List.getElem?_toArray, List.getElem?_cons_succ, List.getElem?_cons_zero]; exact rfl) (by kernel_rfl) (by kernel_rfl) (by kernel_rfl) (by kernel_rfl) (by exact fun _ _ _ h => h) (Or.inl ⟨by rfl, ?hy4q⟩) hS0 ?r4q
          case hy4q => (intro w hSw; (try dsimp only at hSw); go_simp; try with_reducible rfl)
          (try simp only [Act.put]); (try simp only [List.setIfInBounds_toArray]); (repeat (first | simp only [List.set_cons_succ] | simp only [List.set_cons_zero]))
          refine wpTo_take (i := 5) (v := ?v5q) (show _ = some _ by simp only [List.getElem?_toArray, List.getElem?_cons_succ, List.getElem?_cons_zero]; exact rfl) (by kernel_rfl) (by kernel_rfl) (by kernel_rfl) (by kernel_rfl) (by exact fun _ _ _ h => h) (Or.inl ⟨by rfl, ?hy5q⟩) hS0 ?r5q
          case hy5q => (intro w hSw; (try dsimp only at hSw); go_simp; try with_reducible rfl)
          (try simp only [Act.put]); (try simp only [List.setIfInBounds_toArray]); (repeat (first | simp only [List.set_cons_succ] | simp only [List.set_cons_zero]))
          refine wpTo_take (i := 6) (v := ?v6q) (show _ = some _ by simp only [List.getElem?_toArray, List.getElem?_cons_succ, List.getElem?_cons_zero]; exact rfl) (by kernel_rfl) (by kernel_rfl) (by kernel_rfl) (by kernel_rfl) (by exact fun _ _ _ h => h) (Or.inl ⟨by rfl, ?hy6q⟩) hS0 ?r6q
          case hy6q => (intro w hSw; (try dsimp only at hSw); go_simp; try with_reducible rfl)
          (try simp only [Act.put]); (try simp only [List.setIfInBounds_toArray]); (repeat (first | simp only [List.set_cons_succ] | simp only [List.set_cons_zero]))
          refine wpTo_take (i := 7) (v := ?v7q) (show _ = some _ by simp only [List.getElem?_toArray, List.getElem?_cons_succ, List.getElem?_cons_zero]; exact rfl) (by kernel_rfl) (by kernel_rfl) (by kernel_rfl) (by kernel_rfl) (by exact fun _ _ _ h => h) (Or.inl ⟨by rfl, ?hy7q⟩) hS0 ?r7q
          case hy7q => (intro w hSw; (try dsimp only at hSw); have hcc := hSw.cell 2 _ rfl; go_simp; try with_reducible rfl)
          (try simp only [Act.put]); (try simp only [List.setIfInBounds_toArray]); (repeat (first | simp only [List.set_cons_succ] | simp only [List.set_cons_zero]))
          refine wpTo_one (i := 8) (by kernel_rfl) (show _ = some _ by simp only [List.getElem?_toArray, List.getElem?_cons_succ, List.getElem?_cons_zero]; exact rfl) (fun K hK => ?_)
          go_simp
          go_at_call 14; refine (text_any ot hg.text _).mono ?_; rintro e v5 ⟨rfl, kb⟩
          (try simp only [])
          refine hK.out _ _ (hS0.next kb) (fun hS1 => ?_)
          clear hK K
          (try simp only [Act.put]); (try simp only [List.setIfInBounds_toArray]); (repeat (first | simp only [List.set_cons_succ] | simp only [List.set_cons_zero]))
          have hL5 := hL0.next kb
          have hB5 := hB0.trans (kb.mono hB0.size)
          refine wpTo_one (i := 9) (by kernel_rfl) (show _ = some _ by simp only [List.getElem?_toArray, List.getElem?_cons_succ, List.getElem?_cons_zero]; exact rfl) (fun K hK => ?_)
          go_simp
          go_at_call 29; refine (hwr _ hL5).mono ?_; rintro e v6 ⟨rfl, m1, hm1, hL6, hF6⟩
          (try simp only [])
          refine hK.out _ _ (hS1.fr hF6 hnf) (fun hS2 => ?_)
          clear hK K
          (try simp only [Act.put]); (try simp only [List.setIfInBounds_toArray]); (repeat (first | simp only [List.set_cons_succ] | simp only [List.set_cons_zero]))
          refine wpTo_take (i := 10) (v := ?v10q) (show _ = some _ by simp only [List.getElem?_toArray, List.getElem?_cons_succ, List.getElem?_cons_zero]; exact rfl) (by kernel_rfl) (by kernel_rfl) (by kernel_rfl) (by kernel_rfl) (by exact fun _ _ _ h => h) (Or.inl ⟨by rfl, ?hy10q⟩) hS2 ?r10q
          case hy10q => (intro w hSw; (try dsimp only at hSw); go_simp; try with_reducible rfl)
          (try simp only [Act.put]); (try simp only [List.setIfInBounds_toArray]); (repeat (first | simp only [List.set_cons_succ] | simp only [List.set_cons_zero]))
          refine wpTo_done (by kernel_rfl) ?_
          have hB6 := hB5.trans (hF6.below (b := w.heap.size) hfp hB5.size)
          have hm6 := turn_ge hm hm1 hB5.size
          obtain ⟨d6, E6⟩ := p
          obtain ⟨hA6, rfl, hoff⟩ := hst
          have hdd := dead_any _ r f m1 cap d6 hL6
          rw [hoff] at hdd
          clear hoff
          unfold armE
          by_cases hk1 : done + 1 < K
          · have z1 : (done : Int) + 1 < K := by omega
            have z2 : decide (K ≤ done + 1) = false := by simp; omega
            rw [z2] at hdd
            rw [if_pos hk1]
            go_wp2_with (go_at_call 20; refine hdd.mono ?_; rintro e w' ⟨rfl, rfl⟩)
            go_roundw
            case rel => exact ⟨done + 1, j + 1, d6, m1, by omega, by omega, by omega, by go_num, by go_num, hA6, hL6, hB6, hm6⟩
            case measure => simp [intOf]; omega
          · have z1 : ¬ (done : Int) + 1 < K := by omega
            have z2 : decide (K ≤ done + 1) = true := by simp; omega
            rw [z2] at hdd
            rw [if_neg hk1]
            go_wp2_with (go_at_call 20; refine hdd.mono ?_; rintro e w' ⟨rfl, rfl⟩)
            go_roundw
            case rel => exact ⟨done + 1, j + 1, d6, m1, by omega, by omega, by omega, by go_num, by go_num, hA6, hL6, hB6, hm6⟩
            case measure => simp [intOf]; omega
        · by_cases b2 : oa = 2
          · subst b2
            have hst := fl_arm d K done hA
            obtain ⟨p, hp⟩ : ∃ p, p = d.fl := ⟨_, rfl⟩
            have hwr := fun v h => fl_any v r f m cap d h hsm.2
            rw [← hp] at hst hwr
            clear hp
            go_wp2_with fail
            go_at_call 23; refine (hwr _ hLU).mono ?_; rintro e v6 ⟨rfl, m1, hm1, hL6, hF6⟩
            have hB6 := hBU.trans (hF6.below (b := w.heap.size) hfp hBU.size)
            have hm6 := turn_ge hm hm1 hBU.size
            obtain ⟨d6, E6⟩ := p
            obtain ⟨hA6, rfl, hoff⟩ := hst
            have hdd := dead_any _ r f m1 cap d6 hL6
            rw [hoff] at hdd
            clear hoff
            unfold armE
            by_cases hk1 : done + 1 < K
            · have z1 : (done : Int) + 1 < K := by omega
              have z2 : decide (K ≤ done + 1) = false := by simp; omega
              rw [z2] at hdd
              rw [if_pos hk1]
              go_wp2_with (go_at_call 20; refine hdd.mono ?_; rintro e w' ⟨rfl, rfl⟩)
              go_roundw
              case rel => exact ⟨done + 1, j + 1, d6, m1, by omega, by omega, by omega, by go_num, by go_num, hA6, hL6, hB6, hm6⟩
              case measure => simp [intOf]; omega
            · have z1 : ¬ (done : Int) + 1 < K := by omega
              have z2 : decide (K ≤ done + 1) = true := by simp; omega
              rw [z2] at hdd
              rw [if_neg hk1]
              go_wp2_with (go_at_call 20; refine hdd.mono ?_; rintro e w' ⟨rfl, rfl⟩)
              go_roundw
              case rel => exact ⟨done + 1, j + 1, d6, m1, by omega, by omega, by omega, by go_num, by go_num, hA6, hL6, hB6, hm6⟩
              case measure => simp [intOf]; omega
          · go_wp2
            go_roundw
            case rel => exact ⟨done, j + 1, d, m, by omega, by omega, by omega, rfl, by go_num, hA, hLU, hBU, hm⟩
            case measure => simp [intOf]; omega
    · obtain ⟨hn8, hcase⟩ := hA
      have hcnt := counts_any _ r f m cap d hL
      have hfp := fp_ge hr hf hm
      obtain ⟨X, hX⟩ : ∃ X, X = d.writes := ⟨_, rfl⟩
      obtain ⟨Y, hY⟩ : ∃ Y, Y = d.flushes := ⟨_, rfl⟩
      rw [← hX, ← hY] at hcase hsm hcnt
      clear hX
      have HY : Hid (Y = d.flushes) := hY
      clear hY
      rcases hcase with ⟨h1, ho, ha, hwf⟩ | ⟨h1, ho, ha, hwf⟩
      · have z1 : (done : Int) < K := by omega
        have z2 : ¬ (K : Int) ≤ done := by omega
        have z5 : min (done : Int) (K : Int) = done := by omega
        have z3 : (X : Int) + (Y : Int) = (done : Int) := by omega
        have z4 : IntKind.i64.wrap (done : Int) = (done : Int) := by rw [IntKind.wrap_i64]; omega
        clear ha hwf
        by_cases hjn : j < n
        · have y1 : (j : Int) < n := by omega
          have y2 : ¬ (j : Int) < 300 := by omega
          go_wp2_with fail
          go_at_call 27; refine hcnt.mono ?_; rintro e v1 ⟨rfl, k1⟩
          have hL2 := hL.next k1
          have hB2 := hB.trans (k1.mono hB.size)
          go_wp2_with fail
          go_at_call 21; refine (on_not _ r f m cap d hL2 ho none 0 0).mono ?_; rintro e w' ⟨rfl, rfl⟩
          go_wp2_with fail
          go_at_call 12; refine (works_any _).mono ?_; rintro e v3 ⟨rfl, k3⟩
          go_wp2_with fail
          go_ret
          exact ⟨rfl, hB2.trans (k3.mono hB2.size)⟩
        · have y1 : ¬ (j : Int) < n := by omega
          go_wp2_with fail
          go_at_call 27; refine hcnt.mono ?_; rintro e v1 ⟨rfl, k1⟩
          have hL2 := hL.next k1
          have hB2 := hB.trans (k1.mono hB.size)
          go_wp2_with fail
          go_at_call 21; refine (on_not _ r f m cap d hL2 ho none 0 0).mono ?_; rintro e w' ⟨rfl, rfl⟩
          go_wp2_with fail
          go_at_call 12; refine (works_any _).mono ?_; rintro e v3 ⟨rfl, k3⟩
          go_wp2_with fail
          go_ret
          exact ⟨rfl, hB2.trans (k3.mono hB2.size)⟩
      · have z1 : ¬ (done : Int) < K := by omega
        have z2 : (K : Int) ≤ done := by omega
        have z5 : min (done : Int) (K : Int) = K := by omega
        have z3 : (X : Int) + (Y : Int) = (K : Int) := by omega
        have z4 : IntKind.i64.wrap (K : Int) = (K : Int) := by rw [IntKind.wrap_i64]; omega
        rw [HY.out] at hsm
        clear hwf
        by_cases hjn : j < n
        · have y1 : (j : Int) < n := by omega
          have y2 : ¬ (j : Int) < 300 := by omega
          go_wp2_with fail
          go_at_call 27; refine hcnt.mono ?_; rintro e v1 ⟨rfl, k1⟩
          have hL2 := hL.next k1
          have hB2 := hB.trans (k1.mono hB.size)
          go_wp2_with fail
          go_at_call 26; refine (read_bad _ r f m cap d hL2 0 6 (by unfold St.no; rw [if_pos ho]) (by decide)).mono ?_; rintro e v2 ⟨rfl, k2⟩
          have hL3 := hL2.next k2
          have hB3 := hB2.trans (k2.mono hB2.size)
          go_wp2_with (refine store_sec rfl _ _ rfl v2.heap.size zs zs (Blk.new v2 39 (sb zs)) rfl rfl ?_; intro _)
          obtain ⟨_, k4⟩ := boxed v2 zs
          have hL4 := hL3.next k4
          have hB4 := hB3.trans (k4.mono hB3.size)
          go_at_call 21; refine (on_ok _ r f m cap d hL4 ho none 0 0 [] ⟨rfl, fun _ => rfl, fun _ h => (by cases h), fun _ h => (by cases h)⟩ (fun _ h => (by cases h)) (by decide)).mono ?_; rintro e v5 ⟨rfl, m5, hm5, hL5, hF5⟩
          have hB5 := hB4.trans (hF5.below (b := w.heap.size) hfp hB4.size)
          have hm6 := turn_ge hm hm5 hB4.size
          go_wp2_with fail
          go_at_call 23; refine (flush_ok _ r f m5 cap (d.on []) hL5 rfl ha hsm.2).mono ?_; rintro e v6 ⟨rfl, m6, hm7, hL6, hF6⟩
          have hB6 := hB5.trans (hF6.below (b := w.heap.size) (fp_ge hr hf hm6) hB5.size)
          go_wp2_with fail
          go_at_call 12; refine (works_any _).mono ?_; rintro e v7 ⟨rfl, k7⟩
          go_wp2_with fail
          go_ret
          exact ⟨rfl, hB6.trans (k7.mono hB6.size)⟩
        · have y1 : ¬ (j : Int) < n := by omega
          go_wp2_with fail
          go_at_call 27; refine hcnt.mono ?_; rintro e v1 ⟨rfl, k1⟩
          have hL2 := hL.next k1
          have hB2 := hB.trans (k1.mono hB.size)
          go_wp2_with fail
          go_at_call 26; refine (read_bad _ r f m cap d hL2 0 6 (by unfold St.no; rw [if_pos ho]) (by decide)).mono ?_; rintro e v2 ⟨rfl, k2⟩
          have hL3 := hL2.next k2
          have hB3 := hB2.trans (k2.mono hB2.size)
          go_wp2_with (refine store_sec rfl _ _ rfl v2.heap.size zs zs (Blk.new v2 39 (sb zs)) rfl rfl ?_; intro _)
          obtain ⟨_, k4⟩ := boxed v2 zs
          have hL4 := hL3.next k4
          have hB4 := hB3.trans (k4.mono hB3.size)
          go_at_call 21; refine (on_ok _ r f m cap d hL4 ho none 0 0 [] ⟨rfl, fun _ => rfl, fun _ h => (by cases h), fun _ h => (by cases h)⟩ (fun _ h => (by cases h)) (by decide)).mono ?_; rintro e v5 ⟨rfl, m5, hm5, hL5, hF5⟩
          have hB5 := hB4.trans (hF5.below (b := w.heap.size) hfp hB4.size)
          have hm6 := turn_ge hm hm5 hB4.size
          go_wp2_with fail
          go_at_call 23; refine (flush_ok _ r f m5 cap (d.on []) hL5 rfl ha hsm.2).mono ?_; rintro e v6 ⟨rfl, m6, hm7, hL6, hF6⟩
          have hB6 := hB5.trans (hF6.below (b := w.heap.size) (fp_ge hr hf hm6) hB5.size)
          go_wp2_with fail
          go_at_call 12; refine (works_any _).mono ?_; rintro e v7 ⟨rfl, k7⟩
          go_wp2_with fail
          go_ret
          exact ⟨rfl, hB6.trans (k7.mono hB6.size)⟩
end Go.Proofs.Yteimfnnkjhopdaa
