/- The record that lies behind the last one, if one does. -/
import Derived.Test.YtndfhmlcfaaaiaaGreatDoorImIn
import Derived.Test.YtndfhmlcfaaaiaaGreatDoorComR
namespace Go.Proofs.YtndfhmlcfaaaiaaGreatDoor
open Go.RowKit

theorem toI_cand (F : Nat → Sec) (u n : Nat) : toI (cand F u n) = (List.range n).map (cdI fun i => F (2 + u + i)) := by
  unfold toI cand
  rw [List.map_map]
  refine List.map_congr_left fun k _ => ?_
  simp only [Function.comp, cdI, Nat.add_zero, Nat.add_assoc]
def nxN (d : St) (x : Lg) : Nat := xin (d.at (2 + tot x.ws))
def nxW (d : St) (x : Lg) : List Im := cand d.at (tot x.ws) (nxN d x)
def nxOK (d : St) (x : Lg) : Prop := tot x.ws < x.L ∧ nxN d x ≠ 0 ∧ nxN d x ≤ 120 ∧ nxN d x + 2 ≤ x.L - tot x.ws ∧ okP x.H (toI (nxW d x)) ∧ sm (nxN d x + 2) (fun i => d.at (2 + tot x.ws + i)) (rf x.g x.ws.length (nxW d x))
instance (d : St) (x : Lg) : Decidable (nxOK d x) := by unfold nxOK; exact inferInstance
/-- The images of the record that lies behind the last one; none, if none does. -/
def nxt (d : St) (x : Lg) : List Im := if nxOK d x then nxW d x else []
theorem nxt_no {d : St} {x : Lg} (h : ¬ nxOK d x) : nxt d x = [] := if_neg h
theorem nxt_yes {d : St} {x : Lg} (h : nxOK d x) : nxt d x = nxW d x := if_pos h
/-- Images that are handed back: a row of the call's own. -/
def Nx (w w' : World) (v : Value) (W : List Im) : Prop := (W = [] ∧ v = .slice none 0 0) ∨ (W ≠ [] ∧ ∃ G cp, v = .slice (some ⟨G, 0, none⟩) W.length cp ∧ w.heap.size ≤ G ∧ ImR w' G (toI W))

structure NX (w v : World) (q r mm f m cap : Nat) (x : Lg) (d : St) (A k : Nat) (F : Nat → Sec) (G n : Nat) : Prop where
  dl : DL v q r mm f m cap x d
  a : Rw v A k F
  i : IRw v G n (cdI F)
  below : Below w.heap.size w v
section
variable {w v v' : World} {q r mm f m cap : Nat} {x : Lg} {d : St} {A k : Nat} {F : Nat → Sec} {G n : Nat}
theorem NX.next (h : NX w v q r mm f m cap x d A k F G n) (hb : Below v.heap.size v v') : NX w v' q r mm f m cap x d A k F G n := ⟨h.dl.next hb, h.a.same (hb.block A h.a.lt), h.i.same (hb.block G h.i.lt), h.below.trans (hb.mono h.below.size)⟩
theorem NX.drew (h : NX w v q r mm f m cap x d A k F G n) : NX w v.drew q r mm f m cap x d A k F G n := h.next (below_drw v)
end
theorem wf64n (z : Nat) (h : z < 4294967296) : (Lit.int .i64 (z : Int)).wf = true := wf64 z (by omega) (by omega)

set_option maxRecDepth 100000 in
set_option maxHeartbeats 600000 in
theorem next_any (w : World) (q r mm f m cap : Nat) (x : Lg) (d : St) (h : DL w q r mm f m cap x d) (hoff : d.off = false) :
    Calls Tryz.prog 80 #[.pointer (some ⟨q, 0, none⟩)] w fun e w' => ∃ v, e = .returned (.tuple #[v, .int .i64 0]) ∧ Nx w w' v (nxt d x) ∧ Below w.heap.size w w' := by
  have hL4 := h.l.L4
  have hus := h.l.used
  have hgn := h.l.gen
  have hrs := h.l.recs
  have c1 := h.l.c1
  have c6 := h.l.c6
  obtain ⟨R, hR⟩ : ∃ R, R = nxt d x := ⟨_, rfl⟩
  rw [← hR]
  have HR : Hid (R = nxt d x) := hR
  clear hR
  have hst := fun (U : World) (hU : DL U q r mm f m cap x d) (n : Nat) (h1 : 1 ≤ n) (hn : tot x.ws + n ≤ x.L) => stretch_any U q r mm f m cap x d hU n h1 hn hoff
  obtain ⟨F, hF⟩ : ∃ F : Nat → Sec, F = fun i => d.at (2 + tot x.ws + i) := ⟨_, rfl⟩
  rw [← hF] at hst
  have hN0 : nxN d x = xin (F 0) := by rw [hF]; rfl
  have hWI : toI (nxW d x) = (List.range (nxN d x)).map (cdI F) := by rw [hF]; exact toI_cand d.at (tot x.ws) (nxN d x)
  have hno1 : nxOK d x → tot x.ws < x.L ∧ nxN d x ≠ 0 ∧ nxN d x ≤ 120 ∧ nxN d x + 2 ≤ x.L - tot x.ws := fun h => ⟨h.1, h.2.1, h.2.2.1, h.2.2.2.1⟩
  have hno2 : nxOK d x → okP x.H (toI (nxW d x)) ∧ sm (nxN d x + 2) F (rf x.g x.ws.length (nxW d x)) := fun h => by rw [hF]; exact h.2.2.2.2
  have hyes : tot x.ws < x.L → nxN d x ≠ 0 → nxN d x ≤ 120 → nxN d x + 2 ≤ x.L - tot x.ws → okP x.H (toI (nxW d x)) → sm (nxN d x + 2) F (rf x.g x.ws.length (nxW d x)) → nxOK d x := fun a1 a2 a3 a4 a5 a6 => ⟨a1, a2, a3, a4, a5, by rw [hF] at a6; exact a6⟩
  have HW : Hid (toI (nxW d x) = (List.range (nxN d x)).map (cdI F)) := hWI
  obtain ⟨W, hW⟩ : ∃ W, W = nxW d x := ⟨_, rfl⟩
  rw [← hW] at hWI hno2 hyes
  have HWd : Hid (W = nxW d x) := hW
  obtain ⟨n, hn⟩ : ∃ n, n = nxN d x := ⟨_, rfl⟩
  rw [← hn] at hWI hno1 hno2 hyes hN0
  have HN : Hid (n = nxN d x) := hn
  have hWl : W.length = n := by rw [hW, hn]; exact cand_length _ _ _
  obtain ⟨u, hu⟩ : ∃ u, u = tot x.ws := ⟨_, rfl⟩
  rw [← hu] at c6 hus hst hno1 hyes hrs
  have HU : Hid (u = tot x.ws) := hu
  obtain ⟨s0, hs0⟩ : ∃ s0, s0 = F 0 := ⟨_, rfl⟩
  rw [← hs0] at hN0
  have HS0 : Hid (s0 = F 0) := hs0
  have hix := fun U => idxIn_any s0 U
  rw [← hN0] at hix
  have hnl : n < 4294967296 := by rw [hN0]; exact xin_lt s0
  have q2 : (x.L : Int) ≤ 4000 := by omega
  have q3 : (u : Int) ≤ (x.L : Int) := by omega
  obtain ⟨fr, hfr⟩ : ∃ fr, fr = x.L - u := ⟨_, rfl⟩
  have q1 : (x.L : Int) - (u : Int) = (fr : Int) := by omega
  have q4 : IntKind.i64.wrap (fr : Int) = (fr : Int) := by rw [IntKind.wrap_i64]; omega
  rw [← hfr] at hno1 hyes
  have HFR : Hid (fr = x.L - u) := hfr
  have hfru : fr ≤ x.L := by omega
  have hfx : u + fr = x.L := by omega
  clear hF hW hn hu hs0 hN0 hfr
  by_cases hf0 : fr = 0
  · have hno : ¬ nxOK d x := fun h => by have := hno1 h; omega
    subst hf0
    clear hWI hst hix
    go_enter Tryz.func80, Tryz.ntmps80
    go_wp2_with fail
    go_quiet (fail)
    go_wp2_with fail
    go_ret2
    exact ⟨_, rfl, .inl ⟨by rw [HR.out, nxt_no hno], rfl⟩, ⟨rfl, rfl, rfl, Nat.le_refl _, fun _ _ => rfl⟩⟩
  have hf1 : ¬ (fr : Int) = 0 := by omega
  have hst1 : ∀ U, DL U q r mm f m cap x d → Calls Tryz.prog 105 #[.pointer (some ⟨q, 0, none⟩), .int .i64 1] U fun e w' => ∃ G cp, e = .returned (.tuple #[.slice (some ⟨G, 0, none⟩) 1 cp, .int .i64 0]) ∧ U.heap.size ≤ G ∧ Rw w' G 1 F ∧ Below U.heap.size U w' := fun U hU => hst U hU 1 (by omega) (by omega)
  have hcv : IntKind.i64.wrap (n : Int) = (n : Int) := by rw [IntKind.wrap_i64]; omega
  have hcv2 : IntKind.i64.wrap ((n : Int) + 2) = (n : Int) + 2 := by rw [IntKind.wrap_i64]; omega
  have hcv3 : IntKind.i64.wrap ((fr : Int) - 2) = (fr : Int) - 2 := by rw [IntKind.wrap_i64]; omega
  go_enter Tryz.func80, Tryz.ntmps80
  go_wp2_with fail
  go_quiet (fail)
  have hq : Below w.heap.size w (w.drewN nq) := ⟨rfl, rfl, rfl, Nat.le_refl _, fun _ _ => rfl⟩
  obtain ⟨w0, hw0⟩ : ∃ u, u = w.drewN nq := ⟨_, rfl⟩
  rw [← hw0] at hq ⊢
  clear hw0
  go_upto_region 8 with (first
    | (go_at_call 105; refine (hst1 _ (h.next hq)).mono ?_; rintro e w1 ⟨A1, cp1, rfl, hA1, hR1, kb1⟩
       have hrg : w1.rangeAt A1 0 (sb s0) := by rw [HS0.out]; have := hR1.range (i := 0) (by omega); rwa [Nat.zero_mul] at this)
    | (refine wpList_load_mid rfl 26 _ rfl A1 0 rfl (sb s0) _ hrg Tryz.underlying26 rfl (by rw [sb_length]; kernel_rfl) ?_)
    | (go_at_call 106; refine (hix _).mono ?_; rintro e w2 ⟨rfl, kb2⟩))
  have hD2 := (h.next hq).next (kb1.trans (kb2.mono kb1.size))
  have kq2 : Below w.heap.size w w2 := (hq.trans (kb1.mono hq.size)).trans (kb2.mono (Nat.le_trans hq.size kb1.size))
  clear hR1 hrg hA1 kb1 kb2 hst1 hix
  by_cases hn0 : n = 0
  · have hno : ¬ nxOK d x := fun h => (hno1 h).2.1 hn0
    clear HN
    subst hn0
    go_wp2_with fail
    go_ret2
    exact ⟨_, rfl, .inl ⟨by rw [HR.out, nxt_no hno], rfl⟩, kq2⟩
  have m0 : ¬ (n : Int) = 0 := by omega
  have m0b : ((n : Int) == 0) = false := by rw [beq_eq_false_iff_ne]; exact m0
  by_cases hn1 : 120 < n
  · have hno : ¬ nxOK d x := fun h => by have := (hno1 h).2.2.1; omega
    have m1 : (120 : Int) < (n : Int) := by omega
    go_wp2_with fail
    go_ret2
    exact ⟨_, rfl, .inl ⟨by rw [HR.out, nxt_no hno], rfl⟩, kq2⟩
  have m1 : ¬ (120 : Int) < (n : Int) := by omega
  by_cases hn2 : fr < n + 2
  · have hno : ¬ nxOK d x := fun h => by have := (hno1 h).2.2.2; omega
    have m2 : (fr : Int) - 2 < (n : Int) := by omega
    go_wp2_with fail
    go_ret2
    exact ⟨_, rfl, .inl ⟨by rw [HR.out, nxt_no hno], rfl⟩, kq2⟩
  have m2 : ¬ (fr : Int) - 2 < (n : Int) := by omega
  have hst2 : ∀ U, DL U q r mm f m cap x d → Calls Tryz.prog 105 #[.pointer (some ⟨q, 0, none⟩), .int .i64 ((n : Int) + 2)] U fun e w' => ∃ G cp, e = .returned (.tuple #[.slice (some ⟨G, 0, none⟩) (n + 2) cp, .int .i64 0]) ∧ U.heap.size ≤ G ∧ Rw w' G (n + 2) F ∧ Below U.heap.size U w' := fun U hU => by
    have := hst U hU (n + 2) (by omega) (by omega)
    rwa [show ((n + 2 : Nat) : Int) = (n : Int) + 2 by omega] at this
  go_upto_region 14 with (first
    | (go_at_call 105; refine (hst2 _ hD2).mono ?_; rintro e w3 ⟨A, cp3, rfl, hA3, hR3, kb3⟩)
    | (go_at_call 107; refine (imagesIn_any _ A n cp3 F hR3 (by omega) (by omega)).mono ?_; rintro e w4 ⟨G, cp4, rfl, hG4, hI4, kb4⟩))
  have h3s := kb3.size
  have h4s := kb4.size
  have h2s := kq2.size
  have hX : NX w w4 q r mm f m cap x d A (n + 2) F G n := ⟨(hD2.next kb3).next kb4, hR3.same (kb4.block A hR3.lt), hI4, (kq2.trans (kb3.mono h2s)).trans (kb4.mono (Nat.le_trans h2s h3s))⟩
  have hGw : w.heap.size ≤ G := by omega
  refine wp_region_to (fun v => NX w v q r mm f m cap x d A (n + 2) F G n) 22 (by kernel_rfl) ?_
  have hS0 := hX.drew
  clear hX hD2 kq2 hR3 hI4 hst2 hst kb3 kb4 h3s h4s h2s hA3 hG4 hq h
  obtain ⟨v0, hv0⟩ : ∃ v, v = w4.drew := ⟨_, rfl⟩
  rw [← hv0] at hS0 ⊢
  clear hv0
  have hnm : ∀ U, IRw U G n (cdI F) → Calls Tryz.prog 50 #[.agg (ly (x.L : Int) (x.H : Int)).toArray, .slice (some ⟨G, 0, none⟩) n cp4] U fun e w' => e = .returned (.bool (decide (okP x.H (toI W)))) ∧ Below U.heap.size U w' := fun U hU => by
    have h1 := names_any U x.L x.H (some ⟨G, 0, none⟩) cp4 (toI W) (.inr ⟨G, rfl, by rw [hWI]; exact hU.im⟩) (by rw [toI_length, hWl]; omega) (fun y hy => by
      rw [hWI] at hy
      obtain ⟨k, hk, rfl⟩ := List.mem_map.1 hy
      exact wf64n _ (nmIn_lt _ k (by have := List.mem_range.1 hk; omega)))
    rwa [toI_length, hWl] at h1
  have hrc : ∀ U, IRw U G n (cdI F) → Tabs U → Calls Tryz.prog 81 #[.int .u64 (x.g : Int), .int .u64 (x.ws.length : Int), .slice (some ⟨G, 0, none⟩) n cp4] U fun e w' => ∃ v, e = .returned v ∧ w'.ownsRow U.heap.size 26 512 v (n + 2) (flat (n + 2) (rf x.g x.ws.length W)) ∧ Below U.heap.size U w' := fun U hU hT => by
    have h1 := recordOf_any U x.g x.ws.length (some ⟨G, 0, none⟩) cp4 W (.inr ⟨G, rfl, by rw [hWI]; exact hU.im⟩) hT (by rw [hWl]; omega) (fun y hy => by
      have hy2 : ((y.1 : Int), y.2) ∈ toI W := List.mem_map.2 ⟨y, hy, rfl⟩
      rw [hWI] at hy2
      obtain ⟨k, hk, he⟩ := List.mem_map.1 hy2
      have e1 : ((nmIn (pin (F 0)) k : Nat) : Int) = (y.1 : Int) := congrArg Prod.fst he
      have := nmIn_lt (pin (F 0)) k (by have := List.mem_range.1 hk; omega)
      omega) (by omega) (by omega)
    rwa [hWl] at h1
  have heq := fun (U : World) (B c2 : Nat) (hA : Rw U A (n + 2) F) (hB : Rw U B (n + 2) (rf x.g x.ws.length W)) => equal_any U A B (n + 2) cp3 c2 F (rf x.g x.ws.length W) hA hB (by omega)
  have hsB : ∀ vv, NX w vv q r mm f m cap x d A (n + 2) F G n → Below w.heap.size w vv := fun vv h => h.below
  by_cases hok : okP x.H (toI W)
  · rw [decide_eq_true hok] at hnm
    by_cases hsm : sm (n + 2) F (rf x.g x.ws.length W)
    · rw [decide_eq_true hsm] at heq
      have hy := hyes (by omega) hn0 (by omega) (by omega) hok hsm
      refine wpTo_take (i := 0) (v := ?v0nb) (show _ = some _ by simp only [List.getElem?_toArray, List.getElem?_cons_zero]; exact rfl) (by kernel_rfl) (by kernel_rfl) (by kernel_rfl) (by kernel_rfl) (by exact fun _ _ _ h => h) (Or.inl ⟨by rfl, ?hy0nb⟩) hS0 ?r0nb
      case hy0nb => (intro w hSw; (try dsimp only at hSw); go_simp; try with_reducible rfl)
      (try simp only [Act.put]); (try simp only [List.setIfInBounds_toArray]); (repeat (first | simp only [List.set_cons_succ] | simp only [List.set_cons_zero]))
      refine wpTo_take (i := 1) (v := ?v1nb) (show _ = some _ by simp only [List.getElem?_toArray, List.getElem?_cons_succ, List.getElem?_cons_zero]; exact rfl) (by kernel_rfl) (by kernel_rfl) (by kernel_rfl) (by kernel_rfl) (by exact fun _ _ _ h => h) (Or.inl ⟨by rfl, ?hy1nb⟩) hS0 ?r1nb
      case hy1nb => (intro w hSw; (try dsimp only at hSw); go_simp; try with_reducible rfl)
      (try simp only [Act.put]); (try simp only [List.setIfInBounds_toArray]); (repeat (first | simp only [List.set_cons_succ] | simp only [List.set_cons_zero]))
      refine wpTo_take (i := 2) (v := ?v2nb) (show _ = some _ by simp only [List.getElem?_toArray, List.getElem?_cons_succ, List.getElem?_cons_zero]; exact rfl) (by kernel_rfl) (by kernel_rfl) (by kernel_rfl) (by kernel_rfl) (by exact fun _ _ _ h => h) (Or.inl ⟨by rfl, ?hy2nb⟩) hS0 ?r2nb
      case hy2nb => (intro w hSw; (try dsimp only at hSw); go_simp; try with_reducible rfl)
      (try simp only [Act.put]); (try simp only [List.setIfInBounds_toArray]); (repeat (first | simp only [List.set_cons_succ] | simp only [List.set_cons_zero]))
      refine wpTo_take (i := 3) (show _ = some _ by simp only [List.getElem?_toArray, List.getElem?_cons_succ, List.getElem?_cons_zero]; exact rfl) (by kernel_rfl) (by kernel_rfl) (by kernel_rfl) (by kernel_rfl) (by exact fun _ _ _ h => h) (yieldsIf_load_mid (by rfl) 102 (.tmp 62) rfl q 1 rfl (ly (x.L : Int) (x.H : Int)) _ (fun v h => (NX.dl h).l.ly) Tryz.underlying102 rfl (by kernel_rfl)) hS0 ?_
      (try simp only [Act.put]); (try simp only [List.setIfInBounds_toArray]); (repeat (first | simp only [List.set_cons_succ] | simp only [List.set_cons_zero]))
      refine wpTo_take (i := 4) (v := ?v4nb) (show _ = some _ by simp only [List.getElem?_toArray, List.getElem?_cons_succ, List.getElem?_cons_zero]; exact rfl) (by kernel_rfl) (by kernel_rfl) (by kernel_rfl) (by kernel_rfl) (by exact fun _ _ _ h => h) (Or.inl ⟨by rfl, ?hy4nb⟩) hS0 ?r4nb
      case hy4nb => (intro w hSw; (try dsimp only at hSw); go_simp; try with_reducible rfl)
      (try simp only [Act.put]); (try simp only [List.setIfInBounds_toArray]); (repeat (first | simp only [List.set_cons_succ] | simp only [List.set_cons_zero]))
      refine wpTo_one (i := 5) (by kernel_rfl) (show _ = some _ by simp only [List.getElem?_toArray, List.getElem?_cons_succ, List.getElem?_cons_zero]; exact rfl) (fun K hK => ?_)
      go_simp
      go_at_call 50; refine (hnm _ (NX.i hS0)).mono ?_; rintro e v1 ⟨rfl, kb1⟩
      (try simp only [])
      have hS1 := hS0.next kb1
      refine hK.out _ _ (hS1) (fun _ => ?_)
      clear hK K
      (try simp only [Act.put]); (try simp only [List.setIfInBounds_toArray]); (repeat (first | simp only [List.set_cons_succ] | simp only [List.set_cons_zero]))
      refine wpTo_take (i := 6) (v := ?v6nb) (show _ = some _ by simp only [List.getElem?_toArray, List.getElem?_cons_succ, List.getElem?_cons_zero]; exact rfl) (by kernel_rfl) (by kernel_rfl) (by kernel_rfl) (by kernel_rfl) (by exact fun _ _ _ h => h) (Or.inl ⟨by rfl, ?hy6nb⟩) hS1 ?r6nb
      case hy6nb => (intro w hSw; (try dsimp only at hSw); go_simp; try with_reducible rfl)
      (try simp only [Act.put]); (try simp only [List.setIfInBounds_toArray]); (repeat (first | simp only [List.set_cons_succ] | simp only [List.set_cons_zero]))
      refine wpTo_take (i := 7) (v := ?v7nb) (show _ = some _ by simp only [List.getElem?_toArray, List.getElem?_cons_succ, List.getElem?_cons_zero]; exact rfl) (by kernel_rfl) (by kernel_rfl) (by kernel_rfl) (by kernel_rfl) (by exact fun _ _ _ h => h) (Or.inl ⟨by rfl, ?hy7nb⟩) hS1 ?r7nb
      case hy7nb => (intro w hSw; (try dsimp only at hSw); go_simp; try with_reducible rfl)
      (try simp only [Act.put]); (try simp only [List.setIfInBounds_toArray]); (repeat (first | simp only [List.set_cons_succ] | simp only [List.set_cons_zero]))
      refine wpTo_take (i := 8) (v := ?v8nb) (show _ = some _ by simp only [List.getElem?_toArray, List.getElem?_cons_succ, List.getElem?_cons_zero]; exact rfl) (by kernel_rfl) (by kernel_rfl) (by kernel_rfl) (by kernel_rfl) (by exact fun _ _ _ h => h) (Or.inl ⟨by rfl, ?hy8nb⟩) hS1 ?r8nb
      case hy8nb => (intro w hSw; (try dsimp only at hSw); go_simp; try with_reducible rfl)
      (try simp only [Act.put]); (try simp only [List.setIfInBounds_toArray]); (repeat (first | simp only [List.set_cons_succ] | simp only [List.set_cons_zero]))
      refine wpTo_take (i := 9) (v := ?v9nb) (show _ = some _ by simp only [List.getElem?_toArray, List.getElem?_cons_succ, List.getElem?_cons_zero]; exact rfl) (by kernel_rfl) (by kernel_rfl) (by kernel_rfl) (by kernel_rfl) (by exact fun _ _ _ h => h) (Or.inl ⟨by rfl, ?hy9nb⟩) hS1 ?r9nb
      case hy9nb => (intro w hSw; (try dsimp only at hSw); go_simp; try with_reducible rfl)
      (try simp only [Act.put]); (try simp only [List.setIfInBounds_toArray]); (repeat (first | simp only [List.set_cons_succ] | simp only [List.set_cons_zero]))
      refine wpTo_take (i := 10) (v := ?v10nb) (show _ = some _ by simp only [List.getElem?_toArray, List.getElem?_cons_succ, List.getElem?_cons_zero]; exact rfl) (by kernel_rfl) (by kernel_rfl) (by kernel_rfl) (by kernel_rfl) (by exact fun _ _ _ h => h) (Or.inl ⟨by rfl, ?hy10nb⟩) hS1 ?r10nb
      case hy10nb => (intro w hSw; (try dsimp only at hSw); go_simp; try with_reducible rfl)
      (try simp only [Act.put]); (try simp only [List.setIfInBounds_toArray]); (repeat (first | simp only [List.set_cons_succ] | simp only [List.set_cons_zero]))
      refine wpTo_take (i := 11) (v := ?v11nb) (show _ = some _ by simp only [List.getElem?_toArray, List.getElem?_cons_succ, List.getElem?_cons_zero]; exact rfl) (by kernel_rfl) (by kernel_rfl) (by kernel_rfl) (by kernel_rfl) (by exact fun _ _ _ h => h) (Or.inl ⟨by rfl, ?hy11nb⟩) hS1 ?r11nb
      case hy11nb => (intro w hSw; (try dsimp only at hSw); go_simp; try with_reducible rfl)
      (try simp only [Act.put]); (try simp only [List.setIfInBounds_toArray]); (repeat (first | simp only [List.set_cons_succ] | simp only [List.set_cons_zero]))
      refine wpTo_take (i := 12) (v := ?v12nb) (show _ = some _ by simp only [List.getElem?_toArray, List.getElem?_cons_succ, List.getElem?_cons_zero]; exact rfl) (by kernel_rfl) (by kernel_rfl) (by kernel_rfl) (by kernel_rfl) (by exact fun _ _ _ h => h) (Or.inl ⟨by rfl, ?hy12nb⟩) hS1 ?r12nb
      case hy12nb => (intro w hSw; (try dsimp only at hSw); have hc3 := (NX.dl hSw).l.c3; go_simp; try with_reducible rfl)
      (try simp only [Act.put]); (try simp only [List.setIfInBounds_toArray]); (repeat (first | simp only [List.set_cons_succ] | simp only [List.set_cons_zero]))
      refine wpTo_take (i := 13) (v := ?v13nb) (show _ = some _ by simp only [List.getElem?_toArray, List.getElem?_cons_succ, List.getElem?_cons_zero]; exact rfl) (by kernel_rfl) (by kernel_rfl) (by kernel_rfl) (by kernel_rfl) (by exact fun _ _ _ h => h) (Or.inl ⟨by rfl, ?hy13nb⟩) hS1 ?r13nb
      case hy13nb => (intro w hSw; (try dsimp only at hSw); go_simp; try with_reducible rfl)
      (try simp only [Act.put]); (try simp only [List.setIfInBounds_toArray]); (repeat (first | simp only [List.set_cons_succ] | simp only [List.set_cons_zero]))
      refine wpTo_take (i := 14) (v := ?v14nb) (show _ = some _ by simp only [List.getElem?_toArray, List.getElem?_cons_succ, List.getElem?_cons_zero]; exact rfl) (by kernel_rfl) (by kernel_rfl) (by kernel_rfl) (by kernel_rfl) (by exact fun _ _ _ h => h) (Or.inl ⟨by rfl, ?hy14nb⟩) hS1 ?r14nb
      case hy14nb => (intro w hSw; (try dsimp only at hSw); go_simp; try with_reducible rfl)
      (try simp only [Act.put]); (try simp only [List.setIfInBounds_toArray]); (repeat (first | simp only [List.set_cons_succ] | simp only [List.set_cons_zero]))
      refine wpTo_take (i := 15) (v := ?v15nb) (show _ = some _ by simp only [List.getElem?_toArray, List.getElem?_cons_succ, List.getElem?_cons_zero]; exact rfl) (by kernel_rfl) (by kernel_rfl) (by kernel_rfl) (by kernel_rfl) (by exact fun _ _ _ h => h) (Or.inl ⟨by rfl, ?hy15nb⟩) hS1 ?r15nb
      case hy15nb => (intro w hSw; (try dsimp only at hSw); go_simp; try with_reducible rfl)
      (try simp only [Act.put]); (try simp only [List.setIfInBounds_toArray]); (repeat (first | simp only [List.set_cons_succ] | simp only [List.set_cons_zero]))
      refine wpTo_take (i := 16) (v := ?v16nb) (show _ = some _ by simp only [List.getElem?_toArray, List.getElem?_cons_succ, List.getElem?_cons_zero]; exact rfl) (by kernel_rfl) (by kernel_rfl) (by kernel_rfl) (by kernel_rfl) (by exact fun _ _ _ h => h) (Or.inl ⟨by rfl, ?hy16nb⟩) hS1 ?r16nb
      case hy16nb => (intro w hSw; (try dsimp only at hSw); have hc5 := (NX.dl hSw).l.c5; go_simp; try with_reducible rfl)
      (try simp only [Act.put]); (try simp only [List.setIfInBounds_toArray]); (repeat (first | simp only [List.set_cons_succ] | simp only [List.set_cons_zero]))
      refine wpTo_take (i := 17) (v := ?v17nb) (show _ = some _ by simp only [List.getElem?_toArray, List.getElem?_cons_succ, List.getElem?_cons_zero]; exact rfl) (by kernel_rfl) (by kernel_rfl) (by kernel_rfl) (by kernel_rfl) (by exact fun _ _ _ h => h) (Or.inl ⟨by rfl, ?hy17nb⟩) hS1 ?r17nb
      case hy17nb => (intro w hSw; (try dsimp only at hSw); go_simp; try with_reducible rfl)
      (try simp only [Act.put]); (try simp only [List.setIfInBounds_toArray]); (repeat (first | simp only [List.set_cons_succ] | simp only [List.set_cons_zero]))
      refine wpTo_one (i := 18) (by kernel_rfl) (show _ = some _ by simp only [List.getElem?_toArray, List.getElem?_cons_succ, List.getElem?_cons_zero]; exact rfl) (fun K hK => ?_)
      go_simp
      go_at_call 81; refine (hrc _ (NX.i hS1) (NX.dl hS1).t).mono ?_; rintro e v2 ⟨vr, rfl, hown, kb2⟩
      obtain ⟨G2, cp2, rfl, hG2, hR2⟩ := row_of_own hown (by omega)
      (try simp only [])
      have hS2 := hS1.next kb2
      refine hK.out _ _ (hS2) (fun _ => ?_)
      clear hK K
      (try simp only [Act.put]); (try simp only [List.setIfInBounds_toArray]); (repeat (first | simp only [List.set_cons_succ] | simp only [List.set_cons_zero]))
      refine wpTo_one (i := 19) (by kernel_rfl) (show _ = some _ by simp only [List.getElem?_toArray, List.getElem?_cons_succ, List.getElem?_cons_zero]; exact rfl) (fun K hK => ?_)
      go_simp
      go_at_call 108; refine (heq _ _ _ (NX.a hS2) hR2).mono ?_; rintro e v3 ⟨rfl, kb3⟩
      (try simp only [])
      have hS3 := hS2.next kb3
      refine hK.out _ _ (hS3) (fun _ => ?_)
      clear hK K
      (try simp only [Act.put]); (try simp only [List.setIfInBounds_toArray]); (repeat (first | simp only [List.set_cons_succ] | simp only [List.set_cons_zero]))
      refine wpTo_take (i := 20) (v := ?v20nb) (show _ = some _ by simp only [List.getElem?_toArray, List.getElem?_cons_succ, List.getElem?_cons_zero]; exact rfl) (by kernel_rfl) (by kernel_rfl) (by kernel_rfl) (by kernel_rfl) (by exact fun _ _ _ h => h) (Or.inl ⟨by rfl, ?hy20nb⟩) hS3 ?r20nb
      case hy20nb => (intro w hSw; (try dsimp only at hSw); go_simp; try with_reducible rfl)
      (try simp only [Act.put]); (try simp only [List.setIfInBounds_toArray]); (repeat (first | simp only [List.set_cons_succ] | simp only [List.set_cons_zero]))
      refine wpTo_take (i := 21) (v := ?v21nb) (show _ = some _ by simp only [List.getElem?_toArray, List.getElem?_cons_succ, List.getElem?_cons_zero]; exact rfl) (by kernel_rfl) (by kernel_rfl) (by kernel_rfl) (by kernel_rfl) (by exact fun _ _ _ h => h) (Or.inl ⟨by rfl, ?hy21nb⟩) hS3 ?r21nb
      case hy21nb => (intro w hSw; (try dsimp only at hSw); go_simp; try with_reducible rfl)
      (try simp only [Act.put]); (try simp only [List.setIfInBounds_toArray]); (repeat (first | simp only [List.set_cons_succ] | simp only [List.set_cons_zero]))
      refine wpTo_done (by kernel_rfl) ?_
      go_wp2_with fail
      go_ret2
      have hb3 := hS3.below
      refine ⟨_, rfl, .inr ⟨?_, G, cp4, ?_, hGw, ?_⟩, hb3⟩
      · rw [HR.out, nxt_yes hy, ← HWd.out]; intro e; rw [e] at hWl; exact hn0 hWl.symm
      · rw [HR.out, nxt_yes hy, ← HWd.out, hWl]; rfl
      · rw [HR.out, nxt_yes hy, ← HWd.out, hWI]; exact hS3.i.im
    · have hno : ¬ nxOK d x := fun h => hsm (hno2 h).2
      rw [decide_eq_false hsm] at heq
      refine wpTo_take (i := 0) (v := ?v0nc) (show _ = some _ by simp only [List.getElem?_toArray, List.getElem?_cons_zero]; exact rfl) (by kernel_rfl) (by kernel_rfl) (by kernel_rfl) (by kernel_rfl) (by exact fun _ _ _ h => h) (Or.inl ⟨by rfl, ?hy0nc⟩) hS0 ?r0nc
      case hy0nc => (intro w hSw; (try dsimp only at hSw); go_simp; try with_reducible rfl)
      (try simp only [Act.put]); (try simp only [List.setIfInBounds_toArray]); (repeat (first | simp only [List.set_cons_succ] | simp only [List.set_cons_zero]))
      refine wpTo_take (i := 1) (v := ?v1nc) (show _ = some _ by simp only [List.getElem?_toArray, List.getElem?_cons_succ, List.getElem?_cons_zero]; exact rfl) (by kernel_rfl) (by kernel_rfl) (by kernel_rfl) (by kernel_rfl) (by exact fun _ _ _ h => h) (Or.inl ⟨by rfl, ?hy1nc⟩) hS0 ?r1nc
      case hy1nc => (intro w hSw; (try dsimp only at hSw); go_simp; try with_reducible rfl)
      (try simp only [Act.put]); (try simp only [List.setIfInBounds_toArray]); (repeat (first | simp only [List.set_cons_succ] | simp only [List.set_cons_zero]))
      refine wpTo_take (i := 2) (v := ?v2nc) (show _ = some _ by simp only [List.getElem?_toArray, List.getElem?_cons_succ, List.getElem?_cons_zero]; exact rfl) (by kernel_rfl) (by kernel_rfl) (by kernel_rfl) (by kernel_rfl) (by exact fun _ _ _ h => h) (Or.inl ⟨by rfl, ?hy2nc⟩) hS0 ?r2nc
      case hy2nc => (intro w hSw; (try dsimp only at hSw); go_simp; try with_reducible rfl)
      (try simp only [Act.put]); (try simp only [List.setIfInBounds_toArray]); (repeat (first | simp only [List.set_cons_succ] | simp only [List.set_cons_zero]))
      refine wpTo_take (i := 3) (show _ = some _ by simp only [List.getElem?_toArray, List.getElem?_cons_succ, List.getElem?_cons_zero]; exact rfl) (by kernel_rfl) (by kernel_rfl) (by kernel_rfl) (by kernel_rfl) (by exact fun _ _ _ h => h) (yieldsIf_load_mid (by rfl) 102 (.tmp 62) rfl q 1 rfl (ly (x.L : Int) (x.H : Int)) _ (fun v h => (NX.dl h).l.ly) Tryz.underlying102 rfl (by kernel_rfl)) hS0 ?_
      (try simp only [Act.put]); (try simp only [List.setIfInBounds_toArray]); (repeat (first | simp only [List.set_cons_succ] | simp only [List.set_cons_zero]))
      refine wpTo_take (i := 4) (v := ?v4nc) (show _ = some _ by simp only [List.getElem?_toArray, List.getElem?_cons_succ, List.getElem?_cons_zero]; exact rfl) (by kernel_rfl) (by kernel_rfl) (by kernel_rfl) (by kernel_rfl) (by exact fun _ _ _ h => h) (Or.inl ⟨by rfl, ?hy4nc⟩) hS0 ?r4nc
      case hy4nc => (intro w hSw; (try dsimp only at hSw); go_simp; try with_reducible rfl)
      (try simp only [Act.put]); (try simp only [List.setIfInBounds_toArray]); (repeat (first | simp only [List.set_cons_succ] | simp only [List.set_cons_zero]))
      refine wpTo_one (i := 5) (by kernel_rfl) (show _ = some _ by simp only [List.getElem?_toArray, List.getElem?_cons_succ, List.getElem?_cons_zero]; exact rfl) (fun K hK => ?_)
      go_simp
      go_at_call 50; refine (hnm _ (NX.i hS0)).mono ?_; rintro e v1 ⟨rfl, kb1⟩
      (try simp only [])
      have hS1 := hS0.next kb1
      refine hK.out _ _ (hS1) (fun _ => ?_)
      clear hK K
      (try simp only [Act.put]); (try simp only [List.setIfInBounds_toArray]); (repeat (first | simp only [List.set_cons_succ] | simp only [List.set_cons_zero]))
      refine wpTo_take (i := 6) (v := ?v6nc) (show _ = some _ by simp only [List.getElem?_toArray, List.getElem?_cons_succ, List.getElem?_cons_zero]; exact rfl) (by kernel_rfl) (by kernel_rfl) (by kernel_rfl) (by kernel_rfl) (by exact fun _ _ _ h => h) (Or.inl ⟨by rfl, ?hy6nc⟩) hS1 ?r6nc
      case hy6nc => (intro w hSw; (try dsimp only at hSw); go_simp; try with_reducible rfl)
      (try simp only [Act.put]); (try simp only [List.setIfInBounds_toArray]); (repeat (first | simp only [List.set_cons_succ] | simp only [List.set_cons_zero]))
      refine wpTo_take (i := 7) (v := ?v7nc) (show _ = some _ by simp only [List.getElem?_toArray, List.getElem?_cons_succ, List.getElem?_cons_zero]; exact rfl) (by kernel_rfl) (by kernel_rfl) (by kernel_rfl) (by kernel_rfl) (by exact fun _ _ _ h => h) (Or.inl ⟨by rfl, ?hy7nc⟩) hS1 ?r7nc
      case hy7nc => (intro w hSw; (try dsimp only at hSw); go_simp; try with_reducible rfl)
      (try simp only [Act.put]); (try simp only [List.setIfInBounds_toArray]); (repeat (first | simp only [List.set_cons_succ] | simp only [List.set_cons_zero]))
      refine wpTo_take (i := 8) (v := ?v8nc) (show _ = some _ by simp only [List.getElem?_toArray, List.getElem?_cons_succ, List.getElem?_cons_zero]; exact rfl) (by kernel_rfl) (by kernel_rfl) (by kernel_rfl) (by kernel_rfl) (by exact fun _ _ _ h => h) (Or.inl ⟨by rfl, ?hy8nc⟩) hS1 ?r8nc
      case hy8nc => (intro w hSw; (try dsimp only at hSw); go_simp; try with_reducible rfl)
      (try simp only [Act.put]); (try simp only [List.setIfInBounds_toArray]); (repeat (first | simp only [List.set_cons_succ] | simp only [List.set_cons_zero]))
      refine wpTo_take (i := 9) (v := ?v9nc) (show _ = some _ by simp only [List.getElem?_toArray, List.getElem?_cons_succ, List.getElem?_cons_zero]; exact rfl) (by kernel_rfl) (by kernel_rfl) (by kernel_rfl) (by kernel_rfl) (by exact fun _ _ _ h => h) (Or.inl ⟨by rfl, ?hy9nc⟩) hS1 ?r9nc
      case hy9nc => (intro w hSw; (try dsimp only at hSw); go_simp; try with_reducible rfl)
      (try simp only [Act.put]); (try simp only [List.setIfInBounds_toArray]); (repeat (first | simp only [List.set_cons_succ] | simp only [List.set_cons_zero]))
      refine wpTo_take (i := 10) (v := ?v10nc) (show _ = some _ by simp only [List.getElem?_toArray, List.getElem?_cons_succ, List.getElem?_cons_zero]; exact rfl) (by kernel_rfl) (by kernel_rfl) (by kernel_rfl) (by kernel_rfl) (by exact fun _ _ _ h => h) (Or.inl ⟨by rfl, ?hy10nc⟩) hS1 ?r10nc
      case hy10nc => (intro w hSw; (try dsimp only at hSw); go_simp; try with_reducible rfl)
      (try simp only [Act.put]); (try simp only [List.setIfInBounds_toArray]); (repeat (first | simp only [List.set_cons_succ] | simp only [List.set_cons_zero]))
      refine wpTo_take (i := 11) (v := ?v11nc) (show _ = some _ by simp only [List.getElem?_toArray, List.getElem?_cons_succ, List.getElem?_cons_zero]; exact rfl) (by kernel_rfl) (by kernel_rfl) (by kernel_rfl) (by kernel_rfl) (by exact fun _ _ _ h => h) (Or.inl ⟨by rfl, ?hy11nc⟩) hS1 ?r11nc
      case hy11nc => (intro w hSw; (try dsimp only at hSw); go_simp; try with_reducible rfl)
      (try simp only [Act.put]); (try simp only [List.setIfInBounds_toArray]); (repeat (first | simp only [List.set_cons_succ] | simp only [List.set_cons_zero]))
      refine wpTo_take (i := 12) (v := ?v12nc) (show _ = some _ by simp only [List.getElem?_toArray, List.getElem?_cons_succ, List.getElem?_cons_zero]; exact rfl) (by kernel_rfl) (by kernel_rfl) (by kernel_rfl) (by kernel_rfl) (by exact fun _ _ _ h => h) (Or.inl ⟨by rfl, ?hy12nc⟩) hS1 ?r12nc
      case hy12nc => (intro w hSw; (try dsimp only at hSw); have hc3 := (NX.dl hSw).l.c3; go_simp; try with_reducible rfl)
      (try simp only [Act.put]); (try simp only [List.setIfInBounds_toArray]); (repeat (first | simp only [List.set_cons_succ] | simp only [List.set_cons_zero]))
      refine wpTo_take (i := 13) (v := ?v13nc) (show _ = some _ by simp only [List.getElem?_toArray, List.getElem?_cons_succ, List.getElem?_cons_zero]; exact rfl) (by kernel_rfl) (by kernel_rfl) (by kernel_rfl) (by kernel_rfl) (by exact fun _ _ _ h => h) (Or.inl ⟨by rfl, ?hy13nc⟩) hS1 ?r13nc
      case hy13nc => (intro w hSw; (try dsimp only at hSw); go_simp; try with_reducible rfl)
      (try simp only [Act.put]); (try simp only [List.setIfInBounds_toArray]); (repeat (first | simp only [List.set_cons_succ] | simp only [List.set_cons_zero]))
      refine wpTo_take (i := 14) (v := ?v14nc) (show _ = some _ by simp only [List.getElem?_toArray, List.getElem?_cons_succ, List.getElem?_cons_zero]; exact rfl) (by kernel_rfl) (by kernel_rfl) (by kernel_rfl) (by kernel_rfl) (by exact fun _ _ _ h => h) (Or.inl ⟨by rfl, ?hy14nc⟩) hS1 ?r14nc
      case hy14nc => (intro w hSw; (try dsimp only at hSw); go_simp; try with_reducible rfl)
      (try simp only [Act.put]); (try simp only [List.setIfInBounds_toArray]); (repeat (first | simp only [List.set_cons_succ] | simp only [List.set_cons_zero]))
      refine wpTo_take (i := 15) (v := ?v15nc) (show _ = some _ by simp only [List.getElem?_toArray, List.getElem?_cons_succ, List.getElem?_cons_zero]; exact rfl) (by kernel_rfl) (by kernel_rfl) (by kernel_rfl) (by kernel_rfl) (by exact fun _ _ _ h => h) (Or.inl ⟨by rfl, ?hy15nc⟩) hS1 ?r15nc
      case hy15nc => (intro w hSw; (try dsimp only at hSw); go_simp; try with_reducible rfl)
      (try simp only [Act.put]); (try simp only [List.setIfInBounds_toArray]); (repeat (first | simp only [List.set_cons_succ] | simp only [List.set_cons_zero]))
      refine wpTo_take (i := 16) (v := ?v16nc) (show _ = some _ by simp only [List.getElem?_toArray, List.getElem?_cons_succ, List.getElem?_cons_zero]; exact rfl) (by kernel_rfl) (by kernel_rfl) (by kernel_rfl) (by kernel_rfl) (by exact fun _ _ _ h => h) (Or.inl ⟨by rfl, ?hy16nc⟩) hS1 ?r16nc
      case hy16nc => (intro w hSw; (try dsimp only at hSw); have hc5 := (NX.dl hSw).l.c5; go_simp; try with_reducible rfl)
      (try simp only [Act.put]); (try simp only [List.setIfInBounds_toArray]); (repeat (first | simp only [List.set_cons_succ] | simp only [List.set_cons_zero]))
      refine wpTo_take (i := 17) (v := ?v17nc) (show _ = some _ by simp only [List.getElem?_toArray, List.getElem?_cons_succ, List.getElem?_cons_zero]; exact rfl) (by kernel_rfl) (by kernel_rfl) (by kernel_rfl) (by kernel_rfl) (by exact fun _ _ _ h => h) (Or.inl ⟨by rfl, ?hy17nc⟩) hS1 ?r17nc
      case hy17nc => (intro w hSw; (try dsimp only at hSw); go_simp; try with_reducible rfl)
      (try simp only [Act.put]); (try simp only [List.setIfInBounds_toArray]); (repeat (first | simp only [List.set_cons_succ] | simp only [List.set_cons_zero]))
      refine wpTo_one (i := 18) (by kernel_rfl) (show _ = some _ by simp only [List.getElem?_toArray, List.getElem?_cons_succ, List.getElem?_cons_zero]; exact rfl) (fun K hK => ?_)
      go_simp
      go_at_call 81; refine (hrc _ (NX.i hS1) (NX.dl hS1).t).mono ?_; rintro e v2 ⟨vr, rfl, hown, kb2⟩
      obtain ⟨G2, cp2, rfl, hG2, hR2⟩ := row_of_own hown (by omega)
      (try simp only [])
      have hS2 := hS1.next kb2
      refine hK.out _ _ (hS2) (fun _ => ?_)
      clear hK K
      (try simp only [Act.put]); (try simp only [List.setIfInBounds_toArray]); (repeat (first | simp only [List.set_cons_succ] | simp only [List.set_cons_zero]))
      refine wpTo_one (i := 19) (by kernel_rfl) (show _ = some _ by simp only [List.getElem?_toArray, List.getElem?_cons_succ, List.getElem?_cons_zero]; exact rfl) (fun K hK => ?_)
      go_simp
      go_at_call 108; refine (heq _ _ _ (NX.a hS2) hR2).mono ?_; rintro e v3 ⟨rfl, kb3⟩
      (try simp only [])
      have hS3 := hS2.next kb3
      refine hK.out _ _ (hS3) (fun _ => ?_)
      clear hK K
      (try simp only [Act.put]); (try simp only [List.setIfInBounds_toArray]); (repeat (first | simp only [List.set_cons_succ] | simp only [List.set_cons_zero]))
      refine wpTo_take (i := 20) (v := ?v20nc) (show _ = some _ by simp only [List.getElem?_toArray, List.getElem?_cons_succ, List.getElem?_cons_zero]; exact rfl) (by kernel_rfl) (by kernel_rfl) (by kernel_rfl) (by kernel_rfl) (by exact fun _ _ _ h => h) (Or.inl ⟨by rfl, ?hy20nc⟩) hS3 ?r20nc
      case hy20nc => (intro w hSw; (try dsimp only at hSw); go_simp; try with_reducible rfl)
      (try simp only [Act.put]); (try simp only [List.setIfInBounds_toArray]); (repeat (first | simp only [List.set_cons_succ] | simp only [List.set_cons_zero]))
      refine wpTo_take (i := 21) (v := ?v21nc) (show _ = some _ by simp only [List.getElem?_toArray, List.getElem?_cons_succ, List.getElem?_cons_zero]; exact rfl) (by kernel_rfl) (by kernel_rfl) (by kernel_rfl) (by kernel_rfl) (by exact fun _ _ _ h => h) (Or.inl ⟨by rfl, ?hy21nc⟩) hS3 ?r21nc
      case hy21nc => (intro w hSw; (try dsimp only at hSw); go_simp; try with_reducible rfl)
      (try simp only [Act.put]); (try simp only [List.setIfInBounds_toArray]); (repeat (first | simp only [List.set_cons_succ] | simp only [List.set_cons_zero]))
      refine wpTo_done (by kernel_rfl) ?_
      go_wp2_with fail
      go_ret2
      exact ⟨_, rfl, .inl ⟨by rw [HR.out, nxt_no hno], rfl⟩, hS3.below⟩
  · have hno : ¬ nxOK d x := fun h => hok (hno2 h).1
    rw [decide_eq_false hok] at hnm
    refine wpTo_take (i := 0) (v := ?v0na) (show _ = some _ by simp only [List.getElem?_toArray, List.getElem?_cons_zero]; exact rfl) (by kernel_rfl) (by kernel_rfl) (by kernel_rfl) (by kernel_rfl) (by exact fun _ _ _ h => h) (Or.inl ⟨by rfl, ?hy0na⟩) hS0 ?r0na
    case hy0na => (intro w hSw; (try dsimp only at hSw); go_simp; try with_reducible rfl)
    (try simp only [Act.put]); (try simp only [List.setIfInBounds_toArray]); (repeat (first | simp only [List.set_cons_succ] | simp only [List.set_cons_zero]))
    refine wpTo_take (i := 1) (v := ?v1na) (show _ = some _ by simp only [List.getElem?_toArray, List.getElem?_cons_succ, List.getElem?_cons_zero]; exact rfl) (by kernel_rfl) (by kernel_rfl) (by kernel_rfl) (by kernel_rfl) (by exact fun _ _ _ h => h) (Or.inl ⟨by rfl, ?hy1na⟩) hS0 ?r1na
    case hy1na => (intro w hSw; (try dsimp only at hSw); go_simp; try with_reducible rfl)
    (try simp only [Act.put]); (try simp only [List.setIfInBounds_toArray]); (repeat (first | simp only [List.set_cons_succ] | simp only [List.set_cons_zero]))
    refine wpTo_take (i := 2) (v := ?v2na) (show _ = some _ by simp only [List.getElem?_toArray, List.getElem?_cons_succ, List.getElem?_cons_zero]; exact rfl) (by kernel_rfl) (by kernel_rfl) (by kernel_rfl) (by kernel_rfl) (by exact fun _ _ _ h => h) (Or.inl ⟨by rfl, ?hy2na⟩) hS0 ?r2na
    case hy2na => (intro w hSw; (try dsimp only at hSw); go_simp; try with_reducible rfl)
    (try simp only [Act.put]); (try simp only [List.setIfInBounds_toArray]); (repeat (first | simp only [List.set_cons_succ] | simp only [List.set_cons_zero]))
    refine wpTo_take (i := 3) (show _ = some _ by simp only [List.getElem?_toArray, List.getElem?_cons_succ, List.getElem?_cons_zero]; exact rfl) (by kernel_rfl) (by kernel_rfl) (by kernel_rfl) (by kernel_rfl) (by exact fun _ _ _ h => h) (yieldsIf_load_mid (by rfl) 102 (.tmp 62) rfl q 1 rfl (ly (x.L : Int) (x.H : Int)) _ (fun v h => (NX.dl h).l.ly) Tryz.underlying102 rfl (by kernel_rfl)) hS0 ?_
    (try simp only [Act.put]); (try simp only [List.setIfInBounds_toArray]); (repeat (first | simp only [List.set_cons_succ] | simp only [List.set_cons_zero]))
    refine wpTo_take (i := 4) (v := ?v4na) (show _ = some _ by simp only [List.getElem?_toArray, List.getElem?_cons_succ, List.getElem?_cons_zero]; exact rfl) (by kernel_rfl) (by kernel_rfl) (by kernel_rfl) (by kernel_rfl) (by exact fun _ _ _ h => h) (Or.inl ⟨by rfl, ?hy4na⟩) hS0 ?r4na
    case hy4na => (intro w hSw; (try dsimp only at hSw); go_simp; try with_reducible rfl)
    (try simp only [Act.put]); (try simp only [List.setIfInBounds_toArray]); (repeat (first | simp only [List.set_cons_succ] | simp only [List.set_cons_zero]))
    refine wpTo_one (i := 5) (by kernel_rfl) (show _ = some _ by simp only [List.getElem?_toArray, List.getElem?_cons_succ, List.getElem?_cons_zero]; exact rfl) (fun K hK => ?_)
    go_simp
    go_at_call 50; refine (hnm _ (NX.i hS0)).mono ?_; rintro e v1 ⟨rfl, kb1⟩
    (try simp only [])
    have hS1 := hS0.next kb1
    refine hK.out _ _ (hS1) (fun _ => ?_)
    clear hK K
    (try simp only [Act.put]); (try simp only [List.setIfInBounds_toArray]); (repeat (first | simp only [List.set_cons_succ] | simp only [List.set_cons_zero]))
    refine wpTo_take (i := 6) (v := ?v6na) (show _ = some _ by simp only [List.getElem?_toArray, List.getElem?_cons_succ, List.getElem?_cons_zero]; exact rfl) (by kernel_rfl) (by kernel_rfl) (by kernel_rfl) (by kernel_rfl) (by exact fun _ _ _ h => h) (Or.inl ⟨by rfl, ?hy6na⟩) hS1 ?r6na
    case hy6na => (intro w hSw; (try dsimp only at hSw); go_simp; try with_reducible rfl)
    (try simp only [Act.put]); (try simp only [List.setIfInBounds_toArray]); (repeat (first | simp only [List.set_cons_succ] | simp only [List.set_cons_zero]))
    refine wpTo_take (i := 7) (v := ?v7na) (show _ = some _ by simp only [List.getElem?_toArray, List.getElem?_cons_succ, List.getElem?_cons_zero]; exact rfl) (by kernel_rfl) (by kernel_rfl) (by kernel_rfl) (by kernel_rfl) (by exact fun _ _ _ h => h) (Or.inl ⟨by rfl, ?hy7na⟩) hS1 ?r7na
    case hy7na => (intro w hSw; (try dsimp only at hSw); go_simp; try with_reducible rfl)
    (try simp only [Act.put]); (try simp only [List.setIfInBounds_toArray]); (repeat (first | simp only [List.set_cons_succ] | simp only [List.set_cons_zero]))
    refine wpTo_take (i := 8) (show _ = some _ by simp only [List.getElem?_toArray, List.getElem?_cons_succ, List.getElem?_cons_zero]; exact rfl) (by kernel_rfl) (by kernel_rfl) (by kernel_rfl) (by kernel_rfl) (by exact fun _ _ _ h => h) (Or.inr ⟨by rfl, rfl⟩) hS1 ?_
    (try simp only [Act.put]); (try simp only [List.setIfInBounds_toArray]); (repeat (first | simp only [List.set_cons_succ] | simp only [List.set_cons_zero]))
    refine wpTo_take (i := 9) (show _ = some _ by simp only [List.getElem?_toArray, List.getElem?_cons_succ, List.getElem?_cons_zero]; exact rfl) (by kernel_rfl) (by kernel_rfl) (by kernel_rfl) (by kernel_rfl) (by exact fun _ _ _ h => h) (Or.inr ⟨by rfl, rfl⟩) hS1 ?_
    (try simp only [Act.put]); (try simp only [List.setIfInBounds_toArray]); (repeat (first | simp only [List.set_cons_succ] | simp only [List.set_cons_zero]))
    refine wpTo_take (i := 10) (show _ = some _ by simp only [List.getElem?_toArray, List.getElem?_cons_succ, List.getElem?_cons_zero]; exact rfl) (by kernel_rfl) (by kernel_rfl) (by kernel_rfl) (by kernel_rfl) (by exact fun _ _ _ h => h) (Or.inr ⟨by rfl, rfl⟩) hS1 ?_
    (try simp only [Act.put]); (try simp only [List.setIfInBounds_toArray]); (repeat (first | simp only [List.set_cons_succ] | simp only [List.set_cons_zero]))
    refine wpTo_take (i := 11) (show _ = some _ by simp only [List.getElem?_toArray, List.getElem?_cons_succ, List.getElem?_cons_zero]; exact rfl) (by kernel_rfl) (by kernel_rfl) (by kernel_rfl) (by kernel_rfl) (by exact fun _ _ _ h => h) (Or.inr ⟨by rfl, rfl⟩) hS1 ?_
    (try simp only [Act.put]); (try simp only [List.setIfInBounds_toArray]); (repeat (first | simp only [List.set_cons_succ] | simp only [List.set_cons_zero]))
    refine wpTo_take (i := 12) (show _ = some _ by simp only [List.getElem?_toArray, List.getElem?_cons_succ, List.getElem?_cons_zero]; exact rfl) (by kernel_rfl) (by kernel_rfl) (by kernel_rfl) (by kernel_rfl) (by exact fun _ _ _ h => h) (Or.inr ⟨by rfl, rfl⟩) hS1 ?_
    (try simp only [Act.put]); (try simp only [List.setIfInBounds_toArray]); (repeat (first | simp only [List.set_cons_succ] | simp only [List.set_cons_zero]))
    refine wpTo_take (i := 13) (show _ = some _ by simp only [List.getElem?_toArray, List.getElem?_cons_succ, List.getElem?_cons_zero]; exact rfl) (by kernel_rfl) (by kernel_rfl) (by kernel_rfl) (by kernel_rfl) (by exact fun _ _ _ h => h) (Or.inr ⟨by rfl, rfl⟩) hS1 ?_
    (try simp only [Act.put]); (try simp only [List.setIfInBounds_toArray]); (repeat (first | simp only [List.set_cons_succ] | simp only [List.set_cons_zero]))
    refine wpTo_take (i := 14) (show _ = some _ by simp only [List.getElem?_toArray, List.getElem?_cons_succ, List.getElem?_cons_zero]; exact rfl) (by kernel_rfl) (by kernel_rfl) (by kernel_rfl) (by kernel_rfl) (by exact fun _ _ _ h => h) (Or.inr ⟨by rfl, rfl⟩) hS1 ?_
    (try simp only [Act.put]); (try simp only [List.setIfInBounds_toArray]); (repeat (first | simp only [List.set_cons_succ] | simp only [List.set_cons_zero]))
    refine wpTo_take (i := 15) (show _ = some _ by simp only [List.getElem?_toArray, List.getElem?_cons_succ, List.getElem?_cons_zero]; exact rfl) (by kernel_rfl) (by kernel_rfl) (by kernel_rfl) (by kernel_rfl) (by exact fun _ _ _ h => h) (Or.inr ⟨by rfl, rfl⟩) hS1 ?_
    (try simp only [Act.put]); (try simp only [List.setIfInBounds_toArray]); (repeat (first | simp only [List.set_cons_succ] | simp only [List.set_cons_zero]))
    refine wpTo_take (i := 16) (show _ = some _ by simp only [List.getElem?_toArray, List.getElem?_cons_succ, List.getElem?_cons_zero]; exact rfl) (by kernel_rfl) (by kernel_rfl) (by kernel_rfl) (by kernel_rfl) (by exact fun _ _ _ h => h) (Or.inr ⟨by rfl, rfl⟩) hS1 ?_
    (try simp only [Act.put]); (try simp only [List.setIfInBounds_toArray]); (repeat (first | simp only [List.set_cons_succ] | simp only [List.set_cons_zero]))
    refine wpTo_take (i := 17) (show _ = some _ by simp only [List.getElem?_toArray, List.getElem?_cons_succ, List.getElem?_cons_zero]; exact rfl) (by kernel_rfl) (by kernel_rfl) (by kernel_rfl) (by kernel_rfl) (by exact fun _ _ _ h => h) (Or.inr ⟨by rfl, rfl⟩) hS1 ?_
    (try simp only [Act.put]); (try simp only [List.setIfInBounds_toArray]); (repeat (first | simp only [List.set_cons_succ] | simp only [List.set_cons_zero]))
    refine wpTo_take (i := 18) (show _ = some _ by simp only [List.getElem?_toArray, List.getElem?_cons_succ, List.getElem?_cons_zero]; exact rfl) (by kernel_rfl) (by kernel_rfl) (by kernel_rfl) (by kernel_rfl) (by exact fun _ _ _ h => h) (Or.inr ⟨by rfl, rfl⟩) hS1 ?_
    (try simp only [Act.put]); (try simp only [List.setIfInBounds_toArray]); (repeat (first | simp only [List.set_cons_succ] | simp only [List.set_cons_zero]))
    refine wpTo_take (i := 19) (show _ = some _ by simp only [List.getElem?_toArray, List.getElem?_cons_succ, List.getElem?_cons_zero]; exact rfl) (by kernel_rfl) (by kernel_rfl) (by kernel_rfl) (by kernel_rfl) (by exact fun _ _ _ h => h) (Or.inr ⟨by rfl, rfl⟩) hS1 ?_
    (try simp only [Act.put]); (try simp only [List.setIfInBounds_toArray]); (repeat (first | simp only [List.set_cons_succ] | simp only [List.set_cons_zero]))
    refine wpTo_take (i := 20) (show _ = some _ by simp only [List.getElem?_toArray, List.getElem?_cons_succ, List.getElem?_cons_zero]; exact rfl) (by kernel_rfl) (by kernel_rfl) (by kernel_rfl) (by kernel_rfl) (by exact fun _ _ _ h => h) (Or.inr ⟨by rfl, rfl⟩) hS1 ?_
    (try simp only [Act.put]); (try simp only [List.setIfInBounds_toArray]); (repeat (first | simp only [List.set_cons_succ] | simp only [List.set_cons_zero]))
    refine wpTo_take (i := 21) (v := ?v21na) (show _ = some _ by simp only [List.getElem?_toArray, List.getElem?_cons_succ, List.getElem?_cons_zero]; exact rfl) (by kernel_rfl) (by kernel_rfl) (by kernel_rfl) (by kernel_rfl) (by exact fun _ _ _ h => h) (Or.inl ⟨by rfl, ?hy21na⟩) hS1 ?r21na
    case hy21na => (intro w hSw; (try dsimp only at hSw); go_simp; try with_reducible rfl)
    (try simp only [Act.put]); (try simp only [List.setIfInBounds_toArray]); (repeat (first | simp only [List.set_cons_succ] | simp only [List.set_cons_zero]))
    refine wpTo_done (by kernel_rfl) ?_
    go_wp2_with fail
    go_ret2
    exact ⟨_, rfl, .inl ⟨by rw [HR.out, nxt_no hno], rfl⟩, hS1.below⟩
end Go.Proofs.YtndfhmlcfaaaiaaGreatDoor
