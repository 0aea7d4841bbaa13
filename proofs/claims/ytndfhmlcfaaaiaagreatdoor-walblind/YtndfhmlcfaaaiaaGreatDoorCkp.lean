/- What a Checkpoint does: steps that bring pages home and begin the log anew. -/
import Derived.Test.YtndfhmlcfaaaiaaGreatDoorChg
namespace Go.Proofs.YtndfhmlcfaaaiaaGreatDoor
open Go.RowKit

theorem look_run {w : World} {q r mm : Nat} {x : Lg} (h : LL w q r mm x) {p : Nat} (hp : p < 9223372036854775808) {y : Pg} (hy : ov x.ws p = some y) : (Instr.lookup 103 (.map (some mm)) (.int .i64 (p : Int)) false).run Tryz.prog w = .ok (pgv y) w := by
  obtain ⟨D, hD, hM⟩ := h.map
  obtain ⟨v, ps, hrun, hv⟩ := hD.lookup law3 Tryz.underlying103 (zero31 w) (pgR_mk zp) (Maps.keyOf_int_mk Tryz.underlying3 (wf64 p (by omega) (by omega)))
  obtain ⟨t, rfl, hz⟩ := pgR_inv hv
  have h1 := hM.2 (.int .i64 (p : Int)) (.held zp)
  have hw : wq (ov x.ws) (.int .i64 (p : Int)) = some y := (wq_ky (ov x.ws) p).trans hy
  rw [hw] at h1
  rw [h1] at hz
  cases hz
  exact hrun
/-- What a step of a Checkpoint, or of a Commit, captures. -/
structure C6 (v : World) (B0 I q r mm : Nat) (x : Lg) (t : TypeId) (n : Value) : Prop where
  l : LL v q r mm x
  b : Blk v B0 41 [.pointer (some ⟨q, 0, none⟩)]
  i : Blk v I t [n]
  t : Tabs v
section
variable {v v' : World} {B0 I q r mm f m : Nat} {x : Lg} {t : TypeId} {n : Value}
theorem C6.next (h : C6 v B0 I q r mm x t n) (hb : Below v.heap.size v v') : C6 v' B0 I q r mm x t n := ⟨h.l.next hb, h.b.next hb, h.i.next hb, h.t.next hb⟩
theorem C6.drew (h : C6 v B0 I q r mm x t n) : C6 v.drew B0 I q r mm x t n := h.next (below_drw v)
theorem C6.fr (h : C6 v B0 I q r mm x t n) (hf : Fr (fp r f m) v v') (hb : ¬ fp r f m B0) (hi : ¬ fp r f m I) (hl : ∀ k, fp r f m k → ¬ lp q mm k) (h2 : ∀ k, fp r f m k → 2 ≤ k) : C6 v' B0 I q r mm x t n := ⟨h.l.fr hf hl, h.b.fr hf hb, h.i.fr hf hi, h.t.fr hf h2⟩
end

set_option maxRecDepth 100000 in
set_option maxHeartbeats 4000000 in
theorem bring_step (v : World) (B0 I q r mm f m cap : Nat) (x : Lg) (d : St) (p : Nat) (y : Pg) (hy : ov x.ws p = some y) (hpH : p < x.H) (hL : Lay v r f m cap d) (hC : C6 v B0 I q r mm x 3 (.int .i64 (p : Int))) (hnb : ¬ fp r f m B0) (hni : ¬ fp r f m I) (hnl : ∀ k, fp r f m k → ¬ lp q mm k) (h2 : ∀ k, fp r f m k → 2 ≤ k) (hw : d.writes < 1000000000) :
    Calls Tryz.prog 98 #[.pointer (some ⟨B0, 0, none⟩), .pointer (some ⟨I, 0, none⟩)] v fun e v' => e = .returned (.int .i64 (d.wr ((2 + x.L + p : Nat) : Int) (hmF x.g p y)).2) ∧ Turn v v' r f m cap (d.wr ((2 + x.L + p : Nat) : Int) (hmF x.g p y)).1 := by
  have hL4 := hC.l.L4
  have hH2 := hC.l.H2
  have hgn := hC.l.gen
  have hp9 : p < 9223372036854775808 := by omega
  have hh := fun W => home_any x.L x.H p hL4 (by omega) W
  have hhf := fun W (hW : Tabs W) => homeFrame_any x.g p y W hW (by omega) (by omega)
  obtain ⟨hm, hhm⟩ : ∃ hm, hm = 2 + x.L + p := ⟨_, rfl⟩
  obtain ⟨fr, hfr⟩ : ∃ fr, fr = hmF x.g p y := ⟨_, rfl⟩
  rw [← hhm] at hh ⊢
  rw [← hfr] at hhf ⊢
  clear hhm hfr
  have B0' := below_drw v
  go_enter Tryz.func98, Tryz.ntmps98
  go_wp2_with fail
  refine wp_region_to (fun v => C6 v B0 I q r mm x 3 (.int .i64 (p : Int))) 24 (by kernel_rfl) ?_
  have hS0 := hC.drew
  have hL := hL.drew
  refine wpTo_take (i := 0) (v := ?v0a) (show _ = some _ by simp only [List.getElem?_toArray, List.getElem?_cons_zero]; exact rfl) (by kernel_rfl) (by kernel_rfl) (by kernel_rfl) (by kernel_rfl) (by exact fun _ _ _ h => h) (Or.inl ⟨by rfl, ?hy0a⟩) hS0 ?r0a
  case hy0a => (intro w hSw; (try dsimp only at hSw); have hcb := Blk.cell hSw.b 0 _ rfl; have hci := Blk.cell hSw.i 0 _ rfl; have hl0 := LL.c0 hSw.l; have hl3 := LL.c3 hSw.l; have hl4 := LL.c4 hSw.l; go_simp; try with_reducible rfl)
  (try simp only [Act.put]); (try simp only [List.setIfInBounds_toArray]); (repeat (first | simp only [List.set_cons_succ] | simp only [List.set_cons_zero]))
  refine wpTo_take (i := 1) (v := ?v1a) (show _ = some _ by simp only [List.getElem?_toArray, List.getElem?_cons_succ, List.getElem?_cons_zero]; exact rfl) (by kernel_rfl) (by kernel_rfl) (by kernel_rfl) (by kernel_rfl) (by exact fun _ _ _ h => h) (Or.inl ⟨by rfl, ?hy1a⟩) hS0 ?r1a
  case hy1a => (intro w hSw; (try dsimp only at hSw); go_simp; try with_reducible rfl)
  (try simp only [Act.put]); (try simp only [List.setIfInBounds_toArray]); (repeat (first | simp only [List.set_cons_succ] | simp only [List.set_cons_zero]))
  refine wpTo_take (i := 2) (v := ?v2a) (show _ = some _ by simp only [List.getElem?_toArray, List.getElem?_cons_succ, List.getElem?_cons_zero]; exact rfl) (by kernel_rfl) (by kernel_rfl) (by kernel_rfl) (by kernel_rfl) (by exact fun _ _ _ h => h) (Or.inl ⟨by rfl, ?hy2a⟩) hS0 ?r2a
  case hy2a => (intro w hSw; (try dsimp only at hSw); go_simp; try with_reducible rfl)
  (try simp only [Act.put]); (try simp only [List.setIfInBounds_toArray]); (repeat (first | simp only [List.set_cons_succ] | simp only [List.set_cons_zero]))
  refine wpTo_take (i := 3) (v := ?v3a) (show _ = some _ by simp only [List.getElem?_toArray, List.getElem?_cons_succ, List.getElem?_cons_zero]; exact rfl) (by kernel_rfl) (by kernel_rfl) (by kernel_rfl) (by kernel_rfl) (by exact fun _ _ _ h => h) (Or.inl ⟨by rfl, ?hy3a⟩) hS0 ?r3a
  case hy3a => (intro w hSw; (try dsimp only at hSw); have hcb := Blk.cell hSw.b 0 _ rfl; have hci := Blk.cell hSw.i 0 _ rfl; have hl0 := LL.c0 hSw.l; have hl3 := LL.c3 hSw.l; have hl4 := LL.c4 hSw.l; go_simp; try with_reducible rfl)
  (try simp only [Act.put]); (try simp only [List.setIfInBounds_toArray]); (repeat (first | simp only [List.set_cons_succ] | simp only [List.set_cons_zero]))
  refine wpTo_take (i := 4) (v := ?v4a) (show _ = some _ by simp only [List.getElem?_toArray, List.getElem?_cons_succ, List.getElem?_cons_zero]; exact rfl) (by kernel_rfl) (by kernel_rfl) (by kernel_rfl) (by kernel_rfl) (by exact fun _ _ _ h => h) (Or.inl ⟨by rfl, ?hy4a⟩) hS0 ?r4a
  case hy4a => (intro w hSw; (try dsimp only at hSw); have hcb := Blk.cell hSw.b 0 _ rfl; have hci := Blk.cell hSw.i 0 _ rfl; have hl0 := LL.c0 hSw.l; have hl3 := LL.c3 hSw.l; have hl4 := LL.c4 hSw.l; go_simp; try with_reducible rfl)
  (try simp only [Act.put]); (try simp only [List.setIfInBounds_toArray]); (repeat (first | simp only [List.set_cons_succ] | simp only [List.set_cons_zero]))
  refine wpTo_take (i := 5) (v := ?v5a) (show _ = some _ by simp only [List.getElem?_toArray, List.getElem?_cons_succ, List.getElem?_cons_zero]; exact rfl) (by kernel_rfl) (by kernel_rfl) (by kernel_rfl) (by kernel_rfl) (by exact fun _ _ _ h => h) (Or.inl ⟨by rfl, ?hy5a⟩) hS0 ?r5a
  case hy5a => (intro w hSw; (try dsimp only at hSw); go_simp; try with_reducible rfl)
  (try simp only [Act.put]); (try simp only [List.setIfInBounds_toArray]); (repeat (first | simp only [List.set_cons_succ] | simp only [List.set_cons_zero]))
  refine wpTo_take (i := 6) (v := ?v6a) (show _ = some _ by simp only [List.getElem?_toArray, List.getElem?_cons_succ, List.getElem?_cons_zero]; exact rfl) (by kernel_rfl) (by kernel_rfl) (by kernel_rfl) (by kernel_rfl) (by exact fun _ _ _ h => h) (Or.inl ⟨by rfl, ?hy6a⟩) hS0 ?r6a
  case hy6a => (intro w hSw; (try dsimp only at hSw); go_simp; try with_reducible rfl)
  (try simp only [Act.put]); (try simp only [List.setIfInBounds_toArray]); (repeat (first | simp only [List.set_cons_succ] | simp only [List.set_cons_zero]))
  refine wpTo_take (i := 7) (show _ = some _ by simp only [List.getElem?_toArray, List.getElem?_cons_succ, List.getElem?_cons_zero]; exact rfl) (by kernel_rfl) (by kernel_rfl) (by kernel_rfl) (by kernel_rfl) (by exact fun _ _ _ h => h) (yieldsIf_load_mid (by rfl) 102 (.tmp 9) rfl q 1 rfl (ly x.L x.H) _ (fun v h => LL.ly (C6.l h)) Tryz.underlying102 rfl (by kernel_rfl)) hS0 ?_
  (try simp only [Act.put]); (try simp only [List.setIfInBounds_toArray]); (repeat (first | simp only [List.set_cons_succ] | simp only [List.set_cons_zero]))
  refine wpTo_take (i := 8) (v := ?v8a) (show _ = some _ by simp only [List.getElem?_toArray, List.getElem?_cons_succ, List.getElem?_cons_zero]; exact rfl) (by kernel_rfl) (by kernel_rfl) (by kernel_rfl) (by kernel_rfl) (by exact fun _ _ _ h => h) (Or.inl ⟨by rfl, ?hy8a⟩) hS0 ?r8a
  case hy8a => (intro w hSw; (try dsimp only at hSw); have hcb := Blk.cell hSw.b 0 _ rfl; have hci := Blk.cell hSw.i 0 _ rfl; have hl0 := LL.c0 hSw.l; have hl3 := LL.c3 hSw.l; have hl4 := LL.c4 hSw.l; go_simp; try with_reducible rfl)
  (try simp only [Act.put]); (try simp only [List.setIfInBounds_toArray]); (repeat (first | simp only [List.set_cons_succ] | simp only [List.set_cons_zero]))
  refine wpTo_take (i := 10) (v := ?v10a) (show _ = some _ by simp only [List.getElem?_toArray, List.getElem?_cons_succ, List.getElem?_cons_zero]; exact rfl) (by kernel_rfl) (by kernel_rfl) (by kernel_rfl) (by kernel_rfl) (by exact fun _ _ _ h => h) (Or.inl ⟨by rfl, ?hy10a⟩) hS0 ?r10a
  case hy10a => (intro w hSw; (try dsimp only at hSw); have hcb := Blk.cell hSw.b 0 _ rfl; have hci := Blk.cell hSw.i 0 _ rfl; have hl0 := LL.c0 hSw.l; have hl3 := LL.c3 hSw.l; have hl4 := LL.c4 hSw.l; go_simp; try with_reducible rfl)
  (try simp only [Act.put]); (try simp only [List.setIfInBounds_toArray]); (repeat (first | simp only [List.set_cons_succ] | simp only [List.set_cons_zero]))
  refine wpTo_take (i := 11) (v := ?v11a) (show _ = some _ by simp only [List.getElem?_toArray, List.getElem?_cons_succ, List.getElem?_cons_zero]; exact rfl) (by kernel_rfl) (by kernel_rfl) (by kernel_rfl) (by kernel_rfl) (by exact fun _ _ _ h => h) (Or.inl ⟨by rfl, ?hy11a⟩) hS0 ?r11a
  case hy11a => (intro w hSw; (try dsimp only at hSw); go_simp; try with_reducible rfl)
  (try simp only [Act.put]); (try simp only [List.setIfInBounds_toArray]); (repeat (first | simp only [List.set_cons_succ] | simp only [List.set_cons_zero]))
  refine wpTo_take (i := 12) (v := ?v12a) (show _ = some _ by simp only [List.getElem?_toArray, List.getElem?_cons_succ, List.getElem?_cons_zero]; exact rfl) (by kernel_rfl) (by kernel_rfl) (by kernel_rfl) (by kernel_rfl) (by exact fun _ _ _ h => h) (Or.inl ⟨by rfl, ?hy12a⟩) hS0 ?r12a
  case hy12a => (intro w hSw; (try dsimp only at hSw); go_simp; try with_reducible rfl)
  (try simp only [Act.put]); (try simp only [List.setIfInBounds_toArray]); (repeat (first | simp only [List.set_cons_succ] | simp only [List.set_cons_zero]))
  refine wpTo_take (i := 13) (v := ?v13a) (show _ = some _ by simp only [List.getElem?_toArray, List.getElem?_cons_succ, List.getElem?_cons_zero]; exact rfl) (by kernel_rfl) (by kernel_rfl) (by kernel_rfl) (by kernel_rfl) (by exact fun _ _ _ h => h) (Or.inl ⟨by rfl, ?hy13a⟩) hS0 ?r13a
  case hy13a => (intro w hSw; (try dsimp only at hSw); have hcb := Blk.cell hSw.b 0 _ rfl; have hci := Blk.cell hSw.i 0 _ rfl; have hl0 := LL.c0 hSw.l; have hl3 := LL.c3 hSw.l; have hl4 := LL.c4 hSw.l; go_simp; try with_reducible rfl)
  (try simp only [Act.put]); (try simp only [List.setIfInBounds_toArray]); (repeat (first | simp only [List.set_cons_succ] | simp only [List.set_cons_zero]))
  refine wpTo_take (i := 14) (v := ?v14a) (show _ = some _ by simp only [List.getElem?_toArray, List.getElem?_cons_succ, List.getElem?_cons_zero]; exact rfl) (by kernel_rfl) (by kernel_rfl) (by kernel_rfl) (by kernel_rfl) (by exact fun _ _ _ h => h) (Or.inl ⟨by rfl, ?hy14a⟩) hS0 ?r14a
  case hy14a => (intro w hSw; (try dsimp only at hSw); have hcb := Blk.cell hSw.b 0 _ rfl; have hci := Blk.cell hSw.i 0 _ rfl; have hl0 := LL.c0 hSw.l; have hl3 := LL.c3 hSw.l; have hl4 := LL.c4 hSw.l; go_simp; try with_reducible rfl)
  (try simp only [Act.put]); (try simp only [List.setIfInBounds_toArray]); (repeat (first | simp only [List.set_cons_succ] | simp only [List.set_cons_zero]))
  refine wpTo_take (i := 15) (v := ?v15a) (show _ = some _ by simp only [List.getElem?_toArray, List.getElem?_cons_succ, List.getElem?_cons_zero]; exact rfl) (by kernel_rfl) (by kernel_rfl) (by kernel_rfl) (by kernel_rfl) (by exact fun _ _ _ h => h) (Or.inl ⟨by rfl, ?hy15a⟩) hS0 ?r15a
  case hy15a => (intro w hSw; (try dsimp only at hSw); have hcb := Blk.cell hSw.b 0 _ rfl; have hci := Blk.cell hSw.i 0 _ rfl; have hl0 := LL.c0 hSw.l; have hl3 := LL.c3 hSw.l; have hl4 := LL.c4 hSw.l; go_simp; try with_reducible rfl)
  (try simp only [Act.put]); (try simp only [List.setIfInBounds_toArray]); (repeat (first | simp only [List.set_cons_succ] | simp only [List.set_cons_zero]))
  refine wpTo_take (i := 16) (v := ?v16a) (show _ = some _ by simp only [List.getElem?_toArray, List.getElem?_cons_succ, List.getElem?_cons_zero]; exact rfl) (by kernel_rfl) (by kernel_rfl) (by kernel_rfl) (by kernel_rfl) (by exact fun _ _ _ h => h) (Or.inl ⟨by rfl, ?hy16a⟩) hS0 ?r16a
  case hy16a => (intro w hSw; (try dsimp only at hSw); go_simp; try with_reducible rfl)
  (try simp only [Act.put]); (try simp only [List.setIfInBounds_toArray]); (repeat (first | simp only [List.set_cons_succ] | simp only [List.set_cons_zero]))
  refine wpTo_take (i := 17) (v := ?v17a) (show _ = some _ by simp only [List.getElem?_toArray, List.getElem?_cons_succ, List.getElem?_cons_zero]; exact rfl) (by kernel_rfl) (by kernel_rfl) (by kernel_rfl) (by kernel_rfl) (by exact fun _ _ _ h => h) (Or.inl ⟨by rfl, ?hy17a⟩) hS0 ?r17a
  case hy17a => (intro w hSw; (try dsimp only at hSw); go_simp; try with_reducible rfl)
  (try simp only [Act.put]); (try simp only [List.setIfInBounds_toArray]); (repeat (first | simp only [List.set_cons_succ] | simp only [List.set_cons_zero]))
  refine wpTo_take (i := 18) (v := ?v18a) (show _ = some _ by simp only [List.getElem?_toArray, List.getElem?_cons_succ, List.getElem?_cons_zero]; exact rfl) (by kernel_rfl) (by kernel_rfl) (by kernel_rfl) (by kernel_rfl) (by exact fun _ _ _ h => h) (Or.inl ⟨by rfl, ?hy18a⟩) hS0 ?r18a
  case hy18a => (intro w hSw; (try dsimp only at hSw); have hcb := Blk.cell hSw.b 0 _ rfl; have hci := Blk.cell hSw.i 0 _ rfl; have hl0 := LL.c0 hSw.l; have hl3 := LL.c3 hSw.l; have hl4 := LL.c4 hSw.l; go_simp; try with_reducible rfl)
  (try simp only [Act.put]); (try simp only [List.setIfInBounds_toArray]); (repeat (first | simp only [List.set_cons_succ] | simp only [List.set_cons_zero]))
  refine wpTo_take (i := 19) (v := ?v19a) (show _ = some _ by simp only [List.getElem?_toArray, List.getElem?_cons_succ, List.getElem?_cons_zero]; exact rfl) (by kernel_rfl) (by kernel_rfl) (by kernel_rfl) (by kernel_rfl) (by exact fun _ _ _ h => h) (Or.inl ⟨by rfl, ?hy19a⟩) hS0 ?r19a
  case hy19a => (intro w hSw; (try dsimp only at hSw); have hcb := Blk.cell hSw.b 0 _ rfl; have hci := Blk.cell hSw.i 0 _ rfl; have hl0 := LL.c0 hSw.l; have hl3 := LL.c3 hSw.l; have hl4 := LL.c4 hSw.l; go_simp; try with_reducible rfl)
  (try simp only [Act.put]); (try simp only [List.setIfInBounds_toArray]); (repeat (first | simp only [List.set_cons_succ] | simp only [List.set_cons_zero]))
  refine wpTo_take (i := 20) (v := ?v20a) (show _ = some _ by simp only [List.getElem?_toArray, List.getElem?_cons_succ, List.getElem?_cons_zero]; exact rfl) (by kernel_rfl) (by kernel_rfl) (by kernel_rfl) (by kernel_rfl) (by exact fun _ _ _ h => h) (Or.inl ⟨by rfl, ?hy20a⟩) hS0 ?r20a
  case hy20a => (intro w hSw; (try dsimp only at hSw); have hlk := look_run hSw.l hp9 hy; go_simp; try with_reducible rfl)
  (try simp only [Act.put]); (try simp only [List.setIfInBounds_toArray]); (repeat (first | simp only [List.set_cons_succ] | simp only [List.set_cons_zero]))
  refine wpTo_one (i := 9) (by kernel_rfl) (show _ = some _ by simp only [List.getElem?_toArray, List.getElem?_cons_succ, List.getElem?_cons_zero]; exact rfl) (fun K hK => ?_)
  go_simp
  go_at_call 75; refine (hh _).mono ?_; rintro e v1 ⟨rfl, k1⟩
  have hL := hL.next k1
  (try simp only [])
  refine hK.out _ _ (C6.next hS0 k1) (fun hS1 => ?_)
  clear hK K
  (try simp only [Act.put]); (try simp only [List.setIfInBounds_toArray]); (repeat (first | simp only [List.set_cons_succ] | simp only [List.set_cons_zero]))
  refine wpTo_one (i := 21) (by kernel_rfl) (show _ = some _ by simp only [List.getElem?_toArray, List.getElem?_cons_succ, List.getElem?_cons_zero]; exact rfl) (fun K hK => ?_)
  go_simp
  go_at_call 77; refine (hhf _ hS1.t).mono ?_; rintro e v2 ⟨rfl, k2⟩
  have hL := hL.next k2
  (try simp only [])
  refine hK.out _ _ (C6.next hS1 k2) (fun hS2 => ?_)
  clear hK K
  (try simp only [Act.put]); (try simp only [List.setIfInBounds_toArray]); (repeat (first | simp only [List.set_cons_succ] | simp only [List.set_cons_zero]))
  refine wpTo_one (i := 22) (by kernel_rfl) (show _ = some _ by simp only [List.getElem?_toArray, List.getElem?_cons_succ, List.getElem?_cons_zero]; exact rfl) (fun K hK => ?_)
  go_simp
  go_at_call 84; refine (wr_any _ r f m cap d hL hm fr hw).mono ?_; rintro e v9 ⟨rfl, hT⟩
  have hF9 := hT.fr
  (try simp only [])
  refine hK.out _ _ (C6.fr hS2 hF9 hnb hni hnl h2) (fun hS3 => ?_)
  clear hK K
  (try simp only [Act.put]); (try simp only [List.setIfInBounds_toArray]); (repeat (first | simp only [List.set_cons_succ] | simp only [List.set_cons_zero]))
  refine wpTo_take (i := 23) (v := ?v23a) (show _ = some _ by simp only [List.getElem?_toArray, List.getElem?_cons_succ, List.getElem?_cons_zero]; exact rfl) (by kernel_rfl) (by kernel_rfl) (by kernel_rfl) (by kernel_rfl) (by exact fun _ _ _ h => h) (Or.inl ⟨by rfl, ?hy23a⟩) hS3 ?r23a
  case hy23a => (intro w hSw; (try dsimp only at hSw); go_simp; try with_reducible rfl)
  (try simp only [Act.put]); (try simp only [List.setIfInBounds_toArray]); (repeat (first | simp only [List.set_cons_succ] | simp only [List.set_cons_zero]))
  refine wpTo_done (by kernel_rfl) ?_
  go_wp2_with fail
  go_ret
  exact ⟨rfl, Turn.before ((B0'.trans (k1.mono B0'.size)).trans (k2.mono (Nat.le_trans B0'.size k1.size))) hT⟩

set_option maxRecDepth 100000 in
set_option maxHeartbeats 4000000 in
theorem fresh_step (v : World) (B0 I q r mm f m cap : Nat) (x : Lg) (d : St) (n : Nat) (hn : n < 18446744073709551616) (hL : Lay v r f m cap d) (hC : C6 v B0 I q r mm x 27 (.int .u64 (n : Int))) (hnb : ¬ fp r f m B0) (hni : ¬ fp r f m I) (hnl : ∀ k, fp r f m k → ¬ lp q mm k) (h2 : ∀ k, fp r f m k → 2 ≤ k) (hw : d.writes < 1000000000) :
    Calls Tryz.prog 99 #[.pointer (some ⟨B0, 0, none⟩), .pointer (some ⟨I, 0, none⟩)] v fun e v' => e = .returned (.int .i64 (d.wr ((n % 2 : Nat) : Int) (hdF x.L x.H n)).2) ∧ Turn v v' r f m cap (d.wr ((n % 2 : Nat) : Int) (hdF x.L x.H n)).1 := by
  have hL4 := hC.l.L4
  have hH2 := hC.l.H2
  have hhd := fun W (hW : Tabs W) => head_any x.L x.H n W hW hn (by omega) (by omega)
  have hpl := fun W => headPlace_any n hn W
  obtain ⟨j, hj⟩ : ∃ j, j = n % 2 := ⟨_, rfl⟩
  obtain ⟨fr, hfr⟩ : ∃ fr, fr = hdF x.L x.H n := ⟨_, rfl⟩
  rw [← hj] at hpl ⊢
  rw [← hfr] at hhd ⊢
  clear hj hfr
  have hwr := fun (W : World) (hLW : Lay W r f m cap d) => wr_any W r f m cap d hLW (j : Int) fr hw
  have B0' := below_drw v
  go_enter Tryz.func99, Tryz.ntmps99
  go_wp2_with fail
  refine wp_region_to (fun v => C6 v B0 I q r mm x 27 (.int .u64 (n : Int))) 14 (by kernel_rfl) ?_
  have hS0 := hC.drew
  have hL := hL.drew
  refine wpTo_take (i := 0) (v := ?v0b) (show _ = some _ by simp only [List.getElem?_toArray, List.getElem?_cons_zero]; exact rfl) (by kernel_rfl) (by kernel_rfl) (by kernel_rfl) (by kernel_rfl) (by exact fun _ _ _ h => h) (Or.inl ⟨by rfl, ?hy0b⟩) hS0 ?r0b
  case hy0b => (intro w hSw; (try dsimp only at hSw); have hcb := Blk.cell hSw.b 0 _ rfl; have hci := Blk.cell hSw.i 0 _ rfl; have hl0 := LL.c0 hSw.l; have hl3 := LL.c3 hSw.l; have hl4 := LL.c4 hSw.l; go_simp; try with_reducible rfl)
  (try simp only [Act.put]); (try simp only [List.setIfInBounds_toArray]); (repeat (first | simp only [List.set_cons_succ] | simp only [List.set_cons_zero]))
  refine wpTo_take (i := 1) (v := ?v1b) (show _ = some _ by simp only [List.getElem?_toArray, List.getElem?_cons_succ, List.getElem?_cons_zero]; exact rfl) (by kernel_rfl) (by kernel_rfl) (by kernel_rfl) (by kernel_rfl) (by exact fun _ _ _ h => h) (Or.inl ⟨by rfl, ?hy1b⟩) hS0 ?r1b
  case hy1b => (intro w hSw; (try dsimp only at hSw); go_simp; try with_reducible rfl)
  (try simp only [Act.put]); (try simp only [List.setIfInBounds_toArray]); (repeat (first | simp only [List.set_cons_succ] | simp only [List.set_cons_zero]))
  refine wpTo_take (i := 2) (v := ?v2b) (show _ = some _ by simp only [List.getElem?_toArray, List.getElem?_cons_succ, List.getElem?_cons_zero]; exact rfl) (by kernel_rfl) (by kernel_rfl) (by kernel_rfl) (by kernel_rfl) (by exact fun _ _ _ h => h) (Or.inl ⟨by rfl, ?hy2b⟩) hS0 ?r2b
  case hy2b => (intro w hSw; (try dsimp only at hSw); go_simp; try with_reducible rfl)
  (try simp only [Act.put]); (try simp only [List.setIfInBounds_toArray]); (repeat (first | simp only [List.set_cons_succ] | simp only [List.set_cons_zero]))
  refine wpTo_take (i := 3) (v := ?v3b) (show _ = some _ by simp only [List.getElem?_toArray, List.getElem?_cons_succ, List.getElem?_cons_zero]; exact rfl) (by kernel_rfl) (by kernel_rfl) (by kernel_rfl) (by kernel_rfl) (by exact fun _ _ _ h => h) (Or.inl ⟨by rfl, ?hy3b⟩) hS0 ?r3b
  case hy3b => (intro w hSw; (try dsimp only at hSw); have hcb := Blk.cell hSw.b 0 _ rfl; have hci := Blk.cell hSw.i 0 _ rfl; have hl0 := LL.c0 hSw.l; have hl3 := LL.c3 hSw.l; have hl4 := LL.c4 hSw.l; go_simp; try with_reducible rfl)
  (try simp only [Act.put]); (try simp only [List.setIfInBounds_toArray]); (repeat (first | simp only [List.set_cons_succ] | simp only [List.set_cons_zero]))
  refine wpTo_take (i := 4) (v := ?v4b) (show _ = some _ by simp only [List.getElem?_toArray, List.getElem?_cons_succ, List.getElem?_cons_zero]; exact rfl) (by kernel_rfl) (by kernel_rfl) (by kernel_rfl) (by kernel_rfl) (by exact fun _ _ _ h => h) (Or.inl ⟨by rfl, ?hy4b⟩) hS0 ?r4b
  case hy4b => (intro w hSw; (try dsimp only at hSw); have hcb := Blk.cell hSw.b 0 _ rfl; have hci := Blk.cell hSw.i 0 _ rfl; have hl0 := LL.c0 hSw.l; have hl3 := LL.c3 hSw.l; have hl4 := LL.c4 hSw.l; go_simp; try with_reducible rfl)
  (try simp only [Act.put]); (try simp only [List.setIfInBounds_toArray]); (repeat (first | simp only [List.set_cons_succ] | simp only [List.set_cons_zero]))
  refine wpTo_take (i := 6) (v := ?v6b) (show _ = some _ by simp only [List.getElem?_toArray, List.getElem?_cons_succ, List.getElem?_cons_zero]; exact rfl) (by kernel_rfl) (by kernel_rfl) (by kernel_rfl) (by kernel_rfl) (by exact fun _ _ _ h => h) (Or.inl ⟨by rfl, ?hy6b⟩) hS0 ?r6b
  case hy6b => (intro w hSw; (try dsimp only at hSw); have hcb := Blk.cell hSw.b 0 _ rfl; have hci := Blk.cell hSw.i 0 _ rfl; have hl0 := LL.c0 hSw.l; have hl3 := LL.c3 hSw.l; have hl4 := LL.c4 hSw.l; go_simp; try with_reducible rfl)
  (try simp only [Act.put]); (try simp only [List.setIfInBounds_toArray]); (repeat (first | simp only [List.set_cons_succ] | simp only [List.set_cons_zero]))
  refine wpTo_take (i := 7) (v := ?v7b) (show _ = some _ by simp only [List.getElem?_toArray, List.getElem?_cons_succ, List.getElem?_cons_zero]; exact rfl) (by kernel_rfl) (by kernel_rfl) (by kernel_rfl) (by kernel_rfl) (by exact fun _ _ _ h => h) (Or.inl ⟨by rfl, ?hy7b⟩) hS0 ?r7b
  case hy7b => (intro w hSw; (try dsimp only at hSw); go_simp; try with_reducible rfl)
  (try simp only [Act.put]); (try simp only [List.setIfInBounds_toArray]); (repeat (first | simp only [List.set_cons_succ] | simp only [List.set_cons_zero]))
  refine wpTo_take (i := 8) (v := ?v8b) (show _ = some _ by simp only [List.getElem?_toArray, List.getElem?_cons_succ, List.getElem?_cons_zero]; exact rfl) (by kernel_rfl) (by kernel_rfl) (by kernel_rfl) (by kernel_rfl) (by exact fun _ _ _ h => h) (Or.inl ⟨by rfl, ?hy8b⟩) hS0 ?r8b
  case hy8b => (intro w hSw; (try dsimp only at hSw); go_simp; try with_reducible rfl)
  (try simp only [Act.put]); (try simp only [List.setIfInBounds_toArray]); (repeat (first | simp only [List.set_cons_succ] | simp only [List.set_cons_zero]))
  refine wpTo_take (i := 9) (show _ = some _ by simp only [List.getElem?_toArray, List.getElem?_cons_succ, List.getElem?_cons_zero]; exact rfl) (by kernel_rfl) (by kernel_rfl) (by kernel_rfl) (by kernel_rfl) (by exact fun _ _ _ h => h) (yieldsIf_load_mid (by rfl) 102 (.tmp 11) rfl q 1 rfl (ly x.L x.H) _ (fun v h => LL.ly (C6.l h)) Tryz.underlying102 rfl (by kernel_rfl)) hS0 ?_
  (try simp only [Act.put]); (try simp only [List.setIfInBounds_toArray]); (repeat (first | simp only [List.set_cons_succ] | simp only [List.set_cons_zero]))
  refine wpTo_take (i := 10) (v := ?v10b) (show _ = some _ by simp only [List.getElem?_toArray, List.getElem?_cons_succ, List.getElem?_cons_zero]; exact rfl) (by kernel_rfl) (by kernel_rfl) (by kernel_rfl) (by kernel_rfl) (by exact fun _ _ _ h => h) (Or.inl ⟨by rfl, ?hy10b⟩) hS0 ?r10b
  case hy10b => (intro w hSw; (try dsimp only at hSw); have hcb := Blk.cell hSw.b 0 _ rfl; have hci := Blk.cell hSw.i 0 _ rfl; have hl0 := LL.c0 hSw.l; have hl3 := LL.c3 hSw.l; have hl4 := LL.c4 hSw.l; go_simp; try with_reducible rfl)
  (try simp only [Act.put]); (try simp only [List.setIfInBounds_toArray]); (repeat (first | simp only [List.set_cons_succ] | simp only [List.set_cons_zero]))
  refine wpTo_one (i := 5) (by kernel_rfl) (show _ = some _ by simp only [List.getElem?_toArray, List.getElem?_cons_succ, List.getElem?_cons_zero]; exact rfl) (fun K hK => ?_)
  go_simp
  go_at_call 91; refine (hpl _).mono ?_; rintro e v1 ⟨rfl, rfl⟩
  (try simp only [])
  refine hK.out _ _ (hS0) (fun hS1 => ?_)
  clear hK K
  (try simp only [Act.put]); (try simp only [List.setIfInBounds_toArray]); (repeat (first | simp only [List.set_cons_succ] | simp only [List.set_cons_zero]))
  refine wpTo_one (i := 11) (by kernel_rfl) (show _ = some _ by simp only [List.getElem?_toArray, List.getElem?_cons_succ, List.getElem?_cons_zero]; exact rfl) (fun K hK => ?_)
  go_simp
  go_at_call 92; refine (hhd _ hS1.t).mono ?_; rintro e v2 ⟨rfl, k2⟩
  have hL := hL.next k2
  (try simp only [])
  refine hK.out _ _ (C6.next hS1 k2) (fun hS2 => ?_)
  clear hK K
  (try simp only [Act.put]); (try simp only [List.setIfInBounds_toArray]); (repeat (first | simp only [List.set_cons_succ] | simp only [List.set_cons_zero]))
  refine wpTo_one (i := 12) (by kernel_rfl) (show _ = some _ by simp only [List.getElem?_toArray, List.getElem?_cons_succ, List.getElem?_cons_zero]; exact rfl) (fun K hK => ?_)
  go_simp
  go_at_call 84; refine (hwr _ hL).mono ?_; rintro e v9 ⟨rfl, hT⟩
  have hF9 := hT.fr
  (try simp only [])
  refine hK.out _ _ (C6.fr hS2 hF9 hnb hni hnl h2) (fun hS3 => ?_)
  clear hK K
  (try simp only [Act.put]); (try simp only [List.setIfInBounds_toArray]); (repeat (first | simp only [List.set_cons_succ] | simp only [List.set_cons_zero]))
  refine wpTo_take (i := 13) (v := ?v13b) (show _ = some _ by simp only [List.getElem?_toArray, List.getElem?_cons_succ, List.getElem?_cons_zero]; exact rfl) (by kernel_rfl) (by kernel_rfl) (by kernel_rfl) (by kernel_rfl) (by exact fun _ _ _ h => h) (Or.inl ⟨by rfl, ?hy13b⟩) hS3 ?r13b
  case hy13b => (intro w hSw; (try dsimp only at hSw); go_simp; try with_reducible rfl)
  (try simp only [Act.put]); (try simp only [List.setIfInBounds_toArray]); (repeat (first | simp only [List.set_cons_succ] | simp only [List.set_cons_zero]))
  refine wpTo_done (by kernel_rfl) ?_
  go_wp2_with fail
  go_ret
  exact ⟨rfl, Turn.before (B0'.trans (k2.mono B0'.size)) hT⟩

structure C4 (v : World) (B0 q r mm : Nat) (x : Lg) : Prop where
  l : LL v q r mm x
  b : Blk v B0 41 [.pointer (some ⟨q, 0, none⟩)]
  t : Tabs v
theorem C4.next {v v' : World} {B0 q r mm : Nat} {x : Lg} (h : C4 v B0 q r mm x) (hb : Below v.heap.size v v') : C4 v' B0 q r mm x := ⟨h.l.next hb, h.b.next hb, h.t.next hb⟩
theorem C4.drew {v : World} {B0 q r mm : Nat} {x : Lg} (h : C4 v B0 q r mm x) : C4 v.drew B0 q r mm x := h.next (below_drw v)
/-- Behind an append to a row of steps. -/
theorem C4.push {v v' : World} {B0 q r mm base : Nat} {x : Lg} (h : C4 v B0 q r mm x) (hb : Below base v v') (hK : ∀ g t vs, t ≠ 139 → Blk v g t vs → Blk v' g t vs) (hl : ∀ k, lp q mm k → k < base) (h2 : 2 ≤ base) : C4 v' B0 q r mm x :=
  ⟨h.l.keep (hb.block q (hl q (.inl rfl))) (hb.block mm (hl mm (.inr rfl))), hK _ _ _ (by decide) h.b, h.t.later hb h2⟩
/-- The steps of a Checkpoint: the first k homes; all. -/
def bst (L g : Nat) (W : Nat → Option Pg) (l : List Nat) : List Stp := l.map fun p => .wr (2 + L + p) (hmF g p ((W p).getD zp))
def ckS (x : Lg) : List Stp := bst x.L x.g (ov x.ws) (chg x.H (ov x.ws)) ++ [.fl, .wr ((x.g + 1) % 2) (hdF x.L x.H (x.g + 1)), .fl]
theorem bst_succ (L g : Nat) (W : Nat → Option Pg) (l : List Nat) (k p : Nat) (y : Pg) (h : l[k]? = some p) (hy : W p = some y) : bst L g W (l.take (k + 1)) = bst L g W (l.take k) ++ [.wr (2 + L + p) (hmF g p y)] := by
  rw [List.take_add_one, h]
  simp [bst, hy]
theorem bst_len (L g : Nat) (W : Nat → Option Pg) (l : List Nat) : (bst L g W l).length = l.length := by simp [bst]
/-- How a row of numbers reads. -/
theorem nvs_shape {w : World} {base : Nat} {v : Value} {l : List Nat} (h : w.ownsRow base 3 1 v l.length (nvs l)) : ∃ ao cp, v = .slice ao l.length cp ∧ ∀ (k p : Nat), l[k]? = some p → ∃ g, ∃ cur : List Value, ao = some ⟨g, 0, none⟩ ∧ Blk w g 3 cur ∧ cur[k]? = some (.int .i64 (p : Int)) := by
  rcases h.2 with ⟨rfl, h0⟩ | ⟨g, cp, cur, rfl, hg, hc, h1, h2, h3, h4⟩
  · refine ⟨none, 0, by rw [h0], fun k p hk => ?_⟩
    have hl0 : l = [] := List.eq_nil_of_length_eq_zero h0
    subst hl0
    simp at hk
  · refine ⟨some ⟨g, 0, none⟩, cp, rfl, fun k p hk => ⟨g, cur.toList, rfl, by unfold Blk; exact hc, ?_⟩⟩
    have hkl := (List.getElem?_eq_some_iff.1 hk).1
    have h5 : (cur.toList.take (l.length * 1))[k]? = (nvs l)[k]? := by rw [h4]
    rw [List.getElem?_take, if_pos (by omega)] at h5
    rw [h5]
    simp [nvs, hk]
set_option maxRecDepth 100000 in
set_option maxHeartbeats 8000000 in
theorem bringing_any (w : World) (q r mm f m cap : Nat) (x : Lg) (h : LL w q r mm x) (hT : Tabs w) (hfp : ∀ k, fp r f m k → 2 ≤ k ∧ k < w.heap.size) (hap : ∀ k, lp q mm k → ¬ fp r f m k) :
    Calls Tryz.prog 72 #[.pointer (some ⟨q, 0, none⟩)] w fun e w' => ∃ v, e = .returned v ∧ Rowed w' w.heap.size v r f m cap (ckS x) ∧ Below w.heap.size w w' := by
  have hmf := hmf0
  have hgn := h.gen
  have hL4 := h.L4
  have hH2 := h.H2
  have hlow := h.low
  have hll := h.lt
  have hT2 := hT.two
  obtain ⟨B0, hB0⟩ : ∃ b, b = w.heap.size := ⟨_, rfl⟩
  have kk := (Below.refl w.heap.size w).alloc (Nat.le_refl _) (.cells #[.pointer (some ⟨q, 0, none⟩)] 41)
  have hbb := Blk.new w 41 [.pointer (some ⟨q, 0, none⟩)]
  have hC : C4 (w.alloc (.cells #[.pointer (some ⟨q, 0, none⟩)] 41)) B0 q r mm x := ⟨h.next kk, by rw [hB0]; exact hbb, hT.next kk⟩
  have cb := hbb.cell 0 _ rfl
  obtain ⟨l, hl⟩ : ∃ l, l = chg x.H (ov x.ws) := ⟨_, rfl⟩
  have hch := fun W (hW : LL W q r mm x) => changed_any W q r mm x hW
  rw [← hl] at hch
  have hlm : ∀ (k p : Nat), l[k]? = some p → p < x.H ∧ ∃ y, ov x.ws p = some y := fun k p hk => by
    have h1 := (chg_mem x.H (ov x.ws) p).1 (hl ▸ List.mem_of_getElem? hk)
    cases hv : ov x.ws p with
    | none => rw [hv] at h1; simp at h1
    | some y => exact ⟨h1.1, y, rfl⟩
  have hln : l.length ≤ 16384 := by have := chg_len x.H (ov x.ws); rw [← hl] at this; omega
  have HL : Hid (l = chg x.H (ov x.ws)) := hl
  clear hl
  go_enter Tryz.func72, Tryz.ntmps72
  go_wp2_with (go_at_call 97; refine (hch _ hC.l).mono ?_; rintro e w1 ⟨v, rfl, hown, kb⟩; obtain ⟨ao, cp, rfl, hrd⟩ := nvs_shape hown)
  have hC1 := hC.next kb
  have hk1 : Below w.heap.size w w1 := kk.trans (kb.mono (by simp))
  rw [← hB0] at hk1 ⊢
  have hfp' : ∀ k, fp r f m k → 2 ≤ k ∧ k < B0 := by rw [hB0]; exact hfp
  have hll' : ∀ k, lp q mm k → k < B0 := by rw [hB0]; exact hll
  have hB2 : 2 ≤ B0 := by rw [hB0]; exact hT2
  have HB : Hid (B0 = w.heap.size) := hB0
  clear hown hch cb hbb hC kk kb hB0 hfp hll
  go_loopw [3, 11] (fun u i wr => ∃ k : Nat, k ≤ l.length ∧ i = .int .i64 (k : Int) ∧ Rowed wr B0 u r f m cap (bst x.L x.g (ov x.ws) (l.take k)) ∧ C4 wr B0 q r mm x ∧ Below B0 w wr ∧ B0 ≤ wr.heap.size ∧ (∀ g cur, Blk w1 g 3 cur → Blk wr g 3 cur)) (fun _ i _ => l.length - (intOf i).toNat)
  case atStart => exact ⟨0, by omega, rfl, Rowed.nil _ _ _ _ _ _, hC1, hk1, by have := hC1.b.lt; omega, fun _ _ h => h⟩
  case round =>
    obtain ⟨k, hk, rfl, hR, hC2, hb, hbs, hkeep⟩ := hrel
    clear hC1 hk1
    by_cases hlt : k < l.length
    · have hkI : (k : Int) < (l.length : Int) := by omega
      obtain ⟨p, hp⟩ : ∃ p, l[k]? = some p := ⟨_, List.getElem?_eq_getElem hlt⟩
      obtain ⟨hpH, y, hy⟩ := hlm k p hp
      obtain ⟨g, cur, rfl, hg, hcu⟩ := hrd k p hp
      have hcell := (hkeep g cur hg).cell k _ hcu
      have hb1 := (Below.refl wr.heap.size wr).alloc (Nat.le_refl _) (.cells #[.int .i64 (p : Int)] 3)
      have hI := Blk.new wr 3 [.int .i64 (p : Int)]
      obtain ⟨FN, hFN⟩ : ∃ FN, FN = Value.func (.func 98) #[] #[.pointer (some ⟨B0, 0, none⟩), .pointer (some ⟨wr.heap.size, 0, none⟩)] := ⟨_, rfl⟩
      have hb2 := hb1.alloc (by simp) (.cells #[FN] 139)
      have hFC := Blk.new (wr.alloc (.cells #[.int .i64 (p : Int)] 3)) 139 [FN]
      rw [World.size_alloc] at hFC
      have hC3 := hC2.next hb2
      have hst : StepC ((wr.alloc (.cells #[.int .i64 (p : Int)] 3)).alloc (.cells #[FN] 139)) r f m cap FN (.wr (2 + x.L + p) (hmF x.g p y)) := by
        obtain ⟨D, ⟨es, c, hmb, _⟩, _⟩ := hC3.l.map
        refine ⟨98, _, _, [(B0, .cells #[.pointer (some ⟨q, 0, none⟩)] 41), (wr.heap.size, .cells #[.int .i64 (p : Int)] 3), (q, .cells (lgc r mm x).toArray 105), (mm, .map es c)], hFN, entr67, ?_, ?_⟩
        · intro z hz
          simp only [List.mem_cons, List.not_mem_nil, or_false] at hz
          rcases hz with rfl | rfl | rfl | rfl
          · exact ⟨hC3.b, fun h => by have := hfp' _ h; omega, fun C fr e => by cases e⟩
          · exact ⟨hI.alloc _, fun h => by have := hfp' _ h; omega, fun C fr e => by cases e⟩
          · exact ⟨hC3.l.blk, hap q (.inl rfl), fun C fr e => by cases e⟩
          · exact ⟨hmb, hap mm (.inr rfl), fun C fr e => by cases e⟩
        · intro v' m' d hL hTv hcaps h2 hw _
          have q1 := hcaps (B0, .cells #[.pointer (some ⟨q, 0, none⟩)] 41) (by simp)
          have q2 := hcaps (wr.heap.size, .cells #[.int .i64 (p : Int)] 3) (by simp)
          have q3 := hcaps (q, .cells (lgc r mm x).toArray 105) (by simp)
          have q4 := hcaps (mm, .map es c) (by simp)
          exact bring_step v' B0 wr.heap.size q r mm f m' cap x d p y hy hpH hL ⟨hC3.l.keep (q3.1.trans hC3.l.blk.symm) (q4.1.trans hmb.symm), q1.1, q2.1, hTv⟩ q1.2 q2.2 (fun k hk hkl => by rcases hkl with rfl | rfl; exact q3.2 hk; exact q4.2 hk) h2 hw
      have hR2 := hR.next hb2
      have hbbw := hb.trans (hb2.mono hbs)
      have hS2 : B0 ≤ ((wr.alloc (.cells #[.int .i64 (p : Int)] 3)).alloc (.cells #[FN] 139)).heap.size := Nat.le_trans hbs hb2.size
      have HZ : Hid (bst x.L x.g (ov x.ws) (l.take (k + 1)) = bst x.L x.g (ov x.ws) (l.take k) ++ [.wr (2 + x.L + p) (hmF x.g p y)]) := bst_succ _ _ _ l k p y hp hy
      have hzl : (bst x.L x.g (ov x.ws) (l.take k)).length ≤ 16384 := by rw [bst_len, List.length_take]; omega
      obtain ⟨ZK, hZK⟩ : ∃ ZK, ZK = bst x.L x.g (ov x.ws) (l.take k) := ⟨_, rfl⟩
      rw [← hZK] at hR2 HZ hzl
      have hone := only_one (P := fun c s => StepC ((wr.alloc (.cells #[.int .i64 (p : Int)] 3)).alloc (.cells #[FN] 139)) r f m cap c s) hst
      have h103 : FN.oneCell' = true := by rw [hFN]; rfl
      clear hZK hst hR hb1 hI
      go_wp2_with (at_builtin; rw [← hFN]; refine push_fns rfl _ _ rfl B0 _ r f m cap ZK [.wr (2 + x.L + p) (hmF x.g p y)] rfl hR2 (wr.heap.size + 1) 1 [FN] rfl hFC rfl rfl (by simpa using h103) hone (by simp; omega) hS2 ?_; intro v' w2 hR3 hB3 hK3)
      refine ⟨⟨k + 1, by omega, by go_num, by rw [HZ.out]; exact hR3, hC3.push hB3 hK3 hll' hB2, hbbw.trans hB3, Nat.le_trans hS2 hB3.size, fun g cur hg => hK3 _ _ _ (by decide) (((hkeep g cur hg).alloc _).alloc _)⟩, by simp [intOf]; omega⟩
    · have hkI : ¬ (k : Int) < (l.length : Int) := by omega
      have ek : l.take k = l := List.take_of_length_le (by omega)
      rw [ek] at hR
      have cb := hC2.b.cell 0 _ rfl
      have cg := hC2.l.c3
      obtain ⟨n, hn⟩ : ∃ n, n = x.g + 1 := ⟨_, rfl⟩
      have hnI : (x.g : Int) + 1 = (n : Int) := by omega
      have hnw : IntKind.u64.wrap (n : Int) = (n : Int) := by rw [IntKind.wrap_u64]; omega
      have HN : Hid (n = x.g + 1) := hn
      clear hn hrd hkeep hlt hk
      go_upto_region 9 with fail
      have hb1 := (Below.refl wr.heap.size wr).alloc (Nat.le_refl _) (.cells #[.int .u64 (n : Int)] 27)
      have hI := Blk.new wr 27 [.int .u64 (n : Int)]
      have hC3 := hC2.next hb1
      have hR1 := hR.next hb1
      have hbA := hb.trans (hb1.mono hbs)
      have hsA : B0 ≤ (wr.alloc (.cells #[.int .u64 (n : Int)] 27)).heap.size := Nat.le_trans hbs hb1.size
      obtain ⟨N0, hN0⟩ : ∃ N0, N0 = wr.heap.size := ⟨_, rfl⟩
      obtain ⟨wA, hwA⟩ : ∃ wA, wA = wr.alloc (.cells #[.int .u64 (n : Int)] 27) := ⟨_, rfl⟩
      rw [← hwA] at hC3 hR1 hbA hsA hI ⊢
      rw [← hN0] at hI ⊢
      have hN0b : B0 ≤ N0 := by omega
      clear hC2 hR hb hbs hb1 hwA hN0 cb cg hkI ek
      refine wp_region_to (fun v => C4 v B0 q r mm x) 15 (by kernel_rfl) ?_
      have hS0 := hC3.drew
      refine wpTo_take (i := 0) (v := ?v0y1) (show _ = some _ by simp only [List.getElem?_toArray, List.getElem?_cons_zero]; exact rfl) (by kernel_rfl) (by kernel_rfl) (by kernel_rfl) (by kernel_rfl) (by exact fun _ _ _ h => h) (Or.inl ⟨by rfl, ?hy0y1⟩) hS0 ?r0y1
      case hy0y1 => (intro w hSw; (try dsimp only at hSw); go_simp; try with_reducible rfl)
      (try simp only [Act.put]); (try simp only [List.setIfInBounds_toArray]); (repeat (first | simp only [List.set_cons_succ] | simp only [List.set_cons_zero]))
      refine wpTo_take (i := 1) (v := ?v1y2) (show _ = some _ by simp only [List.getElem?_toArray, List.getElem?_cons_succ, List.getElem?_cons_zero]; exact rfl) (by kernel_rfl) (by kernel_rfl) (by kernel_rfl) (by kernel_rfl) (by exact fun _ _ _ h => h) (Or.inl ⟨by rfl, ?hy1y2⟩) hS0 ?r1y2
      case hy1y2 => (intro w hSw; (try dsimp only at hSw); have hcb := Blk.cell hSw.b 0 _ rfl; have hl0 := LL.c0 hSw.l; go_simp; try with_reducible rfl)
      (try simp only [Act.put]); (try simp only [List.setIfInBounds_toArray]); (repeat (first | simp only [List.set_cons_succ] | simp only [List.set_cons_zero]))
      refine wpTo_take (i := 2) (v := ?v2y3) (show _ = some _ by simp only [List.getElem?_toArray, List.getElem?_cons_succ, List.getElem?_cons_zero]; exact rfl) (by kernel_rfl) (by kernel_rfl) (by kernel_rfl) (by kernel_rfl) (by exact fun _ _ _ h => h) (Or.inl ⟨by rfl, ?hy2y3⟩) hS0 ?r2y3
      case hy2y3 => (intro w hSw; (try dsimp only at hSw); go_simp; try with_reducible rfl)
      (try simp only [Act.put]); (try simp only [List.setIfInBounds_toArray]); (repeat (first | simp only [List.set_cons_succ] | simp only [List.set_cons_zero]))
      refine wpTo_take (i := 3) (v := ?v3y4) (show _ = some _ by simp only [List.getElem?_toArray, List.getElem?_cons_succ, List.getElem?_cons_zero]; exact rfl) (by kernel_rfl) (by kernel_rfl) (by kernel_rfl) (by kernel_rfl) (by exact fun _ _ _ h => h) (Or.inl ⟨by rfl, ?hy3y4⟩) hS0 ?r3y4
      case hy3y4 => (intro w hSw; (try dsimp only at hSw); go_simp; try with_reducible rfl)
      (try simp only [Act.put]); (try simp only [List.setIfInBounds_toArray]); (repeat (first | simp only [List.set_cons_succ] | simp only [List.set_cons_zero]))
      refine wpTo_take (i := 4) (v := ?v4y5) (show _ = some _ by simp only [List.getElem?_toArray, List.getElem?_cons_succ, List.getElem?_cons_zero]; exact rfl) (by kernel_rfl) (by kernel_rfl) (by kernel_rfl) (by kernel_rfl) (by exact fun _ _ _ h => h) (Or.inl ⟨by rfl, ?hy4y5⟩) hS0 ?r4y5
      case hy4y5 => (intro w hSw; (try dsimp only at hSw); have hcb := Blk.cell hSw.b 0 _ rfl; have hl0 := LL.c0 hSw.l; go_simp; try with_reducible rfl)
      (try simp only [Act.put]); (try simp only [List.setIfInBounds_toArray]); (repeat (first | simp only [List.set_cons_succ] | simp only [List.set_cons_zero]))
      refine wpTo_take (i := 5) (v := ?v5y6) (show _ = some _ by simp only [List.getElem?_toArray, List.getElem?_cons_succ, List.getElem?_cons_zero]; exact rfl) (by kernel_rfl) (by kernel_rfl) (by kernel_rfl) (by kernel_rfl) (by exact fun _ _ _ h => h) (Or.inl ⟨by rfl, ?hy5y6⟩) hS0 ?r5y6
      case hy5y6 => (intro w hSw; (try dsimp only at hSw); go_simp; try with_reducible rfl)
      (try simp only [Act.put]); (try simp only [List.setIfInBounds_toArray]); (repeat (first | simp only [List.set_cons_succ] | simp only [List.set_cons_zero]))
      refine wpTo_take (i := 6) (v := ?v6y7) (show _ = some _ by simp only [List.getElem?_toArray, List.getElem?_cons_succ, List.getElem?_cons_zero]; exact rfl) (by kernel_rfl) (by kernel_rfl) (by kernel_rfl) (by kernel_rfl) (by exact fun _ _ _ h => h) (Or.inl ⟨by rfl, ?hy6y7⟩) hS0 ?r6y7
      case hy6y7 => (intro w hSw; (try dsimp only at hSw); go_simp; try with_reducible rfl)
      (try simp only [Act.put]); (try simp only [List.setIfInBounds_toArray]); (repeat (first | simp only [List.set_cons_succ] | simp only [List.set_cons_zero]))
      refine wpTo_take (i := 7) (v := ?v7y8) (show _ = some _ by simp only [List.getElem?_toArray, List.getElem?_cons_succ, List.getElem?_cons_zero]; exact rfl) (by kernel_rfl) (by kernel_rfl) (by kernel_rfl) (by kernel_rfl) (by exact fun _ _ _ h => h) (Or.inl ⟨by rfl, ?hy7y8⟩) hS0 ?r7y8
      case hy7y8 => (intro w hSw; (try dsimp only at hSw); have hcb := Blk.cell hSw.b 0 _ rfl; have hl0 := LL.c0 hSw.l; go_simp; try with_reducible rfl)
      (try simp only [Act.put]); (try simp only [List.setIfInBounds_toArray]); (repeat (first | simp only [List.set_cons_succ] | simp only [List.set_cons_zero]))
      refine wpTo_take (i := 8) (v := ?v8y9) (show _ = some _ by simp only [List.getElem?_toArray, List.getElem?_cons_succ, List.getElem?_cons_zero]; exact rfl) (by kernel_rfl) (by kernel_rfl) (by kernel_rfl) (by kernel_rfl) (by exact fun _ _ _ h => h) (Or.inl ⟨by rfl, ?hy8y9⟩) hS0 ?r8y9
      case hy8y9 => (intro w hSw; (try dsimp only at hSw); go_simp; try with_reducible rfl)
      (try simp only [Act.put]); (try simp only [List.setIfInBounds_toArray]); (repeat (first | simp only [List.set_cons_succ] | simp only [List.set_cons_zero]))
      refine wpTo_take (i := 9) (v := ?v9y10) (show _ = some _ by simp only [List.getElem?_toArray, List.getElem?_cons_succ, List.getElem?_cons_zero]; exact rfl) (by kernel_rfl) (by kernel_rfl) (by kernel_rfl) (by kernel_rfl) (by exact fun _ _ _ h => h) (Or.inl ⟨by rfl, ?hy9y10⟩) hS0 ?r9y10
      case hy9y10 => (intro w hSw; (try dsimp only at hSw); go_simp; try with_reducible rfl)
      (try simp only [Act.put]); (try simp only [List.setIfInBounds_toArray]); (repeat (first | simp only [List.set_cons_succ] | simp only [List.set_cons_zero]))
      refine wpTo_take (i := 10) (v := ?v10y11) (show _ = some _ by simp only [List.getElem?_toArray, List.getElem?_cons_succ, List.getElem?_cons_zero]; exact rfl) (by kernel_rfl) (by kernel_rfl) (by kernel_rfl) (by kernel_rfl) (by exact fun _ _ _ h => h) (Or.inl ⟨by rfl, ?hy10y11⟩) hS0 ?r10y11
      case hy10y11 => (intro w hSw; (try dsimp only at hSw); have hcb := Blk.cell hSw.b 0 _ rfl; have hl0 := LL.c0 hSw.l; go_simp; try with_reducible rfl)
      (try simp only [Act.put]); (try simp only [List.setIfInBounds_toArray]); (repeat (first | simp only [List.set_cons_succ] | simp only [List.set_cons_zero]))
      refine wpTo_take (i := 11) (v := ?v11y12) (show _ = some _ by simp only [List.getElem?_toArray, List.getElem?_cons_succ, List.getElem?_cons_zero]; exact rfl) (by kernel_rfl) (by kernel_rfl) (by kernel_rfl) (by kernel_rfl) (by exact fun _ _ _ h => h) (Or.inl ⟨by rfl, ?hy11y12⟩) hS0 ?r11y12
      case hy11y12 => (intro w hSw; (try dsimp only at hSw); go_simp; try with_reducible rfl)
      (try simp only [Act.put]); (try simp only [List.setIfInBounds_toArray]); (repeat (first | simp only [List.set_cons_succ] | simp only [List.set_cons_zero]))
      obtain ⟨FL, hFL⟩ : ∃ FL, FL = Value.func (.func 82) #[.pointer (some ⟨r, 0, none⟩)] #[] := ⟨_, rfl⟩
      obtain ⟨FN, hFN⟩ : ∃ FN, FN = Value.func (.func 99) #[] #[.pointer (some ⟨B0, 0, none⟩), .pointer (some ⟨N0, 0, none⟩)] := ⟨_, rfl⟩
      have hb2 : Below wA.heap.size wA (wA.alloc (.cells #[FL, FN, FL] 139)).drew := ((Below.refl wA.heap.size wA).alloc (Nat.le_refl _) (.cells #[FL, FN, FL] 139)).trans ⟨rfl, rfl, rfl, Nat.le_refl _, fun _ _ => rfl⟩
      have hFC : (wA.alloc (.cells #[FL, FN, FL] 139)).drew.heap[wA.heap.size]? = some (.cells #[FL, FN, FL] 139 (0, 0)) := Blk.new wA 139 [FL, FN, FL]
      have hC5 := hC3.next hb2
      have hR2 := hR1.next hb2
      have hI2 := hI.next hb2
      obtain ⟨wB, hwB⟩ : ∃ wB, wB = (wA.alloc (.cells #[FL, FN, FL] 139)).drew := ⟨_, rfl⟩
      rw [← hwB] at hC5 hR2 hI2 hFC hb2
      have hstN : StepC wB r f m cap FN (.wr ((x.g + 1) % 2) (hdF x.L x.H (x.g + 1))) := by
        obtain ⟨D, ⟨es, c, hmb, _⟩, _⟩ := hC5.l.map
        rw [← HN.out]
        refine ⟨99, _, _, [(B0, .cells #[.pointer (some ⟨q, 0, none⟩)] 41), (N0, .cells #[.int .u64 (n : Int)] 27), (q, .cells (lgc r mm x).toArray 105), (mm, .map es c)], hFN, entr68, ?_, ?_⟩
        · intro z hz
          simp only [List.mem_cons, List.not_mem_nil, or_false] at hz
          rcases hz with rfl | rfl | rfl | rfl
          · exact ⟨hC5.b, fun h => by have := hfp' _ h; omega, fun C fr e => by cases e⟩
          · exact ⟨hI2, fun h => by have := hfp' _ h; omega, fun C fr e => by cases e⟩
          · exact ⟨hC5.l.blk, hap q (.inl rfl), fun C fr e => by cases e⟩
          · exact ⟨hmb, hap mm (.inr rfl), fun C fr e => by cases e⟩
        · intro v' m' d hL hTv hcaps h2 hw _
          have q1 := hcaps (B0, .cells #[.pointer (some ⟨q, 0, none⟩)] 41) (by simp)
          have q2 := hcaps (N0, .cells #[.int .u64 (n : Int)] 27) (by simp)
          have q3 := hcaps (q, .cells (lgc r mm x).toArray 105) (by simp)
          have q4 := hcaps (mm, .map es c) (by simp)
          have hnb : n < 18446744073709551616 := by have := HN.out; omega
          exact fresh_step v' B0 N0 q r mm f m' cap x d n hnb hL ⟨hC5.l.keep (q3.1.trans hC5.l.blk.symm) (q4.1.trans hmb.symm), q1.1, q2.1, hTv⟩ q1.2 q2.2 (fun k hk hkl => by rcases hkl with rfl | rfl; exact q3.2 hk; exact q4.2 hk) h2 hw
      have hfls : StepC wB r f m cap FL .fl := hFL ▸ fl_step _ r f m cap
      have hall : ∀ (j : Nat) c s, [FL, FN, FL][j]? = some c → [Stp.fl, .wr ((x.g + 1) % 2) (hdF x.L x.H (x.g + 1)), .fl][j]? = some s → StepC wB r f m cap c s := by
        intro j c s h1 h2
        match j with
        | 0 => simp at h1 h2; subst h1; subst h2; exact hfls
        | 1 => simp at h1 h2; subst h1; subst h2; exact hstN
        | 2 => simp at h1 h2; subst h1; subst h2; exact hfls
        | j + 3 => simp at h1
      have h103 : ∀ u ∈ [FL, FN, FL], u.oneCell' = true := by
        intro u hu
        simp only [List.mem_cons, List.not_mem_nil, or_false] at hu
        rcases hu with rfl | rfl | rfl
        · rw [hFL]; rfl
        · rw [hFN]; rfl
        · rw [hFL]; rfl
      have hzl : (bst x.L x.g (ov x.ws) l).length ≤ 16384 := by rw [bst_len]; exact hln
      have hsB : B0 ≤ wB.heap.size := Nat.le_trans hsA hb2.size
      have hbB := hbA.trans (hb2.mono hsA)
      have HF : Hid (ckS x = bst x.L x.g (ov x.ws) l ++ [Stp.fl, .wr ((x.g + 1) % 2) (hdF x.L x.H (x.g + 1)), .fl]) := by show _ = _; rw [HL.out]; rfl
      obtain ⟨ZE, hZE⟩ : ∃ ZE, ZE = bst x.L x.g (ov x.ws) l := ⟨_, rfl⟩
      rw [← hZE] at hR2 HF hzl
      clear hZE hstN hfls hR1 hb2
      refine wpTo_one (i := 12) (by kernel_rfl) (show _ = some _ by simp only [List.getElem?_toArray, List.getElem?_cons_succ, List.getElem?_cons_zero]; exact rfl) (fun K hK => ?_)
      go_simp
      rw [← hFL, ← hFN, ← hwB]
      refine hK.out _ _ (hC5) (fun _ => ?_)
      clear hK K
      (try simp only [Act.put]); (try simp only [List.setIfInBounds_toArray]); (repeat (first | simp only [List.set_cons_succ] | simp only [List.set_cons_zero]))
      refine wpTo_one (i := 13) (by kernel_rfl) (show _ = some _ by simp only [List.getElem?_toArray, List.getElem?_cons_succ, List.getElem?_cons_zero]; exact rfl) (fun K hK => ?_)
      rw [if_pos (by rfl)]
      refine push_fns_k _ _ rfl B0 _ r f m cap ZE [.fl, .wr ((x.g + 1) % 2) (hdF x.L x.H (x.g + 1)), .fl] rfl hR2 wA.heap.size 3 [FL, FN, FL] rfl hFC rfl rfl h103 hall (by simp; omega) hsB ?_
      intro v' w2 hR3 hB3 hK3
      have hC6 := hC5.push hB3 hK3 hll' hB2
      refine hK.out _ _ (hC6) (fun _ => ?_)
      clear hK K
      (try simp only [Act.put]); (try simp only [List.setIfInBounds_toArray]); (repeat (first | simp only [List.set_cons_succ] | simp only [List.set_cons_zero]))
      refine wpTo_take (i := 14) (v := ?v14y13) (show _ = some _ by simp only [List.getElem?_toArray, List.getElem?_cons_succ, List.getElem?_cons_zero]; exact rfl) (by kernel_rfl) (by kernel_rfl) (by kernel_rfl) (by kernel_rfl) (by exact fun _ _ _ h => h) (Or.inl ⟨by rfl, ?hy14y13⟩) hC6 ?r14y13
      case hy14y13 => (intro w hSw; (try dsimp only at hSw); go_simp; try with_reducible rfl)
      (try simp only [Act.put]); (try simp only [List.setIfInBounds_toArray]); (repeat (first | simp only [List.set_cons_succ] | simp only [List.set_cons_zero]))
      refine wpTo_done (by kernel_rfl) ?_
      go_wp2_with fail
      go_ret
      refine ⟨_, rfl, ?_, ?_⟩
      · rw [← HB.out, HF.out]
        exact hR3
      · rw [← HB.out]
        exact hbB.trans hB3

end Go.Proofs.YtndfhmlcfaaaiaaGreatDoor
