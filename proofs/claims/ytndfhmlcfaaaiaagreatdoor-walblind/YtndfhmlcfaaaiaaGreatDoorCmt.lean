/- A record is written: its steps. -/
import Derived.Test.YtndfhmlcfaaaiaaGreatDoorRec
import Derived.Test.YtndfhmlcfaaaiaaGreatDoorCkp2
namespace Go.Proofs.YtndfhmlcfaaaiaaGreatDoor
open Go.RowKit

structure C7 (v : World) (B0 I S0 q r mm : Nat) (x : Lg) (j : Nat) (S : Sec) : Prop where
  l : LL v q r mm x
  b : Blk v B0 41 [.pointer (some ⟨q, 0, none⟩)]
  i : Blk v I 3 [.int .i64 (j : Int)]
  s : Blk v S0 26 (sb S)
section
variable {v v' : World} {B0 I S0 q r mm f m j : Nat} {x : Lg} {S : Sec}
theorem C7.next (h : C7 v B0 I S0 q r mm x j S) (hb : Below v.heap.size v v') : C7 v' B0 I S0 q r mm x j S := ⟨h.l.next hb, h.b.next hb, h.i.next hb, h.s.next hb⟩
theorem C7.drew (h : C7 v B0 I S0 q r mm x j S) : C7 v.drew B0 I S0 q r mm x j S := h.next (below_drw v)
theorem C7.fr (h : C7 v B0 I S0 q r mm x j S) (hf : Fr (fp r f m) v v') (hb : ¬ fp r f m B0) (hi : ¬ fp r f m I) (hs : ¬ fp r f m S0) (hl : ∀ k, fp r f m k → ¬ lp q mm k) : C7 v' B0 I S0 q r mm x j S := ⟨h.l.fr hf hl, h.b.fr hf hb, h.i.fr hf hi, h.s.fr hf hs⟩
end

set_option maxRecDepth 100000 in
set_option maxHeartbeats 4000000 in
theorem write_step (v : World) (B0 I S0 q r mm f m cap : Nat) (x : Lg) (d : St) (j : Nat) (S : Sec) (hj : j ≤ 10000) (hL : Lay v r f m cap d) (hC : C7 v B0 I S0 q r mm x j S) (hnb : ¬ fp r f m B0) (hni : ¬ fp r f m I) (hns : ¬ fp r f m S0) (hnl : ∀ k, fp r f m k → ¬ lp q mm k) (hw : d.writes < 1000000000) :
    Calls Tryz.prog 83 #[.pointer (some ⟨B0, 0, none⟩), .pointer (some ⟨I, 0, none⟩), .pointer (some ⟨S0, 0, none⟩)] v fun e v' => e = .returned (.int .i64 (d.wr ((2 + tot x.ws + j : Nat) : Int) S).2) ∧ Turn v v' r f m cap (d.wr ((2 + tot x.ws + j : Nat) : Int) S).1 := by
  have hL4 := hC.l.L4
  have hus := hC.l.used
  have hwr := fun (W : World) (hLW : Lay W r f m cap d) => wr_any W r f m cap d hLW (2 + (tot x.ws : Int) + (j : Int)) S hw
  have hpc : ((2 + tot x.ws + j : Nat) : Int) = 2 + (tot x.ws : Int) + (j : Int) := by push_cast; rfl
  rw [hpc]
  obtain ⟨us, hus2⟩ : ∃ us, us = tot x.ws := ⟨_, rfl⟩
  have HC6 : Hid (∀ v, LL v q r mm x → v.cell? ⟨q, 6, none⟩ = some (.int .i64 (us : Int))) := fun v h => by rw [hus2]; exact h.c6
  rw [← hus2] at hwr hus ⊢
  clear hus2 hpc
  have hw1 : IntKind.i64.wrap (2 + (us : Int)) = 2 + (us : Int) := by rw [IntKind.wrap_i64]; omega
  have hw2 : IntKind.i64.wrap (2 + (us : Int) + (j : Int)) = 2 + (us : Int) + (j : Int) := by rw [IntKind.wrap_i64]; omega
  have B0' := below_drw v
  go_enter Tryz.func83, Tryz.ntmps83
  go_wp2_with fail
  refine wp_region_to (fun v => C7 v B0 I S0 q r mm x j S) 14 (by kernel_rfl) ?_
  have hS0 := hC.drew
  have hL := hL.drew
  refine wpTo_take (i := 0) (v := ?v0c) (show _ = some _ by simp only [List.getElem?_toArray, List.getElem?_cons_zero]; exact rfl) (by kernel_rfl) (by kernel_rfl) (by kernel_rfl) (by kernel_rfl) (by exact fun _ _ _ h => h) (Or.inl ⟨by rfl, ?hy0c⟩) hS0 ?r0c
  case hy0c => (intro w hSw; (try dsimp only at hSw); have hcb := Blk.cell hSw.b 0 _ rfl; have hci := Blk.cell hSw.i 0 _ rfl; have hl0 := LL.c0 hSw.l; have hl6 := HC6.out _ hSw.l; go_simp; try with_reducible rfl)
  (try simp only [Act.put]); (try simp only [List.setIfInBounds_toArray]); (repeat (first | simp only [List.set_cons_succ] | simp only [List.set_cons_zero]))
  refine wpTo_take (i := 1) (v := ?v1c) (show _ = some _ by simp only [List.getElem?_toArray, List.getElem?_cons_succ, List.getElem?_cons_zero]; exact rfl) (by kernel_rfl) (by kernel_rfl) (by kernel_rfl) (by kernel_rfl) (by exact fun _ _ _ h => h) (Or.inl ⟨by rfl, ?hy1c⟩) hS0 ?r1c
  case hy1c => (intro w hSw; (try dsimp only at hSw); go_simp; try with_reducible rfl)
  (try simp only [Act.put]); (try simp only [List.setIfInBounds_toArray]); (repeat (first | simp only [List.set_cons_succ] | simp only [List.set_cons_zero]))
  refine wpTo_take (i := 2) (v := ?v2c) (show _ = some _ by simp only [List.getElem?_toArray, List.getElem?_cons_succ, List.getElem?_cons_zero]; exact rfl) (by kernel_rfl) (by kernel_rfl) (by kernel_rfl) (by kernel_rfl) (by exact fun _ _ _ h => h) (Or.inl ⟨by rfl, ?hy2c⟩) hS0 ?r2c
  case hy2c => (intro w hSw; (try dsimp only at hSw); go_simp; try with_reducible rfl)
  (try simp only [Act.put]); (try simp only [List.setIfInBounds_toArray]); (repeat (first | simp only [List.set_cons_succ] | simp only [List.set_cons_zero]))
  refine wpTo_take (i := 3) (v := ?v3c) (show _ = some _ by simp only [List.getElem?_toArray, List.getElem?_cons_succ, List.getElem?_cons_zero]; exact rfl) (by kernel_rfl) (by kernel_rfl) (by kernel_rfl) (by kernel_rfl) (by exact fun _ _ _ h => h) (Or.inl ⟨by rfl, ?hy3c⟩) hS0 ?r3c
  case hy3c => (intro w hSw; (try dsimp only at hSw); have hcb := Blk.cell hSw.b 0 _ rfl; have hci := Blk.cell hSw.i 0 _ rfl; have hl0 := LL.c0 hSw.l; have hl6 := HC6.out _ hSw.l; go_simp; try with_reducible rfl)
  (try simp only [Act.put]); (try simp only [List.setIfInBounds_toArray]); (repeat (first | simp only [List.set_cons_succ] | simp only [List.set_cons_zero]))
  refine wpTo_take (i := 4) (v := ?v4c) (show _ = some _ by simp only [List.getElem?_toArray, List.getElem?_cons_succ, List.getElem?_cons_zero]; exact rfl) (by kernel_rfl) (by kernel_rfl) (by kernel_rfl) (by kernel_rfl) (by exact fun _ _ _ h => h) (Or.inl ⟨by rfl, ?hy4c⟩) hS0 ?r4c
  case hy4c => (intro w hSw; (try dsimp only at hSw); have hcb := Blk.cell hSw.b 0 _ rfl; have hci := Blk.cell hSw.i 0 _ rfl; have hl0 := LL.c0 hSw.l; have hl6 := HC6.out _ hSw.l; go_simp; try with_reducible rfl)
  (try simp only [Act.put]); (try simp only [List.setIfInBounds_toArray]); (repeat (first | simp only [List.set_cons_succ] | simp only [List.set_cons_zero]))
  refine wpTo_take (i := 5) (v := ?v5c) (show _ = some _ by simp only [List.getElem?_toArray, List.getElem?_cons_succ, List.getElem?_cons_zero]; exact rfl) (by kernel_rfl) (by kernel_rfl) (by kernel_rfl) (by kernel_rfl) (by exact fun _ _ _ h => h) (Or.inl ⟨by rfl, ?hy5c⟩) hS0 ?r5c
  case hy5c => (intro w hSw; (try dsimp only at hSw); go_simp; try with_reducible rfl)
  (try simp only [Act.put]); (try simp only [List.setIfInBounds_toArray]); (repeat (first | simp only [List.set_cons_succ] | simp only [List.set_cons_zero]))
  refine wpTo_take (i := 6) (v := ?v6c) (show _ = some _ by simp only [List.getElem?_toArray, List.getElem?_cons_succ, List.getElem?_cons_zero]; exact rfl) (by kernel_rfl) (by kernel_rfl) (by kernel_rfl) (by kernel_rfl) (by exact fun _ _ _ h => h) (Or.inl ⟨by rfl, ?hy6c⟩) hS0 ?r6c
  case hy6c => (intro w hSw; (try dsimp only at hSw); go_simp; try with_reducible rfl)
  (try simp only [Act.put]); (try simp only [List.setIfInBounds_toArray]); (repeat (first | simp only [List.set_cons_succ] | simp only [List.set_cons_zero]))
  refine wpTo_take (i := 7) (v := ?v7c) (show _ = some _ by simp only [List.getElem?_toArray, List.getElem?_cons_succ, List.getElem?_cons_zero]; exact rfl) (by kernel_rfl) (by kernel_rfl) (by kernel_rfl) (by kernel_rfl) (by exact fun _ _ _ h => h) (Or.inl ⟨by rfl, ?hy7c⟩) hS0 ?r7c
  case hy7c => (intro w hSw; (try dsimp only at hSw); have hcb := Blk.cell hSw.b 0 _ rfl; have hci := Blk.cell hSw.i 0 _ rfl; have hl0 := LL.c0 hSw.l; have hl6 := HC6.out _ hSw.l; go_simp; try with_reducible rfl)
  (try simp only [Act.put]); (try simp only [List.setIfInBounds_toArray]); (repeat (first | simp only [List.set_cons_succ] | simp only [List.set_cons_zero]))
  refine wpTo_take (i := 8) (v := ?v8c) (show _ = some _ by simp only [List.getElem?_toArray, List.getElem?_cons_succ, List.getElem?_cons_zero]; exact rfl) (by kernel_rfl) (by kernel_rfl) (by kernel_rfl) (by kernel_rfl) (by exact fun _ _ _ h => h) (Or.inl ⟨by rfl, ?hy8c⟩) hS0 ?r8c
  case hy8c => (intro w hSw; (try dsimp only at hSw); go_simp; try with_reducible rfl)
  (try simp only [Act.put]); (try simp only [List.setIfInBounds_toArray]); (repeat (first | simp only [List.set_cons_succ] | simp only [List.set_cons_zero]))
  refine wpTo_take (i := 9) (v := ?v9c) (show _ = some _ by simp only [List.getElem?_toArray, List.getElem?_cons_succ, List.getElem?_cons_zero]; exact rfl) (by kernel_rfl) (by kernel_rfl) (by kernel_rfl) (by kernel_rfl) (by exact fun _ _ _ h => h) (Or.inl ⟨by rfl, ?hy9c⟩) hS0 ?r9c
  case hy9c => (intro w hSw; (try dsimp only at hSw); have hcb := Blk.cell hSw.b 0 _ rfl; have hci := Blk.cell hSw.i 0 _ rfl; have hl0 := LL.c0 hSw.l; have hl6 := HC6.out _ hSw.l; go_simp; try with_reducible rfl)
  (try simp only [Act.put]); (try simp only [List.setIfInBounds_toArray]); (repeat (first | simp only [List.set_cons_succ] | simp only [List.set_cons_zero]))
  refine wpTo_take (i := 10) (v := ?v10c) (show _ = some _ by simp only [List.getElem?_toArray, List.getElem?_cons_succ, List.getElem?_cons_zero]; exact rfl) (by kernel_rfl) (by kernel_rfl) (by kernel_rfl) (by kernel_rfl) (by exact fun _ _ _ h => h) (Or.inl ⟨by rfl, ?hy10c⟩) hS0 ?r10c
  case hy10c => (intro w hSw; (try dsimp only at hSw); go_simp; try with_reducible rfl)
  (try simp only [Act.put]); (try simp only [List.setIfInBounds_toArray]); (repeat (first | simp only [List.set_cons_succ] | simp only [List.set_cons_zero]))
  refine wpTo_take (i := 11) (show _ = some _ by simp only [List.getElem?_toArray, List.getElem?_cons_succ, List.getElem?_cons_zero]; exact rfl) (by kernel_rfl) (by kernel_rfl) (by kernel_rfl) (by kernel_rfl) (by exact fun _ _ _ h => h) (yieldsIf_load_mid (by rfl) 26 (.tmp 2) rfl S0 0 rfl (sb S) _ (fun v h => Blk.whole (C7.s h)) Tryz.underlying26 rfl (by rw [sb_length]; kernel_rfl)) hS0 ?_
  (try simp only [Act.put]); (try simp only [List.setIfInBounds_toArray]); (repeat (first | simp only [List.set_cons_succ] | simp only [List.set_cons_zero]))
  refine wpTo_one (i := 12) (by kernel_rfl) (show _ = some _ by simp only [List.getElem?_toArray, List.getElem?_cons_succ, List.getElem?_cons_zero]; exact rfl) (fun K hK => ?_)
  go_simp
  go_at_call 84; refine (hwr _ hL).mono ?_; rintro e v9 ⟨rfl, hT⟩
  have hF9 := hT.fr
  (try simp only [])
  refine hK.out _ _ (C7.fr hS0 hF9 hnb hni hns hnl) (fun hS1 => ?_)
  clear hK K
  (try simp only [Act.put]); (try simp only [List.setIfInBounds_toArray]); (repeat (first | simp only [List.set_cons_succ] | simp only [List.set_cons_zero]))
  refine wpTo_take (i := 13) (v := ?v13c) (show _ = some _ by simp only [List.getElem?_toArray, List.getElem?_cons_succ, List.getElem?_cons_zero]; exact rfl) (by kernel_rfl) (by kernel_rfl) (by kernel_rfl) (by kernel_rfl) (by exact fun _ _ _ h => h) (Or.inl ⟨by rfl, ?hy13c⟩) hS1 ?r13c
  case hy13c => (intro w hSw; (try dsimp only at hSw); go_simp; try with_reducible rfl)
  (try simp only [Act.put]); (try simp only [List.setIfInBounds_toArray]); (repeat (first | simp only [List.set_cons_succ] | simp only [List.set_cons_zero]))
  refine wpTo_done (by kernel_rfl) ?_
  go_wp2_with fail
  go_ret
  exact ⟨rfl, Turn.before B0' hT⟩

/-- A row of the call's own that is not empty. -/
theorem row_of_own {w : World} {base n : Nat} {v : Value} {F : Nat → Sec} (h : w.ownsRow base 26 512 v n (flat n F)) (hn : 0 < n) : ∃ G cp, v = .slice (some ⟨G, 0, none⟩) n cp ∧ base ≤ G ∧ Rw w G n F := by
  rcases h.2 with ⟨_, h0⟩ | ⟨g, cp, cur, rfl, hg, hc, h1, h2, h3, h4⟩
  · omega
  · refine ⟨g, cp, rfl, hg, cur, hc, fun i hi j v hv => ?_⟩
    have hj : j < 512 := by have := (List.getElem?_eq_some_iff.1 hv).1; rwa [sb_length] at this
    have h5 : (cur.toList.take (n * 512))[i * 512 + j]? = (flat n F)[i * 512 + j]? := by rw [h4]
    rw [flat_at F i j hj n hi, List.getElem?_take, if_pos (by omega), hv] at h5
    simpa using h5
theorem Rw.kept {w w' : World} {G n : Nat} {F : Nat → Sec} (h : Rw w G n F) (hk : ∀ g t vs, t ≠ 139 → Blk w g t vs → Blk w' g t vs) : Rw w' G n F := by
  obtain ⟨C, hC, h⟩ := h
  have h1 := hk G 26 C.toList (by decide) (by unfold Blk; rw [hC])
  unfold Blk at h1
  exact ⟨C, h1, h⟩
theorem C7.push {v v' : World} {B0 I S0 q r mm base j : Nat} {x : Lg} {S : Sec} (h : C7 v B0 I S0 q r mm x j S) (hb : Below base v v') (hK : ∀ g t vs, t ≠ 139 → Blk v g t vs → Blk v' g t vs) (hl : ∀ k, lp q mm k → k < base) : C7 v' B0 I S0 q r mm x j S :=
  ⟨h.l.keep (hb.block q (hl q (.inl rfl))) (hb.block mm (hl mm (.inr rfl))), hK _ _ _ (by decide) h.b, hK _ _ _ (by decide) h.i, hK _ _ _ (by decide) h.s⟩
theorem C7.c4 {v : World} {B0 I S0 q r mm j : Nat} {x : Lg} {S : Sec} (h : C7 v B0 I S0 q r mm x j S) (hT : Tabs v) : C4 v B0 q r mm x := ⟨h.l, h.b, hT⟩
/-- A step that writes, as a value. -/
theorem wr_stepC {V : World} {B0 I S0 q r mm f m cap : Nat} {x : Lg} {k : Nat} {S : Sec} (hC : C7 V B0 I S0 q r mm x k S) (hnb : ¬ fp r f m B0) (hni : ¬ fp r f m I) (hns : ¬ fp r f m S0) (hap : ∀ k, lp q mm k → ¬ fp r f m k) (hk : k ≤ 10000) :
    StepC V r f m cap (.func (.func 83) #[] #[.pointer (some ⟨B0, 0, none⟩), .pointer (some ⟨I, 0, none⟩), .pointer (some ⟨S0, 0, none⟩)]) (.wr (2 + tot x.ws + k) S) := by
  obtain ⟨D, ⟨es, c, hmb, _⟩, _⟩ := hC.l.map
  refine ⟨83, _, _, [(B0, .cells #[.pointer (some ⟨q, 0, none⟩)] 41), (I, .cells #[.int .i64 (k : Int)] 3), (S0, .cells (sb S).toArray 26), (q, .cells (lgc r mm x).toArray 105), (mm, .map es c)], rfl, entr65, ?_, ?_⟩
  · intro z hz
    simp only [List.mem_cons, List.not_mem_nil, or_false] at hz
    rcases hz with rfl | rfl | rfl | rfl | rfl
    · exact ⟨hC.b, hnb, fun C fr e => by cases e⟩
    · exact ⟨hC.i, hni, fun C fr e => by cases e⟩
    · exact ⟨hC.s, hns, fun C fr e => by cases e⟩
    · exact ⟨hC.l.blk, hap q (.inl rfl), fun C fr e => by cases e⟩
    · exact ⟨hmb, hap mm (.inr rfl), fun C fr e => by cases e⟩
  · intro v' m' d hL hTv hcaps h2 hw _
    have q1 := hcaps (B0, .cells #[.pointer (some ⟨q, 0, none⟩)] 41) (by simp)
    have q2 := hcaps (I, .cells #[.int .i64 (k : Int)] 3) (by simp)
    have q5 := hcaps (S0, .cells (sb S).toArray 26) (by simp)
    have q3 := hcaps (q, .cells (lgc r mm x).toArray 105) (by simp)
    have q4 := hcaps (mm, .map es c) (by simp)
    exact write_step v' B0 I S0 q r mm f m' cap x d k S hk hL ⟨hC.l.keep (q3.1.trans hC.l.blk.symm) (q4.1.trans hmb.symm), q1.1, q2.1, q5.1⟩ q1.2 q2.2 q5.2 (fun k hk hkl => by rcases hkl with rfl | rfl; exact q3.2 hk; exact q4.2 hk) hw
/-- The steps of a Commit: the first k frames; all. -/
def cw (x : Lg) (W : List Im) (k : Nat) : List Stp := (List.range k).map fun i => .wr (2 + tot x.ws + i) (rf x.g x.ws.length W i)
def cmE (x : Lg) (W : List Im) : List Stp := cw x W (W.length + 1) ++ [.fl, .wr (2 + tot x.ws + (W.length + 1)) (rf x.g x.ws.length W (W.length + 1))]
def cmS (x : Lg) (W : List Im) : List Stp := cmE x W ++ [.fl]
def cst (x : Lg) (W : List Im) (k : Nat) : List Stp := if k ≤ W.length + 1 then cw x W k else cmE x W
theorem cw_succ (x : Lg) (W : List Im) (k : Nat) : cw x W (k + 1) = cw x W k ++ [.wr (2 + tot x.ws + k) (rf x.g x.ws.length W k)] := by simp [cw, List.range_succ]
theorem cw_len (x : Lg) (W : List Im) (k : Nat) : (cw x W k).length = k := by simp [cw]
theorem cmE_len (x : Lg) (W : List Im) : (cmE x W).length = W.length + 3 := by simp [cmE, cw_len]
set_option maxRecDepth 100000 in
set_option maxHeartbeats 4000000 in
theorem committing_any (w : World) (q r mm f m cap : Nat) (x : Lg) (ao : Option Addr) (cp : Nat) (W : List Im) (h : LL w q r mm x) (hI0 : Ims w ao (toI W)) (hT : Tabs w) (hW : W.length ≤ 120) (hp : ∀ x ∈ W, x.1 < 4294967296) (hfp : ∀ k, fp r f m k → 2 ≤ k ∧ k < w.heap.size) (hap : ∀ k, lp q mm k → ¬ fp r f m k) :
    Calls Tryz.prog 53 #[.pointer (some ⟨q, 0, none⟩), .slice ao W.length cp] w fun e w' => ∃ v, e = .returned v ∧ Rowed w' w.heap.size v r f m cap (cmS x W) ∧ Below w.heap.size w w' := by
  have hmf := hmf0
  have hz64 := zero39
  have hgn := h.gen
  have hL4 := h.L4
  have hus := h.used
  have hrc := h.recs
  have hll := h.lt
  have hT2 := hT.two
  obtain ⟨B0, hB0⟩ : ∃ b, b = w.heap.size := ⟨_, rfl⟩
  have kk := (Below.refl w.heap.size w).alloc (Nat.le_refl _) (.cells #[.pointer (some ⟨q, 0, none⟩)] 41)
  have hbb := Blk.new w 41 [.pointer (some ⟨q, 0, none⟩)]
  have hC : C4 (w.alloc (.cells #[.pointer (some ⟨q, 0, none⟩)] 41)) B0 q r mm x := ⟨h.next kk, by rw [hB0]; exact hbb, hT.next kk⟩
  have hI := hI0.next kk
  have hsz : (w.alloc (.cells #[.pointer (some ⟨q, 0, none⟩)] 41)).heap.size = B0 + 1 := by rw [World.size_alloc, hB0]
  obtain ⟨F, hFd⟩ : ∃ F, F = rf x.g x.ws.length W := ⟨_, rfl⟩
  have hrec := fun (U : World) (hI : Ims U ao (toI W)) (hT : Tabs U) => recordOf_any U x.g x.ws.length ao cp W hI hT hW hp (by omega) (by omega)
  rw [← hFd] at hrec
  have HF : Hid (F = rf x.g x.ws.length W) := hFd
  obtain ⟨ZZ, hZZ⟩ : ∃ ZZ, ZZ = cmS x W := ⟨_, rfl⟩
  have HZZ : Hid (ZZ = cmS x W) := hZZ
  rw [← hZZ, ← hB0]
  have hfp' : ∀ k, fp r f m k → 2 ≤ k ∧ k < B0 := by rw [hB0]; exact hfp
  have hll' : ∀ k, lp q mm k → k < B0 := by rw [hB0]; exact hll
  have hB2 : 2 ≤ B0 := by rw [hB0]; exact hT2
  obtain ⟨wA, hwA⟩ : ∃ wA, wA = w.alloc (.cells #[.pointer (some ⟨q, 0, none⟩)] 41) := ⟨_, rfl⟩
  rw [← hwA] at hC hI kk hsz
  have HB : Hid (B0 = w.heap.size) := hB0
  have kA : Below B0 w wA := by rw [hB0]; exact kk
  clear hZZ hFd hfp hll hbb kk
  go_enter Tryz.func53, Tryz.ntmps53
  go_wp2_with fail
  rw [← hwA, ← hB0]
  clear hwA hB0
  refine wp_region_to (fun v => C4 v B0 q r mm x) 11 (by kernel_rfl) ?_
  have hS0 := hC.drew
  have hI1 := hI.next (below_drw _)
  refine wpTo_take (i := 0) (v := ?v0d) (show _ = some _ by simp only [List.getElem?_toArray, List.getElem?_cons_zero]; exact rfl) (by kernel_rfl) (by kernel_rfl) (by kernel_rfl) (by kernel_rfl) (by exact fun _ _ _ h => h) (Or.inl ⟨by rfl, ?hy0d⟩) hS0 ?r0d
  case hy0d => (intro w hSw; (try dsimp only at hSw); have hcb := Blk.cell hSw.b 0 _ rfl; have hl3 := LL.c3 hSw.l; have hl5 := LL.c5 hSw.l; go_simp; try with_reducible rfl)
  (try simp only [Act.put]); (try simp only [List.setIfInBounds_toArray]); (repeat (first | simp only [List.set_cons_succ] | simp only [List.set_cons_zero]))
  refine wpTo_take (i := 1) (v := ?v1d) (show _ = some _ by simp only [List.getElem?_toArray, List.getElem?_cons_succ, List.getElem?_cons_zero]; exact rfl) (by kernel_rfl) (by kernel_rfl) (by kernel_rfl) (by kernel_rfl) (by exact fun _ _ _ h => h) (Or.inl ⟨by rfl, ?hy1d⟩) hS0 ?r1d
  case hy1d => (intro w hSw; (try dsimp only at hSw); go_simp; try with_reducible rfl)
  (try simp only [Act.put]); (try simp only [List.setIfInBounds_toArray]); (repeat (first | simp only [List.set_cons_succ] | simp only [List.set_cons_zero]))
  refine wpTo_take (i := 2) (v := ?v2d) (show _ = some _ by simp only [List.getElem?_toArray, List.getElem?_cons_succ, List.getElem?_cons_zero]; exact rfl) (by kernel_rfl) (by kernel_rfl) (by kernel_rfl) (by kernel_rfl) (by exact fun _ _ _ h => h) (Or.inl ⟨by rfl, ?hy2d⟩) hS0 ?r2d
  case hy2d => (intro w hSw; (try dsimp only at hSw); go_simp; try with_reducible rfl)
  (try simp only [Act.put]); (try simp only [List.setIfInBounds_toArray]); (repeat (first | simp only [List.set_cons_succ] | simp only [List.set_cons_zero]))
  refine wpTo_take (i := 3) (v := ?v3d) (show _ = some _ by simp only [List.getElem?_toArray, List.getElem?_cons_succ, List.getElem?_cons_zero]; exact rfl) (by kernel_rfl) (by kernel_rfl) (by kernel_rfl) (by kernel_rfl) (by exact fun _ _ _ h => h) (Or.inl ⟨by rfl, ?hy3d⟩) hS0 ?r3d
  case hy3d => (intro w hSw; (try dsimp only at hSw); have hcb := Blk.cell hSw.b 0 _ rfl; have hl3 := LL.c3 hSw.l; have hl5 := LL.c5 hSw.l; go_simp; try with_reducible rfl)
  (try simp only [Act.put]); (try simp only [List.setIfInBounds_toArray]); (repeat (first | simp only [List.set_cons_succ] | simp only [List.set_cons_zero]))
  refine wpTo_take (i := 4) (v := ?v4d) (show _ = some _ by simp only [List.getElem?_toArray, List.getElem?_cons_succ, List.getElem?_cons_zero]; exact rfl) (by kernel_rfl) (by kernel_rfl) (by kernel_rfl) (by kernel_rfl) (by exact fun _ _ _ h => h) (Or.inl ⟨by rfl, ?hy4d⟩) hS0 ?r4d
  case hy4d => (intro w hSw; (try dsimp only at hSw); have hcb := Blk.cell hSw.b 0 _ rfl; have hl3 := LL.c3 hSw.l; have hl5 := LL.c5 hSw.l; go_simp; try with_reducible rfl)
  (try simp only [Act.put]); (try simp only [List.setIfInBounds_toArray]); (repeat (first | simp only [List.set_cons_succ] | simp only [List.set_cons_zero]))
  refine wpTo_take (i := 5) (v := ?v5d) (show _ = some _ by simp only [List.getElem?_toArray, List.getElem?_cons_succ, List.getElem?_cons_zero]; exact rfl) (by kernel_rfl) (by kernel_rfl) (by kernel_rfl) (by kernel_rfl) (by exact fun _ _ _ h => h) (Or.inl ⟨by rfl, ?hy5d⟩) hS0 ?r5d
  case hy5d => (intro w hSw; (try dsimp only at hSw); go_simp; try with_reducible rfl)
  (try simp only [Act.put]); (try simp only [List.setIfInBounds_toArray]); (repeat (first | simp only [List.set_cons_succ] | simp only [List.set_cons_zero]))
  refine wpTo_take (i := 6) (v := ?v6d) (show _ = some _ by simp only [List.getElem?_toArray, List.getElem?_cons_succ, List.getElem?_cons_zero]; exact rfl) (by kernel_rfl) (by kernel_rfl) (by kernel_rfl) (by kernel_rfl) (by exact fun _ _ _ h => h) (Or.inl ⟨by rfl, ?hy6d⟩) hS0 ?r6d
  case hy6d => (intro w hSw; (try dsimp only at hSw); go_simp; try with_reducible rfl)
  (try simp only [Act.put]); (try simp only [List.setIfInBounds_toArray]); (repeat (first | simp only [List.set_cons_succ] | simp only [List.set_cons_zero]))
  refine wpTo_take (i := 7) (v := ?v7d) (show _ = some _ by simp only [List.getElem?_toArray, List.getElem?_cons_succ, List.getElem?_cons_zero]; exact rfl) (by kernel_rfl) (by kernel_rfl) (by kernel_rfl) (by kernel_rfl) (by exact fun _ _ _ h => h) (Or.inl ⟨by rfl, ?hy7d⟩) hS0 ?r7d
  case hy7d => (intro w hSw; (try dsimp only at hSw); have hcb := Blk.cell hSw.b 0 _ rfl; have hl3 := LL.c3 hSw.l; have hl5 := LL.c5 hSw.l; go_simp; try with_reducible rfl)
  (try simp only [Act.put]); (try simp only [List.setIfInBounds_toArray]); (repeat (first | simp only [List.set_cons_succ] | simp only [List.set_cons_zero]))
  refine wpTo_take (i := 8) (v := ?v8d) (show _ = some _ by simp only [List.getElem?_toArray, List.getElem?_cons_succ, List.getElem?_cons_zero]; exact rfl) (by kernel_rfl) (by kernel_rfl) (by kernel_rfl) (by kernel_rfl) (by exact fun _ _ _ h => h) (Or.inl ⟨by rfl, ?hy8d⟩) hS0 ?r8d
  case hy8d => (intro w hSw; (try dsimp only at hSw); go_simp; try with_reducible rfl)
  (try simp only [Act.put]); (try simp only [List.setIfInBounds_toArray]); (repeat (first | simp only [List.set_cons_succ] | simp only [List.set_cons_zero]))
  refine wpTo_one (i := 9) (by kernel_rfl) (show _ = some _ by simp only [List.getElem?_toArray, List.getElem?_cons_succ, List.getElem?_cons_zero]; exact rfl) (fun K hK => ?_)
  go_simp
  go_at_call 81; refine (hrec _ hI1 hS0.t).mono ?_; rintro e w1 ⟨v, rfl, hown, kb⟩
  (try simp only [])
  refine hK.out _ _ (C4.next hS0 kb) (fun hS1 => ?_)
  clear hK K
  (try simp only [Act.put]); (try simp only [List.setIfInBounds_toArray]); (repeat (first | simp only [List.set_cons_succ] | simp only [List.set_cons_zero]))
  refine wpTo_take (i := 10) (v := ?v10d) (show _ = some _ by simp only [List.getElem?_toArray, List.getElem?_cons_succ, List.getElem?_cons_zero]; exact rfl) (by kernel_rfl) (by kernel_rfl) (by kernel_rfl) (by kernel_rfl) (by exact fun _ _ _ h => h) (Or.inl ⟨by rfl, ?hy10d⟩) hS1 ?r10d
  case hy10d => (intro w hSw; (try dsimp only at hSw); go_simp; try with_reducible rfl)
  (try simp only [Act.put]); (try simp only [List.setIfInBounds_toArray]); (repeat (first | simp only [List.set_cons_succ] | simp only [List.set_cons_zero]))
  refine wpTo_done (by kernel_rfl) ?_
  obtain ⟨G, cp2, rfl, hG, hRw⟩ := row_of_own hown (by omega)
  have hk1 : Below B0 w w1 := kA.trans (((below_drw wA).trans kb).mono (by omega))
  have hs1 : B0 + 1 ≤ w1.heap.size := by have := kb.size; have h2 : wA.drew.heap.size = wA.heap.size := rfl; omega
  clear hown kb hC hI hI1 kA hrec hsz
  have e0 : cst x W 0 = [] := by simp [cst, cw]
  go_wp2_with fail
  go_loopw [5, 21] (fun u i wr => ∃ k : Nat, k ≤ W.length + 2 ∧ i = .int .i64 (k : Int) ∧ Rowed wr B0 u r f m cap (cst x W k) ∧ C4 wr B0 q r mm x ∧ Below B0 w wr ∧ B0 + 1 ≤ wr.heap.size ∧ (∀ g t vs, t ≠ 139 → Blk w1 g t vs → Blk wr g t vs)) (fun _ i _ => W.length + 2 - (intOf i).toNat)
  case atStart => exact ⟨0, by omega, rfl, by rw [e0]; exact Rowed.nil _ _ _ _ _ _, hS1, hk1, hs1, fun _ _ _ _ h => h⟩
  case round =>
    obtain ⟨k, hk, rfl, hR, hC2, hb, hbs, hkeep⟩ := hrel
    clear hS1 hk1 e0
    have hRk := hRw.kept hkeep
    by_cases hlt : k < W.length + 2
    · have hkI : (k : Int) < (W.length : Int) + 2 := by omega
      have hrg := hRk.range hlt
      obtain ⟨S, hS⟩ : ∃ S, S = F k := ⟨_, rfl⟩
      rw [← hS] at hrg
      have HS : Hid (S = F k) := hS
      clear hS
      have hNw := Blk.new (wr.alloc (.cells #[.int .i64 (k : Int)] 3)) 26 (sb zs)
      rw [World.size_alloc] at hNw
      have kA := ((Below.refl wr.heap.size wr).alloc (Nat.le_refl _) (.cells #[.int .i64 (k : Int)] 3)).alloc (by simp) (.cells (sb zs).toArray 26)
      have hst := (Fr.refl (fun j => j = wr.heap.size + 1) ((wr.alloc (.cells #[.int .i64 (k : Int)] 3)).alloc (.cells (sb zs).toArray 26))).setRow (wr.heap.size + 1) (sb S).toArray (.inl rfl)
      have hIa := ((Blk.new wr 3 [.int .i64 (k : Int)]).alloc (.cells (sb zs).toArray 26)).fr hst (by simp)
      have kU : Below wr.heap.size wr ((((wr.alloc (.cells #[.int .i64 (k : Int)] 3)).alloc (.cells (sb zs).toArray 26))).setRow (wr.heap.size + 1) (sb S).toArray) := kA.trans (hst.below (fun j e => by omega) (by simp; omega))
      obtain ⟨U, hU⟩ : ∃ U, U = ((((wr.alloc (.cells #[.int .i64 (k : Int)] 3)).alloc (.cells (sb zs).toArray 26))).setRow (wr.heap.size + 1) (sb S).toArray) := ⟨_, rfl⟩
      rw [← hU] at kU hIa
      have HU : Hid (U = ((((wr.alloc (.cells #[.int .i64 (k : Int)] 3)).alloc (.cells (sb zs).toArray 26))).setRow (wr.heap.size + 1) (sb S).toArray)) := hU
      clear hU hst kA
      have hsU := kU.size
      have hCU := hC2.next kU
      have hC7 : Blk U (wr.heap.size + 1) 26 (sb S) → C7 U B0 wr.heap.size (wr.heap.size + 1) q r mm x k S := fun hA => ⟨hCU.l, hCU.b, hIa, hA⟩
      have c7 := hIa.cell 0 _ rfl
      have hRU := hR.next kU
      have hbU := hb.trans (kU.mono (by omega))
      have hkU : ∀ g t vs, t ≠ 139 → Blk w1 g t vs → Blk U g t vs := fun g t vs ht h => (hkeep g t vs ht h).next kU
      have hn0 : ¬ fp r f m B0 := fun h => by have := hfp' _ h; omega
      have hn1 : ¬ fp r f m wr.heap.size := fun h => by have := hfp' _ h; omega
      have hn2 : ¬ fp r f m (wr.heap.size + 1) := fun h => by have := hfp' _ h; omega
      obtain ⟨FN, hFN⟩ : ∃ FN, FN = Value.func (.func 83) #[] #[.pointer (some ⟨B0, 0, none⟩), .pointer (some ⟨wr.heap.size, 0, none⟩), .pointer (some ⟨wr.heap.size + 1, 0, none⟩)] := ⟨_, rfl⟩
      have h103 : FN.oneCell' = true := by rw [hFN]; rfl
      have hFst : ∀ V, C7 V B0 wr.heap.size (wr.heap.size + 1) q r mm x k S → StepC V r f m cap FN (.wr (2 + tot x.ws + k) S) := fun V h => by rw [hFN]; exact wr_stepC h hn0 hn1 hn2 hap (by omega)
      clear hR hC2 hb hRk hIa
      by_cases hlast : k = W.length + 1
      · have hlI : (W.length : Int) + 1 = (k : Int) := by omega
        have e1 : cst x W k = cw x W k := by simp only [cst]; rw [if_pos (by omega)]
        have HZ : Hid (cst x W (k + 1) = (cw x W k ++ [.fl]) ++ [.wr (2 + tot x.ws + k) S]) := by
          show _ = _
          rw [HS.out, HF.out]
          simp only [cst]
          rw [if_neg (by omega), hlast, cmE, List.append_assoc]
          rfl
        rw [e1] at hRU
        have hzl := cw_len x W k
        obtain ⟨ZK, hZK⟩ : ∃ ZK, ZK = cw x W k := ⟨_, rfl⟩
        rw [← hZK] at hRU HZ hzl
        obtain ⟨FL, hFL⟩ : ∃ FL, FL = Value.func (.func 82) #[.pointer (some ⟨r, 0, none⟩)] #[] := ⟨_, rfl⟩
        have h103L : FL.oneCell' = true := by rw [hFL]; rfl
        have hbV := (Below.refl U.heap.size U).alloc (Nat.le_refl _) (.cells #[FL] 139)
        have hFC := Blk.new U 139 [FL]
        have hRV := hRU.next hbV
        have honeL := only_one (P := fun c s => StepC (U.alloc (.cells #[FL] 139)) r f m cap c s) (hFL ▸ fl_step _ r f m cap)
        have hsV : B0 ≤ (U.alloc (.cells #[FL] 139)).heap.size := by rw [World.size_alloc]; omega
        have hbVB : Below B0 w (U.alloc (.cells #[FL] 139)) := hbU.trans (hbV.mono (by omega))
        have hC7h : Hid (Blk U (wr.heap.size + 1) 26 (sb S) → C7 U B0 wr.heap.size (wr.heap.size + 1) q r mm x k S) := hC7
        have hone2h : Hid (∀ V, C7 V B0 wr.heap.size (wr.heap.size + 1) q r mm x k S → ∀ (j : Nat) c s, [FN][j]? = some c → [Stp.wr (2 + tot x.ws + k) S][j]? = some s → StepC V r f m cap c s) := fun V h => only_one (P := fun c s => StepC V r f m cap c s) (hFst _ h)
        have cb := hCU.b.cell 0 _ rfl
        have cl := hCU.l.c0
        clear hZK hC7 hFst e1 hlast
        go_wp2_with (first
          | (refine wpList_load_mid rfl 26 _ rfl G (k * 512) rfl (sb S) _ hrg Tryz.underlying26 rfl (by rw [sb_length]; kernel_rfl) ?_)
          | (refine store_sec rfl _ _ rfl (wr.heap.size + 1) zs S hNw rfl rfl ?_; intro hA1; rw [← HU.out] at hA1 ⊢; have hC7 := hC7h.out hA1; clear hA1)
          | (at_builtin; rw [← hFL]; refine push_fns rfl _ _ rfl B0 _ r f m cap ZK [.fl] rfl hRV U.heap.size 1 [FL] rfl hFC rfl rfl (by simpa using h103L) honeL (by rw [hzl]; simp; omega) hsV ?_
             intro v' w2 hR3 hB3 hK3
             have hC8 := C7.push (hC7.next hbV) hB3 hK3 hll'
             have hbW := (Below.refl w2.heap.size w2).alloc (Nat.le_refl _) (.cells #[FN] 139)
             have hFC2 := Blk.new w2 139 [FN]
             have hRW := hR3.next hbW
             have hone2 := hone2h.out _ (hC8.next hbW)
             have hsW : B0 ≤ (w2.alloc (.cells #[FN] 139)).heap.size := by have := hB3.size; rw [World.size_alloc]; omega)
          | (at_builtin; rw [← hFN]; refine push_fns rfl _ _ rfl B0 v' r f m cap (ZK ++ [.fl]) [.wr (2 + tot x.ws + k) S] rfl hRW w2.heap.size 1 [FN] rfl hFC2 rfl rfl (by simpa using h103) hone2 (by rw [List.length_append, hzl]; simp; omega) hsW ?_; intro v3 w3 hR4 hB4 hK4))
        have h3s := hB3.size
        have h4s := hB4.size
        rw [World.size_alloc] at h3s h4s
        refine ⟨⟨k + 1, by omega, by go_num, by rw [HZ.out]; exact hR4, (((hCU.next hbV).push hB3 hK3 hll' hB2).next hbW).push hB4 hK4 hll' hB2, ((hbVB.trans hB3).trans (hbW.mono (by omega))).trans hB4, by omega, fun g t vs ht h => hK4 _ _ _ ht ((hK3 _ _ _ ht ((hkU g t vs ht h).next hbV)).next hbW)⟩, by simp [intOf]; omega⟩
      · have hlI : ¬ (k : Int) = (W.length : Int) + 1 := by omega
        have e1 : cst x W k = cw x W k := by simp only [cst]; rw [if_pos (by omega)]
        have HZ : Hid (cst x W (k + 1) = cw x W k ++ [.wr (2 + tot x.ws + k) S]) := by
          show _ = _
          rw [HS.out, HF.out]
          simp only [cst]
          rw [if_pos (by omega), cw_succ]
        rw [e1] at hRU
        have hzl := cw_len x W k
        obtain ⟨ZK, hZK⟩ : ∃ ZK, ZK = cw x W k := ⟨_, rfl⟩
        rw [← hZK] at hRU HZ hzl
        have hbV := (Below.refl U.heap.size U).alloc (Nat.le_refl _) (.cells #[FN] 139)
        have hFC := Blk.new U 139 [FN]
        have hRV := hRU.next hbV
        have hone : C7 U B0 wr.heap.size (wr.heap.size + 1) q r mm x k S → ∀ (j : Nat) c s, [FN][j]? = some c → [Stp.wr (2 + tot x.ws + k) S][j]? = some s → StepC (U.alloc (.cells #[FN] 139)) r f m cap c s := fun h => only_one (P := fun c s => StepC (U.alloc (.cells #[FN] 139)) r f m cap c s) (hFst _ (h.next hbV))
        have hsV : B0 ≤ (U.alloc (.cells #[FN] 139)).heap.size := by rw [World.size_alloc]; omega
        have hC7h : Hid (Blk U (wr.heap.size + 1) 26 (sb S) → C7 U B0 wr.heap.size (wr.heap.size + 1) q r mm x k S) := hC7
        have honeh : Hid (C7 U B0 wr.heap.size (wr.heap.size + 1) q r mm x k S → ∀ (j : Nat) c s, [FN][j]? = some c → [Stp.wr (2 + tot x.ws + k) S][j]? = some s → StepC (U.alloc (.cells #[FN] 139)) r f m cap c s) := hone
        clear hZK hC7 hone hFst e1
        go_wp2_with (first
          | (refine wpList_load_mid rfl 26 _ rfl G (k * 512) rfl (sb S) _ hrg Tryz.underlying26 rfl (by rw [sb_length]; kernel_rfl) ?_)
          | (refine store_sec rfl _ _ rfl (wr.heap.size + 1) zs S hNw rfl rfl ?_; intro hA1; rw [← HU.out] at hA1 ⊢; have hC7 := hC7h.out hA1; have hone := honeh.out hC7; clear hA1)
          | (at_builtin; rw [← hFN]; refine push_fns rfl _ _ rfl B0 _ r f m cap ZK [.wr (2 + tot x.ws + k) S] rfl hRV U.heap.size 1 [FN] rfl hFC rfl rfl (by simpa using h103) hone (by rw [hzl]; simp; omega) hsV ?_; intro v' w2 hR3 hB3 hK3))
        have hbVB : Below B0 w (U.alloc (.cells #[FN] 139)) := hbU.trans (hbV.mono (by omega))
        refine ⟨⟨k + 1, by omega, by go_num, by rw [HZ.out]; exact hR3, (hCU.next hbV).push hB3 hK3 hll' hB2, hbVB.trans hB3, ?_, fun g t vs ht h => hK3 _ _ _ ht ((hkU g t vs ht h).next hbV)⟩, by simp [intOf]; omega⟩
        have := hB3.size
        rw [World.size_alloc] at this
        omega
    · have hkI : ¬ (k : Int) < (W.length : Int) + 2 := by omega
      have e1 : cst x W k = cmE x W := by simp only [cst]; rw [if_neg (by omega)]
      rw [e1] at hR
      have hzl := cmE_len x W
      have HZ : Hid (ZZ = cmE x W ++ [.fl]) := HZZ.out
      obtain ⟨ZK, hZK⟩ : ∃ ZK, ZK = cmE x W := ⟨_, rfl⟩
      rw [← hZK] at hR HZ hzl
      obtain ⟨FL, hFL⟩ : ∃ FL, FL = Value.func (.func 82) #[.pointer (some ⟨r, 0, none⟩)] #[] := ⟨_, rfl⟩
      have h103L : FL.oneCell' = true := by rw [hFL]; rfl
      have hbV := (Below.refl wr.heap.size wr).alloc (Nat.le_refl _) (.cells #[FL] 139)
      have hFC := Blk.new wr 139 [FL]
      have hRV := hR.next hbV
      have honeL := only_one (P := fun c s => StepC (wr.alloc (.cells #[FL] 139)) r f m cap c s) (hFL ▸ fl_step _ r f m cap)
      have hsV : B0 ≤ (wr.alloc (.cells #[FL] 139)).heap.size := by rw [World.size_alloc]; omega
      have hbVB : Below B0 w (wr.alloc (.cells #[FL] 139)) := hb.trans (hbV.mono (by omega))
      have cb := hC2.b.cell 0 _ rfl
      have cl := hC2.l.c0
      clear hZK e1 hkeep hRk
      go_wp2_with (at_builtin; rw [← hFL]; refine push_fns rfl _ _ rfl B0 _ r f m cap ZK [.fl] rfl hRV wr.heap.size 1 [FL] rfl hFC rfl rfl (by simpa using h103L) honeL (by rw [hzl]; simp; omega) hsV ?_; intro v' w2 hR3 hB3 hK3)
      go_ret
      exact ⟨_, rfl, by rw [HZ.out]; exact hR3, hbVB.trans hB3⟩
end Go.Proofs.YtndfhmlcfaaaiaaGreatDoor
