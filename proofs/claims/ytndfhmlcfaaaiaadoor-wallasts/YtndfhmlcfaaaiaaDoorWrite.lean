/- A sector written. -/
import Derived.Test.YtndfhmlcfaaaiaaDoorRead
namespace Go.Proofs.YtndfhmlcfaaaiaaDoor
open Go.RowKit

def St.more (d : St) : St := { d with writes := d.writes + 1 }
def St.write (d : St) (i : Nat) (s : Sec) : St := { d with writes := d.writes + 1, waits := upd d.waits i (some s) }
/-- What holds while a sector is put into the map. -/
structure WrS (v w : World) (r f m cap : Nat) (d : St) (n : Nat) (D : DataW Sec) (g : Nat) (s : Sec) : Prop where
  blk : Blk v r 99 (dc f m cap d)
  row : Rw v f d.n d.lasts
  map : v.ownsMap Tryd.prog 3 secR m n D
  sec : Blk v g 64 (sb s)
  fr : Fr (fp r f m) w v
theorem WrS.drew {v w : World} {r f m cap : Nat} {d : St} {n : Nat} {D : DataW Sec} {g : Nat} {s : Sec} (h : WrS v w r f m cap d n D g s) : WrS v.drew w r f m cap d n D g s := ⟨h.blk, h.row, h.map, h.sec, h.fr.drew⟩
theorem WrS.c1 {v w : World} {r f m cap : Nat} {d : St} {n : Nat} {D : DataW Sec} {g : Nat} {s : Sec} (h : WrS v w r f m cap d n D g s) : v.cell? ⟨r, 1, none⟩ = some (.map (some m)) := h.blk.cell 1 _ rfl
theorem WrS.whole {v w : World} {r f m cap : Nat} {d : St} {n : Nat} {D : DataW Sec} {g : Nat} {s : Sec} (h : WrS v w r f m cap d n D g s) : v.rangeAt g 0 (sb s) := h.sec.whole
/-- 'm[i] = s'. -/
theorem put_sec {w : World} {o : Oper} {a : Act} {K : Act → World → Prop} {Q : Exit → Act → World → Prop} (m x y : Operand) (hop : o.op = Op.mapUpdate 97 m x y) (b n : Nat) (D : DataW Sec) (hown : w.ownsMap Tryd.prog 3 secR b n D) (hn : n < maxLen)
    (hm : a.eval m = .map (some b)) (i : Nat) (hi : i < 9223372036854775808) (hx : a.eval x = .int .i64 (i : Int)) (s : Sec) (hy : a.eval y = .agg (sb s).toArray)
    (h : ∀ w', w'.ownsMap Tryd.prog 3 secR b (n + 1) (D.put (ky i) (.held s)) → w.grownBy w' (some b) → K (a.put o.dst undef) w') : o.wp Tryd.prog a w K Q := by
  obtain ⟨w', hrun, r1, r2⟩ := hown.update law3 Tryd.underlying97 hn (kl := ky i) (Maps.keyOf_int_mk Tryd.underlying3 (wf64 i (by omega) (by omega))) (secR_mk s)
  unfold Oper.wp
  simp only [execOp, hop, hm, hx, hy]
  have hrun' : (Instr.mapUpdate 97 (.map (some b)) (.int .i64 (i : Int)) (.agg (sb s).toArray)).run Tryd.prog w = .ok () w' := hrun
  simp [hrun', Result.andThen]
  exact h w' r1 r2

set_option maxRecDepth 100000 in
theorem write_nil (w : World) (i : Int) (s : Sec) : Calls Tryd.prog 28 #[.pointer none, .int .i64 i, .agg (sb s).toArray] w fun e w' => e = .returned (.int .i64 1) ∧ Below w.heap.size w w' := by
  go_enter Tryd.func28, Tryd.ntmps28
  go_wp2_with (go_at_call 49; refine (refusal_nil _ _).mono ?_; rintro e w' ⟨rfl, rfl⟩)
  go_ret
  exact ⟨rfl, (Below.refl _ w).alloc (Nat.le_refl _) _⟩
set_option maxRecDepth 100000 in
theorem write_bad (w : World) (r f m cap : Nat) (d : St) (h : Lay w r f m cap d) (i E : Int) (s : Sec) (hE : d.no i = E) (h0 : E ≠ 0) : Calls Tryd.prog 28 #[.pointer (some ⟨r, 0, none⟩), .int .i64 i, .agg (sb s).toArray] w fun e w' => e = .returned (.int .i64 E) ∧ Below w.heap.size w w' := by
  have hr := refusal_any _ r f m cap d (h.alloc (.cells (sb s).toArray 64)) i
  rw [hE] at hr
  have h0b : (E == 0) = false := by simp [h0]
  go_enter Tryd.func28, Tryd.ntmps28
  go_wp2_with (go_at_call 49; refine hr.mono ?_; rintro e w' ⟨rfl, rfl⟩)
  go_ret
  exact ⟨rfl, (Below.refl _ w).alloc (Nat.le_refl _) _⟩
set_option maxRecDepth 100000 in
set_option maxHeartbeats 1000000 in
theorem write_good (w : World) (r f m cap : Nat) (d : St) (h : Lay w r f m cap d) (i : Nat) (s : Sec) (hoff : d.off = false) (hi : i < d.n) (hw : d.writes < 1000000000) :
    Calls Tryd.prog 28 #[.pointer (some ⟨r, 0, none⟩), .int .i64 i, .agg (sb s).toArray] w fun e w' => e = .returned (.int .i64 (d.write i s).op.2) ∧ Lay w' r f m cap (d.write i s).op.1 ∧ Fr (fp r f m) w w' := by
  have hno : d.no i = 0 := by unfold St.no; rw [hoff]; simp; omega
  have hL := h.alloc (.cells (sb s).toArray 64)
  have hr := refusal_any _ r f m cap d hL i
  rw [hno] at hr
  have hA := Blk.new w 64 (sb s)
  obtain ⟨G, hG⟩ : ∃ G, G = w.heap.size := ⟨_, rfl⟩
  have hGr : r ≠ G := by have := h.blk.lt; omega
  have hGm : ¬ m = G := by have := h.mlt; omega
  have htop := h.top
  obtain ⟨D, hD, hM⟩ := hL.map
  have c2 := hL.c2
  have f2 := hL.fz 2
  have hwI : (d.writes : Int) + 1 = ((d.writes + 1 : Nat) : Int) := by omega
  have HS : Hid (WrS ((w.alloc (.cells (sb s).toArray 64)).setCell ⟨r, 2, none⟩ (.int .i64 ((d.writes + 1 : Nat) : Int))) w r f m cap d.more d.writes D G s) := by
    refine ⟨hL.blk.set 2 _, hL.row.same (heap_setCell_other _ _ _ _ hL.fr_ne), hD.setCell hL.mr_ne _, ?_, (((Fr.refl _ w).alloc _).setCell _ _ (.inl (fp_r r f m)))⟩
    rw [hG]
    exact hA.beside (a := ⟨r, 2, none⟩) _ (by rw [← hG]; exact fun e => hGr e.symm)
  obtain ⟨W1, hW1⟩ : ∃ W, W = d.writes + 1 := ⟨_, rfl⟩
  rw [← hW1] at hwI HS
  have hwb : (d.writes : Int) < 1000000000 := by omega
  have hwr1 : IntKind.i64.wrap ((d.writes : Int) + 1) = (W1 : Int) := by rw [IntKind.wrap_i64]; omega
  have hwr2 : IntKind.i64.wrap (W1 : Int) = (W1 : Int) := by rw [IntKind.wrap_i64]; omega
  have HW1 : Hid (W1 = d.writes + 1) := hW1
  clear hW1
  go_enter Tryd.func28, Tryd.ntmps28
  go_wp2_with (go_at_call 49; refine hr.mono ?_; rintro e w' ⟨rfl, rfl⟩)
  have hS := HS.out
  rw [← hG]
  refine wp_region_to (fun v => WrS v w r f m cap (St.more d) d.writes D G s) 6 (by kernel_rfl) ?_
  have hS0 := hS.drew
  refine wpTo_take (i := 0) (v := ?v0) (show _ = some _ by simp only [List.getElem?_toArray, List.getElem?_cons_zero]; exact rfl) (by kernel_rfl) (by kernel_rfl) (by kernel_rfl) (by kernel_rfl) (by exact fun _ _ _ h => h) (Or.inl ⟨by rfl, ?hy0⟩) hS0 ?r0
  case hy0 => (intro w hSw; (try dsimp only at hSw); go_simp; try with_reducible rfl)
  (try simp only [Act.put]); (try simp only [List.setIfInBounds_toArray]); (repeat (first | simp only [List.set_cons_succ] | simp only [List.set_cons_zero]))
  refine wpTo_take (i := 1) (v := ?v1) (show _ = some _ by simp only [List.getElem?_toArray, List.getElem?_cons_succ, List.getElem?_cons_zero]; exact rfl) (by kernel_rfl) (by kernel_rfl) (by kernel_rfl) (by kernel_rfl) (by exact fun _ _ _ h => h) (Or.inl ⟨by rfl, ?hy1⟩) hS0 ?r1
  case hy1 => (intro w hSw; (try dsimp only at hSw); go_simp; try with_reducible rfl)
  (try simp only [Act.put]); (try simp only [List.setIfInBounds_toArray]); (repeat (first | simp only [List.set_cons_succ] | simp only [List.set_cons_zero]))
  refine wpTo_take (i := 2) (v := ?v2) (show _ = some _ by simp only [List.getElem?_toArray, List.getElem?_cons_succ, List.getElem?_cons_zero]; exact rfl) (by kernel_rfl) (by kernel_rfl) (by kernel_rfl) (by kernel_rfl) (by exact fun _ _ _ h => h) (Or.inl ⟨by rfl, ?hy2⟩) hS0 ?r2
  case hy2 => (intro w hSw; (try dsimp only at hSw); go_simp; try with_reducible rfl)
  (try simp only [Act.put]); (try simp only [List.setIfInBounds_toArray]); (repeat (first | simp only [List.set_cons_succ] | simp only [List.set_cons_zero]))
  refine wpTo_take (i := 4) (v := ?v4) (show _ = some _ by simp only [List.getElem?_toArray, List.getElem?_cons_succ, List.getElem?_cons_zero]; exact rfl) (by kernel_rfl) (by kernel_rfl) (by kernel_rfl) (by kernel_rfl) (by exact fun _ _ _ h => h) (Or.inl ⟨by rfl, ?hy4⟩) hS0 ?r4
  case hy4 => (intro w hSw; (try dsimp only at hSw); go_simp; try with_reducible rfl)
  (try simp only [Act.put]); (try simp only [List.setIfInBounds_toArray]); (repeat (first | simp only [List.set_cons_succ] | simp only [List.set_cons_zero]))
  refine wpTo_take (i := 3) (v := ?v3) (show _ = some _ by simp only [List.getElem?_toArray, List.getElem?_cons_succ, List.getElem?_cons_zero]; exact rfl) (by kernel_rfl) (by kernel_rfl) (by kernel_rfl) (by kernel_rfl) (by exact fun _ _ _ h => h) (Or.inl ⟨by rfl, ?hy3⟩) hS0 ?r3
  case hy3 => (intro w hSw; (try dsimp only at hSw); have hcc := WrS.c1 hSw; go_simp; try with_reducible rfl)
  (try simp only [Act.put]); (try simp only [List.setIfInBounds_toArray]); (repeat (first | simp only [List.set_cons_succ] | simp only [List.set_cons_zero]))
  refine wpTo_take (i := 5) (show _ = some _ by simp only [List.getElem?_toArray, List.getElem?_cons_succ, List.getElem?_cons_zero]; exact rfl) (by kernel_rfl) (by kernel_rfl) (by kernel_rfl) (by kernel_rfl) (by exact fun _ _ _ h => h) (yieldsIf_load_mid (by rfl) 64 (.tmp 5) rfl G 0 rfl (sb s) _ (fun v h => WrS.whole h) Tryd.underlying64 rfl (by rw [sb_length]; kernel_rfl)) hS0 ?_
  (try simp only [Act.put]); (try simp only [List.setIfInBounds_toArray]); (repeat (first | simp only [List.set_cons_succ] | simp only [List.set_cons_zero]))
  refine wpTo_last (by kernel_rfl) (show _ = some _ by simp only [List.getElem?_toArray, List.getElem?_cons_succ, List.getElem?_cons_zero]; exact rfl) (by kernel_rfl) (fun K hK => ?_)
  rw [if_pos (by rfl)]
  refine put_sec _ _ _ rfl m d.writes D hS0.map (by unfold maxLen; omega) rfl i (by omega) rfl s rfl (fun w' hD' hg' => ?_)
  refine hK.out _ _ ?_
  clear hK K
  (try simp only [Act.put]); (try simp only [List.setIfInBounds_toArray]); (repeat (first | simp only [List.set_cons_succ] | simp only [List.set_cons_zero]))
  have hmr : m ≠ r := hL.mr_ne
  have hmf : m ≠ f := hL.mf_ne
  have hL2 : Lay w' r f m cap (d.write i s) := by
    refine ⟨(hg'.block r hS0.blk.lt (fun e => hmr (Option.some.inj e).symm)).trans hS0.blk, hS0.row.same (hg'.block f hS0.row.lt (fun e => hmf (Option.some.inj e).symm)), ⟨_, hD', hM.put i s⟩, h.one, h.top, fun j hj => ?_, h.arm⟩
    have hj2 : d.n ≤ j := hj
    have : j ≠ i := by omega
    show upd d.waits i (some s) j = none
    rw [upd_ne _ _ _ _ this]
    exact h.low j hj2
  have hF2 : Fr (fp r f m) w w' := hS0.fr.grown hg' (fun j e => by cases e; exact .inl (fp_m r f m))
  clear hS0 hS HS
  go_wp2_with (go_at_call 50; refine (operation_any _ r f m cap _ hL2).mono ?_; rintro e w2 ⟨rfl, hL3, hF3, hS3⟩)
  go_ret
  exact ⟨rfl, hL3, hF2.trans hF3 (fun _ _ h => h)⟩
end Go.Proofs.YtndfhmlcfaaaiaaDoor

