/- Images are taken up as the log's last record. -/
import Derived.Test.YtndfhmlcfaaaiaaDoorCmt
namespace Go.Proofs.YtndfhmlcfaaaiaaDoor
open Go.RowKit

theorem most_any (L H : Nat) (hL : L ≤ 4000) (h2 : 2 ≤ L) (w : World) : Calls Tryd.prog 41 #[.agg (ly L H).toArray] w fun e w' => e = .returned (.int .i64 ((min 120 (L - 2) : Nat) : Int)) ∧ Below w.heap.size w w' := by
  have hly := Blk.new w 79 (ly L H)
  have c0 := hly.cell 0 _ rfl
  have kk := (Below.refl w.heap.size w).alloc (Nat.le_refl _) (.cells (ly L H).toArray 79)
  obtain ⟨M, hM⟩ : ∃ M, M = min 120 (L - 2) := ⟨_, rfl⟩
  have hM1 : min 120 ((L : Int) - 2) = (M : Int) := by rw [hM]; omega
  rw [← hM]
  clear hM
  go_enter Tryd.func41, Tryd.ntmps41
  go_wp2_with fail
  go_ret
  exact ⟨rfl, kk⟩

structure TS (v : World) (q r mm n : Nat) (x : Lg) (y : Int × Pg) (c : Nat) (D : DataW Pg) : Prop where
  l : Blk v q 82 (lgc r mm x)
  o : v.ownsMap Tryd.prog 3 pgR mm c D
  i : Blk v n 74 (ic y)
theorem TS.drew {v : World} {q r mm n c : Nat} {x : Lg} {y : Int × Pg} {D : DataW Pg} (h : TS v q r mm n x y c D) : TS v.drew q r mm n x y c D :=
  ⟨h.l.next (below_drw v), h.o.kept (grown_of_below (below_drw v)) (by simp), h.i.next (below_drw v)⟩
theorem ov1_take {W0 : Nat → Option Pg} {W : List Im} {k : Nat} {x : Im} (h : W[k]? = some x) : ov1 W0 (W.take (k + 1)) = upd (ov1 W0 (W.take k)) x.1 (some x.2) := by
  rw [List.take_add_one, h]
  exact ov1_snoc _ _ _
set_option maxRecDepth 100000 in
set_option maxHeartbeats 4000000 in
theorem take_any (w : World) (q r mm : Nat) (x : Lg) (ao : Option Addr) (cp : Nat) (W : List Im) (h : LL w q r mm x) (hI : Ims w ao (toI W)) (hW : W.length ≤ 120) (hp : ∀ y ∈ W, y.1 < x.H) (hg : ∀ g, ao = some ⟨g, 0, none⟩ → ¬ lp q mm g) (hroom : tot x.ws + (W.length + 2) ≤ x.L) :
    Calls Tryd.prog 44 #[.pointer (some ⟨q, 0, none⟩), .slice ao W.length cp] w fun e w' => e = .returned (.tuple #[]) ∧ LL w' q r mm { x with ws := x.ws ++ [W] } ∧ Fr (lp q mm) w w' := by
  have hz74 := zero74
  have hgn := h.gen
  have hL4 := h.L4
  have hH2 := h.H2
  have hus := h.used
  have hrc := h.recs
  have hll := h.lt
  have hmq := h.mq_ne
  have hblk := h.blk
  obtain ⟨D0, hD0, hM0⟩ := h.map
  go_enter Tryd.func44, Tryd.ntmps44
  go_wp2_with fail
  go_loopw [8] (fun i wr => ∃ (k : Nat) (D : DataW Pg), k ≤ W.length ∧ i = .int .i64 (k : Int) ∧ Blk wr q 82 (lgc r mm x) ∧ wr.ownsMap Tryd.prog 3 pgR mm (tot x.ws + k) D ∧ Mq D (ov1 (ov x.ws) (W.take k)) ∧ Fr (fun j => j = mm) w wr) (fun i _ => W.length - (intOf i).toNat)
  case atStart => exact ⟨0, D0, by omega, rfl, hblk, hD0, hM0, Fr.refl _ _⟩
  case round =>
    obtain ⟨k, D, hk, rfl, hB, hO, hM, hF⟩ := hrel
    clear hblk hD0 hM0
    by_cases hlt : k < W.length
    · have hkI : (k : Int) < (W.length : Int) := by omega
      obtain ⟨y0, hy0⟩ : ∃ y, W[k]? = some y := ⟨_, List.getElem?_eq_getElem hlt⟩
      have hIr := hI.fr hF (fun g e hj => hg g e (.inr hj))
      obtain ⟨gi, rfl, hgi⟩ := hIr.at (toI_at hy0)
      have hrg := hgi.range (toI_at hy0)
      have hpH := hp y0 (List.mem_of_getElem? hy0)
      have HT : Hid (ov1 (ov x.ws) (W.take (k + 1)) = upd (ov1 (ov x.ws) (W.take k)) y0.1 (some y0.2)) := ov1_take hy0
      obtain ⟨y, hy⟩ : ∃ y : Int × Pg, y = ((y0.1 : Int), y0.2) := ⟨_, rfl⟩
      have hy1 : y.1 = (y0.1 : Int) := by rw [hy]
      have hy2 : y.2 = y0.2 := by rw [hy]
      rw [← hy] at hrg
      clear hy hIr hgi
      have hqr := hB.lt
      have hmr := hO.lt
      have hNw := Blk.new wr 74 (ic (0, zp))
      have kA := (Below.refl wr.heap.size wr).alloc (Nat.le_refl _) (.cells (ic (0, zp)).toArray 74)
      have hst := (Fr.refl (fun j => j = wr.heap.size) (wr.alloc (.cells (ic (0, zp)).toArray 74))).setRow wr.heap.size (ic y).toArray (.inl rfl)
      have kU : Below wr.heap.size wr ((wr.alloc (.cells (ic (0, zp)).toArray 74)).setRow wr.heap.size (ic y).toArray) := kA.trans (hst.below (fun j e => by omega) kA.size)
      obtain ⟨U, hU⟩ : ∃ U, U = ((wr.alloc (.cells (ic (0, zp)).toArray 74)).setRow wr.heap.size (ic y).toArray) := ⟨_, rfl⟩
      rw [← hU] at kU
      have HU : Hid (U = ((wr.alloc (.cells (ic (0, zp)).toArray 74)).setRow wr.heap.size (ic y).toArray)) := hU
      have hS : Blk U wr.heap.size 74 (ic y) → TS U q r mm wr.heap.size x y (tot x.ws + k) D := fun hA => ⟨hB.next kU, hO.kept (grown_of_below kU) (by simp), hA⟩
      clear hU hst kA
      go_wp2_with (first
        | (refine wpList_load_mid rfl 74 _ rfl gi (k * 481) rfl (ic y) _ hrg Tryd.underlying74 rfl (by rw [ic_length]; kernel_rfl) ?_)
        | (refine store_im rfl _ _ rfl wr.heap.size (0, zp) y hNw rfl rfl ?_; intro hA; rw [← HU.out] at hA ⊢; have hT := hS hA; clear hS hA))
      clear hNw
      refine wp_region_to (fun v => TS v q r mm wr.heap.size x y (tot x.ws + k) D) 8 (by kernel_rfl) ?_
      have hS0 := hT.drew
      clear hT
      refine wpTo_take (i := 0) (v := ?v0) (show _ = some _ by simp only [List.getElem?_toArray, List.getElem?_cons_zero]; exact rfl) (by kernel_rfl) (by kernel_rfl) (by kernel_rfl) (by kernel_rfl) (by exact fun _ _ _ h => h) (Or.inl ⟨by rfl, ?hy0⟩) hS0 ?r0
      case hy0 => (intro w hSw; (try dsimp only at hSw); go_simp; try with_reducible rfl)
      (try simp only [Act.put]); (try simp only [List.setIfInBounds_toArray]); (repeat (first | simp only [List.set_cons_succ] | simp only [List.set_cons_zero]))
      refine wpTo_take (i := 1) (v := ?v1) (show _ = some _ by simp only [List.getElem?_toArray, List.getElem?_cons_succ, List.getElem?_cons_zero]; exact rfl) (by kernel_rfl) (by kernel_rfl) (by kernel_rfl) (by kernel_rfl) (by exact fun _ _ _ h => h) (Or.inl ⟨by rfl, ?hy1⟩) hS0 ?r1
      case hy1 => (intro w hSw; (try dsimp only at hSw); go_simp; try with_reducible rfl)
      (try simp only [Act.put]); (try simp only [List.setIfInBounds_toArray]); (repeat (first | simp only [List.set_cons_succ] | simp only [List.set_cons_zero]))
      refine wpTo_take (i := 2) (v := ?v2) (show _ = some _ by simp only [List.getElem?_toArray, List.getElem?_cons_succ, List.getElem?_cons_zero]; exact rfl) (by kernel_rfl) (by kernel_rfl) (by kernel_rfl) (by kernel_rfl) (by exact fun _ _ _ h => h) (Or.inl ⟨by rfl, ?hy2⟩) hS0 ?r2
      case hy2 => (intro w hSw; (try dsimp only at hSw); go_simp; try with_reducible rfl)
      (try simp only [Act.put]); (try simp only [List.setIfInBounds_toArray]); (repeat (first | simp only [List.set_cons_succ] | simp only [List.set_cons_zero]))
      refine wpTo_take (i := 3) (v := ?v3) (show _ = some _ by simp only [List.getElem?_toArray, List.getElem?_cons_succ, List.getElem?_cons_zero]; exact rfl) (by kernel_rfl) (by kernel_rfl) (by kernel_rfl) (by kernel_rfl) (by exact fun _ _ _ h => h) (Or.inl ⟨by rfl, ?hy3⟩) hS0 ?r3
      case hy3 => (intro w hSw; (try dsimp only at hSw); have hl4 : _ = some (Value.map (some mm)) := Blk.cell hSw.l 4 _ rfl; have hc0 := Blk.cell hSw.i 0 _ rfl; rw [hy1] at hc0; go_simp; try with_reducible rfl)
      (try simp only [Act.put]); (try simp only [List.setIfInBounds_toArray]); (repeat (first | simp only [List.set_cons_succ] | simp only [List.set_cons_zero]))
      refine wpTo_take (i := 4) (v := ?v4) (show _ = some _ by simp only [List.getElem?_toArray, List.getElem?_cons_succ, List.getElem?_cons_zero]; exact rfl) (by kernel_rfl) (by kernel_rfl) (by kernel_rfl) (by kernel_rfl) (by exact fun _ _ _ h => h) (Or.inl ⟨by rfl, ?hy4⟩) hS0 ?r4
      case hy4 => (intro w hSw; (try dsimp only at hSw); go_simp; try with_reducible rfl)
      (try simp only [Act.put]); (try simp only [List.setIfInBounds_toArray]); (repeat (first | simp only [List.set_cons_succ] | simp only [List.set_cons_zero]))
      refine wpTo_take (i := 5) (v := ?v5) (show _ = some _ by simp only [List.getElem?_toArray, List.getElem?_cons_succ, List.getElem?_cons_zero]; exact rfl) (by kernel_rfl) (by kernel_rfl) (by kernel_rfl) (by kernel_rfl) (by exact fun _ _ _ h => h) (Or.inl ⟨by rfl, ?hy5⟩) hS0 ?r5
      case hy5 => (intro w hSw; (try dsimp only at hSw); have hl4 : _ = some (Value.map (some mm)) := Blk.cell hSw.l 4 _ rfl; have hc0 := Blk.cell hSw.i 0 _ rfl; rw [hy1] at hc0; go_simp; try with_reducible rfl)
      (try simp only [Act.put]); (try simp only [List.setIfInBounds_toArray]); (repeat (first | simp only [List.set_cons_succ] | simp only [List.set_cons_zero]))
      refine wpTo_take (i := 6) (v := ?v6) (show _ = some _ by simp only [List.getElem?_toArray, List.getElem?_cons_succ, List.getElem?_cons_zero]; exact rfl) (by kernel_rfl) (by kernel_rfl) (by kernel_rfl) (by kernel_rfl) (by exact fun _ _ _ h => h) (Or.inl ⟨by rfl, ?hy6⟩) hS0 ?r6
      case hy6 => (intro w hSw; (try dsimp only at hSw); go_simp; try with_reducible rfl)
      (try simp only [Act.put]); (try simp only [List.setIfInBounds_toArray]); (repeat (first | simp only [List.set_cons_succ] | simp only [List.set_cons_zero]))
      refine wpTo_take (i := 7) (show _ = some _ by simp only [List.getElem?_toArray, List.getElem?_cons_succ, List.getElem?_cons_zero]; exact rfl) (by kernel_rfl) (by kernel_rfl) (by kernel_rfl) (by kernel_rfl) (by exact fun _ _ _ h => h) (yieldsIf_load_mid (by rfl) 31 (.tmp 18) rfl wr.heap.size 1 rfl (pb y.2) _ (fun v h => im_page (TS.i h)) Tryd.underlying31 rfl (by rw [pb_length]; kernel_rfl)) hS0 ?_
      (try simp only [Act.put]); (try simp only [List.setIfInBounds_toArray]); (repeat (first | simp only [List.set_cons_succ] | simp only [List.set_cons_zero]))
      refine wpTo_last (by kernel_rfl) (show _ = some _ by simp only [List.getElem?_toArray, List.getElem?_cons_succ, List.getElem?_cons_zero]; exact rfl) (by kernel_rfl) (fun K hK => ?_)
      rw [if_pos (by rfl)]
      refine put_pgm _ _ _ rfl mm (tot x.ws + k) D hS0.o (by unfold maxLen; omega) rfl y0.1 (by omega) rfl y.2 rfl (fun w' hO2 hg2 => ?_)
      have hl2 := hg2.block q hS0.l.lt (by intro e; injection e with e; exact hmq e.symm)
      have hB2 : Blk w' q 82 (lgc r mm x) := hl2.trans hS0.l
      clear hl2 hS0
      refine hK.out _ _ ?_
      clear hK K
      (try simp only [Act.put]); (try simp only [List.setIfInBounds_toArray]); (repeat (first | simp only [List.set_cons_succ] | simp only [List.set_cons_zero]))
      go_wp2_with fail
      have hUs := kU.size
      rw [hy2] at hO2
      refine ⟨⟨k + 1, _, by omega, by go_num, hB2, hO2, by rw [HT.out]; exact hM.put y0.1 y0.2, ?_⟩, by simp only [intOf]; omega⟩
      exact ⟨hg2.os.trans (kU.os.trans hF.os), hg2.tape.trans (kU.tape.trans hF.tape), hg2.output.trans (kU.output.trans hF.output), Nat.le_trans hF.size (Nat.le_trans hUs hg2.size), fun j hj hne => (hg2.block j (by show j < U.heap.size; have := hF.size; omega) (by intro e; injection e with e; exact hne e)).trans ((kU.block j (by have := hF.size; omega)).trans (hF.block j hj hne))⟩
    · have hkI : ¬ (k : Int) < (W.length : Int) := by omega
      have ek : k = W.length := by omega
      rw [ek, List.take_length] at hM
      rw [ek] at hO
      have c5 := hB.cell 5 _ rfl
      have c6 := hB.cell 6 _ rfl
      have f5 := hB.fz 5
      have f6 := hB.fz 6
      clear ek
      go_wp2_with fail
      go_end0
      refine ⟨rfl, ?_, ?_⟩
      · have e : (((lgc r mm x).set 5 (.int .u64 ((x.ws.length : Int) + 1))).set 6 (.int .i64 ((tot x.ws : Int) + ((W.length : Int) + 2)))) = lgc r mm { x with ws := x.ws ++ [W] } := by
          simp [lgc, tot_snoc]
        have hB2 := (hB.set 5 (.int .u64 ((x.ws.length : Int) + 1))).set 6 (.int .i64 ((tot x.ws : Int) + ((W.length : Int) + 2)))
        rw [e] at hB2
        have hM2 : ov (x.ws ++ [W]) = ov1 (ov x.ws) W := ov_snoc _ _
        have ht := tot_snoc x.ws W
        refine ⟨hB2, ⟨D, ?_, by show Mq D (ov (x.ws ++ [W])); rw [hM2]; exact hM⟩, fun p hp2 => ?_, h.L3, h.L4, h.H1, h.H2, ?_, ?_, h.gen⟩
        · exact ((hO.setCell hmq _).setCell hmq _).mono (by show tot x.ws + W.length ≤ tot (x.ws ++ [W]); omega)
        · show ov (x.ws ++ [W]) p = none
          rw [hM2]
          exact ov1_low _ x.H h.low W hp p hp2
        · show tot (x.ws ++ [W]) ≤ x.L
          omega
        · show (x.ws ++ [W]).length ≤ tot (x.ws ++ [W])
          rw [List.length_append, List.length_singleton]
          omega
      · have hF2 : Fr (lp q mm) w wr := ⟨hF.os, hF.tape, hF.output, hF.size, fun j hj hn => hF.block j hj (fun e => hn (.inr e))⟩
        exact (hF2.setCell _ _ (.inl (.inl rfl))).setCell _ _ (.inl (.inl rfl))
end Go.Proofs.YtndfhmlcfaaaiaaDoor
