import Derived.Test.YtndfhmlcfaaaiaaGreatDoorCmt
/- Images are taken up as the log's last record. -/
namespace Go.Proofs.YtndfhmlcfaaaiaaGreatDoor
open Go.RowKit

theorem most_any (L H : Nat) (hL : L ≤ 4000) (h2 : 2 ≤ L) (w : World) : Calls Tryz.prog 51 #[.agg (ly L H).toArray] w fun e w' => e = .returned (.int .i64 ((min 120 (L - 2) : Nat) : Int)) ∧ Below w.heap.size w w' := by
  have hly := Blk.new w 102 (ly L H)
  have c0 := hly.cell 0 _ rfl
  have kk := (Below.refl w.heap.size w).alloc (Nat.le_refl _) (.cells (ly L H).toArray 102)
  obtain ⟨M, hM⟩ : ∃ M, M = min 120 (L - 2) := ⟨_, rfl⟩
  have hM1 : min 120 ((L : Int) - 2) = (M : Int) := by rw [hM]; omega
  rw [← hM]
  clear hM
  go_enter Tryz.func51, Tryz.ntmps51
  go_wp2_with fail
  go_ret
  exact ⟨rfl, kk⟩

structure TS (v : World) (q r mm n : Nat) (x : Lg) (y : Int × Pg) (c : Nat) (D : DataW Pg) : Prop where
  l : Blk v q 105 (lgc r mm x)
  o : v.ownsMap Tryz.prog 3 pgR mm c D
  i : Blk v n 82 (ic y)
theorem TS.drew {v : World} {q r mm n c : Nat} {x : Lg} {y : Int × Pg} {D : DataW Pg} (h : TS v q r mm n x y c D) : TS v.drew q r mm n x y c D :=
  ⟨h.l.next (below_drw v), h.o.kept (grown_of_below (below_drw v)) (by simp), h.i.next (below_drw v)⟩
theorem ov1_take {W0 : Nat → Option Pg} {W : List Im} {k : Nat} {x : Im} (h : W[k]? = some x) : ov1 W0 (W.take (k + 1)) = upd (ov1 W0 (W.take k)) x.1 (some x.2) := by
  rw [List.take_add_one, h]
  exact ov1_snoc _ _ _
set_option maxRecDepth 100000 in
set_option maxHeartbeats 4000000 in
theorem take_any (w : World) (q r mm : Nat) (x : Lg) (ao : Option Addr) (cp : Nat) (W : List Im) (h : LL w q r mm x) (hI : Ims w ao (toI W)) (hW : W.length ≤ 120) (hp : ∀ y ∈ W, y.1 < x.H) (hg : ∀ g, ao = some ⟨g, 0, none⟩ → ¬ lp q mm g) (hroom : tot x.ws + (W.length + 2) ≤ x.L) :
    Calls Tryz.prog 54 #[.pointer (some ⟨q, 0, none⟩), .slice ao W.length cp] w fun e w' => e = .returned (.tuple #[]) ∧ LL w' q r mm { x with ws := x.ws ++ [W] } ∧ Fr (lp q mm) w w' := by
  have hz74 := zero74
  have hgn := h.gen
  have hL4 := h.L4
  have hH2 := h.H2
  have hus := h.used
  have hrc := h.recs
  have hll := h.lt
  have hmq := h.mq_ne
  have hblk := h.blk
  obtain ⟨D0, hD0, hM0⟩ := h.map
  go_enter Tryz.func54, Tryz.ntmps54
  go_wp2_with fail
  go_loopw [8] (fun i wr => ∃ (k : Nat) (D : DataW Pg), k ≤ W.length ∧ i = .int .i64 (k : Int) ∧ Blk wr q 105 (lgc r mm x) ∧ wr.ownsMap Tryz.prog 3 pgR mm (tot x.ws + k) D ∧ Mq D (ov1 (ov x.ws) (W.take k)) ∧ Fr (fun j => j = mm) w wr) (fun i _ => W.length - (intOf i).toNat)
  case atStart => exact ⟨0, D0, by omega, rfl, hblk, hD0, hM0, Fr.refl _ _⟩
  case round =>
    obtain ⟨k, D, hk, rfl, hB, hO, hM, hF⟩ := hrel
    clear hblk hD0 hM0
    by_cases hlt : k < W.length
    · have hkI : (k : Int) < (W.length : Int) := by omega
      obtain ⟨y0, hy0⟩ : ∃ y, W[k]? = some y := ⟨_, List.getElem?_eq_getElem hlt⟩
      have hIr := hI.fr hF (fun g e hj => hg g e (.inr hj))
      obtain ⟨gi, rfl, hgi⟩ := hIr.at (toI_at hy0)
      have hrg := hgi.range (toI_at hy0)
      have hpH := hp y0 (List.mem_of_getElem? hy0)
      have HT : Hid (ov1 (ov x.ws) (W.take (k + 1)) = upd (ov1 (ov x.ws) (W.take k)) y0.1 (some y0.2)) := ov1_take hy0
      obtain ⟨y, hy⟩ : ∃ y : Int × Pg, y = ((y0.1 : Int), y0.2) := ⟨_, rfl⟩
      have hy1 : y.1 = (y0.1 : Int) := by rw [hy]
      have hy2 : y.2 = y0.2 := by rw [hy]
      rw [← hy] at hrg
      clear hy hIr hgi
      have hqr := hB.lt
      have hmr := hO.lt
      have hNw := Blk.new wr 82 (ic (0, zp))
      have kA := (Below.refl wr.heap.size wr).alloc (Nat.le_refl _) (.cells (ic (0, zp)).toArray 82)
      have hst := (Fr.refl (fun j => j = wr.heap.size) (wr.alloc (.cells (ic (0, zp)).toArray 82))).setRow wr.heap.size (ic y).toArray (.inl rfl)
      have kU : Below wr.heap.size wr ((wr.alloc (.cells (ic (0, zp)).toArray 82)).setRow wr.heap.size (ic y).toArray) := kA.trans (hst.below (fun j e => by omega) kA.size)
      obtain ⟨U, hU⟩ : ∃ U, U = ((wr.alloc (.cells (ic (0, zp)).toArray 82)).setRow wr.heap.size (ic y).toArray) := ⟨_, rfl⟩
      rw [← hU] at kU
      have HU : Hid (U = ((wr.alloc (.cells (ic (0, zp)).toArray 82)).setRow wr.heap.size (ic y).toArray)) := hU
      have hS : Blk U wr.heap.size 82 (ic y) → TS U q r mm wr.heap.size x y (tot x.ws + k) D := fun hA => ⟨hB.next kU, hO.kept (grown_of_below kU) (by simp), hA⟩
      clear hU hst kA
      go_wp2_with (first
        | (refine wpList_load_mid rfl 82 _ rfl gi (k * 481) rfl (ic y) _ hrg Tryz.underlying82 rfl (by rw [ic_length]; kernel_rfl) ?_)
        | (refine store_im rfl _ _ rfl wr.heap.size (0, zp) y hNw rfl rfl ?_; intro hA; rw [← HU.out] at hA ⊢; have hT := hS hA; clear hS hA))
      clear hNw
      refine wp_region_to (fun v => TS v q r mm wr.heap.size x y (tot x.ws + k) D) 8 (by kernel_rfl) ?_
      have hS0 := hT.drew
      clear hT
      refine wpTo_take (i := 0) (v := ?v0) (show _ = some _ by simp only [List.getElem?_toArray, List.getElem?_cons_zero]; exact rfl) (by kernel_rfl) (by kernel_rfl) (by kernel_rfl) (by kernel_rfl) (by exact fun _ _ _ h => h) (Or.inl ⟨by rfl, ?hy0⟩) hS0 ?r0
      case hy0 => (intro w hSw; (try dsimp only at hSw); go_simp; try with_reducible rfl)
      (try simp only [Act.put]); (try simp only [List.setIfInBounds_toArray]); (repeat (first | simp only [List.set_cons_succ] | simp only [List.set_cons_zero]))
      refine wpTo_take (i := 1) (v := ?v1) (show _ = some _ by simp only [List.getElem?_toArray, List.getElem?_cons_succ, List.getElem?_cons_zero]; exact rfl) (by kernel_rfl) (by kernel_rfl) (by kernel_rfl) (by kernel_rfl) (by exact fun _ _ _ h => h) (Or.inl ⟨by rfl, ?hy1⟩) hS0 ?r1
      case hy1 => (intro w hSw; (try dsimp only at hSw); go_simp; try with_reducible rfl)
      (try simp only [Act.put]); (try simp only [List.setIfInBounds_toArray]); (repeat (first | simp only [List.set_cons_succ] | simp only [List.set_cons_zero]))
      refine wpTo_take (i := 2) (v := ?v2) (show _ = some _ by simp only [List.getElem?_toArray, List.getElem?_cons_succ, List.getElem?_cons_zero]; exact rfl) (by kernel_rfl) (by kernel_rfl) (by kernel_rfl) (by kernel_rfl) (by exact fun _ _ _ h => h) (Or.inl ⟨by rfl, ?hy2⟩) hS0 ?r2
      case hy2 => (intro w hSw; (try dsimp only at hSw); go_simp; try with_reducible rfl)
      (try simp only [Act.put]); (try simp only [List.setIfInBounds_toArray]); (repeat (first | simp only [List.set_cons_succ] | simp only [List.set_cons_zero]))
      refine wpTo_take (i := 3) (v := ?v3) (show _ = some _ by simp only [List.getElem?_toArray, List.getElem?_cons_succ, List.getElem?_cons_zero]; exact rfl) (by kernel_rfl) (by kernel_rfl) (by kernel_rfl) (by kernel_rfl) (by exact fun _ _ _ h => h) (Or.inl ⟨by rfl, ?hy3⟩) hS0 ?r3
      case hy3 => (intro w hSw; (try dsimp only at hSw); have hl4 : _ = some (Value.map (some mm)) := Blk.cell hSw.l 4 _ rfl; have hc0 := Blk.cell hSw.i 0 _ rfl; rw [hy1] at hc0; go_simp; try with_reducible rfl)
      (try simp only [Act.put]); (try simp only [List.setIfInBounds_toArray]); (repeat (first | simp only [List.set_cons_succ] | simp only [List.set_cons_zero]))
      refine wpTo_take (i := 4) (v := ?v4) (show _ = some _ by simp only [List.getElem?_toArray, List.getElem?_cons_succ, List.getElem?_cons_zero]; exact rfl) (by kernel_rfl) (by kernel_rfl) (by kernel_rfl) (by kernel_rfl) (by exact fun _ _ _ h => h) (Or.inl ⟨by rfl, ?hy4⟩) hS0 ?r4
      case hy4 => (intro w hSw; (try dsimp only at hSw); go_simp; try with_reducible rfl)
      (try simp only [Act.put]); (try simp only [List.setIfInBounds_toArray]); (repeat (first | simp only [List.set_cons_succ] | simp only [List.set_cons_zero]))
      refine wpTo_take (i := 5) (v := ?v5) (show _ = some _ by simp only [List.getElem?_toArray, List.getElem?_cons_succ, List.getElem?_cons_zero]; exact rfl) (by kernel_rfl) (by kernel_rfl) (by kernel_rfl) (by kernel_rfl) (by exact fun _ _ _ h => h) (Or.inl ⟨by rfl, ?hy5⟩) hS0 ?r5
      case hy5 => (intro w hSw; (try dsimp only at hSw); have hl4 : _ = some (Value.map (some mm)) := Blk.cell hSw.l 4 _ rfl; have hc0 := Blk.cell hSw.i 0 _ rfl; rw [hy1] at hc0; go_simp; try with_reducible rfl)
      (try simp only [Act.put]); (try simp only [List.setIfInBounds_toArray]); (repeat (first | simp only [List.set_cons_succ] | simp only [List.set_cons_zero]))
      refine wpTo_take (i := 6) (v := ?v6) (show _ = some _ by simp only [List.getElem?_toArray, List.getElem?_cons_succ, List.getElem?_cons_zero]; exact rfl) (by kernel_rfl) (by kernel_rfl) (by kernel_rfl) (by kernel_rfl) (by exact fun _ _ _ h => h) (Or.inl ⟨by rfl, ?hy6⟩) hS0 ?r6
      case hy6 => (intro w hSw; (try dsimp only at hSw); go_simp; try with_reducible rfl)
      (try simp only [Act.put]); (try simp only [List.setIfInBounds_toArray]); (repeat (first | simp only [List.set_cons_succ] | simp only [List.set_cons_zero]))
      refine wpTo_take (i := 7) (show _ = some _ by simp only [List.getElem?_toArray, List.getElem?_cons_succ, List.getElem?_cons_zero]; exact rfl) (by kernel_rfl) (by kernel_rfl) (by kernel_rfl) (by kernel_rfl) (by exact fun _ _ _ h => h) (yieldsIf_load_mid (by rfl) 66 (.tmp 18) rfl wr.heap.size 1 rfl (pb y.2) _ (fun v h => im_page (TS.i h)) Tryz.underlying66 rfl (by rw [pb_length]; kernel_rfl)) hS0 ?_
      (try simp only [Act.put]); (try simp only [List.setIfInBounds_toArray]); (repeat (first | simp only [List.set_cons_succ] | simp only [List.set_cons_zero]))
      refine wpTo_last (by kernel_rfl) (show _ = some _ by simp only [List.getElem?_toArray, List.getElem?_cons_succ, List.getElem?_cons_zero]; exact rfl) (by kernel_rfl) (fun K hK => ?_)
      rw [if_pos (by rfl)]
      refine put_pgm _ _ _ rfl mm (tot x.ws + k) D hS0.o (by unfold maxLen; omega) rfl y0.1 (by omega) rfl y.2 rfl (fun w' hO2 hg2 => ?_)
      have hl2 := hg2.block q hS0.l.lt (by intro e; injection e with e; exact hmq e.symm)
      have hB2 : Blk w' q 105 (lgc r mm x) := hl2.trans hS0.l
      clear hl2 hS0
      refine hK.out _ _ ?_
      clear hK K
      (try simp only [Act.put]); (try simp only [List.setIfInBounds_toArray]); (repeat (first | simp only [List.set_cons_succ] | simp only [List.set_cons_zero]))
      go_wp2_with fail
      have hUs := kU.size
      rw [hy2] at hO2
      refine ⟨⟨k + 1, _, by omega, by go_num, hB2, hO2, by rw [HT.out]; exact hM.put y0.1 y0.2, ?_⟩, by simp only [intOf]; omega⟩
      exact ⟨hg2.os.trans (kU.os.trans hF.os), hg2.tape.trans (kU.tape.trans hF.tape), hg2.output.trans (kU.output.trans hF.output), Nat.le_trans hF.size (Nat.le_trans hUs hg2.size), fun j hj hne => (hg2.block j (by show j < U.heap.size; have := hF.size; omega) (by intro e; injection e with e; exact hne e)).trans ((kU.block j (by have := hF.size; omega)).trans (hF.block j hj hne))⟩
    · have hkI : ¬ (k : Int) < (W.length : Int) := by omega
      have ek : k = W.length := by omega
      rw [ek, List.take_length] at hM
      rw [ek] at hO
      have c5 := hB.cell 5 _ rfl
      have c6 := hB.cell 6 _ rfl
      have f5 := hB.fz 5
      have f6 := hB.fz 6
      clear ek
      go_wp2_with fail
      go_end0
      refine ⟨rfl, ?_, ?_⟩
      · have e : (((lgc r mm x).set 5 (.int .u64 ((x.ws.length : Int) + 1))).set 6 (.int .i64 ((tot x.ws : Int) + ((W.length : Int) + 2)))) = lgc r mm { x with ws := x.ws ++ [W] } := by
          simp [lgc, tot_snoc]
        have hB2 := (hB.set 5 (.int .u64 ((x.ws.length : Int) + 1))).set 6 (.int .i64 ((tot x.ws : Int) + ((W.length : Int) + 2)))
        rw [e] at hB2
        have hM2 : ov (x.ws ++ [W]) = ov1 (ov x.ws) W := ov_snoc _ _
        have ht := tot_snoc x.ws W
        refine ⟨hB2, ⟨D, ?_, by show Mq D (ov (x.ws ++ [W])); rw [hM2]; exact hM⟩, fun p hp2 => ?_, h.L3, h.L4, h.H1, h.H2, ?_, ?_, h.gen⟩
        · exact ((hO.setCell hmq _).setCell hmq _).mono (by show tot x.ws + W.length ≤ tot (x.ws ++ [W]); omega)
        · show ov (x.ws ++ [W]) p = none
          rw [hM2]
          exact ov1_low _ x.H h.low W hp p hp2
        · show tot (x.ws ++ [W]) ≤ x.L
          omega
        · show (x.ws ++ [W]).length ≤ tot (x.ws ++ [W])
          rw [List.length_append, List.length_singleton]
          omega
      · have hF2 : Fr (lp q mm) w wr := ⟨hF.os, hF.tape, hF.output, hF.size, fun j hj hn => hF.block j hj (fun e => hn (.inr e))⟩
        exact (hF2.setCell _ _ (.inl (.inl rfl))).setCell _ _ (.inl (.inl rfl))
end Go.Proofs.YtndfhmlcfaaaiaaGreatDoor

/- Commit: pages are written, all or none. -/
namespace Go.Proofs.YtndfhmlcfaaaiaaGreatDoor
open Go.RowKit

theorem okP_toI {H : Nat} {W : List Im} (h : okP H (toI W)) : ∀ y ∈ W, y.1 < H := by
  intro y hy
  have := (h.1 (y.1 : Int) (List.mem_map.2 ⟨((y.1 : Int), y.2), List.mem_map.2 ⟨y, hy, rfl⟩, rfl⟩)).2
  omega
/-- Where images lie that are no one's else. -/
def Apt (w : World) (ao : Option Addr) (q r mm f m : Nat) : Prop := ∀ g, ao = some ⟨g, 0, none⟩ → g < w.heap.size ∧ ¬ fp r f m g ∧ ¬ lp q mm g
theorem Apt.mv {w w' : World} {ao : Option Addr} {q r mm f m mm' m' : Nat} (h : Apt w ao q r mm f m) (h1 : mm' = mm ∨ w.heap.size ≤ mm') (h2 : m' = m ∨ w.heap.size ≤ m') (hs : w.heap.size ≤ w'.heap.size) : Apt w' ao q r mm' f m' := by
  intro g hg
  obtain ⟨a, b, c⟩ := h g hg
  refine ⟨by omega, fun hf => ?_, fun hl => ?_⟩
  · rcases hf with e | e | e
    · exact b (.inl e)
    · exact b (.inr (.inl e))
    · rcases h2 with e2 | e2
      · exact b (.inr (.inr (e.trans e2)))
      · omega
  · rcases hl with e | e
    · exact c (.inl e)
    · rcases h1 with e2 | e2
      · exact c (.inr (e.trans e2))
      · omega
theorem Ims.mv {v v' : World} {ao : Option Addr} {l : List (Int × Pg)} {q r mm f m : Nat} (h : Ims v ao l) (ha : Apt v ao q r mm f m) (hF : Fr (fun k => fp r f m k ∨ lp q mm k) v v') : Ims v' ao l :=
  h.fr hF (fun g e hx => by obtain ⟨_, b, c⟩ := ha g e; exact hx.elim b c)
theorem ckp_zero (d : St) (x : Lg) (h : (ckp d x).2.2 = 0) : (ckp d x).2.1.ws = [] ∧ (ckp d x).2.1.L = x.L ∧ (ckp d x).2.1.H = x.H ∧ (ckp d x).2.1.dead = x.dead := by
  unfold ckp at h ⊢
  by_cases h1 : x.ws = []
  · rw [if_pos h1]; exact ⟨h1, rfl, rfl, rfl⟩
  · rw [if_neg h1] at h ⊢
    by_cases h2 : (runs d (ckS x)).2 = 0
    · rw [if_pos h2]; exact ⟨rfl, rfl, rfl, rfl⟩
    · rw [if_neg h2] at h
      exact absurd h h2
theorem ckp_writes (d : St) (x : Lg) (hH : x.H ≤ 16384) : (ckp d x).1.writes ≤ d.writes + 20000 ∧ (ckp d x).1.flushes ≤ d.flushes + 20000 := by
  have hck : (ckS x).length ≤ 20000 := by
    have := chg_len x.H (ov x.ws)
    simp [ckS, bst_len]
    omega
  obtain ⟨h1, h2⟩ := runs_writes (ckS x) d
  unfold ckp
  split
  · exact ⟨by show d.writes ≤ _; omega, by show d.flushes ≤ _; omega⟩
  · split
    · exact ⟨by show (runs d (ckS x)).1.writes ≤ _; omega, by show (runs d (ckS x)).1.flushes ≤ _; omega⟩
    · exact ⟨by show (runs d (ckS x)).1.writes ≤ _; omega, by show (runs d (ckS x)).1.flushes ≤ _; omega⟩
/-- What a record's writing does. -/
def com2 (d : St) (x : Lg) (W : List Im) : St × Lg × Int := if (runs d (cmS x W)).2 = 0 then ((runs d (cmS x W)).1, { x with ws := x.ws ++ [W] }, 0) else ((runs d (cmS x W)).1, x.noted (runs d (cmS x W)).2, (runs d (cmS x W)).2)
/-- What a Commit that is not refused does. -/
def com (d : St) (x : Lg) (W : List Im) : St × Lg × Int := if x.L - tot x.ws < W.length + 2 then (if (ckp d x).2.2 = 0 then com2 (ckp d x).1 (ckp d x).2.1 W else ckp d x) else com2 d x W
theorem cmS_len (x : Lg) (W : List Im) : (cmS x W).length = W.length + 4 := by simp [cmS, cmE_len]
/-- The frames are written, in order. -/
theorem steps_com (w1 w2 : World) (q r mm f m cap : Nat) (x : Lg) (d : St) (W : List Im) (v : Value) (hDL : DL w1 q r mm f m cap x d) (kb : Below w1.heap.size w1 w2) (hR : Rowed w2 w1.heap.size v r f m cap (cmS x W)) (hW : W.length ≤ 120) (hw : d.writes ≤ 950000000) (hf : d.flushes ≤ 950000000) :
    Calls Tryz.prog 48 #[v] w2 fun e w3 => e = .returned (.int .i64 (runs d (cmS x W)).2) ∧ Mv w1 w3 q r mm f m cap x (runs d (cmS x W)).1 := by
  have hl := cmS_len x W
  refine (rowed_any (cmS x W) (by intro e; rw [e] at hl; simp at hl) w2 w1.heap.size v r f m cap d (hDL.k.next kb) (hDL.t.next kb) hR (fun k hk => ⟨hDL.fp2 k hk, Lay.fp2 hDL.k k hk⟩) (by omega) (by omega) (by omega)).mono ?_
  rintro e w3 ⟨rfl, hT⟩
  exact ⟨rfl, ((hDL.next kb).turn hT (runs_n _ d)).before kb⟩
set_option maxRecDepth 100000 in
set_option maxHeartbeats 4000000 in
theorem com_any (w : World) (q r mm f m cap : Nat) (x : Lg) (d : St) (ao : Option Addr) (cp : Nat) (W : List Im) (h : DL w q r mm f m cap x d) (hI : Ims w ao (toI W)) (hA : Apt w ao q r mm f m) (hok : okP x.H (toI W)) (hW1 : 1 ≤ W.length) (hW2 : W.length ≤ min 120 (x.L - 2)) (hd : x.dead = false)
    (hg : x.g < 18446744073709551614) (hw : d.writes ≤ 900000000) (hf : d.flushes ≤ 900000000) :
    Calls Tryz.prog 18 #[.pointer (some ⟨q, 0, none⟩), .slice ao W.length cp] w fun e w' => e = .returned (.int .i64 (com d x W).2.2) ∧ Mv w w' q r mm f m cap (com d x W).2.1 (com d x W).1 := by
  have hL4 := h.l.L4
  have hL3 := h.l.L3
  have hH2 := h.l.H2
  have hus := h.l.used
  have c7 := h.l.c7
  rw [hd] at c7
  have hly := h.l.ly
  have hpH := okP_toI hok
  have hp32 : ∀ y ∈ W, y.1 < 4294967296 := fun y hy => by have := hpH y hy; omega
  have hnm := names_any w x.L x.H ao cp (toI W) hI (by rw [toI_length]; omega) (fun y hy => by
    obtain ⟨z, hz, rfl⟩ := List.mem_map.1 hy
    exact wf64 z.1 (by omega) (by have := hpH z hz; omega))
  rw [decide_eq_true hok, toI_length] at hnm
  have hmo := fun U => most_any x.L x.H hL4 (by omega) U
  obtain ⟨mo, hmo2⟩ : ∃ mo, mo = min 120 (x.L - 2) := ⟨_, rfl⟩
  rw [← hmo2] at hmo hW2
  have hW120 : W.length ≤ 120 := by omega
  have hWL : W.length + 2 ≤ x.L := by omega
  have n0 : ¬ (W.length : Int) = 0 := by omega
  have n1 : (W.length : Int) ≤ (mo : Int) := by omega
  obtain ⟨rm, hrm⟩ : ∃ rm, rm = x.L - tot x.ws := ⟨_, rfl⟩
  have hro := fun (U : World) (hU : LL U q r mm x) => room_any U q r mm x hU hd
  rw [← hrm] at hro
  unfold com
  rw [← hrm]
  clear hmo2
  by_cases hsp : rm < W.length + 2
  · rw [if_pos hsp]
    have nI : (rm : Int) < (W.length : Int) + 2 := by omega
    have hkw := ckp_writes d x hH2
    have hkz := ckp_zero d x
    have hck := fun (U : World) (hU : DL U q r mm f m cap x d) => ckp_any U q r mm f m cap x d hU hd hg hw hf
    obtain ⟨K, hK⟩ : ∃ K, K = ckp d x := ⟨_, rfl⟩
    rw [← hK] at hkw hkz hck ⊢
    obtain ⟨dk, xk, Ek⟩ := K
    dsimp only at hkw hkz hck ⊢
    clear hK
    by_cases hE0 : Ek = 0
    · obtain ⟨z1, z2, z3, z4⟩ := hkz hE0
      rw [if_pos hE0]
      subst hE0
      clear hkz
      rw [hd] at z4
      have hpHk : ∀ y ∈ W, y.1 < xk.H := by rw [z3]; exact hpH
      have z5 : tot xk.ws + (W.length + 2) ≤ xk.L := by rw [z1, z2]; simp only [tot]; omega
      unfold com2
      have hst := fun (w1 w2 : World) (mm8 m8 : Nat) (v : Value) hDL kb hR => steps_com w1 w2 q r mm8 f m8 cap xk dk W v hDL kb hR hW120 (by omega) (by omega)
      obtain ⟨E, hE⟩ : ∃ E, E = (runs dk (cmS xk W)).2 := ⟨_, rfl⟩
      obtain ⟨d1, hd1⟩ : ∃ d1, d1 = (runs dk (cmS xk W)).1 := ⟨_, rfl⟩
      rw [← hE, ← hd1] at hst ⊢
      clear hE hd1 z1 z2 z3
      by_cases h0 : E = 0
      · rw [if_pos h0]
        subst h0
        have hnz : xk.noted 0 = xk := noted_zero z4
        clear z4
        go_enter Tryz.func18, Tryz.ntmps18
        go_wp2_with (first
          | (refine wpList_load_mid rfl 102 _ rfl q 1 rfl (ly x.L x.H) _ hly Tryz.underlying102 rfl (by kernel_rfl) ?_)
          | (go_at_call 50; refine hnm.mono ?_; rintro e w1 ⟨rfl, kb1⟩
             have hD1 := h.next kb1
             have hly := hD1.l.ly)
          | (go_at_call 51; refine (hmo _).mono ?_; rintro e w2 ⟨rfl, kb2⟩
             have hD2 := hD1.next kb2
             have c7 := hD2.l.c7
             rw [hd] at c7)
          | (go_at_call 16; refine (hro _ hD2.l).mono ?_; rintro e w3 ⟨rfl, kb3⟩
             have hD3 := hD2.next kb3
             have k13 := (kb1.trans (kb2.mono kb1.size)).trans (kb3.mono (Nat.le_trans kb1.size kb2.size))
             have hI3 := hI.next k13)
          | (go_at_call 37; refine (hck w3 hD3).mono ?_; rintro e w8 ⟨rfl, mm8, m8, g8, g9, hD8, hF8⟩
             have hA3 := hA.mv (.inl rfl) (.inl rfl) k13.size
             have hI8 := hI3.mv hA3 hF8
             have hA8 := hA3.mv g8 g9 hF8.size)
          | (go_at_call 53; refine (committing_any _ q r mm8 f m8 cap xk ao cp W hD8.l hI8 hD8.t hW120 hp32 (fun k hk => ⟨hD8.fp2 k hk, Lay.fp2 hD8.k k hk⟩) hD8.apart).mono ?_; rintro e w4 ⟨v, rfl, hR, kb4⟩)
          | (go_at_call 48; refine (hst w8 w4 mm8 m8 v hD8 kb4 hR).mono ?_; rintro e w5 ⟨rfl, mm5, m5, g5, g6, hD5, hF5⟩)
          | (go_at_call 52; refine (noted_any w5 q r mm5 xk hD5.l 0).mono ?_; rintro e w6 ⟨rfl, hl6, hF6, hs6⟩
             rw [hnz] at hl6
             have hI5 := hI8.mv hA8 hF5
             have hA5 := hA8.mv g5 g6 hF5.size
             have hI6 := hI5.fr hF6 (fun g e hx => (hA5 g e).2.2 hx))
          | (go_at_call 54; refine (take_any w6 q r mm5 xk ao cp W hl6 hI6 hW120 hpHk (fun g e => (hA5 g e).2.2) z5).mono ?_; rintro e w7 ⟨rfl, hl7, hF7⟩))
        go_ret
        exact ⟨rfl, Mv.before k13 (Mv.trans g8 g9 hF8 (Mv.trans g5 g6 hF5 (hD5.relog hl7 (.inl rfl) (hF6.trans hF7 (fun _ _ h => h)) rfl rfl)))⟩
      · rw [if_neg h0]
        go_enter Tryz.func18, Tryz.ntmps18
        go_wp2_with (first
          | (refine wpList_load_mid rfl 102 _ rfl q 1 rfl (ly x.L x.H) _ hly Tryz.underlying102 rfl (by kernel_rfl) ?_)
          | (go_at_call 50; refine hnm.mono ?_; rintro e w1 ⟨rfl, kb1⟩
             have hD1 := h.next kb1
             have hly := hD1.l.ly)
          | (go_at_call 51; refine (hmo _).mono ?_; rintro e w2 ⟨rfl, kb2⟩
             have hD2 := hD1.next kb2
             have c7 := hD2.l.c7
             rw [hd] at c7)
          | (go_at_call 16; refine (hro _ hD2.l).mono ?_; rintro e w3 ⟨rfl, kb3⟩
             have hD3 := hD2.next kb3
             have k13 := (kb1.trans (kb2.mono kb1.size)).trans (kb3.mono (Nat.le_trans kb1.size kb2.size))
             have hI3 := hI.next k13)
          | (go_at_call 37; refine (hck w3 hD3).mono ?_; rintro e w8 ⟨rfl, mm8, m8, g8, g9, hD8, hF8⟩
             have hA3 := hA.mv (.inl rfl) (.inl rfl) k13.size
             have hI8 := hI3.mv hA3 hF8
             have hA8 := hA3.mv g8 g9 hF8.size)
          | (go_at_call 53; refine (committing_any _ q r mm8 f m8 cap xk ao cp W hD8.l hI8 hD8.t hW120 hp32 (fun k hk => ⟨hD8.fp2 k hk, Lay.fp2 hD8.k k hk⟩) hD8.apart).mono ?_; rintro e w4 ⟨v, rfl, hR, kb4⟩)
          | (go_at_call 48; refine (hst w8 w4 mm8 m8 v hD8 kb4 hR).mono ?_; rintro e w5 ⟨rfl, mm5, m5, g5, g6, hD5, hF5⟩)
          | (go_at_call 52; refine (noted_any w5 q r mm5 xk hD5.l E).mono ?_; rintro e w6 ⟨rfl, hl6, hF6, -⟩))
        go_ret
        exact ⟨rfl, Mv.before k13 (Mv.trans g8 g9 hF8 (Mv.trans g5 g6 hF5 (hD5.relog hl6 (.inl rfl) hF6 rfl rfl)))⟩
    · rw [if_neg hE0]
      go_enter Tryz.func18, Tryz.ntmps18
      go_wp2_with (first
        | (refine wpList_load_mid rfl 102 _ rfl q 1 rfl (ly x.L x.H) _ hly Tryz.underlying102 rfl (by kernel_rfl) ?_)
        | (go_at_call 50; refine hnm.mono ?_; rintro e w1 ⟨rfl, kb1⟩
           have hD1 := h.next kb1
           have hly := hD1.l.ly)
        | (go_at_call 51; refine (hmo _).mono ?_; rintro e w2 ⟨rfl, kb2⟩
           have hD2 := hD1.next kb2
           have c7 := hD2.l.c7
           rw [hd] at c7)
        | (go_at_call 16; refine (hro _ hD2.l).mono ?_; rintro e w3 ⟨rfl, kb3⟩
           have hD3 := hD2.next kb3
           have k13 := (kb1.trans (kb2.mono kb1.size)).trans (kb3.mono (Nat.le_trans kb1.size kb2.size))
           have hI3 := hI.next k13)
        | (go_at_call 37; refine (hck w3 hD3).mono ?_; rintro e w8 ⟨rfl, hM8⟩))
      go_ret
      exact ⟨rfl, Mv.before k13 hM8⟩
  · rw [if_neg hsp]
    have nI : (W.length : Int) + 2 ≤ (rm : Int) := by omega
    unfold com2
    have hst := fun (w1 w2 : World) (v : Value) hDL kb hR => steps_com w1 w2 q r mm f m cap x d W v hDL kb hR hW120 (by omega) (by omega)
    obtain ⟨E, hE⟩ : ∃ E, E = (runs d (cmS x W)).2 := ⟨_, rfl⟩
    obtain ⟨d1, hd1⟩ : ∃ d1, d1 = (runs d (cmS x W)).1 := ⟨_, rfl⟩
    rw [← hE, ← hd1] at hst ⊢
    clear hE hd1
    by_cases h0 : E = 0
    · rw [if_pos h0]
      subst h0
      have hnz : x.noted 0 = x := noted_zero hd
      go_enter Tryz.func18, Tryz.ntmps18
      go_wp2_with (first
        | (refine wpList_load_mid rfl 102 _ rfl q 1 rfl (ly x.L x.H) _ hly Tryz.underlying102 rfl (by kernel_rfl) ?_)
        | (go_at_call 50; refine hnm.mono ?_; rintro e w1 ⟨rfl, kb1⟩
           have hD1 := h.next kb1
           have hly := hD1.l.ly)
        | (go_at_call 51; refine (hmo _).mono ?_; rintro e w2 ⟨rfl, kb2⟩
           have hD2 := hD1.next kb2
           have c7 := hD2.l.c7
           rw [hd] at c7)
        | (go_at_call 16; refine (hro _ hD2.l).mono ?_; rintro e w3 ⟨rfl, kb3⟩
           have hD3 := hD2.next kb3
           have k13 := (kb1.trans (kb2.mono kb1.size)).trans (kb3.mono (Nat.le_trans kb1.size kb2.size))
           have hI3 := hI.next k13)
        | (go_at_call 53; refine (committing_any _ q r mm f m cap x ao cp W hD3.l hI3 hD3.t hW120 hp32 (fun k hk => ⟨hD3.fp2 k hk, Lay.fp2 hD3.k k hk⟩) hD3.apart).mono ?_; rintro e w4 ⟨v, rfl, hR, kb4⟩)
        | (go_at_call 48; refine (hst w3 w4 v hD3 kb4 hR).mono ?_; rintro e w5 ⟨rfl, mm5, m5, g5, g6, hD5, hF5⟩)
        | (go_at_call 52; refine (noted_any w5 q r mm5 x hD5.l 0).mono ?_; rintro e w6 ⟨rfl, hl6, hF6, hs6⟩
           rw [hnz] at hl6
           have hA3 := hA.mv (.inl rfl) (.inl rfl) k13.size
           have hI5 := hI3.mv hA3 hF5
           have hA5 := hA3.mv g5 g6 hF5.size
           have hI6 := hI5.fr hF6 (fun g e hx => (hA5 g e).2.2 hx))
        | (go_at_call 54; refine (take_any w6 q r mm5 x ao cp W hl6 hI6 hW120 hpH (fun g e => (hA5 g e).2.2) (by omega)).mono ?_; rintro e w7 ⟨rfl, hl7, hF7⟩))
      go_ret
      exact ⟨rfl, Mv.before k13 (Mv.trans g5 g6 hF5 (hD5.relog hl7 (.inl rfl) (hF6.trans hF7 (fun _ _ h => h)) rfl rfl))⟩
    · rw [if_neg h0]
      go_enter Tryz.func18, Tryz.ntmps18
      go_wp2_with (first
        | (refine wpList_load_mid rfl 102 _ rfl q 1 rfl (ly x.L x.H) _ hly Tryz.underlying102 rfl (by kernel_rfl) ?_)
        | (go_at_call 50; refine hnm.mono ?_; rintro e w1 ⟨rfl, kb1⟩
           have hD1 := h.next kb1
           have hly := hD1.l.ly)
        | (go_at_call 51; refine (hmo _).mono ?_; rintro e w2 ⟨rfl, kb2⟩
           have hD2 := hD1.next kb2
           have c7 := hD2.l.c7
           rw [hd] at c7)
        | (go_at_call 16; refine (hro _ hD2.l).mono ?_; rintro e w3 ⟨rfl, kb3⟩
           have hD3 := hD2.next kb3
           have k13 := (kb1.trans (kb2.mono kb1.size)).trans (kb3.mono (Nat.le_trans kb1.size kb2.size))
           have hI3 := hI.next k13)
        | (go_at_call 53; refine (committing_any _ q r mm f m cap x ao cp W hD3.l hI3 hD3.t hW120 hp32 (fun k hk => ⟨hD3.fp2 k hk, Lay.fp2 hD3.k k hk⟩) hD3.apart).mono ?_; rintro e w4 ⟨v, rfl, hR, kb4⟩)
        | (go_at_call 48; refine (hst w3 w4 v hD3 kb4 hR).mono ?_; rintro e w5 ⟨rfl, mm5, m5, g5, g6, hD5, hF5⟩)
        | (go_at_call 52; refine (noted_any w5 q r mm5 x hD5.l E).mono ?_; rintro e w6 ⟨rfl, hl6, hF6, -⟩))
      go_ret
      exact ⟨rfl, Mv.before k13 (Mv.trans g5 g6 hF5 (hD5.relog hl6 (.inl rfl) hF6 rfl rfl))⟩
end Go.Proofs.YtndfhmlcfaaaiaaGreatDoor

/- Commits that are refused, or have nothing to do. -/
namespace Go.Proofs.YtndfhmlcfaaaiaaGreatDoor
open Go.RowKit

theorem com_nil (w : World) (v : Value) : Calls Tryz.prog 18 #[.pointer none, v] w fun e w' => e = .returned (.int .i64 1) ∧ w = w' := by
  go_enter Tryz.func18, Tryz.ntmps18
  go_wp2
  go_ret
  exact ⟨rfl, rfl⟩
/-- What a Commit of these images answers, if it does not write. -/
def comR (x : Lg) (l : List (Int × Pg)) : Int := if ¬ okP x.H l then 2 else if l = [] then 0 else if min 120 (x.L - 2) < l.length then 82 else 6
set_option maxRecDepth 100000 in
set_option maxHeartbeats 800000 in
theorem com_ref (w : World) (q r mm : Nat) (x : Lg) (ao : Option Addr) (cp : Nat) (l : List (Int × Pg)) (h : LL w q r mm x) (hI : Ims w ao l) (hl : l.length ≤ 100000) (hwf : ∀ y ∈ l, (Lit.int .i64 y.1).wf = true)
    (hno : ¬ okP x.H l ∨ l = [] ∨ min 120 (x.L - 2) < l.length ∨ x.dead = true) :
    Calls Tryz.prog 18 #[.pointer (some ⟨q, 0, none⟩), .slice ao l.length cp] w fun e w' => e = .returned (.int .i64 (comR x l)) ∧ Below w.heap.size w w' := by
  have hL4 := h.L4
  have hL3 := h.L3
  have hly := h.ly
  have hnm := names_any w x.L x.H ao cp l hI hl hwf
  have hmo := fun U => most_any x.L x.H hL4 (by omega) U
  unfold comR
  obtain ⟨mo, hmo2⟩ : ∃ mo, mo = min 120 (x.L - 2) := ⟨_, rfl⟩
  rw [← hmo2] at hmo hno ⊢
  clear hmo2
  by_cases hok : okP x.H l
  · rw [decide_eq_true hok] at hnm
    rw [if_neg (fun h => h hok)]
    by_cases hz : l = []
    · rw [if_pos hz]
      have n0 : (l.length : Int) = 0 := by rw [hz]; rfl
      clear hno hz
      go_enter Tryz.func18, Tryz.ntmps18
      go_wp2_with (first
        | (refine wpList_load_mid rfl 102 _ rfl q 1 rfl (ly x.L x.H) _ hly Tryz.underlying102 rfl (by kernel_rfl) ?_)
        | (go_at_call 50; refine hnm.mono ?_; rintro e w1 ⟨rfl, kb1⟩))
      go_ret
      exact ⟨rfl, kb1⟩
    · rw [if_neg hz]
      have hpos : 0 < l.length := List.length_pos_iff.2 hz
      have n0 : ¬ (l.length : Int) = 0 := by omega
      by_cases hb : mo < l.length
      · rw [if_pos hb]
        have n1 : (mo : Int) < (l.length : Int) := by omega
        clear hno
        go_enter Tryz.func18, Tryz.ntmps18
        go_wp2_with (first
          | (refine wpList_load_mid rfl 102 _ rfl q 1 rfl (ly x.L x.H) _ hly Tryz.underlying102 rfl (by kernel_rfl) ?_)
          | (go_at_call 50; refine hnm.mono ?_; rintro e w1 ⟨rfl, kb1⟩
             have hD1 := h.next kb1
             have hly := hD1.ly)
          | (go_at_call 51; refine (hmo _).mono ?_; rintro e w2 ⟨rfl, kb2⟩))
        go_ret
        exact ⟨rfl, kb1.trans (kb2.mono kb1.size)⟩
      · rw [if_neg hb]
        have n1 : (l.length : Int) ≤ (mo : Int) := by omega
        have hd : x.dead = true := by
          rcases hno with h | h | h | h
          · exact absurd hok h
          · exact absurd h hz
          · exact absurd h hb
          · exact h
        clear hno
        go_enter Tryz.func18, Tryz.ntmps18
        go_wp2_with (first
          | (refine wpList_load_mid rfl 102 _ rfl q 1 rfl (ly x.L x.H) _ hly Tryz.underlying102 rfl (by kernel_rfl) ?_)
          | (go_at_call 50; refine hnm.mono ?_; rintro e w1 ⟨rfl, kb1⟩
             have hD1 := h.next kb1
             have hly := hD1.ly)
          | (go_at_call 51; refine (hmo _).mono ?_; rintro e w2 ⟨rfl, kb2⟩
             have hD2 := hD1.next kb2
             have c7 := hD2.c7
             rw [hd] at c7))
        go_ret
        exact ⟨rfl, kb1.trans (kb2.mono kb1.size)⟩
  · rw [decide_eq_false hok] at hnm
    rw [if_pos hok]
    clear hno
    go_enter Tryz.func18, Tryz.ntmps18
    go_wp2_with (first
      | (refine wpList_load_mid rfl 102 _ rfl q 1 rfl (ly x.L x.H) _ hly Tryz.underlying102 rfl (by kernel_rfl) ?_)
      | (go_at_call 50; refine hnm.mono ?_; rintro e w1 ⟨rfl, kb1⟩))
    go_ret
    exact ⟨rfl, kb1⟩
end Go.Proofs.YtndfhmlcfaaaiaaGreatDoor
