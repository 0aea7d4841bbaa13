/- The head that holds is found. -/
import Derived.Test.YtndfhmlcfaaaiaaGreatDoorReplay
namespace Go.Proofs.YtndfhmlcfaaaiaaGreatDoor
open Go.RowKit

def rawc (r : Nat) (L H g : Int) : List Value := [.pointer (some ⟨r, 0, none⟩), .int .i64 L, .int .i64 H, .int .u64 g, .map none, .int .u64 0, .int .i64 0, .bool false]
structure HO (w v : World) (q r f m cap : Nat) (d : St) (L H g : Int) : Prop where
  b : Blk v q 105 (rawc r L H g)
  k : Lay v r f m cap d
  t : Tabs v
  below : Below q w v
structure HP (w v : World) (bd q r f m cap : Nat) (d : St) (L H g : Int) (s : Sec) : Prop where
  h : HO w v q r f m cap d L H g
  s : Blk v bd 26 (sb s)
section
variable {w v v' : World} {bd q r f m cap : Nat} {d : St} {L H g : Int} {s : Sec}
theorem HO.next (h : HO w v q r f m cap d L H g) (hb : Below v.heap.size v v') : HO w v' q r f m cap d L H g := ⟨h.b.next hb, h.k.next hb, h.t.next hb, h.below.trans (hb.mono (Nat.le_of_lt h.b.lt))⟩
theorem HO.drew (h : HO w v q r f m cap d L H g) : HO w v.drew q r f m cap d L H g := h.next (below_drw v)
theorem HO.fr {X : Nat → Prop} (h : HO w v q r f m cap d L H g) (hf : Fr X v v') (h1 : ¬ X q) (h2 : ∀ k, X k → q ≤ k) (h3 : ∀ k, fp r f m k → k < q) (h4 : 2 ≤ q) : HO w v' q r f m cap d L H g :=
  ⟨h.b.fr hf h1, h.k.fr hf (fun k e hk => by have := h2 k e; have := h3 k hk; omega), h.t.fr hf (fun k e => by have := h2 k e; omega), h.below.trans (hf.below h2 (Nat.le_of_lt h.b.lt))⟩
theorem HP.next (h : HP w v bd q r f m cap d L H g s) (hb : Below v.heap.size v v') : HP w v' bd q r f m cap d L H g s := ⟨h.h.next hb, h.s.next hb⟩
theorem HP.drew (h : HP w v bd q r f m cap d L H g s) : HP w v.drew bd q r f m cap d L H g s := h.next (below_drw v)
theorem HP.lt (h : HP w v bd q r f m cap d L H g s) : bd < v.heap.size := h.s.lt
theorem HP.alloc (h : HP w v bd q r f m cap d L H g s) (o : Obj) : HP w (v.alloc o) bd q r f m cap d L H g s := h.next ((Below.refl _ v).alloc (Nat.le_refl _) o)
theorem HP.setRow (h : HP w v bd q r f m cap d L H g s) (G : Nat) (cs : Array Value) (hG : bd < G) (hq : q < bd) (h3 : ∀ k, fp r f m k → k < q) (h4 : 2 ≤ q) : HP w (v.setRow G cs) bd q r f m cap d L H g s := by
  have hf : Fr (fun k => k = G) v (v.setRow G cs) := (Fr.refl _ v).setRow G cs (.inl rfl)
  exact ⟨h.h.fr hf (by omega) (fun k e => by omega) h3 h4, h.s.fr hf (by omega)⟩
end
theorem put_ly {w : World} {o : Oper} {a : Act} {K : Act → World → Prop} {Q : Exit → Act → World → Prop} (x y : Operand) (ho : o.op = .store 102 x y) (g : Nat) (L0 H0 L H : Int) (hA : Blk w g 102 (ly L0 H0)) (hx : a.eval x = .pointer (some ⟨g, 0, none⟩)) (hy : a.eval y = .agg (ly L H).toArray)
    (h : Blk (w.setRow g (ly L H).toArray) g 102 (ly L H) → K (a.put o.dst undef) (w.setRow g (ly L H).toArray)) : o.wp Tryz.prog a w K Q := by
  have hrun := run_storeVar_row (P := Tryz.prog) w g 102 102 (ly L0 H0).toArray (ly L H).toArray hA (by kernel_rfl) (by simp [ly]) (by simp [ly, Value.oneCell'])
  unfold Oper.wp execOp
  simp only [ho, hx, hy, Instr.storeAt, Instr.sureAddr, Sem.run_bind, Sem.run_pure, Result.andThen_ok, hrun]
  exact h (setRow_heap w g _ _ 102 _ hA)
theorem zero82 (w : World) : (zeroValue 105).run Tryz.prog w = .ok (.agg #[.pointer none, .int .i64 0, .int .i64 0, .int .u64 0, .map none, .int .u64 0, .int .i64 0, .bool false]) w := by kernel_rfl
/-- Behind the heads 0 .. k - 1: sectors of log, pages, generation (0: none holds). -/
def hol (d : St) : Nat → Nat × Nat × Nat
  | 0 => (0, 0, 0)
  | k + 1 => if hdOK (d.at k) k d.n ∧ (hol d k).2.2 < gin (d.at k) then (Lw (d.at k), d.n - 2 - Lw (d.at k), gin (d.at k)) else hol d k
theorem hol_ok (d : St) : ∀ k, (hol d k).2.2 ≠ 0 → 3 ≤ (hol d k).1 ∧ (hol d k).1 ≤ 4000 ∧ 1 ≤ (hol d k).2.1 ∧ 2 + (hol d k).1 + (hol d k).2.1 = d.n
  | 0, h => absurd rfl h
  | k + 1, h => by
    unfold hol at h ⊢
    by_cases hc : hdOK (d.at k) k d.n ∧ (hol d k).2.2 < gin (d.at k)
    · rw [if_pos hc]
      obtain ⟨h1, h2, h3, _⟩ := hc.1
      refine ⟨h1, h2, ?_, ?_⟩ <;> dsimp only <;> omega
    · rw [if_neg hc] at h ⊢
      exact hol_ok d k h
theorem cR_some (d : St) (k : Nat) : ∃ (L1 H1 A : Nat) (b : Bool), cR (d.at k) k d.n = .tuple #[.agg (ly (L1 : Int) (H1 : Int)).toArray, .int .u64 (A : Int), .bool b] ∧ hol d (k + 1) = if b = true ∧ (hol d k).2.2 < A then (L1, H1, A) else hol d k := by
  by_cases h : hdOK (d.at k) k d.n
  · refine ⟨_, _, _, true, cR_yes h, ?_⟩
    show (if _ then _ else _) = _
    simp only [h, true_and]
  · refine ⟨0, 0, 0, false, cR_no h, ?_⟩
    show (if _ then _ else _) = _
    simp [h]
/-- A layout is stored within a log. -/
theorem put_lyq {w : World} {o : Oper} {a : Act} {K : Act → World → Prop} {Q : Exit → Act → World → Prop} (x y : Operand) (ho : o.op = .store 102 x y) (q r : Nat) (L0 H0 g L H : Int) (hB : Blk w q 105 (rawc r L0 H0 g)) (hx : a.eval x = .pointer (some ⟨q, 1, none⟩)) (hy : a.eval y = .agg (ly L H).toArray)
    (h : Blk (w.setCells q 1 (ly L H)) q 105 (rawc r L H g) → K (a.put o.dst undef) (w.setCells q 1 (ly L H))) : o.wp Tryz.prog a w K Q := by
  have hth : w.there q 1 (ly L H).length := by
    intro j hj
    have hj2 : j < 2 := hj
    refine ⟨?_, hB.fz _⟩
    rcases Nat.lt_or_ge j 1 with h0 | h0
    · rw [show 1 + j = 1 by omega, hB.cell 1 _ rfl]; rfl
    · rw [show 1 + j = 2 by omega, hB.cell 2 _ rfl]; rfl
  exact wp_store_mid 102 x y ho q 1 (ly L H).toArray hx hy (by rw [List.size_toArray]; exact hth) (by kernel_rfl) (by simp [ly, Value.oneCell']) (h ((hB.set 1 (.int .i64 L)).set 2 (.int .i64 H)))
set_option maxRecDepth 100000 in
set_option maxHeartbeats 600000 in
theorem empty_raw (w : World) (q r : Nat) (L H g : Nat) (h : Blk w q 105 (rawc r L H g)) (hL3 : 3 ≤ L) (hL4 : L ≤ 4000) (hH1 : 1 ≤ H) (hH2 : H ≤ 16384) (hg : g < 18446744073709551615) :
    Calls Tryz.prog 73 #[.pointer (some ⟨q, 0, none⟩)] w fun e w' => e = .returned (.tuple #[]) ∧ ∃ mm', w.heap.size ≤ mm' ∧ LL w' q r mm' ⟨L, H, g, [], false⟩ ∧ Fr (fun k => k = q) w w' := by
  have hmm := @run_makeMap Tryz.prog
  have hA := h.alloc (.map #[] 0)
  have g4 := h.fz 4
  have g5 := h.fz 5
  have g6 := h.fz 6
  have d4 := h.cell 4 _ rfl
  have d5 := h.cell 5 _ rfl
  have d6 := h.cell 6 _ rfl
  have f4 := hA.fz 4
  have f5 := hA.fz 5
  have f6 := hA.fz 6
  have c4 := hA.cell 4 _ rfl
  have c5 := hA.cell 5 _ rfl
  have c6 := hA.cell 6 _ rfl
  have hlt := h.lt
  have hne : q ≠ w.heap.size := by omega
  obtain ⟨w0, hw0⟩ : ∃ w0, w0 = (((w.setCell ⟨q, 4, none⟩ (.map (some w.heap.size))).setCell ⟨q, 5, none⟩ (.int .u64 0)).setCell ⟨q, 6, none⟩ (.int .i64 0)) := ⟨_, rfl⟩
  have hsz : w0.heap.size = w.heap.size := by rw [hw0]; simp
  have h1 : LL (w0.alloc (.map #[] 0)) q r w.heap.size ⟨L, H, g, [], false⟩ := by
    have hm := World.ownsMap_made w0 Tryz.prog 3 pgR
    rw [hsz] at hm
    refine ⟨?_, ⟨.map [], hm.mono (Nat.zero_le _), mq_empty⟩, fun p _ => rfl, hL3, hL4, hH1, hH2, Nat.zero_le _, Nat.le_refl _, hg⟩
    rw [hw0]
    exact (((h.set 4 (.map (some w.heap.size))).set 5 (.int .u64 0)).set 6 (.int .i64 0)).alloc _
  have h2 : Fr (fun k => k = q) w (w0.alloc (.map #[] 0)) := by
    rw [hw0]
    have h0 : Fr (fun k => k = q) w w := Fr.refl _ w
    exact (((h0.setCell ⟨q, 4, none⟩ _ (.inl rfl)).setCell ⟨q, 5, none⟩ _ (.inl rfl)).setCell ⟨q, 6, none⟩ _ (.inl rfl)).alloc _
  rw [hw0] at h1 h2
  clear hw0
  go_enter Tryz.func73, Tryz.ntmps73
  go_wp2
  go_end0
  exact ⟨rfl, _, Nat.le_refl _, h1, h2⟩
set_option maxRecDepth 100000 in
set_option maxHeartbeats 600000 in
theorem holding_any (w : World) (r f m cap : Nat) (d : St) (h : Lay w r f m cap d) (hT : Tabs w) (hfp : ∀ k, fp r f m k → 2 ≤ k) (hoff : d.off = false) (hn : 2 ≤ d.n) (hg : (hol d 2).2.2 < 18446744073709551615) :
    Calls Tryz.prog 47 #[.pointer (some ⟨r, 0, none⟩)] w fun e w' => Below w.heap.size w w' ∧ (((hol d 2).2.2 = 0 ∧ e = .returned (.tuple #[.pointer none, .int .i64 80])) ∨
      ((hol d 2).2.2 ≠ 0 ∧ e = .returned (.tuple #[.pointer (some ⟨w.heap.size, 0, none⟩), .int .i64 0]) ∧ ∃ mm, w.heap.size < mm ∧ DL w' w.heap.size r mm f m cap ⟨(hol d 2).1, (hol d 2).2.1, (hol d 2).2.2, [], false⟩ d)) := by
  have hz82 := zero82
  have hz79 := zero79
  have hz64 := zero39
  have htop := h.top
  have hf2 := Lay.fp2 h
  have ht2 := hT.two
  obtain ⟨q, hq⟩ : ∃ q, q = w.heap.size := ⟨_, rfl⟩
  have HQ : Hid (q = w.heap.size) := hq
  have hbl : ∀ k, fp r f m k → k < q := by rw [hq]; exact hf2
  have hb2 : 2 ≤ q := by rw [hq]; exact ht2
  have hS1 : HO w (w.alloc (.cells (rawc r 0 0 0).toArray 105)) q r f m cap d 0 0 0 := by
    have kk := (Below.refl w.heap.size w).alloc (Nat.le_refl _) (.cells (rawc r 0 0 0).toArray 105)
    have hb := Blk.new w 105 (rawc r 0 0 0)
    rw [← hq] at hb
    exact ⟨hb, h.next kk, hT.next kk, by rw [hq]; exact kk⟩
  rw [← hq]
  clear hf2 ht2 hq h hT
  go_enter Tryz.func47, Tryz.ntmps47
  go_wp2_with fail
  rw [← HQ.out]
  go_loopw [14] (fun i wr => ∃ k : Nat, k ≤ 2 ∧ i = .int .i64 (k : Int) ∧ HO w wr q r f m cap d ((hol d k).1 : Int) ((hol d k).2.1 : Int) ((hol d k).2.2 : Int)) (fun i _ => 2 - (intOf i).toNat)
  case atStart => exact ⟨0, by omega, rfl, hS1⟩
  case round =>
    obtain ⟨k, hk, rfl, hH⟩ := hrel
    clear hS1
    by_cases hlt : k < 2
    · have hkI : (k : Int) < 2 := by omega
      obtain ⟨L1, H1, A, b, hcR, hsucc⟩ := cR_some d k
      have hrd : ∀ W, Lay W r f m cap d → Calls Tryz.prog 74 #[.pointer (some ⟨r, 0, none⟩), .int .i64 (k : Int)] W fun e w' => e = .returned (.tuple #[.agg (sb (d.at k)).toArray, .int .i64 0]) ∧ Below W.heap.size W w' := fun W hW => read_good W r f m cap d hW k hoff (by omega)
      have hsz : ∀ W, Lay W r f m cap d → Calls Tryz.prog 58 #[.pointer (some ⟨r, 0, none⟩)] W fun e w' => e = .returned (.int .i64 (d.n : Int)) ∧ Below W.heap.size W w' := fun W hW => (size_any W r f m cap d hW).mono (by rintro e w' ⟨rfl, rfl⟩; exact ⟨rfl, Below.refl _ _⟩)
      have hct : ∀ W, Tabs W → Calls Tryz.prog 79 #[.agg (sb (d.at k)).toArray, .int .i64 (k : Int), .int .i64 (d.n : Int)] W fun e w' => e = .returned (.tuple #[.agg (ly (L1 : Int) (H1 : Int)).toArray, .int .u64 (A : Int), .bool b]) ∧ Below W.heap.size W w' := fun W hW => by
        have := counting_any (d.at k) k d.n htop hlt W hW
        rwa [hcR] at this
      obtain ⟨Y, hY⟩ : ∃ Y, Y = hol d k := ⟨_, rfl⟩
      rw [← hY] at hH hsucc
      obtain ⟨L, H, g⟩ := Y
      dsimp only at hH hsucc
      have HSU : Hid (hol d (k + 1) = if b = true ∧ g < A then (L1, H1, A) else (L, H, g)) := hsucc
      obtain ⟨sc, hsc⟩ : ∃ sc, sc = d.at k := ⟨_, rfl⟩
      rw [← hsc] at hrd hct
      clear hcR hsucc hY hsc
      obtain ⟨bd, hbd⟩ : ∃ bd, bd = 0 := ⟨_, rfl⟩
      clear hbd bd
      go_upto_region 8 with (first
        | (go_at_call 74; refine (hrd _ hH.k).mono ?_; rintro e w1 ⟨rfl, kb1⟩
           have hH1 := hH.next kb1
           have hN := Blk.new w1 26 (sb zs))
        | (refine store_sec rfl _ _ rfl w1.heap.size zs sc hN rfl rfl ?_; intro hP))
      have hbq : q < w1.heap.size := hH1.b.lt
      have hH2 : HO w ((w1.alloc (.cells (sb zs).toArray 26)).setRow w1.heap.size (sb sc).toArray) q r f m cap d (L : Int) (H : Int) (g : Int) := by
        have hf : Fr (fun k => k = w1.heap.size) w1 ((w1.alloc (.cells (sb zs).toArray 26)).setRow w1.heap.size (sb sc).toArray) := ((Fr.refl _ w1).alloc _).setRow _ _ (.inl rfl)
        exact hH1.fr hf (by omega) (fun k e => by omega) hbl hb2
      have hF : HP w ((w1.alloc (.cells (sb zs).toArray 26)).setRow w1.heap.size (sb sc).toArray) w1.heap.size q r f m cap d (L : Int) (H : Int) (g : Int) sc := ⟨hH2, hP⟩
      obtain ⟨bd, hbd⟩ : ∃ bd, bd = w1.heap.size := ⟨_, rfl⟩
      rw [← hbd] at hF hbq ⊢
      obtain ⟨vs, hvs⟩ : ∃ v, v = (w1.alloc (.cells (sb zs).toArray 26)).setRow bd (sb sc).toArray := ⟨_, rfl⟩
      rw [← hvs] at hF ⊢
      clear hvs hH hH1 hH2 hN hP kb1
      clear hbd
      go_cut [8, 9, 10] from 15 to 52 (fun p y e wc => ∃ G, p = .pointer (some ⟨G, 0, none⟩) ∧ y = .int .u64 (A : Int) ∧ e = .bool b ∧ Blk wc G 102 (ly L1 H1) ∧ HP w wc bd q r f m cap d (L : Int) (H : Int) (g : Int) sc ∧ bd < G)
      case first =>
        refine wp_region_to (fun v => HP w v bd q r f m cap d L H g sc) 13 (by kernel_rfl) ?_
        have hS0 := hF.drew
        obtain ⟨v0, hv0⟩ : ∃ u, u = vs.drew := ⟨_, rfl⟩
        rw [← hv0] at hS0 ⊢
        clear hF hv0
        refine wpTo_take (i := 0) (show _ = some _ by simp only [List.getElem?_toArray, List.getElem?_cons_zero]; exact rfl) (by kernel_rfl) (by kernel_rfl) (by kernel_rfl) (by kernel_rfl) (by exact fun _ _ _ h => h) (yieldsIf_load_mid (by rfl) 26 (.tmp 6) rfl bd 0 rfl (sb sc) _ (fun v h => (HP.s h).whole) Tryz.underlying26 rfl (by rw [sb_length]; kernel_rfl)) hS0 ?_
        (try simp only [Act.put]); (try simp only [List.setIfInBounds_toArray]); (repeat (first | simp only [List.set_cons_succ] | simp only [List.set_cons_zero]))
        refine wpTo_take (i := 1) (v := ?v1z1) (show _ = some _ by simp only [List.getElem?_toArray, List.getElem?_cons_succ, List.getElem?_cons_zero]; exact rfl) (by kernel_rfl) (by kernel_rfl) (by kernel_rfl) (by kernel_rfl) (by exact fun _ _ _ h => h) (Or.inl ⟨by rfl, ?hy1z1⟩) hS0 ?r1z1
        case hy1z1 => (intro w hSw; (try dsimp only at hSw); go_simp; try with_reducible rfl)
        (try simp only [Act.put]); (try simp only [List.setIfInBounds_toArray]); (repeat (first | simp only [List.set_cons_succ] | simp only [List.set_cons_zero]))
        refine wpTo_take (i := 2) (v := ?v2z2) (show _ = some _ by simp only [List.getElem?_toArray, List.getElem?_cons_succ, List.getElem?_cons_zero]; exact rfl) (by kernel_rfl) (by kernel_rfl) (by kernel_rfl) (by kernel_rfl) (by exact fun _ _ _ h => h) (Or.inl ⟨by rfl, ?hy2z2⟩) hS0 ?r2z2
        case hy2z2 => (intro w hSw; (try dsimp only at hSw); go_simp; try with_reducible rfl)
        (try simp only [Act.put]); (try simp only [List.setIfInBounds_toArray]); (repeat (first | simp only [List.set_cons_succ] | simp only [List.set_cons_zero]))
        refine wpTo_two (i := 3) (j := 9) (by kernel_rfl) (show _ = some _ by simp only [List.getElem?_toArray, List.getElem?_cons_succ, List.getElem?_cons_zero]; exact rfl) (show _ = some _ by simp only [List.getElem?_toArray, List.getElem?_cons_succ, List.getElem?_cons_zero]; exact rfl) (fun K hK => ?_) (fun K hK => ?_)
        · go_simp
          go_at_call 58; refine (hsz _ hS0.h.k).mono ?_; rintro e v1 ⟨rfl, kb1⟩
          (try simp only [])
          have hS1 := hS0.next kb1
          refine hK.out _ _ (hS1) (fun _ => ?_)
          clear hK K
          (try simp only [Act.put]); (try simp only [List.setIfInBounds_toArray]); (repeat (first | simp only [List.set_cons_succ] | simp only [List.set_cons_zero]))
          refine wpTo_two (i := 4) (j := 9) (by kernel_rfl) (show _ = some _ by simp only [List.getElem?_toArray, List.getElem?_cons_succ, List.getElem?_cons_zero]; exact rfl) (show _ = some _ by simp only [List.getElem?_toArray, List.getElem?_cons_succ, List.getElem?_cons_zero]; exact rfl) (fun K hK => ?_) (fun K hK => ?_)
          · go_simp
            go_at_call 79; refine (hct _ hS1.h.t).mono ?_; rintro e v2 ⟨rfl, kb2⟩
            (try simp only [])
            have hS2 := hS1.next kb2
            refine hK.out _ _ (hS2) (fun _ => ?_)
            clear hK K
            (try simp only [Act.put]); (try simp only [List.setIfInBounds_toArray]); (repeat (first | simp only [List.set_cons_succ] | simp only [List.set_cons_zero]))
            refine wpTo_take (i := 5) (v := ?v5z3) (show _ = some _ by simp only [List.getElem?_toArray, List.getElem?_cons_succ, List.getElem?_cons_zero]; exact rfl) (by kernel_rfl) (by kernel_rfl) (by kernel_rfl) (by kernel_rfl) (by exact fun _ _ _ h => h) (Or.inl ⟨by rfl, ?hy5z3⟩) hS2 ?r5z3
            case hy5z3 => (intro w hSw; (try dsimp only at hSw); go_simp; try with_reducible rfl)
            (try simp only [Act.put]); (try simp only [List.setIfInBounds_toArray]); (repeat (first | simp only [List.set_cons_succ] | simp only [List.set_cons_zero]))
            refine wpTo_take (i := 6) (v := ?v6z4) (show _ = some _ by simp only [List.getElem?_toArray, List.getElem?_cons_succ, List.getElem?_cons_zero]; exact rfl) (by kernel_rfl) (by kernel_rfl) (by kernel_rfl) (by kernel_rfl) (by exact fun _ _ _ h => h) (Or.inl ⟨by rfl, ?hy6z4⟩) hS2 ?r6z4
            case hy6z4 => (intro w hSw; (try dsimp only at hSw); go_simp; try with_reducible rfl)
            (try simp only [Act.put]); (try simp only [List.setIfInBounds_toArray]); (repeat (first | simp only [List.set_cons_succ] | simp only [List.set_cons_zero]))
            refine wpTo_take (i := 7) (v := ?v7z5) (show _ = some _ by simp only [List.getElem?_toArray, List.getElem?_cons_succ, List.getElem?_cons_zero]; exact rfl) (by kernel_rfl) (by kernel_rfl) (by kernel_rfl) (by kernel_rfl) (by exact fun _ _ _ h => h) (Or.inl ⟨by rfl, ?hy7z5⟩) hS2 ?r7z5
            case hy7z5 => (intro w hSw; (try dsimp only at hSw); go_simp; try with_reducible rfl)
            (try simp only [Act.put]); (try simp only [List.setIfInBounds_toArray]); (repeat (first | simp only [List.set_cons_succ] | simp only [List.set_cons_zero]))
            refine wpTo_take (i := 8) (v := ?v8z6) (show _ = some _ by simp only [List.getElem?_toArray, List.getElem?_cons_succ, List.getElem?_cons_zero]; exact rfl) (by kernel_rfl) (by kernel_rfl) (by kernel_rfl) (by kernel_rfl) (by exact fun _ _ _ h => h) (Or.inl ⟨by rfl, ?hy8z6⟩) hS2 ?r8z6
            case hy8z6 => (intro w hSw; (try dsimp only at hSw); go_simp; try with_reducible rfl)
            (try simp only [Act.put]); (try simp only [List.setIfInBounds_toArray]); (repeat (first | simp only [List.set_cons_succ] | simp only [List.set_cons_zero]))
            refine wpTo_one (i := 9) (by kernel_rfl) (show _ = some _ by simp only [List.getElem?_toArray, List.getElem?_cons_succ, List.getElem?_cons_zero]; exact rfl) (fun K hK => ?_)
            go_simp
            obtain ⟨va, hva⟩ : ∃ va, va = v2 := ⟨_, rfl⟩
            obtain ⟨G, hGe⟩ : ∃ G, G = v2.heap.size := ⟨_, rfl⟩
            have hGb : bd < G := by have := hS2.lt; omega
            have hGa := Blk.new v2 102 (ly 0 0)
            rw [← hGe] at hGa ⊢
            clear hGe hva
            have hSa := hS2.alloc (.cells ((ly 0 0)).toArray 102)

            refine hK.out _ _ (hSa) (fun _ => ?_)
            clear hK K
            (try simp only [Act.put]); (try simp only [List.setIfInBounds_toArray]); (repeat (first | simp only [List.set_cons_succ] | simp only [List.set_cons_zero]))
            refine wpTo_one (i := 10) (by kernel_rfl) (show _ = some _ by simp only [List.getElem?_toArray, List.getElem?_cons_succ, List.getElem?_cons_zero]; exact rfl) (fun K hK => ?_)
            rw [if_pos (by rfl)]
            refine put_ly _ _ rfl G 0 0 L1 H1 hGa rfl rfl ?_
            intro hGp
            have hSp := HP.setRow hSa G (ly L1 H1).toArray hGb hbq hbl hb2
            refine hK.out _ _ (hSp) (fun _ => ?_)
            clear hK K
            (try simp only [Act.put]); (try simp only [List.setIfInBounds_toArray]); (repeat (first | simp only [List.set_cons_succ] | simp only [List.set_cons_zero]))
            refine wpTo_take (i := 11) (v := ?v11z8) (show _ = some _ by simp only [List.getElem?_toArray, List.getElem?_cons_succ, List.getElem?_cons_zero]; exact rfl) (by kernel_rfl) (by kernel_rfl) (by kernel_rfl) (by kernel_rfl) (by exact fun _ _ _ h => h) (Or.inl ⟨by rfl, ?hy11z8⟩) hSp ?r11z8
            case hy11z8 => (intro w hSw; (try dsimp only at hSw); go_simp; try with_reducible rfl)
            (try simp only [Act.put]); (try simp only [List.setIfInBounds_toArray]); (repeat (first | simp only [List.set_cons_succ] | simp only [List.set_cons_zero]))
            refine wpTo_take (i := 12) (v := ?v12z9) (show _ = some _ by simp only [List.getElem?_toArray, List.getElem?_cons_succ, List.getElem?_cons_zero]; exact rfl) (by kernel_rfl) (by kernel_rfl) (by kernel_rfl) (by kernel_rfl) (by exact fun _ _ _ h => h) (Or.inl ⟨by rfl, ?hy12z9⟩) hSp ?r12z9
            case hy12z9 => (intro w hSw; (try dsimp only at hSw); go_simp; try with_reducible rfl)
            (try simp only [Act.put]); (try simp only [List.setIfInBounds_toArray]); (repeat (first | simp only [List.set_cons_succ] | simp only [List.set_cons_zero]))
            refine wpTo_done (by kernel_rfl) ?_
            go_wp2_with fail
            go_meet
            exact ⟨G, rfl, rfl, rfl, hGp, hSp, hGb⟩

          · go_simp
            obtain ⟨va, hva⟩ : ∃ va, va = v1 := ⟨_, rfl⟩
            obtain ⟨G, hGe⟩ : ∃ G, G = v1.heap.size := ⟨_, rfl⟩
            have hGb : bd < G := by have := hS1.lt; omega
            have hGa := Blk.new v1 102 (ly 0 0)
            rw [← hGe] at hGa ⊢
            clear hGe hva
            have hSa := hS1.alloc (.cells ((ly 0 0)).toArray 102)
            refine hK.out _ _ (hSa) (fun _ => ?_)
            clear hK K
            (try simp only [Act.put]); (try simp only [List.setIfInBounds_toArray]); (repeat (first | simp only [List.set_cons_succ] | simp only [List.set_cons_zero]))
            refine wpTo_one (i := 4) (by kernel_rfl) (show _ = some _ by simp only [List.getElem?_toArray, List.getElem?_cons_succ, List.getElem?_cons_zero]; exact rfl) (fun K hK => ?_)
            go_simp
            go_at_call 79; refine (hct _ hSa.h.t).mono ?_; rintro e v2 ⟨rfl, kb2⟩
            (try simp only [])
            have hS2 := hSa.next kb2
            have hG2 := hGa.next kb2

            refine hK.out _ _ (hS2) (fun _ => ?_)
            clear hK K
            (try simp only [Act.put]); (try simp only [List.setIfInBounds_toArray]); (repeat (first | simp only [List.set_cons_succ] | simp only [List.set_cons_zero]))
            refine wpTo_take (i := 5) (v := ?v5z11) (show _ = some _ by simp only [List.getElem?_toArray, List.getElem?_cons_succ, List.getElem?_cons_zero]; exact rfl) (by kernel_rfl) (by kernel_rfl) (by kernel_rfl) (by kernel_rfl) (by exact fun _ _ _ h => h) (Or.inl ⟨by rfl, ?hy5z11⟩) hS2 ?r5z11
            case hy5z11 => (intro w hSw; (try dsimp only at hSw); go_simp; try with_reducible rfl)
            (try simp only [Act.put]); (try simp only [List.setIfInBounds_toArray]); (repeat (first | simp only [List.set_cons_succ] | simp only [List.set_cons_zero]))
            refine wpTo_take (i := 6) (v := ?v6z12) (show _ = some _ by simp only [List.getElem?_toArray, List.getElem?_cons_succ, List.getElem?_cons_zero]; exact rfl) (by kernel_rfl) (by kernel_rfl) (by kernel_rfl) (by kernel_rfl) (by exact fun _ _ _ h => h) (Or.inl ⟨by rfl, ?hy6z12⟩) hS2 ?r6z12
            case hy6z12 => (intro w hSw; (try dsimp only at hSw); go_simp; try with_reducible rfl)
            (try simp only [Act.put]); (try simp only [List.setIfInBounds_toArray]); (repeat (first | simp only [List.set_cons_succ] | simp only [List.set_cons_zero]))
            refine wpTo_take (i := 7) (v := ?v7z13) (show _ = some _ by simp only [List.getElem?_toArray, List.getElem?_cons_succ, List.getElem?_cons_zero]; exact rfl) (by kernel_rfl) (by kernel_rfl) (by kernel_rfl) (by kernel_rfl) (by exact fun _ _ _ h => h) (Or.inl ⟨by rfl, ?hy7z13⟩) hS2 ?r7z13
            case hy7z13 => (intro w hSw; (try dsimp only at hSw); go_simp; try with_reducible rfl)
            (try simp only [Act.put]); (try simp only [List.setIfInBounds_toArray]); (repeat (first | simp only [List.set_cons_succ] | simp only [List.set_cons_zero]))
            refine wpTo_take (i := 8) (v := ?v8z14) (show _ = some _ by simp only [List.getElem?_toArray, List.getElem?_cons_succ, List.getElem?_cons_zero]; exact rfl) (by kernel_rfl) (by kernel_rfl) (by kernel_rfl) (by kernel_rfl) (by exact fun _ _ _ h => h) (Or.inl ⟨by rfl, ?hy8z14⟩) hS2 ?r8z14
            case hy8z14 => (intro w hSw; (try dsimp only at hSw); go_simp; try with_reducible rfl)
            (try simp only [Act.put]); (try simp only [List.setIfInBounds_toArray]); (repeat (first | simp only [List.set_cons_succ] | simp only [List.set_cons_zero]))
            refine wpTo_one (i := 10) (by kernel_rfl) (show _ = some _ by simp only [List.getElem?_toArray, List.getElem?_cons_succ, List.getElem?_cons_zero]; exact rfl) (fun K hK => ?_)
            rw [if_pos (by rfl)]
            refine put_ly _ _ rfl G 0 0 L1 H1 hG2 rfl rfl ?_
            intro hGp
            have hSp := HP.setRow hS2 G (ly L1 H1).toArray hGb hbq hbl hb2
            refine hK.out _ _ (hSp) (fun _ => ?_)
            clear hK K
            (try simp only [Act.put]); (try simp only [List.setIfInBounds_toArray]); (repeat (first | simp only [List.set_cons_succ] | simp only [List.set_cons_zero]))
            refine wpTo_take (i := 11) (v := ?v11z15) (show _ = some _ by simp only [List.getElem?_toArray, List.getElem?_cons_succ, List.getElem?_cons_zero]; exact rfl) (by kernel_rfl) (by kernel_rfl) (by kernel_rfl) (by kernel_rfl) (by exact fun _ _ _ h => h) (Or.inl ⟨by rfl, ?hy11z15⟩) hSp ?r11z15
            case hy11z15 => (intro w hSw; (try dsimp only at hSw); go_simp; try with_reducible rfl)
            (try simp only [Act.put]); (try simp only [List.setIfInBounds_toArray]); (repeat (first | simp only [List.set_cons_succ] | simp only [List.set_cons_zero]))
            refine wpTo_take (i := 12) (v := ?v12z16) (show _ = some _ by simp only [List.getElem?_toArray, List.getElem?_cons_succ, List.getElem?_cons_zero]; exact rfl) (by kernel_rfl) (by kernel_rfl) (by kernel_rfl) (by kernel_rfl) (by exact fun _ _ _ h => h) (Or.inl ⟨by rfl, ?hy12z16⟩) hSp ?r12z16
            case hy12z16 => (intro w hSw; (try dsimp only at hSw); go_simp; try with_reducible rfl)
            (try simp only [Act.put]); (try simp only [List.setIfInBounds_toArray]); (repeat (first | simp only [List.set_cons_succ] | simp only [List.set_cons_zero]))
            refine wpTo_done (by kernel_rfl) ?_
            go_wp2_with fail
            go_meet
            exact ⟨G, rfl, rfl, rfl, hGp, hSp, hGb⟩


        · go_simp
          obtain ⟨va, hva⟩ : ∃ va, va = v0 := ⟨_, rfl⟩
          obtain ⟨G, hGe⟩ : ∃ G, G = v0.heap.size := ⟨_, rfl⟩
          have hGb : bd < G := by have := hS0.lt; omega
          have hGa := Blk.new v0 102 (ly 0 0)
          rw [← hGe] at hGa ⊢
          clear hGe hva
          have hSa := hS0.alloc (.cells ((ly 0 0)).toArray 102)
          refine hK.out _ _ (hSa) (fun _ => ?_)
          clear hK K
          (try simp only [Act.put]); (try simp only [List.setIfInBounds_toArray]); (repeat (first | simp only [List.set_cons_succ] | simp only [List.set_cons_zero]))
          refine wpTo_one (i := 3) (by kernel_rfl) (show _ = some _ by simp only [List.getElem?_toArray, List.getElem?_cons_succ, List.getElem?_cons_zero]; exact rfl) (fun K hK => ?_)
          go_simp
          go_at_call 58; refine (hsz _ hSa.h.k).mono ?_; rintro e v1 ⟨rfl, kb1⟩
          (try simp only [])
          have hS1 := hSa.next kb1
          have hG1 := hGa.next kb1

          refine hK.out _ _ (hS1) (fun _ => ?_)
          clear hK K
          (try simp only [Act.put]); (try simp only [List.setIfInBounds_toArray]); (repeat (first | simp only [List.set_cons_succ] | simp only [List.set_cons_zero]))
          refine wpTo_one (i := 4) (by kernel_rfl) (show _ = some _ by simp only [List.getElem?_toArray, List.getElem?_cons_succ, List.getElem?_cons_zero]; exact rfl) (fun K hK => ?_)
          go_simp
          go_at_call 79; refine (hct _ hS1.h.t).mono ?_; rintro e v2 ⟨rfl, kb2⟩
          (try simp only [])
          have hS2 := hS1.next kb2
          have hG2 := hG1.next kb2

          refine hK.out _ _ (hS2) (fun _ => ?_)
          clear hK K
          (try simp only [Act.put]); (try simp only [List.setIfInBounds_toArray]); (repeat (first | simp only [List.set_cons_succ] | simp only [List.set_cons_zero]))
          refine wpTo_take (i := 5) (v := ?v5z18) (show _ = some _ by simp only [List.getElem?_toArray, List.getElem?_cons_succ, List.getElem?_cons_zero]; exact rfl) (by kernel_rfl) (by kernel_rfl) (by kernel_rfl) (by kernel_rfl) (by exact fun _ _ _ h => h) (Or.inl ⟨by rfl, ?hy5z18⟩) hS2 ?r5z18
          case hy5z18 => (intro w hSw; (try dsimp only at hSw); go_simp; try with_reducible rfl)
          (try simp only [Act.put]); (try simp only [List.setIfInBounds_toArray]); (repeat (first | simp only [List.set_cons_succ] | simp only [List.set_cons_zero]))
          refine wpTo_take (i := 6) (v := ?v6z19) (show _ = some _ by simp only [List.getElem?_toArray, List.getElem?_cons_succ, List.getElem?_cons_zero]; exact rfl) (by kernel_rfl) (by kernel_rfl) (by kernel_rfl) (by kernel_rfl) (by exact fun _ _ _ h => h) (Or.inl ⟨by rfl, ?hy6z19⟩) hS2 ?r6z19
          case hy6z19 => (intro w hSw; (try dsimp only at hSw); go_simp; try with_reducible rfl)
          (try simp only [Act.put]); (try simp only [List.setIfInBounds_toArray]); (repeat (first | simp only [List.set_cons_succ] | simp only [List.set_cons_zero]))
          refine wpTo_take (i := 7) (v := ?v7z20) (show _ = some _ by simp only [List.getElem?_toArray, List.getElem?_cons_succ, List.getElem?_cons_zero]; exact rfl) (by kernel_rfl) (by kernel_rfl) (by kernel_rfl) (by kernel_rfl) (by exact fun _ _ _ h => h) (Or.inl ⟨by rfl, ?hy7z20⟩) hS2 ?r7z20
          case hy7z20 => (intro w hSw; (try dsimp only at hSw); go_simp; try with_reducible rfl)
          (try simp only [Act.put]); (try simp only [List.setIfInBounds_toArray]); (repeat (first | simp only [List.set_cons_succ] | simp only [List.set_cons_zero]))
          refine wpTo_take (i := 8) (v := ?v8z21) (show _ = some _ by simp only [List.getElem?_toArray, List.getElem?_cons_succ, List.getElem?_cons_zero]; exact rfl) (by kernel_rfl) (by kernel_rfl) (by kernel_rfl) (by kernel_rfl) (by exact fun _ _ _ h => h) (Or.inl ⟨by rfl, ?hy8z21⟩) hS2 ?r8z21
          case hy8z21 => (intro w hSw; (try dsimp only at hSw); go_simp; try with_reducible rfl)
          (try simp only [Act.put]); (try simp only [List.setIfInBounds_toArray]); (repeat (first | simp only [List.set_cons_succ] | simp only [List.set_cons_zero]))
          refine wpTo_one (i := 10) (by kernel_rfl) (show _ = some _ by simp only [List.getElem?_toArray, List.getElem?_cons_succ, List.getElem?_cons_zero]; exact rfl) (fun K hK => ?_)
          rw [if_pos (by rfl)]
          refine put_ly _ _ rfl G 0 0 L1 H1 hG2 rfl rfl ?_
          intro hGp
          have hSp := HP.setRow hS2 G (ly L1 H1).toArray hGb hbq hbl hb2
          refine hK.out _ _ (hSp) (fun _ => ?_)
          clear hK K
          (try simp only [Act.put]); (try simp only [List.setIfInBounds_toArray]); (repeat (first | simp only [List.set_cons_succ] | simp only [List.set_cons_zero]))
          refine wpTo_take (i := 11) (v := ?v11z22) (show _ = some _ by simp only [List.getElem?_toArray, List.getElem?_cons_succ, List.getElem?_cons_zero]; exact rfl) (by kernel_rfl) (by kernel_rfl) (by kernel_rfl) (by kernel_rfl) (by exact fun _ _ _ h => h) (Or.inl ⟨by rfl, ?hy11z22⟩) hSp ?r11z22
          case hy11z22 => (intro w hSw; (try dsimp only at hSw); go_simp; try with_reducible rfl)
          (try simp only [Act.put]); (try simp only [List.setIfInBounds_toArray]); (repeat (first | simp only [List.set_cons_succ] | simp only [List.set_cons_zero]))
          refine wpTo_take (i := 12) (v := ?v12z23) (show _ = some _ by simp only [List.getElem?_toArray, List.getElem?_cons_succ, List.getElem?_cons_zero]; exact rfl) (by kernel_rfl) (by kernel_rfl) (by kernel_rfl) (by kernel_rfl) (by exact fun _ _ _ h => h) (Or.inl ⟨by rfl, ?hy12z23⟩) hSp ?r12z23
          case hy12z23 => (intro w hSw; (try dsimp only at hSw); go_simp; try with_reducible rfl)
          (try simp only [Act.put]); (try simp only [List.setIfInBounds_toArray]); (repeat (first | simp only [List.set_cons_succ] | simp only [List.set_cons_zero]))
          refine wpTo_done (by kernel_rfl) ?_
          go_wp2_with fail
          go_meet
          exact ⟨G, rfl, rfl, rfl, hGp, hSp, hGb⟩


      case rest =>
        obtain ⟨G, rfl, rfl, rfl, hG, hA, hbG⟩ := hcut
        have c3 := hA.h.b.cell 3 _ rfl
        have hH3 := hA.h
        by_cases hu : b = true ∧ g < A
        · obtain ⟨hb1, hgA⟩ := hu
          have hgI : (g : Int) < (A : Int) := by omega
          have hS2 := HSU.out
          rw [if_pos ⟨hb1, hgA⟩] at hS2
          have HS2 : Hid (hol d (k + 1) = (L1, H1, A)) := hS2
          subst hb1
          clear hS2 HSU
          have hB := hH3.b
          go_wp2_with (first
            | (refine wpList_load_mid rfl 102 _ rfl G 0 rfl (ly L1 H1) _ hG.whole Tryz.underlying102 rfl (by kernel_rfl) ?_)
            | (refine wpList_plain rfl fun K hK => put_lyq _ _ rfl q r L H g L1 H1 hB rfl rfl (fun hB2 => hK _ _ ?_)
               have f3 := hB2.fz 3
               have d3 := hB2.cell 3 _ rfl))
          have hfr : Fr (fun k => k = q) wc ((wc.setCells q 1 (ly L1 H1)).setCell ⟨q, 3, none⟩ (.int .u64 (A : Int))) := (Fr.setCells q 1 (ly L1 H1) (Fr.refl (fun k => k = q) wc) (.inl rfl)).setCell ⟨q, 3, none⟩ _ (.inl rfl)
          have hB3 := hB2.set 3 (.int .u64 (A : Int))
          refine ⟨⟨k + 1, by omega, by go_num, ?_⟩, by simp only [intOf]; omega⟩
          rw [HS2.out]
          exact ⟨hB3, hH3.k.fr hfr (fun k e hk => by have := hbl k hk; omega), hH3.t.fr hfr (fun k e => by omega), hH3.below.trans (hfr.below (fun k e => by omega) (Nat.le_of_lt hH3.b.lt))⟩
        · have hS2 := HSU.out
          rw [if_neg hu] at hS2
          have HS2 : Hid (hol d (k + 1) = (L, H, g)) := hS2
          clear hS2 HSU
          cases b
          · clear hu
            go_wp2_with fail
            refine ⟨⟨k + 1, by omega, by go_num, ?_⟩, by simp only [intOf]; omega⟩
            rw [HS2.out]
            exact hH3
          · have hgI : ¬ (g : Int) < (A : Int) := fun h => hu ⟨rfl, by omega⟩
            clear hu
            go_wp2_with fail
            refine ⟨⟨k + 1, by omega, by go_num, ?_⟩, by simp only [intOf]; omega⟩
            rw [HS2.out]
            exact hH3
    · have hkI : ¬ (k : Int) < 2 := by omega
      have ek : k = 2 := by omega
      rw [ek] at hH
      clear ek
      have hok := hol_ok d 2
      obtain ⟨Y, hY⟩ : ∃ Y, Y = hol d 2 := ⟨_, rfl⟩
      rw [← hY] at hH hok hg
      obtain ⟨L, H, g⟩ := Y
      have HY : Hid (hol d 2 = (L, H, g)) := hY.symm
      clear hY
      dsimp only at hH hok hg
      have c3 := hH.b.cell 3 _ rfl
      by_cases hg0 : g = 0
      · subst hg0
        go_wp2_with fail
        go_ret2
        rw [HY.out]
        exact ⟨hH.below, .inl ⟨rfl, rfl⟩⟩
      · obtain ⟨o1, o2, o3, o4⟩ := hok hg0
        have hgI : ¬ (g : Int) = 0 := by omega
        have hem := empty_raw wr q r L H g hH.b o1 o2 o3 (by omega) hg
        go_wp2_with (go_at_call 73; refine hem.mono ?_; rintro e w1 ⟨rfl, mm, hmm, hLL, hfr⟩)
        go_ret2
        rw [HY.out]
        have hqs := hH.b.lt
        refine ⟨?_, .inr ⟨hg0, rfl, mm, by omega, hLL, hH.k.fr hfr (fun k e hk => by have := hbl k hk; omega), by dsimp only; omega, hH.t.fr hfr (fun k e => by omega), ?_, hfp, ?_⟩⟩
        · exact hH.below.trans (hfr.below (fun k e => by omega) (Nat.le_of_lt hqs))
        · rintro k (rfl | rfl) hk <;> have := hbl _ hk <;> omega
        · rintro k (rfl | rfl) <;> omega
end Go.Proofs.YtndfhmlcfaaaiaaGreatDoor
