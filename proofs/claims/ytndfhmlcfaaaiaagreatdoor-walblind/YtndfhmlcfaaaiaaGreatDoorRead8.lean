/- A page read. -/
import Derived.Test.YtndfhmlcfaaaiaaGreatDoorLog
namespace Go.Proofs.YtndfhmlcfaaaiaaGreatDoor
open Go.RowKit

/-- A log on its disk. -/
structure DL (w : World) (q r mm f m cap : Nat) (x : Lg) (d : St) : Prop where
  l : LL w q r mm x
  k : Lay w r f m cap d
  n : d.n = 2 + x.L + x.H
  t : Tabs w
  apart : ∀ k, lp q mm k → ¬ fp r f m k
  fp2 : ∀ k, fp r f m k → 2 ≤ k
  lp2 : ∀ k, lp q mm k → 2 ≤ k
theorem DL.next {w w' : World} {q r mm f m cap : Nat} {x : Lg} {d : St} (h : DL w q r mm f m cap x d) (hb : Below w.heap.size w w') : DL w' q r mm f m cap x d :=
  ⟨h.l.next hb, h.k.next hb, h.n, h.t.next hb, h.apart, h.fp2, h.lp2⟩
/-- What lies there while a home is read: the answer's room in block bd. -/
structure AS (w v : World) (bd q r mm f m cap : Nat) (x : Lg) (d : St) : Prop where
  dl : DL v q r mm f m cap x d
  b : Blk v bd 66 (pb zp)
  below : Below bd w v
section
variable {w v v' : World} {bd q r mm f m cap : Nat} {x : Lg} {d : St}
theorem AS.next (h : AS w v bd q r mm f m cap x d) (hb : Below v.heap.size v v') : AS w v' bd q r mm f m cap x d := ⟨h.dl.next hb, h.b.next hb, h.below.trans (hb.mono (Nat.le_of_lt h.b.lt))⟩
theorem AS.lt (h : AS w v bd q r mm f m cap x d) : bd < v.heap.size := h.b.lt
theorem AS.alloc (h : AS w v bd q r mm f m cap x d) (o : Obj) : AS w (v.alloc o) bd q r mm f m cap x d := h.next ((Below.refl _ v).alloc (Nat.le_refl _) o)
theorem AS.drew (h : AS w v bd q r mm f m cap x d) : AS w v.drew bd q r mm f m cap x d := h.next (below_drw v)
theorem AS.setRow (h : AS w v bd q r mm f m cap x d) (g : Nat) (cs : Array Value) (hg : bd < g) (hl : ∀ k, lp q mm k → k < bd) (hf : ∀ k, fp r f m k → k < bd) (h2 : 2 ≤ bd) : AS w (v.setRow g cs) bd q r mm f m cap x d := by
  have hfr : Fr (fun k => k = g) v (v.setRow g cs) := (Fr.refl _ v).setRow g cs (.inl rfl)
  refine ⟨⟨h.dl.l.fr hfr (fun k e hk => by have := hl k hk; omega), h.dl.k.fr hfr (fun k e hk => by have := hf k hk; omega), h.dl.n, h.dl.t.fr hfr (fun k e => by omega), h.dl.apart, h.dl.fp2, h.dl.lp2⟩, h.b.fr hfr (by omega), h.below.trans (hfr.below (fun k e => by omega) (Nat.le_of_lt h.b.lt))⟩
end
/-- A whole sector is stored. -/
theorem put_sc {w : World} {o : Oper} {a : Act} {K : Act → World → Prop} {Q : Exit → Act → World → Prop} (x y : Operand) (ho : o.op = .store 26 x y) (g : Nat) (s0 s : Sec) (hA : Blk w g 26 (sb s0)) (hx : a.eval x = .pointer (some ⟨g, 0, none⟩)) (hy : a.eval y = .agg (sb s).toArray)
    (h : Blk (w.setRow g (sb s).toArray) g 26 (sb s) → K (a.put o.dst undef) (w.setRow g (sb s).toArray)) : o.wp Tryz.prog a w K Q := by
  have hrun := run_storeVar_row (P := Tryz.prog) w g 26 26 (sb s0).toArray (sb s).toArray hA (by rw [List.size_toArray, sb_length]; kernel_rfl) (by simp [sb_length]) (sb_one s)
  unfold Oper.wp execOp
  simp only [ho, hx, hy, Instr.storeAt, Instr.sureAddr, Sem.run_bind, Sem.run_pure, Result.andThen_ok, hrun]
  exact h (setRow_heap w g _ _ 26 _ hA)
/-- What the home of page p tells. -/
def hmOf (s : Sec) (p : Nat) : Pg × Int := if s = hmF (gin s) p (pin s) then (pin s, 0) else (zp, 81)
def hmR (d : St) (x : Lg) (p : Nat) : Pg × Int := hmOf (d.at (2 + x.L + p)) p

structure AX (w v : World) (bd q r mm f m cap : Nat) (x : Lg) (d : St) (G X : Nat) (sc : Sec) (pg : Pg) : Prop where
  a : AS w v bd q r mm f m cap x d
  g : Blk v G 26 (sb sc)
  x : Blk v X 66 (pb pg)
theorem AX.next {w v v' : World} {bd q r mm f m cap : Nat} {x : Lg} {d : St} {G X : Nat} {sc : Sec} {pg : Pg} (h : AX w v bd q r mm f m cap x d G X sc pg) (hb : Below v.heap.size v v') : AX w v' bd q r mm f m cap x d G X sc pg := ⟨h.a.next hb, h.g.next hb, h.x.next hb⟩
theorem AX.drew {w v : World} {bd q r mm f m cap : Nat} {x : Lg} {d : St} {G X : Nat} {sc : Sec} {pg : Pg} (h : AX w v bd q r mm f m cap x d G X sc pg) : AX w v.drew bd q r mm f m cap x d G X sc pg := h.next (below_drw v)

set_option maxRecDepth 100000 in
set_option maxHeartbeats 8000000 in
theorem atHome_any (w : World) (q r mm f m cap : Nat) (x : Lg) (d : St) (h : DL w q r mm f m cap x d) (p : Nat) (hp : p < x.H) (hoff : d.off = false) :
    Calls Tryz.prog 46 #[.pointer (some ⟨q, 0, none⟩), .int .i64 (p : Int)] w fun e w' => e = .returned (.tuple #[.agg (pb (hmR d x p).1).toArray, .int .i64 (hmR d x p).2]) ∧ Below w.heap.size w w' := by
  have hz := zero39
  have hz1 := zero31
  have hL4 := h.l.L4
  have hH2 := h.l.H2
  have hh := fun W => home_any x.L x.H p hL4 (by omega) W
  obtain ⟨R, hR⟩ : ∃ R, R = hmR d x p := ⟨_, rfl⟩
  rw [← hR]
  have HR : Hid (R = hmR d x p) := hR
  clear hR
  obtain ⟨hm, hhm⟩ : ∃ hm, hm = 2 + x.L + p := ⟨_, rfl⟩
  rw [← hhm] at hh
  have hrd : ∀ W, Lay W r f m cap d → Calls Tryz.prog 74 #[.pointer (some ⟨r, 0, none⟩), .int .i64 (hm : Int)] W fun e w' => e = .returned (.tuple #[.agg (sb (d.at hm)).toArray, .int .i64 0]) ∧ Below W.heap.size W w' := fun W hW => read_good W r f m cap d hW hm hoff (by rw [h.n]; omega)
  have HM : Hid (hm = 2 + x.L + p) := hhm
  clear hhm
  obtain ⟨sc, hsc⟩ : ∃ sc, sc = d.at hm := ⟨_, rfl⟩
  rw [← hsc] at hrd
  have HS : Hid (sc = d.at hm) := hsc
  clear hsc
  have hf2 := Lay.fp2 h.k
  have hl2 := h.l.lt
  obtain ⟨bd, hbd⟩ : ∃ bd, bd = w.heap.size := ⟨_, rfl⟩
  have hlb : ∀ k, lp q mm k → k < bd := by rw [hbd]; exact hl2
  have hfb : ∀ k, fp r f m k → k < bd := by rw [hbd]; exact hf2
  have hb2 : 2 ≤ bd := by rw [hbd]; exact h.t.two
  have hF : AS w (w.alloc (.cells (pb zp).toArray 66)) bd q r mm f m cap x d := by
    have kk := (Below.refl w.heap.size w).alloc (Nat.le_refl _) (.cells (pb zp).toArray 66)
    have hn := Blk.new w 66 (pb zp)
    rw [← hbd] at hn
    exact ⟨h.next kk, hn, by rw [hbd]; exact kk⟩
  go_enter Tryz.func46, Tryz.ntmps46
  go_upto_region 1 with fail
  rw [← hbd]
  obtain ⟨vs, hvs⟩ : ∃ v, v = w.alloc (.cells (pb zp).toArray 66) := ⟨_, rfl⟩
  rw [← hvs] at hF ⊢
  clear hvs
  have HB : Hid (bd = w.heap.size) := hbd
  clear hbd hf2 hl2
  go_cut [6, 7] from 6 to 22 (fun y e wc => ∃ G, y = .pointer (some ⟨G, 0, none⟩) ∧ e = .int .i64 0 ∧ Blk wc G 26 (sb sc) ∧ AS w wc bd q r mm f m cap x d ∧ bd < G)
  case first =>
    refine wp_region_to (fun v => AS w v bd q r mm f m cap x d) 17 (by kernel_rfl) ?_
    have hS0 := hF.drew
    obtain ⟨v0, hv0⟩ : ∃ u, u = vs.drew := ⟨_, rfl⟩
    rw [← hv0] at hS0 ⊢
    clear hF hv0
    refine wpTo_take (i := 0) (v := ?v0z1) (show _ = some _ by simp only [List.getElem?_toArray, List.getElem?_cons_zero]; exact rfl) (by kernel_rfl) (by kernel_rfl) (by kernel_rfl) (by kernel_rfl) (by exact fun _ _ _ h => h) (Or.inl ⟨by rfl, ?hy0z1⟩) hS0 ?r0z1
    case hy0z1 => (intro w hSw; (try dsimp only at hSw); go_simp; try with_reducible rfl)
    (try simp only [Act.put]); (try simp only [List.setIfInBounds_toArray]); (repeat (first | simp only [List.set_cons_succ] | simp only [List.set_cons_zero]))
    refine wpTo_take (i := 1) (v := ?v1z2) (show _ = some _ by simp only [List.getElem?_toArray, List.getElem?_cons_succ, List.getElem?_cons_zero]; exact rfl) (by kernel_rfl) (by kernel_rfl) (by kernel_rfl) (by kernel_rfl) (by exact fun _ _ _ h => h) (Or.inl ⟨by rfl, ?hy1z2⟩) hS0 ?r1z2
    case hy1z2 => (intro w hSw; (try dsimp only at hSw); go_simp; try with_reducible rfl)
    (try simp only [Act.put]); (try simp only [List.setIfInBounds_toArray]); (repeat (first | simp only [List.set_cons_succ] | simp only [List.set_cons_zero]))
    refine wpTo_take (i := 2) (v := ?v2z3) (show _ = some _ by simp only [List.getElem?_toArray, List.getElem?_cons_succ, List.getElem?_cons_zero]; exact rfl) (by kernel_rfl) (by kernel_rfl) (by kernel_rfl) (by kernel_rfl) (by exact fun _ _ _ h => h) (Or.inl ⟨by rfl, ?hy2z3⟩) hS0 ?r2z3
    case hy2z3 => (intro w hSw; (try dsimp only at hSw); go_simp; try with_reducible rfl)
    (try simp only [Act.put]); (try simp only [List.setIfInBounds_toArray]); (repeat (first | simp only [List.set_cons_succ] | simp only [List.set_cons_zero]))
    refine wpTo_take (i := 3) (v := ?v3z4) (show _ = some _ by simp only [List.getElem?_toArray, List.getElem?_cons_succ, List.getElem?_cons_zero]; exact rfl) (by kernel_rfl) (by kernel_rfl) (by kernel_rfl) (by kernel_rfl) (by exact fun _ _ _ h => h) (Or.inl ⟨by rfl, ?hy3z4⟩) hS0 ?r3z4
    case hy3z4 => (intro w hSw; (try dsimp only at hSw); have hc0 := LL.c0 (DL.l (AS.dl hSw)); go_simp; try with_reducible rfl)
    (try simp only [Act.put]); (try simp only [List.setIfInBounds_toArray]); (repeat (first | simp only [List.set_cons_succ] | simp only [List.set_cons_zero]))
    refine wpTo_take (i := 4) (v := ?v4z5) (show _ = some _ by simp only [List.getElem?_toArray, List.getElem?_cons_succ, List.getElem?_cons_zero]; exact rfl) (by kernel_rfl) (by kernel_rfl) (by kernel_rfl) (by kernel_rfl) (by exact fun _ _ _ h => h) (Or.inl ⟨by rfl, ?hy4z5⟩) hS0 ?r4z5
    case hy4z5 => (intro w hSw; (try dsimp only at hSw); go_simp; try with_reducible rfl)
    (try simp only [Act.put]); (try simp only [List.setIfInBounds_toArray]); (repeat (first | simp only [List.set_cons_succ] | simp only [List.set_cons_zero]))
    refine wpTo_take (i := 5) (v := ?v5z6) (show _ = some _ by simp only [List.getElem?_toArray, List.getElem?_cons_succ, List.getElem?_cons_zero]; exact rfl) (by kernel_rfl) (by kernel_rfl) (by kernel_rfl) (by kernel_rfl) (by exact fun _ _ _ h => h) (Or.inl ⟨by rfl, ?hy5z6⟩) hS0 ?r5z6
    case hy5z6 => (intro w hSw; (try dsimp only at hSw); go_simp; try with_reducible rfl)
    (try simp only [Act.put]); (try simp only [List.setIfInBounds_toArray]); (repeat (first | simp only [List.set_cons_succ] | simp only [List.set_cons_zero]))
    refine wpTo_take (i := 6) (v := ?v6z7) (show _ = some _ by simp only [List.getElem?_toArray, List.getElem?_cons_succ, List.getElem?_cons_zero]; exact rfl) (by kernel_rfl) (by kernel_rfl) (by kernel_rfl) (by kernel_rfl) (by exact fun _ _ _ h => h) (Or.inl ⟨by rfl, ?hy6z7⟩) hS0 ?r6z7
    case hy6z7 => (intro w hSw; (try dsimp only at hSw); go_simp; try with_reducible rfl)
    (try simp only [Act.put]); (try simp only [List.setIfInBounds_toArray]); (repeat (first | simp only [List.set_cons_succ] | simp only [List.set_cons_zero]))
    refine wpTo_take (i := 7) (show _ = some _ by simp only [List.getElem?_toArray, List.getElem?_cons_succ, List.getElem?_cons_zero]; exact rfl) (by kernel_rfl) (by kernel_rfl) (by kernel_rfl) (by kernel_rfl) (by exact fun _ _ _ h => h) (yieldsIf_load_mid (by rfl) 102 (.tmp 16) rfl q 1 rfl (ly x.L x.H) _ (fun v h => LL.ly (DL.l (AS.dl h))) Tryz.underlying102 rfl (by kernel_rfl)) hS0 ?_
    (try simp only [Act.put]); (try simp only [List.setIfInBounds_toArray]); (repeat (first | simp only [List.set_cons_succ] | simp only [List.set_cons_zero]))
    refine wpTo_take (i := 8) (v := ?v8z8) (show _ = some _ by simp only [List.getElem?_toArray, List.getElem?_cons_succ, List.getElem?_cons_zero]; exact rfl) (by kernel_rfl) (by kernel_rfl) (by kernel_rfl) (by kernel_rfl) (by exact fun _ _ _ h => h) (Or.inl ⟨by rfl, ?hy8z8⟩) hS0 ?r8z8
    case hy8z8 => (intro w hSw; (try dsimp only at hSw); go_simp; try with_reducible rfl)
    (try simp only [Act.put]); (try simp only [List.setIfInBounds_toArray]); (repeat (first | simp only [List.set_cons_succ] | simp only [List.set_cons_zero]))
    refine wpTo_two (i := 9) (j := 14) (by kernel_rfl) (show _ = some _ by simp only [List.getElem?_toArray, List.getElem?_cons_succ, List.getElem?_cons_zero]; exact rfl) (show _ = some _ by simp only [List.getElem?_toArray, List.getElem?_cons_succ, List.getElem?_cons_zero]; exact rfl) (fun K hK => ?_) (fun K hK => ?_)
    · go_simp
      go_at_call 75; refine (hh _).mono ?_; rintro e v1 ⟨rfl, kb1⟩
      (try simp only [])
      have hS1 := hS0.next kb1
      refine hK.out _ _ (hS1) (fun _ => ?_)
      clear hK K
      (try simp only [Act.put]); (try simp only [List.setIfInBounds_toArray]); (repeat (first | simp only [List.set_cons_succ] | simp only [List.set_cons_zero]))
      refine wpTo_two (i := 10) (j := 14) (by kernel_rfl) (show _ = some _ by simp only [List.getElem?_toArray, List.getElem?_cons_succ, List.getElem?_cons_zero]; exact rfl) (show _ = some _ by simp only [List.getElem?_toArray, List.getElem?_cons_succ, List.getElem?_cons_zero]; exact rfl) (fun K hK => ?_) (fun K hK => ?_)
      · go_simp
        go_at_call 74; refine (hrd _ hS1.dl.k).mono ?_; rintro e v2 ⟨rfl, kb2⟩
        (try simp only [])
        have hS2 := hS1.next kb2
        refine hK.out _ _ (hS2) (fun _ => ?_)
        clear hK K
        (try simp only [Act.put]); (try simp only [List.setIfInBounds_toArray]); (repeat (first | simp only [List.set_cons_succ] | simp only [List.set_cons_zero]))
        refine wpTo_take (i := 11) (v := ?v11z9) (show _ = some _ by simp only [List.getElem?_toArray, List.getElem?_cons_succ, List.getElem?_cons_zero]; exact rfl) (by kernel_rfl) (by kernel_rfl) (by kernel_rfl) (by kernel_rfl) (by exact fun _ _ _ h => h) (Or.inl ⟨by rfl, ?hy11z9⟩) hS2 ?r11z9
        case hy11z9 => (intro w hSw; (try dsimp only at hSw); go_simp; try with_reducible rfl)
        (try simp only [Act.put]); (try simp only [List.setIfInBounds_toArray]); (repeat (first | simp only [List.set_cons_succ] | simp only [List.set_cons_zero]))
        refine wpTo_take (i := 12) (v := ?v12z10) (show _ = some _ by simp only [List.getElem?_toArray, List.getElem?_cons_succ, List.getElem?_cons_zero]; exact rfl) (by kernel_rfl) (by kernel_rfl) (by kernel_rfl) (by kernel_rfl) (by exact fun _ _ _ h => h) (Or.inl ⟨by rfl, ?hy12z10⟩) hS2 ?r12z10
        case hy12z10 => (intro w hSw; (try dsimp only at hSw); go_simp; try with_reducible rfl)
        (try simp only [Act.put]); (try simp only [List.setIfInBounds_toArray]); (repeat (first | simp only [List.set_cons_succ] | simp only [List.set_cons_zero]))
        refine wpTo_take (i := 13) (v := ?v13z11) (show _ = some _ by simp only [List.getElem?_toArray, List.getElem?_cons_succ, List.getElem?_cons_zero]; exact rfl) (by kernel_rfl) (by kernel_rfl) (by kernel_rfl) (by kernel_rfl) (by exact fun _ _ _ h => h) (Or.inl ⟨by rfl, ?hy13z11⟩) hS2 ?r13z11
        case hy13z11 => (intro w hSw; (try dsimp only at hSw); go_simp; try with_reducible rfl)
        (try simp only [Act.put]); (try simp only [List.setIfInBounds_toArray]); (repeat (first | simp only [List.set_cons_succ] | simp only [List.set_cons_zero]))
        refine wpTo_one (i := 14) (by kernel_rfl) (show _ = some _ by simp only [List.getElem?_toArray, List.getElem?_cons_succ, List.getElem?_cons_zero]; exact rfl) (fun K hK => ?_)
        go_simp
        obtain ⟨va, hva⟩ : ∃ va, va = v2 := ⟨_, rfl⟩
        obtain ⟨G, hGe⟩ : ∃ G, G = v2.heap.size := ⟨_, rfl⟩
        have hGb : bd < G := by have := hS2.lt; omega
        have hGa := Blk.new v2 26 (sb zs)
        rw [← hGe] at hGa ⊢
        clear hGe hva
        have hSa := hS2.alloc (.cells ((sb zs)).toArray 26)

        refine hK.out _ _ (hSa) (fun _ => ?_)
        clear hK K
        (try simp only [Act.put]); (try simp only [List.setIfInBounds_toArray]); (repeat (first | simp only [List.set_cons_succ] | simp only [List.set_cons_zero]))
        refine wpTo_one (i := 15) (by kernel_rfl) (show _ = some _ by simp only [List.getElem?_toArray, List.getElem?_cons_succ, List.getElem?_cons_zero]; exact rfl) (fun K hK => ?_)
        rw [if_pos (by rfl)]
        refine put_sc _ _ rfl G zs sc hGa rfl rfl ?_
        intro hGp
        have hSp := AS.setRow hSa G (sb sc).toArray hGb hlb hfb hb2
        refine hK.out _ _ (hSp) (fun _ => ?_)
        clear hK K
        (try simp only [Act.put]); (try simp only [List.setIfInBounds_toArray]); (repeat (first | simp only [List.set_cons_succ] | simp only [List.set_cons_zero]))
        refine wpTo_take (i := 16) (v := ?v16z13) (show _ = some _ by simp only [List.getElem?_toArray, List.getElem?_cons_succ, List.getElem?_cons_zero]; exact rfl) (by kernel_rfl) (by kernel_rfl) (by kernel_rfl) (by kernel_rfl) (by exact fun _ _ _ h => h) (Or.inl ⟨by rfl, ?hy16z13⟩) hSp ?r16z13
        case hy16z13 => (intro w hSw; (try dsimp only at hSw); go_simp; try with_reducible rfl)
        (try simp only [Act.put]); (try simp only [List.setIfInBounds_toArray]); (repeat (first | simp only [List.set_cons_succ] | simp only [List.set_cons_zero]))
        refine wpTo_done (by kernel_rfl) ?_
        go_wp2_with fail
        go_meet
        exact ⟨G, rfl, rfl, hGp, hSp, hGb⟩

      · go_simp
        obtain ⟨va, hva⟩ : ∃ va, va = v1 := ⟨_, rfl⟩
        obtain ⟨G, hGe⟩ : ∃ G, G = v1.heap.size := ⟨_, rfl⟩
        have hGb : bd < G := by have := hS1.lt; omega
        have hGa := Blk.new v1 26 (sb zs)
        rw [← hGe] at hGa ⊢
        clear hGe hva
        have hSa := hS1.alloc (.cells ((sb zs)).toArray 26)
        refine hK.out _ _ (hSa) (fun _ => ?_)
        clear hK K
        (try simp only [Act.put]); (try simp only [List.setIfInBounds_toArray]); (repeat (first | simp only [List.set_cons_succ] | simp only [List.set_cons_zero]))
        refine wpTo_one (i := 10) (by kernel_rfl) (show _ = some _ by simp only [List.getElem?_toArray, List.getElem?_cons_succ, List.getElem?_cons_zero]; exact rfl) (fun K hK => ?_)
        go_simp
        go_at_call 74; refine (hrd _ hSa.dl.k).mono ?_; rintro e v2 ⟨rfl, kb2⟩
        (try simp only [])
        have hS2 := hSa.next kb2
        have hG2 := hGa.next kb2

        refine hK.out _ _ (hS2) (fun _ => ?_)
        clear hK K
        (try simp only [Act.put]); (try simp only [List.setIfInBounds_toArray]); (repeat (first | simp only [List.set_cons_succ] | simp only [List.set_cons_zero]))
        refine wpTo_take (i := 11) (v := ?v11z15) (show _ = some _ by simp only [List.getElem?_toArray, List.getElem?_cons_succ, List.getElem?_cons_zero]; exact rfl) (by kernel_rfl) (by kernel_rfl) (by kernel_rfl) (by kernel_rfl) (by exact fun _ _ _ h => h) (Or.inl ⟨by rfl, ?hy11z15⟩) hS2 ?r11z15
        case hy11z15 => (intro w hSw; (try dsimp only at hSw); go_simp; try with_reducible rfl)
        (try simp only [Act.put]); (try simp only [List.setIfInBounds_toArray]); (repeat (first | simp only [List.set_cons_succ] | simp only [List.set_cons_zero]))
        refine wpTo_take (i := 12) (v := ?v12z16) (show _ = some _ by simp only [List.getElem?_toArray, List.getElem?_cons_succ, List.getElem?_cons_zero]; exact rfl) (by kernel_rfl) (by kernel_rfl) (by kernel_rfl) (by kernel_rfl) (by exact fun _ _ _ h => h) (Or.inl ⟨by rfl, ?hy12z16⟩) hS2 ?r12z16
        case hy12z16 => (intro w hSw; (try dsimp only at hSw); go_simp; try with_reducible rfl)
        (try simp only [Act.put]); (try simp only [List.setIfInBounds_toArray]); (repeat (first | simp only [List.set_cons_succ] | simp only [List.set_cons_zero]))
        refine wpTo_take (i := 13) (v := ?v13z17) (show _ = some _ by simp only [List.getElem?_toArray, List.getElem?_cons_succ, List.getElem?_cons_zero]; exact rfl) (by kernel_rfl) (by kernel_rfl) (by kernel_rfl) (by kernel_rfl) (by exact fun _ _ _ h => h) (Or.inl ⟨by rfl, ?hy13z17⟩) hS2 ?r13z17
        case hy13z17 => (intro w hSw; (try dsimp only at hSw); go_simp; try with_reducible rfl)
        (try simp only [Act.put]); (try simp only [List.setIfInBounds_toArray]); (repeat (first | simp only [List.set_cons_succ] | simp only [List.set_cons_zero]))
        refine wpTo_one (i := 15) (by kernel_rfl) (show _ = some _ by simp only [List.getElem?_toArray, List.getElem?_cons_succ, List.getElem?_cons_zero]; exact rfl) (fun K hK => ?_)
        rw [if_pos (by rfl)]
        refine put_sc _ _ rfl G zs sc hG2 rfl rfl ?_
        intro hGp
        have hSp := AS.setRow hS2 G (sb sc).toArray hGb hlb hfb hb2
        refine hK.out _ _ (hSp) (fun _ => ?_)
        clear hK K
        (try simp only [Act.put]); (try simp only [List.setIfInBounds_toArray]); (repeat (first | simp only [List.set_cons_succ] | simp only [List.set_cons_zero]))
        refine wpTo_take (i := 16) (v := ?v16z18) (show _ = some _ by simp only [List.getElem?_toArray, List.getElem?_cons_succ, List.getElem?_cons_zero]; exact rfl) (by kernel_rfl) (by kernel_rfl) (by kernel_rfl) (by kernel_rfl) (by exact fun _ _ _ h => h) (Or.inl ⟨by rfl, ?hy16z18⟩) hSp ?r16z18
        case hy16z18 => (intro w hSw; (try dsimp only at hSw); go_simp; try with_reducible rfl)
        (try simp only [Act.put]); (try simp only [List.setIfInBounds_toArray]); (repeat (first | simp only [List.set_cons_succ] | simp only [List.set_cons_zero]))
        refine wpTo_done (by kernel_rfl) ?_
        go_wp2_with fail
        go_meet
        exact ⟨G, rfl, rfl, hGp, hSp, hGb⟩


    · go_simp
      obtain ⟨va, hva⟩ : ∃ va, va = v0 := ⟨_, rfl⟩
      obtain ⟨G, hGe⟩ : ∃ G, G = v0.heap.size := ⟨_, rfl⟩
      have hGb : bd < G := by have := hS0.lt; omega
      have hGa := Blk.new v0 26 (sb zs)
      rw [← hGe] at hGa ⊢
      clear hGe hva
      have hSa := hS0.alloc (.cells ((sb zs)).toArray 26)
      refine hK.out _ _ (hSa) (fun _ => ?_)
      clear hK K
      (try simp only [Act.put]); (try simp only [List.setIfInBounds_toArray]); (repeat (first | simp only [List.set_cons_succ] | simp only [List.set_cons_zero]))
      refine wpTo_one (i := 9) (by kernel_rfl) (show _ = some _ by simp only [List.getElem?_toArray, List.getElem?_cons_succ, List.getElem?_cons_zero]; exact rfl) (fun K hK => ?_)
      go_simp
      go_at_call 75; refine (hh _).mono ?_; rintro e v1 ⟨rfl, kb1⟩
      (try simp only [])
      have hS1 := hSa.next kb1
      have hG1 := hGa.next kb1

      refine hK.out _ _ (hS1) (fun _ => ?_)
      clear hK K
      (try simp only [Act.put]); (try simp only [List.setIfInBounds_toArray]); (repeat (first | simp only [List.set_cons_succ] | simp only [List.set_cons_zero]))
      refine wpTo_one (i := 10) (by kernel_rfl) (show _ = some _ by simp only [List.getElem?_toArray, List.getElem?_cons_succ, List.getElem?_cons_zero]; exact rfl) (fun K hK => ?_)
      go_simp
      go_at_call 74; refine (hrd _ hS1.dl.k).mono ?_; rintro e v2 ⟨rfl, kb2⟩
      (try simp only [])
      have hS2 := hS1.next kb2
      have hG2 := hG1.next kb2

      refine hK.out _ _ (hS2) (fun _ => ?_)
      clear hK K
      (try simp only [Act.put]); (try simp only [List.setIfInBounds_toArray]); (repeat (first | simp only [List.set_cons_succ] | simp only [List.set_cons_zero]))
      refine wpTo_take (i := 11) (v := ?v11z20) (show _ = some _ by simp only [List.getElem?_toArray, List.getElem?_cons_succ, List.getElem?_cons_zero]; exact rfl) (by kernel_rfl) (by kernel_rfl) (by kernel_rfl) (by kernel_rfl) (by exact fun _ _ _ h => h) (Or.inl ⟨by rfl, ?hy11z20⟩) hS2 ?r11z20
      case hy11z20 => (intro w hSw; (try dsimp only at hSw); go_simp; try with_reducible rfl)
      (try simp only [Act.put]); (try simp only [List.setIfInBounds_toArray]); (repeat (first | simp only [List.set_cons_succ] | simp only [List.set_cons_zero]))
      refine wpTo_take (i := 12) (v := ?v12z21) (show _ = some _ by simp only [List.getElem?_toArray, List.getElem?_cons_succ, List.getElem?_cons_zero]; exact rfl) (by kernel_rfl) (by kernel_rfl) (by kernel_rfl) (by kernel_rfl) (by exact fun _ _ _ h => h) (Or.inl ⟨by rfl, ?hy12z21⟩) hS2 ?r12z21
      case hy12z21 => (intro w hSw; (try dsimp only at hSw); go_simp; try with_reducible rfl)
      (try simp only [Act.put]); (try simp only [List.setIfInBounds_toArray]); (repeat (first | simp only [List.set_cons_succ] | simp only [List.set_cons_zero]))
      refine wpTo_take (i := 13) (v := ?v13z22) (show _ = some _ by simp only [List.getElem?_toArray, List.getElem?_cons_succ, List.getElem?_cons_zero]; exact rfl) (by kernel_rfl) (by kernel_rfl) (by kernel_rfl) (by kernel_rfl) (by exact fun _ _ _ h => h) (Or.inl ⟨by rfl, ?hy13z22⟩) hS2 ?r13z22
      case hy13z22 => (intro w hSw; (try dsimp only at hSw); go_simp; try with_reducible rfl)
      (try simp only [Act.put]); (try simp only [List.setIfInBounds_toArray]); (repeat (first | simp only [List.set_cons_succ] | simp only [List.set_cons_zero]))
      refine wpTo_one (i := 15) (by kernel_rfl) (show _ = some _ by simp only [List.getElem?_toArray, List.getElem?_cons_succ, List.getElem?_cons_zero]; exact rfl) (fun K hK => ?_)
      rw [if_pos (by rfl)]
      refine put_sc _ _ rfl G zs sc hG2 rfl rfl ?_
      intro hGp
      have hSp := AS.setRow hS2 G (sb sc).toArray hGb hlb hfb hb2
      refine hK.out _ _ (hSp) (fun _ => ?_)
      clear hK K
      (try simp only [Act.put]); (try simp only [List.setIfInBounds_toArray]); (repeat (first | simp only [List.set_cons_succ] | simp only [List.set_cons_zero]))
      refine wpTo_take (i := 16) (v := ?v16z23) (show _ = some _ by simp only [List.getElem?_toArray, List.getElem?_cons_succ, List.getElem?_cons_zero]; exact rfl) (by kernel_rfl) (by kernel_rfl) (by kernel_rfl) (by kernel_rfl) (by exact fun _ _ _ h => h) (Or.inl ⟨by rfl, ?hy16z23⟩) hSp ?r16z23
      case hy16z23 => (intro w hSw; (try dsimp only at hSw); go_simp; try with_reducible rfl)
      (try simp only [Act.put]); (try simp only [List.setIfInBounds_toArray]); (repeat (first | simp only [List.set_cons_succ] | simp only [List.set_cons_zero]))
      refine wpTo_done (by kernel_rfl) ?_
      go_wp2_with fail
      go_meet
      exact ⟨G, rfl, rfl, hGp, hSp, hGb⟩


  case rest =>
    obtain ⟨G, rfl, rfl, hG, hA, hbG⟩ := hcut
    go_upto_region 5 with (first
      | (refine load_sec rfl _ rfl G sc hG rfl ?_)
      | (go_at_call 76; refine (pageIn_any sc _).mono ?_; rintro e w1 ⟨rfl, kb⟩; have hN := Blk.new w1 66 (pb zp))
      | (refine store_pg rfl _ _ rfl w1.heap.size zp (pin sc) hN rfl rfl ?_; intro hX))
    obtain ⟨pg, hpg⟩ : ∃ pg, pg = pin sc := ⟨_, rfl⟩
    obtain ⟨gn, hgn⟩ : ∃ gn, gn = gin sc := ⟨_, rfl⟩
    have hgl := gin_lt sc
    have hgA := fun W => genIn_any sc W
    have HPG : Hid (pg = pin sc) := hpg
    have HGN : Hid (gn = gin sc) := hgn
    rw [← hpg] at hX ⊢
    rw [← hgn] at hgl hgA
    clear hpg hgn
    have hhf := fun W (hW : Tabs W) => homeFrame_any gn p pg W hW hgl (by omega)
    obtain ⟨fr, hfr⟩ : ∃ fr, fr = hmF gn p pg := ⟨_, rfl⟩
    have HFR : Hid (fr = hmF gn p pg) := hfr
    rw [← hfr] at hhf
    clear hfr
    have hA1 := (hA.next kb).alloc (.cells (pb zp).toArray 66)
    have hGlt := hG.lt
    have hw1 : bd < w1.heap.size := (hA.next kb).lt
    have hA2 := hA1.setRow w1.heap.size (pb pg).toArray hw1 hlb hfb hb2
    have hG2 : Blk ((w1.alloc (.cells (pb zp).toArray 66)).setRow w1.heap.size (pb pg).toArray) G 26 (sb sc) := ((hG.next kb).alloc _).fr (X := fun k => k = w1.heap.size) ((Fr.refl _ _).setRow _ _ (.inl rfl)) (by have := kb.size; omega)
    obtain ⟨X, hXe⟩ : ∃ X, X = w1.heap.size := ⟨_, rfl⟩
    obtain ⟨v5, hv5⟩ : ∃ v, v = ((w1.alloc (.cells (pb zp).toArray 66)).setRow w1.heap.size (pb pg).toArray) := ⟨_, rfl⟩
    rw [← hv5] at hX hA2 hG2 ⊢
    rw [← hXe] at hX ⊢
    clear hXe hv5 hA1 hN
    have hS5 : AX w v5 bd q r mm f m cap x d G X sc pg := ⟨hA2, hG2, hX⟩
    have hg39 := guard39
    have hq := fun W => eq39 sc fr W
    by_cases he : sc = fr
    · have hde : decide (sc = fr) = true := decide_eq_true he
      have hres : R = (pg, 0) := by
        have h1 := HS.out
        have h2 := HM.out
        have h3 := HPG.out
        have h4 := HGN.out
        have h5 := HFR.out
        rw [HR.out]
        unfold hmR hmOf
        rw [← h2, ← h1, ← h3, ← h4, ← h5]
        exact if_pos he
      clear he
      refine wp_region_s (fun v => AX w v bd q r mm f m cap x d G X sc pg) 7 (by kernel_rfl) hS5.drew ?_
      refine wpS_take (i := 0) (show _ = some _ by simp only [List.getElem?_toArray, List.getElem?_cons_zero]; exact rfl) (by kernel_rfl) (by kernel_rfl) (by kernel_rfl) (by kernel_rfl) (by exact fun _ _ _ h => h) (Tells.of_yields (yieldsIf_load_mid (by rfl) 26 (.tmp 6) rfl G 0 rfl (sb sc) _ (fun v h => (AX.g h).whole) Tryz.underlying26 rfl (by rw [sb_length]; kernel_rfl))) ?_
      (try simp only [Act.put]); (try simp only [List.setIfInBounds_toArray]); (repeat (first | simp only [List.set_cons_succ] | simp only [List.set_cons_zero]))
      refine wpS_take (i := 1) (show _ = some _ by simp only [List.getElem?_toArray, List.getElem?_cons_succ, List.getElem?_cons_zero]; exact rfl) (by kernel_rfl) (by kernel_rfl) (by kernel_rfl) (by kernel_rfl) (by exact fun _ _ _ h => h) (Tells.of_yields (yieldsIf_load_mid (by rfl) 26 (.tmp 6) rfl G 0 rfl (sb sc) _ (fun v h => (AX.g h).whole) Tryz.underlying26 rfl (by rw [sb_length]; kernel_rfl))) ?_
      (try simp only [Act.put]); (try simp only [List.setIfInBounds_toArray]); (repeat (first | simp only [List.set_cons_succ] | simp only [List.set_cons_zero]))
      refine wpS_take (i := 2) (v := (.int .u64 (gn : Int))) (show _ = some _ by simp only [List.getElem?_toArray, List.getElem?_cons_succ, List.getElem?_cons_zero]; exact rfl) (by kernel_rfl) (by kernel_rfl) (by kernel_rfl) (by kernel_rfl) (by exact fun _ _ _ h => h) (Tells.of_wp (by rfl) (t := 33) rfl (by kernel_rfl) ?hc2y) ?r2y
      case hc2y =>
        intro u hSu
        (try dsimp only at hSu)
        go_simp
        go_at_call 78; refine (hgA _).mono ?_; rintro e u2 ⟨rfl, kc⟩
        exact ⟨rfl, hSu.next kc⟩
      (try simp only [Act.put]); (try simp only [List.setIfInBounds_toArray]); (repeat (first | simp only [List.set_cons_succ] | simp only [List.set_cons_zero]))
      refine wpS_take (i := 3) (v := ?v3y) (show _ = some _ by simp only [List.getElem?_toArray, List.getElem?_cons_succ, List.getElem?_cons_zero]; exact rfl) (by kernel_rfl) (by kernel_rfl) (by kernel_rfl) (by kernel_rfl) (by exact fun _ _ _ h => h) (Tells.of_yields (Or.inl ⟨by rfl, ?hy3y⟩)) ?r3y
      case hy3y => (intro w hSw; (try dsimp only at hSw); go_simp; try with_reducible rfl)
      (try simp only [Act.put]); (try simp only [List.setIfInBounds_toArray]); (repeat (first | simp only [List.set_cons_succ] | simp only [List.set_cons_zero]))
      refine wpS_take (i := 4) (show _ = some _ by simp only [List.getElem?_toArray, List.getElem?_cons_succ, List.getElem?_cons_zero]; exact rfl) (by kernel_rfl) (by kernel_rfl) (by kernel_rfl) (by kernel_rfl) (by exact fun _ _ _ h => h) (Tells.of_yields (yieldsIf_load_mid (by rfl) 66 (.tmp 8) rfl X 0 rfl (pb pg) _ (fun v h => (AX.x h).whole) Tryz.underlying66 rfl (by rw [pb_length]; kernel_rfl))) ?_
      (try simp only [Act.put]); (try simp only [List.setIfInBounds_toArray]); (repeat (first | simp only [List.set_cons_succ] | simp only [List.set_cons_zero]))
      refine wpS_take (i := 5) (v := (.agg (sb fr).toArray)) (show _ = some _ by simp only [List.getElem?_toArray, List.getElem?_cons_succ, List.getElem?_cons_zero]; exact rfl) (by kernel_rfl) (by kernel_rfl) (by kernel_rfl) (by kernel_rfl) (by exact fun _ _ _ h => h) (Tells.of_wp (by rfl) (t := 36) rfl (by kernel_rfl) ?hc5y) ?r5y
      case hc5y =>
        intro u hSu
        (try dsimp only at hSu)
        go_simp
        go_at_call 77; refine (hhf _ hSu.a.dl.t).mono ?_; rintro e u2 ⟨rfl, kc⟩
        exact ⟨rfl, hSu.next kc⟩
      (try simp only [Act.put]); (try simp only [List.setIfInBounds_toArray]); (repeat (first | simp only [List.set_cons_succ] | simp only [List.set_cons_zero]))
      refine wpS_take (i := 6) (v := ?v6y) (show _ = some _ by simp only [List.getElem?_toArray, List.getElem?_cons_succ, List.getElem?_cons_zero]; exact rfl) (by kernel_rfl) (by kernel_rfl) (by kernel_rfl) (by kernel_rfl) (by exact fun _ _ _ h => h) (Tells.of_yields (Or.inl ⟨by rfl, ?hy6y⟩)) ?r6y
      case hy6y => (intro w hSw; (try dsimp only at hSw); go_simp; try with_reducible rfl)
      (try simp only [Act.put]); (try simp only [List.setIfInBounds_toArray]); (repeat (first | simp only [List.set_cons_succ] | simp only [List.set_cons_zero]))
      refine wpS_done (by kernel_rfl) ?_
      intro u hSu

      have hb1 := hSu.a.b
      have hx1 := hSu.x
      go_wp2_with (first
        | (refine load_pg rfl _ rfl X pg hx1 rfl ?_)
        | (refine store_pg rfl _ _ rfl bd zp pg hb1 rfl rfl ?_; intro hA3))
      refine bodyPost_ret (ret31e rfl _ _ bd pg rfl hA3) rfl ⟨by rw [hres]; rfl, ?_⟩
      have hbl := hSu.a.below
      have hbz := HB.out
      rw [hbz] at hbl ⊢
      exact hbl.trans (Fr.below (X := fun k => k = w.heap.size) ((Fr.refl _ _).setRow _ _ (.inl rfl)) (fun k e => by omega) hbl.size)
    · have hde : decide (sc = fr) = false := decide_eq_false he
      have hres : R = (zp, 81) := by
        have h1 := HS.out
        have h2 := HM.out
        have h3 := HPG.out
        have h4 := HGN.out
        have h5 := HFR.out
        rw [HR.out]
        unfold hmR hmOf
        rw [← h2, ← h1, ← h3, ← h4, ← h5]
        exact if_neg he
      clear he
      refine wp_region_s (fun v => AX w v bd q r mm f m cap x d G X sc pg) 7 (by kernel_rfl) hS5.drew ?_
      refine wpS_take (i := 0) (show _ = some _ by simp only [List.getElem?_toArray, List.getElem?_cons_zero]; exact rfl) (by kernel_rfl) (by kernel_rfl) (by kernel_rfl) (by kernel_rfl) (by exact fun _ _ _ h => h) (Tells.of_yields (yieldsIf_load_mid (by rfl) 26 (.tmp 6) rfl G 0 rfl (sb sc) _ (fun v h => (AX.g h).whole) Tryz.underlying26 rfl (by rw [sb_length]; kernel_rfl))) ?_
      (try simp only [Act.put]); (try simp only [List.setIfInBounds_toArray]); (repeat (first | simp only [List.set_cons_succ] | simp only [List.set_cons_zero]))
      refine wpS_take (i := 1) (show _ = some _ by simp only [List.getElem?_toArray, List.getElem?_cons_succ, List.getElem?_cons_zero]; exact rfl) (by kernel_rfl) (by kernel_rfl) (by kernel_rfl) (by kernel_rfl) (by exact fun _ _ _ h => h) (Tells.of_yields (yieldsIf_load_mid (by rfl) 26 (.tmp 6) rfl G 0 rfl (sb sc) _ (fun v h => (AX.g h).whole) Tryz.underlying26 rfl (by rw [sb_length]; kernel_rfl))) ?_
      (try simp only [Act.put]); (try simp only [List.setIfInBounds_toArray]); (repeat (first | simp only [List.set_cons_succ] | simp only [List.set_cons_zero]))
      refine wpS_take (i := 2) (v := (.int .u64 (gn : Int))) (show _ = some _ by simp only [List.getElem?_toArray, List.getElem?_cons_succ, List.getElem?_cons_zero]; exact rfl) (by kernel_rfl) (by kernel_rfl) (by kernel_rfl) (by kernel_rfl) (by exact fun _ _ _ h => h) (Tells.of_wp (by rfl) (t := 33) rfl (by kernel_rfl) ?hc2n) ?r2n
      case hc2n =>
        intro u hSu
        (try dsimp only at hSu)
        go_simp
        go_at_call 78; refine (hgA _).mono ?_; rintro e u2 ⟨rfl, kc⟩
        exact ⟨rfl, hSu.next kc⟩
      (try simp only [Act.put]); (try simp only [List.setIfInBounds_toArray]); (repeat (first | simp only [List.set_cons_succ] | simp only [List.set_cons_zero]))
      refine wpS_take (i := 3) (v := ?v3n) (show _ = some _ by simp only [List.getElem?_toArray, List.getElem?_cons_succ, List.getElem?_cons_zero]; exact rfl) (by kernel_rfl) (by kernel_rfl) (by kernel_rfl) (by kernel_rfl) (by exact fun _ _ _ h => h) (Tells.of_yields (Or.inl ⟨by rfl, ?hy3n⟩)) ?r3n
      case hy3n => (intro w hSw; (try dsimp only at hSw); go_simp; try with_reducible rfl)
      (try simp only [Act.put]); (try simp only [List.setIfInBounds_toArray]); (repeat (first | simp only [List.set_cons_succ] | simp only [List.set_cons_zero]))
      refine wpS_take (i := 4) (show _ = some _ by simp only [List.getElem?_toArray, List.getElem?_cons_succ, List.getElem?_cons_zero]; exact rfl) (by kernel_rfl) (by kernel_rfl) (by kernel_rfl) (by kernel_rfl) (by exact fun _ _ _ h => h) (Tells.of_yields (yieldsIf_load_mid (by rfl) 66 (.tmp 8) rfl X 0 rfl (pb pg) _ (fun v h => (AX.x h).whole) Tryz.underlying66 rfl (by rw [pb_length]; kernel_rfl))) ?_
      (try simp only [Act.put]); (try simp only [List.setIfInBounds_toArray]); (repeat (first | simp only [List.set_cons_succ] | simp only [List.set_cons_zero]))
      refine wpS_take (i := 5) (v := (.agg (sb fr).toArray)) (show _ = some _ by simp only [List.getElem?_toArray, List.getElem?_cons_succ, List.getElem?_cons_zero]; exact rfl) (by kernel_rfl) (by kernel_rfl) (by kernel_rfl) (by kernel_rfl) (by exact fun _ _ _ h => h) (Tells.of_wp (by rfl) (t := 36) rfl (by kernel_rfl) ?hc5n) ?r5n
      case hc5n =>
        intro u hSu
        (try dsimp only at hSu)
        go_simp
        go_at_call 77; refine (hhf _ hSu.a.dl.t).mono ?_; rintro e u2 ⟨rfl, kc⟩
        exact ⟨rfl, hSu.next kc⟩
      (try simp only [Act.put]); (try simp only [List.setIfInBounds_toArray]); (repeat (first | simp only [List.set_cons_succ] | simp only [List.set_cons_zero]))
      refine wpS_take (i := 6) (v := ?v6n) (show _ = some _ by simp only [List.getElem?_toArray, List.getElem?_cons_succ, List.getElem?_cons_zero]; exact rfl) (by kernel_rfl) (by kernel_rfl) (by kernel_rfl) (by kernel_rfl) (by exact fun _ _ _ h => h) (Tells.of_yields (Or.inl ⟨by rfl, ?hy6n⟩)) ?r6n
      case hy6n => (intro w hSw; (try dsimp only at hSw); go_simp; try with_reducible rfl)
      (try simp only [Act.put]); (try simp only [List.setIfInBounds_toArray]); (repeat (first | simp only [List.set_cons_succ] | simp only [List.set_cons_zero]))
      refine wpS_done (by kernel_rfl) ?_
      intro u hSu

      have hb1 := hSu.a.b
      go_wp2_with (first
        | (refine build_pg rfl rfl ?_)
        | (refine store_pg rfl _ _ rfl bd zp zp hb1 rfl rfl ?_; intro hA3))
      refine bodyPost_ret (ret31e rfl _ _ bd zp rfl hA3) rfl ⟨by rw [hres]; rfl, ?_⟩
      have hbl := hSu.a.below
      have hbz := HB.out
      rw [hbz] at hbl ⊢
      exact hbl.trans (Fr.below (X := fun k => k = w.heap.size) ((Fr.refl _ _).setRow _ _ (.inl rfl)) (fun k e => by omega) hbl.size)

/-- What a live log tells of page p. -/
def rdR (d : St) (x : Lg) (p : Int) : Pg × Int := if p < 0 ∨ (x.H : Int) ≤ p then (zp, 2) else match ov x.ws p.toNat with
  | some y => (y, 0)
  | none => hmR d x p.toNat
theorem read8_nil (w : World) (p : Int) : Calls Tryz.prog 15 #[.pointer none, .int .i64 p] w fun e w' => e = .returned (.tuple #[.agg (pb zp).toArray, .int .i64 1]) ∧ Below w.heap.size w w' := by
  have hz1 := zero31
  have hA := Blk.new w 66 (pb zp)
  go_enter Tryz.func15, Tryz.ntmps15
  go_wp2_with (first
    | (refine build_pg rfl rfl ?_)
    | (refine store_pg rfl _ _ rfl w.heap.size zp zp hA rfl rfl ?_; intro hA1))
  refine bodyPost_ret (ret31e rfl _ _ w.heap.size zp rfl hA1) rfl ⟨rfl, ?_⟩
  exact Fr.below (X := fun k => k = w.heap.size) (((Fr.refl _ w).alloc _).setRow _ _ (.inl rfl)) (fun k e => by omega) (Nat.le_refl _)
set_option maxRecDepth 100000 in
set_option maxHeartbeats 4000000 in
theorem read8_any (w : World) (q r mm f m cap : Nat) (x : Lg) (d : St) (h : DL w q r mm f m cap x d) (p : Int) (hp : p < 9223372036854775808) (hoff : d.off = false) (hdead : x.dead = false) :
    Calls Tryz.prog 15 #[.pointer (some ⟨q, 0, none⟩), .int .i64 p] w fun e w' => e = .returned (.tuple #[.agg (pb (rdR d x p).1).toArray, .int .i64 (rdR d x p).2]) ∧ Below w.heap.size w w' := by
  have hz1 := zero31
  have kk := (Below.refl w.heap.size w).alloc (Nat.le_refl _) (.cells (pb zp).toArray 66)
  have hA := Blk.new w 66 (pb zp)
  have hD := h.next kk
  have c7 := hD.l.c7
  rw [hdead] at c7
  have hly := hD.l.ly
  obtain ⟨R, hR⟩ : ∃ R, R = rdR d x p := ⟨_, rfl⟩
  rw [← hR]
  have HR : Hid (R = rdR d x p) := hR
  clear hR
  have hhas := has_any x.L x.H p (w.alloc (.cells (pb zp).toArray 66))
  by_cases hin : p < 0 ∨ (x.H : Int) ≤ p
  · rw [decide_eq_false (by omega)] at hhas
    have hres : R = (zp, 2) := by rw [HR.out]; exact if_pos hin
    clear hin
    go_enter Tryz.func15, Tryz.ntmps15
    go_wp2_with (first
      | (refine wpList_load_mid rfl 102 _ rfl q 1 rfl (ly x.L x.H) _ hly Tryz.underlying102 rfl (by kernel_rfl) ?_)
      | (go_at_call 45; refine hhas.mono ?_; rintro e w1 ⟨rfl, kb⟩; have hA1 := hA.next kb)
      | (refine build_pg rfl rfl ?_)
      | (refine store_pg rfl _ _ rfl w.heap.size zp zp hA1 rfl rfl ?_; intro hA2))
    refine bodyPost_ret (ret31e rfl _ _ w.heap.size zp rfl hA2) rfl ⟨by rw [hres]; rfl, ?_⟩
    exact (kk.trans (kb.mono (by simp))).trans (Fr.below (X := fun k => k = w.heap.size) ((Fr.refl _ _).setRow _ _ (.inl rfl)) (fun k e => by omega) (Nat.le_trans kk.size kb.size))
  · have h0 : 0 ≤ p := by omega
    obtain ⟨k, rfl⟩ := Int.eq_ofNat_of_zero_le h0
    have hkH : k < x.H := by omega
    rw [decide_eq_true (by omega)] at hhas
    have hH2 := h.l.H2
    have hwf := wf64 k (by omega) (by omega)
    have hRR : R = match ov x.ws k with | some y => (y, 0) | none => hmR d x k := by rw [HR.out]; unfold rdR; rw [if_neg hin]; rfl
    have c4 : ∀ v, Below (w.alloc (.cells (pb zp).toArray 66)).heap.size (w.alloc (.cells (pb zp).toArray 66)) v → v.cell? ⟨q, 4, none⟩ = some (.map (some mm)) := fun v hb => (hD.next hb).l.c4
    cases hw : ov x.ws k with
    | some y =>
      rw [hw] at hRR
      have hwq : wq (ov x.ws) (.int .i64 (k : Int)) = some y := (wq_ky (ov x.ws) k).trans hw
      clear hin
      go_enter Tryz.func15, Tryz.ntmps15
      go_wp2_with (first
        | (refine wpList_load_mid rfl 102 _ rfl q 1 rfl (ly x.L x.H) _ hly Tryz.underlying102 rfl (by kernel_rfl) ?_)
        | (go_at_call 45; refine hhas.mono ?_; rintro e w1 ⟨rfl, kb⟩; have hA1 := hA.next kb; have hD1 := hD.next kb; have cc := hD1.l.c4; have hN := Blk.new w1 66 (pb zp); obtain ⟨D, hDm, hM⟩ := hD1.l.map)
        | (at_lookup; refine look_pg rfl _ _ rfl mm _ D (ov x.ws) hDm hM rfl k rfl hwf y (by rw [hwq]; rfl) true (by rw [hwq]; rfl) ?_)
        | (refine store_pg rfl _ _ rfl w1.heap.size zp y hN rfl rfl ?_; intro hY
           have hA2 : Blk ((w1.alloc (.cells (pb zp).toArray 66)).setRow w1.heap.size (pb y).toArray) w.heap.size 66 (pb zp) := (hA1.alloc _).fr (X := fun k => k = w1.heap.size) ((Fr.refl _ _).setRow _ _ (.inl rfl)) (by have := hA1.lt; omega))
        | (refine load_pg rfl _ rfl w1.heap.size y hY rfl ?_)
        | (refine store_pg rfl _ _ rfl w.heap.size zp y hA2 rfl rfl ?_; intro hA3))
      refine bodyPost_ret (ret31e rfl _ _ w.heap.size y rfl hA3) rfl ⟨by rw [hRR]; rfl, ?_⟩
      have hs := Nat.le_trans kk.size kb.size
      exact (kk.trans (kb.mono (by simp))).trans (Fr.below (X := fun k => w.heap.size ≤ k) ((((Fr.refl _ w1).alloc _).setRow _ _ (.inl hs)).setRow _ _ (.inl (Nat.le_refl _))) (fun k e => e) hs)
    | none =>
      rw [hw] at hRR
      have hwq : wq (ov x.ws) (.int .i64 (k : Int)) = none := (wq_ky (ov x.ws) k).trans hw
      have hah := fun W (hW : DL W q r mm f m cap x d) => atHome_any W q r mm f m cap x d hW k hkH hoff
      have hRR2 : R = hmR d x k := hRR
      rw [← hRR2] at hah
      clear hin hRR hRR2
      go_enter Tryz.func15, Tryz.ntmps15
      go_wp2_with (first
        | (refine wpList_load_mid rfl 102 _ rfl q 1 rfl (ly x.L x.H) _ hly Tryz.underlying102 rfl (by kernel_rfl) ?_)
        | (go_at_call 45; refine hhas.mono ?_; rintro e w1 ⟨rfl, kb⟩; have hA1 := hA.next kb; have hD1 := hD.next kb; have cc := hD1.l.c4; have hN := Blk.new w1 66 (pb zp); obtain ⟨D, hDm, hM⟩ := hD1.l.map)
        | (at_lookup; refine look_pg rfl _ _ rfl mm _ D (ov x.ws) hDm hM rfl k rfl hwf zp (by rw [hwq]; rfl) false (by rw [hwq]; rfl) ?_)
        | (refine store_pg rfl _ _ rfl w1.heap.size zp zp hN rfl rfl ?_; intro hY
           have kb2 : Below w1.heap.size w1 ((w1.alloc (.cells (pb zp).toArray 66)).setRow w1.heap.size (pb zp).toArray) := Fr.below (X := fun k => k = w1.heap.size) (((Fr.refl _ w1).alloc _).setRow _ _ (.inl rfl)) (fun k e => by omega) (Nat.le_refl _)
           have hA2 := hA1.next kb2
           have hD2 := hD1.next kb2)
        | (go_at_call 46; refine (hah _ hD2).mono ?_; rintro e w3 ⟨rfl, kb3⟩; have hA4 := hA2.next kb3)
        | (refine store_pg rfl _ _ rfl w.heap.size zp R.1 hA4 rfl rfl ?_; intro hA3))
      refine bodyPost_ret (ret31e rfl _ _ w.heap.size R.1 rfl hA3) rfl ⟨rfl, ?_⟩
      have hs := Nat.le_trans kk.size kb.size
      have hb5 := ((kk.trans (kb.mono (by simp))).trans (kb2.mono hs)).trans (kb3.mono (Nat.le_trans hs kb2.size))
      exact hb5.trans (Fr.below (X := fun k => k = w.heap.size) ((Fr.refl _ _).setRow _ _ (.inl rfl)) (fun k e => by omega) hb5.size)
end Go.Proofs.YtndfhmlcfaaaiaaGreatDoor
