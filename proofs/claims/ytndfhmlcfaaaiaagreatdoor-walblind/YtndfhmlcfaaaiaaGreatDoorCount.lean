/- Whether a head counts. -/
import Derived.Test.YtndfhmlcfaaaiaaGreatDoorSmall
import Derived.Deep.CutBlock
import Derived.Deep.CutRange
namespace Go.Proofs.YtndfhmlcfaaaiaaGreatDoor
open Go.RowKit

/-- How many sectors of log a head says that there are. -/
def Lw (s : Sec) : Nat := nub ((pin s).l.take 4)
theorem Lw_lt (s : Sec) : Lw s < 4294967296 := by
  have := nub_lt ((pin s).l.take 4)
  rw [List.length_take, (pin s).h] at this
  exact this
def hdOK (s : Sec) (i n : Nat) : Prop := 3 ≤ Lw s ∧ Lw s ≤ 4000 ∧ 2 + Lw s < n ∧ gin s ≠ 0 ∧ gin s % 2 = i ∧ s = hdF (Lw s) (n - 2 - Lw s) (gin s)
instance (s : Sec) (i n : Nat) : Decidable (hdOK s i n) := by unfold hdOK; exact inferInstance
def cR (s : Sec) (i n : Nat) : Value := if hdOK s i n then .tuple #[.agg (ly (Lw s) ((n - 2 - Lw s : Nat) : Int)).toArray, .int .u64 (gin s : Int), .bool true] else .tuple #[.agg (ly 0 0).toArray, .int .u64 0, .bool false]
theorem cR_no {s : Sec} {i n : Nat} (h : ¬ hdOK s i n) : cR s i n = .tuple #[.agg (ly 0 0).toArray, .int .u64 0, .bool false] := if_neg h
theorem cR_yes {s : Sec} {i n : Nat} (h : hdOK s i n) : cR s i n = .tuple #[.agg (ly (Lw s) ((n - 2 - Lw s : Nat) : Int)).toArray, .int .u64 (gin s : Int), .bool true] := if_pos h
theorem ret79b {fn : Func} {p u u2 : Tmp} (h : fn.results = #[.cell p 102, .tmp u, .tmp u2]) (tmps : Array Value) (w : World) (g : Nat) (L H : Int) (h2 : tmps.getD p undef = .pointer (some ⟨g, 0, none⟩)) (hB : Blk w g 102 (ly L H)) :
    (results fn tmps).run Tryz.prog w = .ok (.tuple #[.agg (ly L H).toArray, tmps.getD u undef, tmps.getD u2 undef]) w := by
  have hp' : tmps[p]?.getD undef = .pointer (some ⟨g, 0, none⟩) := by simpa using h2
  simp [results, h, hp', asAddr, run_loadVar_row w g 102 102 (ly L H).toArray (0, 0) _ hB Tryz.underlying102 rfl (by kernel_rfl)]

/-- What lies there while a head is looked at. -/
structure CS (w v : World) (b : Nat) (s : Sec) : Prop where
  s : Blk v b 26 (sb s)
  r : Blk v (b + 1) 102 (ly 0 0)
  below : Below b w v
  tabs : Tabs v
section
variable {w v v' : World} {b : Nat} {s : Sec}
theorem CS.next (h : CS w v b s) (hb : Below v.heap.size v v') : CS w v' b s := ⟨h.s.next hb, h.r.next hb, h.below.trans (hb.mono (Nat.le_of_lt h.s.lt)), h.tabs.next hb⟩
theorem CS.drew (h : CS w v b s) : CS w v.drew b s := h.next ⟨rfl, rfl, rfl, Nat.le_refl _, fun _ _ => rfl⟩
theorem CS.alloc (h : CS w v b s) (o : Obj) : CS w (v.alloc o) b s := h.next ((Below.refl _ v).alloc (Nat.le_refl _) o)
theorem CS.setRow (h : CS w v b s) (g : Nat) (cs : Array Value) (hg : b + 1 < g) (h2 : 2 ≤ b) : CS w (v.setRow g cs) b s := by
  have hf : Fr (fun k => k = g) v (v.setRow g cs) := (Fr.refl _ v).setRow g cs (.inl rfl)
  exact ⟨h.s.fr hf (by omega), h.r.fr hf (by omega), h.below.trans (hf.below (fun k e => by omega) (Nat.le_of_lt h.s.lt)), h.tabs.fr hf (fun k e => by omega)⟩
end
/-- A whole page is stored. -/
theorem put_pg {w : World} {o : Oper} {a : Act} {K : Act → World → Prop} {Q : Exit → Act → World → Prop} (x y : Operand) (ho : o.op = .store 66 x y) (g : Nat) (s0 s : Pg) (hA : Blk w g 66 (pb s0)) (hx : a.eval x = .pointer (some ⟨g, 0, none⟩)) (hy : a.eval y = .agg (pb s).toArray)
    (h : Blk (w.setRow g (pb s).toArray) g 66 (pb s) → K (a.put o.dst undef) (w.setRow g (pb s).toArray)) : o.wp Tryz.prog a w K Q := by
  have hrun := run_storeVar_row (P := Tryz.prog) w g 66 66 (pb s0).toArray (pb s).toArray hA (by rw [List.size_toArray, pb_length]; kernel_rfl) (by simp [bys_length, s0.h, s.h]) (bys_one _)
  unfold Oper.wp execOp
  simp only [ho, hx, hy, Instr.storeAt, Instr.sureAddr, Sem.run_bind, Sem.run_pure, Result.andThen_ok, hrun]
  exact h (setRow_heap w g _ _ 66 _ hA)

structure CT (w v : World) (b : Nat) (s : Sec) (M : Nat) (L H : Int) : Prop where
  c : CS w v b s
  m : Blk v M 102 (ly L H)
theorem CT.next {w v v' : World} {b : Nat} {s : Sec} {M : Nat} {L H : Int} (h : CT w v b s M L H) (hb : Below v.heap.size v v') : CT w v' b s M L H := ⟨h.c.next hb, h.m.next hb⟩
theorem CT.drew {w v : World} {b : Nat} {s : Sec} {M : Nat} {L H : Int} (h : CT w v b s M L H) : CT w v.drew b s M L H := ⟨h.c.drew, h.m.drew⟩

theorem CS.off {w v v' : World} {b r : Nat} {s : Sec} (h : CS w v b s) (hf : Fr (fun k => k = r) v v') (hr : b + 1 < r) (h2 : 2 ≤ b) : CS w v' b s :=
  ⟨h.s.fr hf (by omega), h.r.fr hf (by omega), h.below.trans (hf.below (fun k e => by omega) (Nat.le_of_lt h.s.lt)), h.tabs.fr hf (fun k e => by omega)⟩

set_option maxRecDepth 100000 in
set_option maxHeartbeats 8000000 in
theorem counting_any (s : Sec) (i n : Nat) (hn : n ≤ 16384) (hi : i < 2) (w : World) (hW : Tabs w) :
    Calls Tryz.prog 79 #[.agg (sb s).toArray, .int .i64 (i : Int), .int .i64 (n : Int)] w fun e w' => e = .returned (cR s i n) ∧ Below w.heap.size w w' := by
  have hz := zero79
  have hz1 := zero31
  obtain ⟨R, hR⟩ : ∃ R, R = cR s i n := ⟨_, rfl⟩
  rw [← hR]
  have HR : Hid (R = cR s i n) := hR
  clear hR
  obtain ⟨b, hb⟩ : ∃ b, b = w.heap.size := ⟨_, rfl⟩
  have hF : CS w ((w.alloc (.cells (sb s).toArray 26)).alloc (.cells (ly 0 0).toArray 102)) b s := by
    have h1 := Blk.new w 26 (sb s)
    have h2 := Blk.new (w.alloc (.cells (sb s).toArray 26)) 102 (ly 0 0)
    simp only [World.size_alloc, ← hb] at h1 h2
    refine ⟨h1.alloc _, h2, ?_, (hW.alloc _).alloc _⟩
    rw [hb]
    exact ((Below.refl _ w).alloc (Nat.le_refl _) _).alloc (by simp) _
  have hb2 : 2 ≤ b := by rw [hb]; exact hW.two
  go_enter Tryz.func79, Tryz.ntmps79
  go_upto_region 1 with fail
  rw [← hb]
  obtain ⟨v0, hv0⟩ : ∃ v, v = ((w.alloc (.cells (sb s).toArray 26)).alloc (.cells (ly 0 0).toArray 102)) := ⟨_, rfl⟩
  rw [← hv0] at hF ⊢
  clear hv0
  have HB : Hid (b = w.heap.size) := hb
  clear hb
  go_cut [9, 10] from 9 to 16 (fun x g wc => ∃ G, x = .pointer (some ⟨G, 0, none⟩) ∧ g = .int .u64 (gin s : Int) ∧ Blk wc G 66 (pb (pin s)) ∧ CS w wc b s ∧ b + 1 < G)
  case first =>
    refine wp_region_to (fun v => CS w v b s) 7 (by kernel_rfl) ?_
    have hS0 := hF.drew
    obtain ⟨w0, hw0⟩ : ∃ u, u = v0.drew := ⟨_, rfl⟩
    rw [← hw0] at hS0 ⊢
    clear hF hw0
    refine wpTo_take (i := 0) (show _ = some _ by simp only [List.getElem?_toArray, List.getElem?_cons_zero]; exact rfl) (by kernel_rfl) (by kernel_rfl) (by kernel_rfl) (by kernel_rfl) (by exact fun _ _ _ h => h) (yieldsIf_load_mid (by rfl) 26 (.tmp 3) rfl b 0 rfl (sb s) _ (fun v h => (CS.s h).whole) Tryz.underlying26 rfl (by rw [sb_length]; kernel_rfl)) hS0 ?_
    (try simp only [Act.put]); (try simp only [List.setIfInBounds_toArray]); (repeat (first | simp only [List.set_cons_succ] | simp only [List.set_cons_zero]))
    refine wpTo_take (i := 2) (show _ = some _ by simp only [List.getElem?_toArray, List.getElem?_cons_succ, List.getElem?_cons_zero]; exact rfl) (by kernel_rfl) (by kernel_rfl) (by kernel_rfl) (by kernel_rfl) (by exact fun _ _ _ h => h) (yieldsIf_load_mid (by rfl) 26 (.tmp 3) rfl b 0 rfl (sb s) _ (fun v h => (CS.s h).whole) Tryz.underlying26 rfl (by rw [sb_length]; kernel_rfl)) hS0 ?_
    (try simp only [Act.put]); (try simp only [List.setIfInBounds_toArray]); (repeat (first | simp only [List.set_cons_succ] | simp only [List.set_cons_zero]))
    refine wpTo_two (i := 1) (j := 4) (by kernel_rfl) (show _ = some _ by simp only [List.getElem?_toArray, List.getElem?_cons_succ, List.getElem?_cons_zero]; exact rfl) (show _ = some _ by simp only [List.getElem?_toArray, List.getElem?_cons_succ, List.getElem?_cons_zero]; exact rfl) (fun K hK => ?_) (fun K hK => ?_)
    · go_simp
      go_at_call 76; refine (pageIn_any s _).mono ?_; rintro e v1 ⟨rfl, kb1⟩
      (try simp only [])
      have hS1 := hS0.next kb1
      refine hK.out _ _ (hS1) (fun _ => ?_)
      clear hK K
      (try simp only [Act.put]); (try simp only [List.setIfInBounds_toArray]); (repeat (first | simp only [List.set_cons_succ] | simp only [List.set_cons_zero]))
      refine wpTo_two (i := 3) (j := 4) (by kernel_rfl) (show _ = some _ by simp only [List.getElem?_toArray, List.getElem?_cons_succ, List.getElem?_cons_zero]; exact rfl) (show _ = some _ by simp only [List.getElem?_toArray, List.getElem?_cons_succ, List.getElem?_cons_zero]; exact rfl) (fun K hK => ?_) (fun K hK => ?_)
      · go_simp
        go_at_call 78; refine (genIn_any s _).mono ?_; rintro e v2 ⟨rfl, kb2⟩
        (try simp only [])
        have hS2 := hS1.next kb2
        refine hK.out _ _ (hS2) (fun _ => ?_)
        clear hK K
        (try simp only [Act.put]); (try simp only [List.setIfInBounds_toArray]); (repeat (first | simp only [List.set_cons_succ] | simp only [List.set_cons_zero]))
        refine wpTo_one (i := 4) (by kernel_rfl) (show _ = some _ by simp only [List.getElem?_toArray, List.getElem?_cons_succ, List.getElem?_cons_zero]; exact rfl) (fun K hK => ?_)
        go_simp
        obtain ⟨G, hGe⟩ : ∃ G, G = v2.heap.size := ⟨_, rfl⟩
        have hGb : b + 1 < G := by have := hS2.r.lt; omega
        have hG := Blk.new v2 66 (pb zp)
        rw [← hGe] at hG ⊢
        clear hGe
        have hSa := hS2.alloc (.cells (pb zp).toArray 66)

        refine hK.out _ _ (hSa) (fun _ => ?_)
        clear hK K
        (try simp only [Act.put]); (try simp only [List.setIfInBounds_toArray]); (repeat (first | simp only [List.set_cons_succ] | simp only [List.set_cons_zero]))
        refine wpTo_one (i := 5) (by kernel_rfl) (show _ = some _ by simp only [List.getElem?_toArray, List.getElem?_cons_succ, List.getElem?_cons_zero]; exact rfl) (fun K hK => ?_)
        rw [if_pos (by rfl)]
        refine put_pg _ _ rfl G zp (pin s) hG rfl rfl ?_
        intro hGp
        have hSp := CS.setRow hSa G (pb (pin s)).toArray hGb hb2
        refine hK.out _ _ (hSp) (fun _ => ?_)
        clear hK K
        (try simp only [Act.put]); (try simp only [List.setIfInBounds_toArray]); (repeat (first | simp only [List.set_cons_succ] | simp only [List.set_cons_zero]))
        refine wpTo_take (i := 6) (v := ?v6c2) (show _ = some _ by simp only [List.getElem?_toArray, List.getElem?_cons_succ, List.getElem?_cons_zero]; exact rfl) (by kernel_rfl) (by kernel_rfl) (by kernel_rfl) (by kernel_rfl) (by exact fun _ _ _ h => h) (Or.inl ⟨by rfl, ?hy6c2⟩) hSp ?r6c2
        case hy6c2 => (intro w hSw; (try dsimp only at hSw); go_simp; try with_reducible rfl)
        (try simp only [Act.put]); (try simp only [List.setIfInBounds_toArray]); (repeat (first | simp only [List.set_cons_succ] | simp only [List.set_cons_zero]))
        refine wpTo_done (by kernel_rfl) ?_
        go_wp2_with fail
        go_meet
        exact ⟨G, rfl, rfl, hGp, hSp, hGb⟩

      · go_simp
        obtain ⟨G, hGe⟩ : ∃ G, G = v1.heap.size := ⟨_, rfl⟩
        have hGb : b + 1 < G := by have := hS1.r.lt; omega
        have hG := Blk.new v1 66 (pb zp)
        rw [← hGe] at hG ⊢
        clear hGe
        have hSa := hS1.alloc (.cells (pb zp).toArray 66)
        refine hK.out _ _ (hSa) (fun _ => ?_)
        clear hK K
        (try simp only [Act.put]); (try simp only [List.setIfInBounds_toArray]); (repeat (first | simp only [List.set_cons_succ] | simp only [List.set_cons_zero]))
        refine wpTo_one (i := 3) (by kernel_rfl) (show _ = some _ by simp only [List.getElem?_toArray, List.getElem?_cons_succ, List.getElem?_cons_zero]; exact rfl) (fun K hK => ?_)
        go_simp
        go_at_call 78; refine (genIn_any s _).mono ?_; rintro e v2 ⟨rfl, kb2⟩
        (try simp only [])
        have hS2 := hSa.next kb2
        have hG2 := hG.next kb2

        refine hK.out _ _ (hS2) (fun _ => ?_)
        clear hK K
        (try simp only [Act.put]); (try simp only [List.setIfInBounds_toArray]); (repeat (first | simp only [List.set_cons_succ] | simp only [List.set_cons_zero]))
        refine wpTo_one (i := 5) (by kernel_rfl) (show _ = some _ by simp only [List.getElem?_toArray, List.getElem?_cons_succ, List.getElem?_cons_zero]; exact rfl) (fun K hK => ?_)
        rw [if_pos (by rfl)]
        refine put_pg _ _ rfl G zp (pin s) hG2 rfl rfl ?_
        intro hGp
        have hSp := CS.setRow hS2 G (pb (pin s)).toArray hGb hb2
        refine hK.out _ _ (hSp) (fun _ => ?_)
        clear hK K
        (try simp only [Act.put]); (try simp only [List.setIfInBounds_toArray]); (repeat (first | simp only [List.set_cons_succ] | simp only [List.set_cons_zero]))
        refine wpTo_take (i := 6) (v := ?v6c3) (show _ = some _ by simp only [List.getElem?_toArray, List.getElem?_cons_succ, List.getElem?_cons_zero]; exact rfl) (by kernel_rfl) (by kernel_rfl) (by kernel_rfl) (by kernel_rfl) (by exact fun _ _ _ h => h) (Or.inl ⟨by rfl, ?hy6c3⟩) hSp ?r6c3
        case hy6c3 => (intro w hSw; (try dsimp only at hSw); go_simp; try with_reducible rfl)
        (try simp only [Act.put]); (try simp only [List.setIfInBounds_toArray]); (repeat (first | simp only [List.set_cons_succ] | simp only [List.set_cons_zero]))
        refine wpTo_done (by kernel_rfl) ?_
        go_wp2_with fail
        go_meet
        exact ⟨G, rfl, rfl, hGp, hSp, hGb⟩

    · go_simp
      obtain ⟨G, hGe⟩ : ∃ G, G = w0.heap.size := ⟨_, rfl⟩
      have hGb : b + 1 < G := by have := hS0.r.lt; omega
      have hG := Blk.new w0 66 (pb zp)
      rw [← hGe] at hG ⊢
      clear hGe
      have hSa := hS0.alloc (.cells (pb zp).toArray 66)
      refine hK.out _ _ (hSa) (fun _ => ?_)
      clear hK K
      (try simp only [Act.put]); (try simp only [List.setIfInBounds_toArray]); (repeat (first | simp only [List.set_cons_succ] | simp only [List.set_cons_zero]))
      refine wpTo_one (i := 1) (by kernel_rfl) (show _ = some _ by simp only [List.getElem?_toArray, List.getElem?_cons_succ, List.getElem?_cons_zero]; exact rfl) (fun K hK => ?_)
      go_simp
      go_at_call 76; refine (pageIn_any s _).mono ?_; rintro e v1 ⟨rfl, kb1⟩
      (try simp only [])
      have hS1 := hSa.next kb1
      have hG1 := hG.next kb1

      refine hK.out _ _ (hS1) (fun _ => ?_)
      clear hK K
      (try simp only [Act.put]); (try simp only [List.setIfInBounds_toArray]); (repeat (first | simp only [List.set_cons_succ] | simp only [List.set_cons_zero]))
      refine wpTo_one (i := 3) (by kernel_rfl) (show _ = some _ by simp only [List.getElem?_toArray, List.getElem?_cons_succ, List.getElem?_cons_zero]; exact rfl) (fun K hK => ?_)
      go_simp
      go_at_call 78; refine (genIn_any s _).mono ?_; rintro e v2 ⟨rfl, kb2⟩
      (try simp only [])
      have hS2 := hS1.next kb2
      have hG2 := hG1.next kb2

      refine hK.out _ _ (hS2) (fun _ => ?_)
      clear hK K
      (try simp only [Act.put]); (try simp only [List.setIfInBounds_toArray]); (repeat (first | simp only [List.set_cons_succ] | simp only [List.set_cons_zero]))
      refine wpTo_one (i := 5) (by kernel_rfl) (show _ = some _ by simp only [List.getElem?_toArray, List.getElem?_cons_succ, List.getElem?_cons_zero]; exact rfl) (fun K hK => ?_)
      rw [if_pos (by rfl)]
      refine put_pg _ _ rfl G zp (pin s) hG2 rfl rfl ?_
      intro hGp
      have hSp := CS.setRow hS2 G (pb (pin s)).toArray hGb hb2
      refine hK.out _ _ (hSp) (fun _ => ?_)
      clear hK K
      (try simp only [Act.put]); (try simp only [List.setIfInBounds_toArray]); (repeat (first | simp only [List.set_cons_succ] | simp only [List.set_cons_zero]))
      refine wpTo_take (i := 6) (v := ?v6c1) (show _ = some _ by simp only [List.getElem?_toArray, List.getElem?_cons_succ, List.getElem?_cons_zero]; exact rfl) (by kernel_rfl) (by kernel_rfl) (by kernel_rfl) (by kernel_rfl) (by exact fun _ _ _ h => h) (Or.inl ⟨by rfl, ?hy6c1⟩) hSp ?r6c1
      case hy6c1 => (intro w hSw; (try dsimp only at hSw); go_simp; try with_reducible rfl)
      (try simp only [Act.put]); (try simp only [List.setIfInBounds_toArray]); (repeat (first | simp only [List.set_cons_succ] | simp only [List.set_cons_zero]))
      refine wpTo_done (by kernel_rfl) ?_
      go_wp2_with fail
      go_meet
      exact ⟨G, rfl, rfl, hGp, hSp, hGb⟩

  case rest =>
    obtain ⟨G, rfl, rfl, hG, hC, hbG⟩ := hcut
    have hsh := hG.shows 0 480 (by rw [(pin s).h]; omega)
    have hw31 := fun W => whole31 W G
    have hsg : (seg (pin s).l 0 480).take 4 = (pin s).l.take 4 := by unfold seg; rw [List.drop_zero, List.take_take]; rfl
    have hLw : nub ((seg (pin s).l 0 480).take 4) = Lw s := by rw [hsg]; rfl
    have hlt := Lw_lt s
    obtain ⟨L, hL⟩ : ∃ L, L = Lw s := ⟨_, rfl⟩
    obtain ⟨gn, hgn⟩ : ∃ gn, gn = gin s := ⟨_, rfl⟩
    have hr32 : ∀ (r c : Nat) (ao : Option Addr) (W : World), Rd W r ao 480 c (v8s (seg (pin s).l 0 480)) 0 → Calls Tryz.prog 104 #[.pointer (some ⟨r, 0, none⟩)] W fun x w' => x = .returned (.int .u32 (L : Int)) ∧ Fr (fun k => k = r) W w' := fun r c ao W h => by
      refine (read32 r ao 480 c _ W h (by omega)).mono fun x w' ⟨hx, _, hf⟩ => ⟨?_, hf⟩
      rw [hx, hLw, hL]
    have hgl := gin_lt s
    rw [← hL] at hlt
    rw [← hgn] at hgl ⊢
    clear hLw hsg
    have HL : Hid (L = Lw s) := hL
    have HG : Hid (gn = gin s) := hgn
    clear hL hgn
    have hwr : IntKind.i64.wrap (L : Int) = (L : Int) := by rw [IntKind.wrap_i64]; omega
    by_cases hbad : lyBad (n : Int) (L : Int)
    · have hno : ¬ hdOK s i n := by
        intro h
        have h1 := HL.out
        unfold lyBad at hbad
        unfold hdOK at h
        omega
      go_upto_region 3 with (first
        | (go_at_call 102; refine (read_any _ _ _ _ _ hsh (by omega)).mono ?_; rintro e w1 ⟨r, ao, c, rfl, hR1, hb1, hr1, -, -⟩)
        | (go_at_call 104; refine (hr32 r c ao _ hR1).mono ?_; rintro e w2 ⟨rfl, hf⟩)
        | (go_at_call 57; refine (layoutOf_bad n L _ hbad (by omega)).mono ?_; rintro e w3 ⟨rfl, hb3⟩
           have hA := Blk.new w3 102 (ly 0 0))
        | (refine store_ly rfl _ _ rfl w3.heap.size 0 0 0 0 hA rfl rfl ?_; intro hA1))
      have hlt1 := hC.r.lt
      have hC3 := ((hC.next hb1).off hf (by omega) hb2).next hb3
      have hS3 := (hC3.alloc (.cells (ly 0 0).toArray 102)).setRow w3.heap.size (ly 0 0).toArray hC3.r.lt hb2
      clear hC hC3 hG hsh hA hA1 hb1 hf hr1 hR1 hb3
      refine wp_region_s (fun v => CS w v b s) 19 (by kernel_rfl) hS3.drew ?_
      refine wpS_take (i := 0) (v := ?v0k1) (show _ = some _ by simp only [List.getElem?_toArray, List.getElem?_cons_zero]; exact rfl) (by kernel_rfl) (by kernel_rfl) (by kernel_rfl) (by kernel_rfl) (by exact fun _ _ _ h => h) (Tells.of_yields (Or.inl ⟨by rfl, ?hy0k1⟩)) ?r0k1
      case hy0k1 => (intro w hSw; (try dsimp only at hSw); go_simp; try with_reducible rfl)
      (try simp only [Act.put]); (try simp only [List.setIfInBounds_toArray]); (repeat (first | simp only [List.set_cons_succ] | simp only [List.set_cons_zero]))
      refine wpS_take (i := 1) (v := ?v1k1) (show _ = some _ by simp only [List.getElem?_toArray, List.getElem?_cons_succ, List.getElem?_cons_zero]; exact rfl) (by kernel_rfl) (by kernel_rfl) (by kernel_rfl) (by kernel_rfl) (by exact fun _ _ _ h => h) (Tells.of_yields (Or.inl ⟨by rfl, ?hy1k1⟩)) ?r1k1
      case hy1k1 => (intro w hSw; (try dsimp only at hSw); go_simp; try with_reducible rfl)
      (try simp only [Act.put]); (try simp only [List.setIfInBounds_toArray]); (repeat (first | simp only [List.set_cons_succ] | simp only [List.set_cons_zero]))
      refine wpS_take (i := 2) (v := ?v2k1) (show _ = some _ by simp only [List.getElem?_toArray, List.getElem?_cons_succ, List.getElem?_cons_zero]; exact rfl) (by kernel_rfl) (by kernel_rfl) (by kernel_rfl) (by kernel_rfl) (by exact fun _ _ _ h => h) (Tells.of_yields (Or.inl ⟨by rfl, ?hy2k1⟩)) ?r2k1
      case hy2k1 => (intro w hSw; (try dsimp only at hSw); go_simp; try with_reducible rfl)
      (try simp only [Act.put]); (try simp only [List.setIfInBounds_toArray]); (repeat (first | simp only [List.set_cons_succ] | simp only [List.set_cons_zero]))
      refine wpS_take (i := 3) (v := undef) (show _ = some _ by simp only [List.getElem?_toArray, List.getElem?_cons_succ, List.getElem?_cons_zero]; exact rfl) (by kernel_rfl) (by kernel_rfl) (by kernel_rfl) (by kernel_rfl) (by exact fun _ _ _ h => h) (Tells.of_yields (Or.inr ⟨by rfl, rfl⟩)) ?_
      (try simp only [Act.put]); (try simp only [List.setIfInBounds_toArray]); (repeat (first | simp only [List.set_cons_succ] | simp only [List.set_cons_zero]))
      refine wpS_take (i := 4) (v := undef) (show _ = some _ by simp only [List.getElem?_toArray, List.getElem?_cons_succ, List.getElem?_cons_zero]; exact rfl) (by kernel_rfl) (by kernel_rfl) (by kernel_rfl) (by kernel_rfl) (by exact fun _ _ _ h => h) (Tells.of_yields (Or.inr ⟨by rfl, rfl⟩)) ?_
      (try simp only [Act.put]); (try simp only [List.setIfInBounds_toArray]); (repeat (first | simp only [List.set_cons_succ] | simp only [List.set_cons_zero]))
      refine wpS_take (i := 5) (v := ?v5k1) (show _ = some _ by simp only [List.getElem?_toArray, List.getElem?_cons_succ, List.getElem?_cons_zero]; exact rfl) (by kernel_rfl) (by kernel_rfl) (by kernel_rfl) (by kernel_rfl) (by exact fun _ _ _ h => h) (Tells.of_yields (Or.inl ⟨by rfl, ?hy5k1⟩)) ?r5k1
      case hy5k1 => (intro w hSw; (try dsimp only at hSw); go_simp; try with_reducible rfl)
      (try simp only [Act.put]); (try simp only [List.setIfInBounds_toArray]); (repeat (first | simp only [List.set_cons_succ] | simp only [List.set_cons_zero]))
      refine wpS_take (i := 6) (v := ?v6k1) (show _ = some _ by simp only [List.getElem?_toArray, List.getElem?_cons_succ, List.getElem?_cons_zero]; exact rfl) (by kernel_rfl) (by kernel_rfl) (by kernel_rfl) (by kernel_rfl) (by exact fun _ _ _ h => h) (Tells.of_yields (Or.inl ⟨by rfl, ?hy6k1⟩)) ?r6k1
      case hy6k1 => (intro w hSw; (try dsimp only at hSw); go_simp; try with_reducible rfl)
      (try simp only [Act.put]); (try simp only [List.setIfInBounds_toArray]); (repeat (first | simp only [List.set_cons_succ] | simp only [List.set_cons_zero]))
      refine wpS_take (i := 7) (v := undef) (show _ = some _ by simp only [List.getElem?_toArray, List.getElem?_cons_succ, List.getElem?_cons_zero]; exact rfl) (by kernel_rfl) (by kernel_rfl) (by kernel_rfl) (by kernel_rfl) (by exact fun _ _ _ h => h) (Tells.of_yields (Or.inr ⟨by rfl, rfl⟩)) ?_
      (try simp only [Act.put]); (try simp only [List.setIfInBounds_toArray]); (repeat (first | simp only [List.set_cons_succ] | simp only [List.set_cons_zero]))
      refine wpS_take (i := 8) (v := undef) (show _ = some _ by simp only [List.getElem?_toArray, List.getElem?_cons_succ, List.getElem?_cons_zero]; exact rfl) (by kernel_rfl) (by kernel_rfl) (by kernel_rfl) (by kernel_rfl) (by exact fun _ _ _ h => h) (Tells.of_yields (Or.inr ⟨by rfl, rfl⟩)) ?_
      (try simp only [Act.put]); (try simp only [List.setIfInBounds_toArray]); (repeat (first | simp only [List.set_cons_succ] | simp only [List.set_cons_zero]))
      refine wpS_take (i := 9) (v := undef) (show _ = some _ by simp only [List.getElem?_toArray, List.getElem?_cons_succ, List.getElem?_cons_zero]; exact rfl) (by kernel_rfl) (by kernel_rfl) (by kernel_rfl) (by kernel_rfl) (by exact fun _ _ _ h => h) (Tells.of_yields (Or.inr ⟨by rfl, rfl⟩)) ?_
      (try simp only [Act.put]); (try simp only [List.setIfInBounds_toArray]); (repeat (first | simp only [List.set_cons_succ] | simp only [List.set_cons_zero]))
      refine wpS_take (i := 10) (v := undef) (show _ = some _ by simp only [List.getElem?_toArray, List.getElem?_cons_succ, List.getElem?_cons_zero]; exact rfl) (by kernel_rfl) (by kernel_rfl) (by kernel_rfl) (by kernel_rfl) (by exact fun _ _ _ h => h) (Tells.of_yields (Or.inr ⟨by rfl, rfl⟩)) ?_
      (try simp only [Act.put]); (try simp only [List.setIfInBounds_toArray]); (repeat (first | simp only [List.set_cons_succ] | simp only [List.set_cons_zero]))
      refine wpS_take (i := 11) (v := ?v11k1) (show _ = some _ by simp only [List.getElem?_toArray, List.getElem?_cons_succ, List.getElem?_cons_zero]; exact rfl) (by kernel_rfl) (by kernel_rfl) (by kernel_rfl) (by kernel_rfl) (by exact fun _ _ _ h => h) (Tells.of_yields (Or.inl ⟨by rfl, ?hy11k1⟩)) ?r11k1
      case hy11k1 => (intro w hSw; (try dsimp only at hSw); go_simp; try with_reducible rfl)
      (try simp only [Act.put]); (try simp only [List.setIfInBounds_toArray]); (repeat (first | simp only [List.set_cons_succ] | simp only [List.set_cons_zero]))
      refine wpS_take (i := 12) (v := ?v12k1) (show _ = some _ by simp only [List.getElem?_toArray, List.getElem?_cons_succ, List.getElem?_cons_zero]; exact rfl) (by kernel_rfl) (by kernel_rfl) (by kernel_rfl) (by kernel_rfl) (by exact fun _ _ _ h => h) (Tells.of_yields (Or.inl ⟨by rfl, ?hy12k1⟩)) ?r12k1
      case hy12k1 => (intro w hSw; (try dsimp only at hSw); go_simp; try with_reducible rfl)
      (try simp only [Act.put]); (try simp only [List.setIfInBounds_toArray]); (repeat (first | simp only [List.set_cons_succ] | simp only [List.set_cons_zero]))
      refine wpS_take (i := 13) (v := undef) (show _ = some _ by simp only [List.getElem?_toArray, List.getElem?_cons_succ, List.getElem?_cons_zero]; exact rfl) (by kernel_rfl) (by kernel_rfl) (by kernel_rfl) (by kernel_rfl) (by exact fun _ _ _ h => h) (Tells.of_yields (Or.inr ⟨by rfl, rfl⟩)) ?_
      (try simp only [Act.put]); (try simp only [List.setIfInBounds_toArray]); (repeat (first | simp only [List.set_cons_succ] | simp only [List.set_cons_zero]))
      refine wpS_take (i := 14) (v := undef) (show _ = some _ by simp only [List.getElem?_toArray, List.getElem?_cons_succ, List.getElem?_cons_zero]; exact rfl) (by kernel_rfl) (by kernel_rfl) (by kernel_rfl) (by kernel_rfl) (by exact fun _ _ _ h => h) (Tells.of_yields (Or.inr ⟨by rfl, rfl⟩)) ?_
      (try simp only [Act.put]); (try simp only [List.setIfInBounds_toArray]); (repeat (first | simp only [List.set_cons_succ] | simp only [List.set_cons_zero]))
      refine wpS_take (i := 15) (v := undef) (show _ = some _ by simp only [List.getElem?_toArray, List.getElem?_cons_succ, List.getElem?_cons_zero]; exact rfl) (by kernel_rfl) (by kernel_rfl) (by kernel_rfl) (by kernel_rfl) (by exact fun _ _ _ h => h) (Tells.of_yields (Or.inr ⟨by rfl, rfl⟩)) ?_
      (try simp only [Act.put]); (try simp only [List.setIfInBounds_toArray]); (repeat (first | simp only [List.set_cons_succ] | simp only [List.set_cons_zero]))
      refine wpS_take (i := 16) (v := undef) (show _ = some _ by simp only [List.getElem?_toArray, List.getElem?_cons_succ, List.getElem?_cons_zero]; exact rfl) (by kernel_rfl) (by kernel_rfl) (by kernel_rfl) (by kernel_rfl) (by exact fun _ _ _ h => h) (Tells.of_yields (Or.inr ⟨by rfl, rfl⟩)) ?_
      (try simp only [Act.put]); (try simp only [List.setIfInBounds_toArray]); (repeat (first | simp only [List.set_cons_succ] | simp only [List.set_cons_zero]))
      refine wpS_take (i := 17) (v := undef) (show _ = some _ by simp only [List.getElem?_toArray, List.getElem?_cons_succ, List.getElem?_cons_zero]; exact rfl) (by kernel_rfl) (by kernel_rfl) (by kernel_rfl) (by kernel_rfl) (by exact fun _ _ _ h => h) (Tells.of_yields (Or.inr ⟨by rfl, rfl⟩)) ?_
      (try simp only [Act.put]); (try simp only [List.setIfInBounds_toArray]); (repeat (first | simp only [List.set_cons_succ] | simp only [List.set_cons_zero]))
      refine wpS_take (i := 18) (v := ?v18k1) (show _ = some _ by simp only [List.getElem?_toArray, List.getElem?_cons_succ, List.getElem?_cons_zero]; exact rfl) (by kernel_rfl) (by kernel_rfl) (by kernel_rfl) (by kernel_rfl) (by exact fun _ _ _ h => h) (Tells.of_yields (Or.inl ⟨by rfl, ?hy18k1⟩)) ?r18k1
      case hy18k1 => (intro w hSw; (try dsimp only at hSw); go_simp; try with_reducible rfl)
      (try simp only [Act.put]); (try simp only [List.setIfInBounds_toArray]); (repeat (first | simp only [List.set_cons_succ] | simp only [List.set_cons_zero]))
      refine wpS_done (by kernel_rfl) ?_
      intro u hSu
      have hr := hSu.r
      go_wp2_with (refine store_ly rfl _ _ rfl (b + 1) 0 0 0 0 hr rfl rfl ?_; intro hA2)
      refine bodyPost_ret (ret79b rfl _ _ (b + 1) 0 0 rfl hA2) rfl ⟨?_, ?_⟩
      · rw [HR.out, cR_no hno]; rfl
      · have hbl := hSu.below
        have hbz := HB.out
        rw [hbz] at hbl ⊢
        exact hbl.trans (Fr.below (X := fun k => k = w.heap.size + 1) ((Fr.refl _ _).setRow _ _ (.inl rfl)) (fun k e => by omega) hbl.size)
    · obtain ⟨H, hH⟩ : ∃ H, H = n - 2 - L := ⟨_, rfl⟩
      unfold lyBad at hbad
      have hnH : n = 2 + L + H := by omega
      have hlg : ∀ W : World, Calls Tryz.prog 57 #[.int .i64 (n : Int), .int .i64 (L : Int)] W fun e w' => e = .returned (.tuple #[.agg (ly L H).toArray, .bool true]) ∧ Below W.heap.size W w' := fun W => by
        rw [hnH]
        exact layoutOf_good L H W (by omega) (by omega) (by omega) (by omega)
      have HN : Hid (n = 2 + L + H) := hnH
      have HB3 : Hid (3 ≤ L ∧ L ≤ 4000 ∧ 2 + L < n) := ⟨by omega, by omega, by omega⟩
      clear hbad hH hnH
      go_upto_region 3 with (first
        | (go_at_call 102; refine (read_any _ _ _ _ _ hsh (by omega)).mono ?_; rintro e w1 ⟨r, ao, c, rfl, hR1, hb1, hr1, -, -⟩)
        | (go_at_call 104; refine (hr32 r c ao _ hR1).mono ?_; rintro e w2 ⟨rfl, hf⟩)
        | (go_at_call 57; refine (hlg _).mono ?_; rintro e w3 ⟨rfl, hb3⟩
           have hA := Blk.new w3 102 (ly 0 0))
        | (refine store_ly rfl _ _ rfl w3.heap.size 0 0 L H hA rfl rfl ?_; intro hA1))
      have hlt1 := hC.r.lt
      have hC3 := ((hC.next hb1).off hf (by omega) hb2).next hb3
      have hM3 := hC3.r.lt
      obtain ⟨M, hM⟩ : ∃ M, M = w3.heap.size := ⟨_, rfl⟩
      rw [← hM] at hA1 hM3 ⊢
      have hS3 : CT w ((w3.alloc (.cells (ly 0 0).toArray 102)).setRow M (ly L H).toArray) b s M L H := ⟨(hC3.alloc (.cells (ly 0 0).toArray 102)).setRow M (ly L H).toArray hM3 hb2, hA1⟩
      clear hC hC3 hG hsh hA hA1 hb1 hf hr1 hR1 hb3 hlg hr32 hlt1
      obtain ⟨v3, hv3⟩ : ∃ v, v = ((w3.alloc (.cells (ly 0 0).toArray 102)).setRow M (ly L H).toArray) := ⟨_, rfl⟩
      rw [← hv3] at hS3 ⊢
      clear hv3 hM
      by_cases h0 : gn = 0
      · have hno : ¬ hdOK s i n := by
          intro h
          have h1 := HG.out
          exact h.2.2.2.1 (by omega)
        have hg0 : ((gn : Int) == 0) = true := by rw [h0]; rfl
        clear h0
        refine wp_region_s (fun v => CT w v b s M L H) 19 (by kernel_rfl) hS3.drew ?_
        refine wpS_take (i := 0) (v := ?v0k2) (show _ = some _ by simp only [List.getElem?_toArray, List.getElem?_cons_zero]; exact rfl) (by kernel_rfl) (by kernel_rfl) (by kernel_rfl) (by kernel_rfl) (by exact fun _ _ _ h => h) (Tells.of_yields (Or.inl ⟨by rfl, ?hy0k2⟩)) ?r0k2
        case hy0k2 => (intro w hSw; (try dsimp only at hSw); go_simp; try with_reducible rfl)
        (try simp only [Act.put]); (try simp only [List.setIfInBounds_toArray]); (repeat (first | simp only [List.set_cons_succ] | simp only [List.set_cons_zero]))
        refine wpS_take (i := 1) (v := ?v1k2) (show _ = some _ by simp only [List.getElem?_toArray, List.getElem?_cons_succ, List.getElem?_cons_zero]; exact rfl) (by kernel_rfl) (by kernel_rfl) (by kernel_rfl) (by kernel_rfl) (by exact fun _ _ _ h => h) (Tells.of_yields (Or.inl ⟨by rfl, ?hy1k2⟩)) ?r1k2
        case hy1k2 => (intro w hSw; (try dsimp only at hSw); go_simp; try with_reducible rfl)
        (try simp only [Act.put]); (try simp only [List.setIfInBounds_toArray]); (repeat (first | simp only [List.set_cons_succ] | simp only [List.set_cons_zero]))
        refine wpS_take (i := 2) (v := ?v2k2) (show _ = some _ by simp only [List.getElem?_toArray, List.getElem?_cons_succ, List.getElem?_cons_zero]; exact rfl) (by kernel_rfl) (by kernel_rfl) (by kernel_rfl) (by kernel_rfl) (by exact fun _ _ _ h => h) (Tells.of_yields (Or.inl ⟨by rfl, ?hy2k2⟩)) ?r2k2
        case hy2k2 => (intro w hSw; (try dsimp only at hSw); go_simp; try with_reducible rfl)
        (try simp only [Act.put]); (try simp only [List.setIfInBounds_toArray]); (repeat (first | simp only [List.set_cons_succ] | simp only [List.set_cons_zero]))
        refine wpS_take (i := 3) (v := ?v3k2) (show _ = some _ by simp only [List.getElem?_toArray, List.getElem?_cons_succ, List.getElem?_cons_zero]; exact rfl) (by kernel_rfl) (by kernel_rfl) (by kernel_rfl) (by kernel_rfl) (by exact fun _ _ _ h => h) (Tells.of_yields (Or.inl ⟨by rfl, ?hy3k2⟩)) ?r3k2
        case hy3k2 => (intro w hSw; (try dsimp only at hSw); go_simp; try with_reducible rfl)
        (try simp only [Act.put]); (try simp only [List.setIfInBounds_toArray]); (repeat (first | simp only [List.set_cons_succ] | simp only [List.set_cons_zero]))
        refine wpS_take (i := 4) (v := ?v4k2) (show _ = some _ by simp only [List.getElem?_toArray, List.getElem?_cons_succ, List.getElem?_cons_zero]; exact rfl) (by kernel_rfl) (by kernel_rfl) (by kernel_rfl) (by kernel_rfl) (by exact fun _ _ _ h => h) (Tells.of_yields (Or.inl ⟨by rfl, ?hy4k2⟩)) ?r4k2
        case hy4k2 => (intro w hSw; (try dsimp only at hSw); go_simp; try with_reducible rfl)
        (try simp only [Act.put]); (try simp only [List.setIfInBounds_toArray]); (repeat (first | simp only [List.set_cons_succ] | simp only [List.set_cons_zero]))
        refine wpS_take (i := 5) (v := ?v5k2) (show _ = some _ by simp only [List.getElem?_toArray, List.getElem?_cons_succ, List.getElem?_cons_zero]; exact rfl) (by kernel_rfl) (by kernel_rfl) (by kernel_rfl) (by kernel_rfl) (by exact fun _ _ _ h => h) (Tells.of_yields (Or.inl ⟨by rfl, ?hy5k2⟩)) ?r5k2
        case hy5k2 => (intro w hSw; (try dsimp only at hSw); go_simp; try with_reducible rfl)
        (try simp only [Act.put]); (try simp only [List.setIfInBounds_toArray]); (repeat (first | simp only [List.set_cons_succ] | simp only [List.set_cons_zero]))
        refine wpS_take (i := 6) (v := ?v6k2) (show _ = some _ by simp only [List.getElem?_toArray, List.getElem?_cons_succ, List.getElem?_cons_zero]; exact rfl) (by kernel_rfl) (by kernel_rfl) (by kernel_rfl) (by kernel_rfl) (by exact fun _ _ _ h => h) (Tells.of_yields (Or.inl ⟨by rfl, ?hy6k2⟩)) ?r6k2
        case hy6k2 => (intro w hSw; (try dsimp only at hSw); go_simp; try with_reducible rfl)
        (try simp only [Act.put]); (try simp only [List.setIfInBounds_toArray]); (repeat (first | simp only [List.set_cons_succ] | simp only [List.set_cons_zero]))
        refine wpS_take (i := 7) (v := undef) (show _ = some _ by simp only [List.getElem?_toArray, List.getElem?_cons_succ, List.getElem?_cons_zero]; exact rfl) (by kernel_rfl) (by kernel_rfl) (by kernel_rfl) (by kernel_rfl) (by exact fun _ _ _ h => h) (Tells.of_yields (Or.inr ⟨by rfl, rfl⟩)) ?_
        (try simp only [Act.put]); (try simp only [List.setIfInBounds_toArray]); (repeat (first | simp only [List.set_cons_succ] | simp only [List.set_cons_zero]))
        refine wpS_take (i := 8) (v := undef) (show _ = some _ by simp only [List.getElem?_toArray, List.getElem?_cons_succ, List.getElem?_cons_zero]; exact rfl) (by kernel_rfl) (by kernel_rfl) (by kernel_rfl) (by kernel_rfl) (by exact fun _ _ _ h => h) (Tells.of_yields (Or.inr ⟨by rfl, rfl⟩)) ?_
        (try simp only [Act.put]); (try simp only [List.setIfInBounds_toArray]); (repeat (first | simp only [List.set_cons_succ] | simp only [List.set_cons_zero]))
        refine wpS_take (i := 9) (v := undef) (show _ = some _ by simp only [List.getElem?_toArray, List.getElem?_cons_succ, List.getElem?_cons_zero]; exact rfl) (by kernel_rfl) (by kernel_rfl) (by kernel_rfl) (by kernel_rfl) (by exact fun _ _ _ h => h) (Tells.of_yields (Or.inr ⟨by rfl, rfl⟩)) ?_
        (try simp only [Act.put]); (try simp only [List.setIfInBounds_toArray]); (repeat (first | simp only [List.set_cons_succ] | simp only [List.set_cons_zero]))
        refine wpS_take (i := 10) (v := undef) (show _ = some _ by simp only [List.getElem?_toArray, List.getElem?_cons_succ, List.getElem?_cons_zero]; exact rfl) (by kernel_rfl) (by kernel_rfl) (by kernel_rfl) (by kernel_rfl) (by exact fun _ _ _ h => h) (Tells.of_yields (Or.inr ⟨by rfl, rfl⟩)) ?_
        (try simp only [Act.put]); (try simp only [List.setIfInBounds_toArray]); (repeat (first | simp only [List.set_cons_succ] | simp only [List.set_cons_zero]))
        refine wpS_take (i := 11) (v := ?v11k2) (show _ = some _ by simp only [List.getElem?_toArray, List.getElem?_cons_succ, List.getElem?_cons_zero]; exact rfl) (by kernel_rfl) (by kernel_rfl) (by kernel_rfl) (by kernel_rfl) (by exact fun _ _ _ h => h) (Tells.of_yields (Or.inl ⟨by rfl, ?hy11k2⟩)) ?r11k2
        case hy11k2 => (intro w hSw; (try dsimp only at hSw); go_simp; try with_reducible rfl)
        (try simp only [Act.put]); (try simp only [List.setIfInBounds_toArray]); (repeat (first | simp only [List.set_cons_succ] | simp only [List.set_cons_zero]))
        refine wpS_take (i := 12) (v := ?v12k2) (show _ = some _ by simp only [List.getElem?_toArray, List.getElem?_cons_succ, List.getElem?_cons_zero]; exact rfl) (by kernel_rfl) (by kernel_rfl) (by kernel_rfl) (by kernel_rfl) (by exact fun _ _ _ h => h) (Tells.of_yields (Or.inl ⟨by rfl, ?hy12k2⟩)) ?r12k2
        case hy12k2 => (intro w hSw; (try dsimp only at hSw); go_simp; try with_reducible rfl)
        (try simp only [Act.put]); (try simp only [List.setIfInBounds_toArray]); (repeat (first | simp only [List.set_cons_succ] | simp only [List.set_cons_zero]))
        refine wpS_take (i := 13) (v := undef) (show _ = some _ by simp only [List.getElem?_toArray, List.getElem?_cons_succ, List.getElem?_cons_zero]; exact rfl) (by kernel_rfl) (by kernel_rfl) (by kernel_rfl) (by kernel_rfl) (by exact fun _ _ _ h => h) (Tells.of_yields (Or.inr ⟨by rfl, rfl⟩)) ?_
        (try simp only [Act.put]); (try simp only [List.setIfInBounds_toArray]); (repeat (first | simp only [List.set_cons_succ] | simp only [List.set_cons_zero]))
        refine wpS_take (i := 14) (v := undef) (show _ = some _ by simp only [List.getElem?_toArray, List.getElem?_cons_succ, List.getElem?_cons_zero]; exact rfl) (by kernel_rfl) (by kernel_rfl) (by kernel_rfl) (by kernel_rfl) (by exact fun _ _ _ h => h) (Tells.of_yields (Or.inr ⟨by rfl, rfl⟩)) ?_
        (try simp only [Act.put]); (try simp only [List.setIfInBounds_toArray]); (repeat (first | simp only [List.set_cons_succ] | simp only [List.set_cons_zero]))
        refine wpS_take (i := 15) (v := undef) (show _ = some _ by simp only [List.getElem?_toArray, List.getElem?_cons_succ, List.getElem?_cons_zero]; exact rfl) (by kernel_rfl) (by kernel_rfl) (by kernel_rfl) (by kernel_rfl) (by exact fun _ _ _ h => h) (Tells.of_yields (Or.inr ⟨by rfl, rfl⟩)) ?_
        (try simp only [Act.put]); (try simp only [List.setIfInBounds_toArray]); (repeat (first | simp only [List.set_cons_succ] | simp only [List.set_cons_zero]))
        refine wpS_take (i := 16) (v := undef) (show _ = some _ by simp only [List.getElem?_toArray, List.getElem?_cons_succ, List.getElem?_cons_zero]; exact rfl) (by kernel_rfl) (by kernel_rfl) (by kernel_rfl) (by kernel_rfl) (by exact fun _ _ _ h => h) (Tells.of_yields (Or.inr ⟨by rfl, rfl⟩)) ?_
        (try simp only [Act.put]); (try simp only [List.setIfInBounds_toArray]); (repeat (first | simp only [List.set_cons_succ] | simp only [List.set_cons_zero]))
        refine wpS_take (i := 17) (v := undef) (show _ = some _ by simp only [List.getElem?_toArray, List.getElem?_cons_succ, List.getElem?_cons_zero]; exact rfl) (by kernel_rfl) (by kernel_rfl) (by kernel_rfl) (by kernel_rfl) (by exact fun _ _ _ h => h) (Tells.of_yields (Or.inr ⟨by rfl, rfl⟩)) ?_
        (try simp only [Act.put]); (try simp only [List.setIfInBounds_toArray]); (repeat (first | simp only [List.set_cons_succ] | simp only [List.set_cons_zero]))
        refine wpS_take (i := 18) (v := ?v18k2) (show _ = some _ by simp only [List.getElem?_toArray, List.getElem?_cons_succ, List.getElem?_cons_zero]; exact rfl) (by kernel_rfl) (by kernel_rfl) (by kernel_rfl) (by kernel_rfl) (by exact fun _ _ _ h => h) (Tells.of_yields (Or.inl ⟨by rfl, ?hy18k2⟩)) ?r18k2
        case hy18k2 => (intro w hSw; (try dsimp only at hSw); go_simp; try with_reducible rfl)
        (try simp only [Act.put]); (try simp only [List.setIfInBounds_toArray]); (repeat (first | simp only [List.set_cons_succ] | simp only [List.set_cons_zero]))
        refine wpS_done (by kernel_rfl) ?_
        intro u hSu
        have hr := hSu.c.r
        go_wp2_with (refine store_ly rfl _ _ rfl (b + 1) 0 0 0 0 hr rfl rfl ?_; intro hA2)
        refine bodyPost_ret (ret79b rfl _ _ (b + 1) 0 0 rfl hA2) rfl ⟨?_, ?_⟩
        · rw [HR.out, cR_no hno]; rfl
        · have hbl := hSu.c.below
          have hbz := HB.out
          rw [hbz] at hbl ⊢
          exact hbl.trans (Fr.below (X := fun k => k = w.heap.size + 1) ((Fr.refl _ _).setRow _ _ (.inl rfl)) (fun k e => by omega) hbl.size)
      · by_cases hpi : gn % 2 = i
        · have hc := fun W (hW : Tabs W) => head_any L H gn W hW hgl (by omega) (by have := HN.out; omega)
          obtain ⟨hd, ehd⟩ : ∃ hd, hd = hdF L H gn := ⟨_, rfl⟩
          rw [← ehd] at hc
          have HD : Hid (hd = hdF L H gn) := ehd
          clear ehd
          have hg0 : ((gn : Int) == 0) = false := by simp [h0]
          have hq := fun W => eq39 s hd W
          have hg39 := guard39
          have hpl : ∀ W : World, Calls Tryz.prog 91 #[.int .u64 (gn : Int)] W fun e w' => e = .returned (.int .i64 (i : Int)) ∧ W = w' := fun W => by
            have := headPlace_any gn hgl W
            rwa [hpi] at this
          have hOK : s = hd → hdOK s i n := by
            intro e
            have h1 := HL.out
            have h2 := HG.out
            have h3 := HB3.out
            have h4 := HN.out
            have h5 := HD.out
            refine ⟨by omega, by omega, by omega, by omega, by omega, ?_⟩
            rw [← h1, ← h2, show n - 2 - L = H by omega, ← h5]
            exact e
          have hNO : s ≠ hd → ¬ hdOK s i n := by
            intro e h
            have h1 := HL.out
            have h2 := HG.out
            have h4 := HN.out
            have h5 := HD.out
            have h6 := h.2.2.2.2.2
            rw [← h1, ← h2, show n - 2 - L = H by omega, ← h5] at h6
            exact e h6
          have HOK : Hid (s = hd → hdOK s i n) := hOK
          have HNO : Hid (s ≠ hd → ¬ hdOK s i n) := hNO
          clear hOK hNO hpi h0
          by_cases he : s = hd
          · have hde : decide (s = hd) = true := decide_eq_true he
            have hyes := HOK.out he
            clear he
            refine wp_region_s (fun v => CT w v b s M L H) 19 (by kernel_rfl) hS3.drew ?_
            refine wpS_take (i := 0) (v := ?v0k3) (show _ = some _ by simp only [List.getElem?_toArray, List.getElem?_cons_zero]; exact rfl) (by kernel_rfl) (by kernel_rfl) (by kernel_rfl) (by kernel_rfl) (by exact fun _ _ _ h => h) (Tells.of_yields (Or.inl ⟨by rfl, ?hy0k3⟩)) ?r0k3
            case hy0k3 => (intro w hSw; (try dsimp only at hSw); go_simp; try with_reducible rfl)
            (try simp only [Act.put]); (try simp only [List.setIfInBounds_toArray]); (repeat (first | simp only [List.set_cons_succ] | simp only [List.set_cons_zero]))
            refine wpS_take (i := 1) (v := ?v1k3) (show _ = some _ by simp only [List.getElem?_toArray, List.getElem?_cons_succ, List.getElem?_cons_zero]; exact rfl) (by kernel_rfl) (by kernel_rfl) (by kernel_rfl) (by kernel_rfl) (by exact fun _ _ _ h => h) (Tells.of_yields (Or.inl ⟨by rfl, ?hy1k3⟩)) ?r1k3
            case hy1k3 => (intro w hSw; (try dsimp only at hSw); go_simp; try with_reducible rfl)
            (try simp only [Act.put]); (try simp only [List.setIfInBounds_toArray]); (repeat (first | simp only [List.set_cons_succ] | simp only [List.set_cons_zero]))
            refine wpS_take (i := 2) (v := ?v2k3) (show _ = some _ by simp only [List.getElem?_toArray, List.getElem?_cons_succ, List.getElem?_cons_zero]; exact rfl) (by kernel_rfl) (by kernel_rfl) (by kernel_rfl) (by kernel_rfl) (by exact fun _ _ _ h => h) (Tells.of_yields (Or.inl ⟨by rfl, ?hy2k3⟩)) ?r2k3
            case hy2k3 => (intro w hSw; (try dsimp only at hSw); go_simp; try with_reducible rfl)
            (try simp only [Act.put]); (try simp only [List.setIfInBounds_toArray]); (repeat (first | simp only [List.set_cons_succ] | simp only [List.set_cons_zero]))
            refine wpS_take (i := 3) (v := ?v3k3) (show _ = some _ by simp only [List.getElem?_toArray, List.getElem?_cons_succ, List.getElem?_cons_zero]; exact rfl) (by kernel_rfl) (by kernel_rfl) (by kernel_rfl) (by kernel_rfl) (by exact fun _ _ _ h => h) (Tells.of_yields (Or.inl ⟨by rfl, ?hy3k3⟩)) ?r3k3
            case hy3k3 => (intro w hSw; (try dsimp only at hSw); go_simp; try with_reducible rfl)
            (try simp only [Act.put]); (try simp only [List.setIfInBounds_toArray]); (repeat (first | simp only [List.set_cons_succ] | simp only [List.set_cons_zero]))
            refine wpS_take (i := 4) (v := ?v4k3) (show _ = some _ by simp only [List.getElem?_toArray, List.getElem?_cons_succ, List.getElem?_cons_zero]; exact rfl) (by kernel_rfl) (by kernel_rfl) (by kernel_rfl) (by kernel_rfl) (by exact fun _ _ _ h => h) (Tells.of_yields (Or.inl ⟨by rfl, ?hy4k3⟩)) ?r4k3
            case hy4k3 => (intro w hSw; (try dsimp only at hSw); go_simp; try with_reducible rfl)
            (try simp only [Act.put]); (try simp only [List.setIfInBounds_toArray]); (repeat (first | simp only [List.set_cons_succ] | simp only [List.set_cons_zero]))
            refine wpS_take (i := 5) (v := ?v5k3) (show _ = some _ by simp only [List.getElem?_toArray, List.getElem?_cons_succ, List.getElem?_cons_zero]; exact rfl) (by kernel_rfl) (by kernel_rfl) (by kernel_rfl) (by kernel_rfl) (by exact fun _ _ _ h => h) (Tells.of_yields (Or.inl ⟨by rfl, ?hy5k3⟩)) ?r5k3
            case hy5k3 => (intro w hSw; (try dsimp only at hSw); go_simp; try with_reducible rfl)
            (try simp only [Act.put]); (try simp only [List.setIfInBounds_toArray]); (repeat (first | simp only [List.set_cons_succ] | simp only [List.set_cons_zero]))
            refine wpS_take (i := 6) (v := ?v6k3) (show _ = some _ by simp only [List.getElem?_toArray, List.getElem?_cons_succ, List.getElem?_cons_zero]; exact rfl) (by kernel_rfl) (by kernel_rfl) (by kernel_rfl) (by kernel_rfl) (by exact fun _ _ _ h => h) (Tells.of_yields (Or.inl ⟨by rfl, ?hy6k3⟩)) ?r6k3
            case hy6k3 => (intro w hSw; (try dsimp only at hSw); go_simp; try with_reducible rfl)
            (try simp only [Act.put]); (try simp only [List.setIfInBounds_toArray]); (repeat (first | simp only [List.set_cons_succ] | simp only [List.set_cons_zero]))
            refine wpS_take (i := 7) (v := ?v7k3) (show _ = some _ by simp only [List.getElem?_toArray, List.getElem?_cons_succ, List.getElem?_cons_zero]; exact rfl) (by kernel_rfl) (by kernel_rfl) (by kernel_rfl) (by kernel_rfl) (by exact fun _ _ _ h => h) (Tells.of_yields (Or.inl ⟨by rfl, ?hy7k3⟩)) ?r7k3
            case hy7k3 => (intro w hSw; (try dsimp only at hSw); go_simp; try with_reducible rfl)
            (try simp only [Act.put]); (try simp only [List.setIfInBounds_toArray]); (repeat (first | simp only [List.set_cons_succ] | simp only [List.set_cons_zero]))
            refine wpS_take (i := 8) (v := (.int .i64 (i : Int))) (show _ = some _ by simp only [List.getElem?_toArray, List.getElem?_cons_succ, List.getElem?_cons_zero]; exact rfl) (by kernel_rfl) (by kernel_rfl) (by kernel_rfl) (by kernel_rfl) (by exact fun _ _ _ h => h) (Tells.of_wp (by rfl) (t := 34) rfl (by kernel_rfl) ?hc8k3) ?r8k3
            case hc8k3 =>
              intro u hSu
              (try dsimp only at hSu)
              go_simp
              go_at_call 91; refine (hpl _).mono ?_; rintro e u2 ⟨rfl, rfl⟩
              exact ⟨rfl, hSu⟩
            (try simp only [Act.put]); (try simp only [List.setIfInBounds_toArray]); (repeat (first | simp only [List.set_cons_succ] | simp only [List.set_cons_zero]))
            refine wpS_take (i := 9) (v := ?v9k3) (show _ = some _ by simp only [List.getElem?_toArray, List.getElem?_cons_succ, List.getElem?_cons_zero]; exact rfl) (by kernel_rfl) (by kernel_rfl) (by kernel_rfl) (by kernel_rfl) (by exact fun _ _ _ h => h) (Tells.of_yields (Or.inl ⟨by rfl, ?hy9k3⟩)) ?r9k3
            case hy9k3 => (intro w hSw; (try dsimp only at hSw); go_simp; try with_reducible rfl)
            (try simp only [Act.put]); (try simp only [List.setIfInBounds_toArray]); (repeat (first | simp only [List.set_cons_succ] | simp only [List.set_cons_zero]))
            refine wpS_take (i := 10) (v := ?v10k3) (show _ = some _ by simp only [List.getElem?_toArray, List.getElem?_cons_succ, List.getElem?_cons_zero]; exact rfl) (by kernel_rfl) (by kernel_rfl) (by kernel_rfl) (by kernel_rfl) (by exact fun _ _ _ h => h) (Tells.of_yields (Or.inl ⟨by rfl, ?hy10k3⟩)) ?r10k3
            case hy10k3 => (intro w hSw; (try dsimp only at hSw); go_simp; try with_reducible rfl)
            (try simp only [Act.put]); (try simp only [List.setIfInBounds_toArray]); (repeat (first | simp only [List.set_cons_succ] | simp only [List.set_cons_zero]))
            refine wpS_take (i := 11) (v := ?v11k3) (show _ = some _ by simp only [List.getElem?_toArray, List.getElem?_cons_succ, List.getElem?_cons_zero]; exact rfl) (by kernel_rfl) (by kernel_rfl) (by kernel_rfl) (by kernel_rfl) (by exact fun _ _ _ h => h) (Tells.of_yields (Or.inl ⟨by rfl, ?hy11k3⟩)) ?r11k3
            case hy11k3 => (intro w hSw; (try dsimp only at hSw); go_simp; try with_reducible rfl)
            (try simp only [Act.put]); (try simp only [List.setIfInBounds_toArray]); (repeat (first | simp only [List.set_cons_succ] | simp only [List.set_cons_zero]))
            refine wpS_take (i := 12) (v := ?v12k3) (show _ = some _ by simp only [List.getElem?_toArray, List.getElem?_cons_succ, List.getElem?_cons_zero]; exact rfl) (by kernel_rfl) (by kernel_rfl) (by kernel_rfl) (by kernel_rfl) (by exact fun _ _ _ h => h) (Tells.of_yields (Or.inl ⟨by rfl, ?hy12k3⟩)) ?r12k3
            case hy12k3 => (intro w hSw; (try dsimp only at hSw); go_simp; try with_reducible rfl)
            (try simp only [Act.put]); (try simp only [List.setIfInBounds_toArray]); (repeat (first | simp only [List.set_cons_succ] | simp only [List.set_cons_zero]))
            refine wpS_take (i := 13) (show _ = some _ by simp only [List.getElem?_toArray, List.getElem?_cons_succ, List.getElem?_cons_zero]; exact rfl) (by kernel_rfl) (by kernel_rfl) (by kernel_rfl) (by kernel_rfl) (by exact fun _ _ _ h => h) (Tells.of_yields (yieldsIf_load_mid (by rfl) 26 (.tmp 3) rfl b 0 rfl (sb s) _ (fun v h => (CT.c h).s.whole) Tryz.underlying26 rfl (by rw [sb_length]; kernel_rfl))) ?_
            (try simp only [Act.put]); (try simp only [List.setIfInBounds_toArray]); (repeat (first | simp only [List.set_cons_succ] | simp only [List.set_cons_zero]))
            refine wpS_take (i := 14) (show _ = some _ by simp only [List.getElem?_toArray, List.getElem?_cons_succ, List.getElem?_cons_zero]; exact rfl) (by kernel_rfl) (by kernel_rfl) (by kernel_rfl) (by kernel_rfl) (by exact fun _ _ _ h => h) (Tells.of_yields (yieldsIf_load_mid (by rfl) 102 (.tmp 11) rfl M 0 rfl (ly L H) _ (fun v h => (CT.m h).whole) Tryz.underlying102 rfl (by kernel_rfl))) ?_
            (try simp only [Act.put]); (try simp only [List.setIfInBounds_toArray]); (repeat (first | simp only [List.set_cons_succ] | simp only [List.set_cons_zero]))
            refine wpS_take (i := 15) (v := ?v15k3) (show _ = some _ by simp only [List.getElem?_toArray, List.getElem?_cons_succ, List.getElem?_cons_zero]; exact rfl) (by kernel_rfl) (by kernel_rfl) (by kernel_rfl) (by kernel_rfl) (by exact fun _ _ _ h => h) (Tells.of_yields (Or.inl ⟨by rfl, ?hy15k3⟩)) ?r15k3
            case hy15k3 => (intro w hSw; (try dsimp only at hSw); go_simp; try with_reducible rfl)
            (try simp only [Act.put]); (try simp only [List.setIfInBounds_toArray]); (repeat (first | simp only [List.set_cons_succ] | simp only [List.set_cons_zero]))
            refine wpS_take (i := 16) (v := (.agg (sb hd).toArray)) (show _ = some _ by simp only [List.getElem?_toArray, List.getElem?_cons_succ, List.getElem?_cons_zero]; exact rfl) (by kernel_rfl) (by kernel_rfl) (by kernel_rfl) (by kernel_rfl) (by exact fun _ _ _ h => h) (Tells.of_wp (by rfl) (t := 42) rfl (by kernel_rfl) ?hc16k3) ?r16k3
            case hc16k3 =>
              intro u hSu
              (try dsimp only at hSu)
              go_simp
              go_at_call 92; refine (hc _ hSu.c.tabs).mono ?_; rintro e u2 ⟨rfl, kb⟩
              exact ⟨rfl, hSu.next kb⟩
            (try simp only [Act.put]); (try simp only [List.setIfInBounds_toArray]); (repeat (first | simp only [List.set_cons_succ] | simp only [List.set_cons_zero]))
            refine wpS_take (i := 17) (v := ?v17k3) (show _ = some _ by simp only [List.getElem?_toArray, List.getElem?_cons_succ, List.getElem?_cons_zero]; exact rfl) (by kernel_rfl) (by kernel_rfl) (by kernel_rfl) (by kernel_rfl) (by exact fun _ _ _ h => h) (Tells.of_yields (Or.inl ⟨by rfl, ?hy17k3⟩)) ?r17k3
            case hy17k3 => (intro w hSw; (try dsimp only at hSw); go_simp; try with_reducible rfl)
            (try simp only [Act.put]); (try simp only [List.setIfInBounds_toArray]); (repeat (first | simp only [List.set_cons_succ] | simp only [List.set_cons_zero]))
            refine wpS_take (i := 18) (v := ?v18k3) (show _ = some _ by simp only [List.getElem?_toArray, List.getElem?_cons_succ, List.getElem?_cons_zero]; exact rfl) (by kernel_rfl) (by kernel_rfl) (by kernel_rfl) (by kernel_rfl) (by exact fun _ _ _ h => h) (Tells.of_yields (Or.inl ⟨by rfl, ?hy18k3⟩)) ?r18k3
            case hy18k3 => (intro w hSw; (try dsimp only at hSw); go_simp; try with_reducible rfl)
            (try simp only [Act.put]); (try simp only [List.setIfInBounds_toArray]); (repeat (first | simp only [List.set_cons_succ] | simp only [List.set_cons_zero]))
            refine wpS_done (by kernel_rfl) ?_
            intro u hSu
            have hr := hSu.c.r
            have hm := hSu.m
            go_wp2_with (first
              | (refine wpList_load_mid rfl 102 _ rfl M 0 rfl (ly L H) _ hm.whole Tryz.underlying102 rfl (by kernel_rfl) ?_)
              | (refine store_ly rfl _ _ rfl (b + 1) 0 0 L H hr rfl rfl ?_; intro hA2))
            refine bodyPost_ret (ret79b rfl _ _ (b + 1) L H rfl hA2) rfl ⟨?_, ?_⟩
            · have h1 := HL.out
              have h2 := HG.out
              have h3 := HN.out
              rw [HR.out, cR_yes hyes, ← h1, ← h2, show n - 2 - L = H by omega]; rfl
            · have hbl := hSu.c.below
              have hbz := HB.out
              rw [hbz] at hbl ⊢
              exact hbl.trans (Fr.below (X := fun k => k = w.heap.size + 1) ((Fr.refl _ _).setRow _ _ (.inl rfl)) (fun k e => by omega) hbl.size)
          · have hde : decide (s = hd) = false := decide_eq_false he
            have hno := HNO.out he
            clear he
            refine wp_region_s (fun v => CT w v b s M L H) 19 (by kernel_rfl) hS3.drew ?_
            refine wpS_take (i := 0) (v := ?v0k4) (show _ = some _ by simp only [List.getElem?_toArray, List.getElem?_cons_zero]; exact rfl) (by kernel_rfl) (by kernel_rfl) (by kernel_rfl) (by kernel_rfl) (by exact fun _ _ _ h => h) (Tells.of_yields (Or.inl ⟨by rfl, ?hy0k4⟩)) ?r0k4
            case hy0k4 => (intro w hSw; (try dsimp only at hSw); go_simp; try with_reducible rfl)
            (try simp only [Act.put]); (try simp only [List.setIfInBounds_toArray]); (repeat (first | simp only [List.set_cons_succ] | simp only [List.set_cons_zero]))
            refine wpS_take (i := 1) (v := ?v1k4) (show _ = some _ by simp only [List.getElem?_toArray, List.getElem?_cons_succ, List.getElem?_cons_zero]; exact rfl) (by kernel_rfl) (by kernel_rfl) (by kernel_rfl) (by kernel_rfl) (by exact fun _ _ _ h => h) (Tells.of_yields (Or.inl ⟨by rfl, ?hy1k4⟩)) ?r1k4
            case hy1k4 => (intro w hSw; (try dsimp only at hSw); go_simp; try with_reducible rfl)
            (try simp only [Act.put]); (try simp only [List.setIfInBounds_toArray]); (repeat (first | simp only [List.set_cons_succ] | simp only [List.set_cons_zero]))
            refine wpS_take (i := 2) (v := ?v2k4) (show _ = some _ by simp only [List.getElem?_toArray, List.getElem?_cons_succ, List.getElem?_cons_zero]; exact rfl) (by kernel_rfl) (by kernel_rfl) (by kernel_rfl) (by kernel_rfl) (by exact fun _ _ _ h => h) (Tells.of_yields (Or.inl ⟨by rfl, ?hy2k4⟩)) ?r2k4
            case hy2k4 => (intro w hSw; (try dsimp only at hSw); go_simp; try with_reducible rfl)
            (try simp only [Act.put]); (try simp only [List.setIfInBounds_toArray]); (repeat (first | simp only [List.set_cons_succ] | simp only [List.set_cons_zero]))
            refine wpS_take (i := 3) (v := ?v3k4) (show _ = some _ by simp only [List.getElem?_toArray, List.getElem?_cons_succ, List.getElem?_cons_zero]; exact rfl) (by kernel_rfl) (by kernel_rfl) (by kernel_rfl) (by kernel_rfl) (by exact fun _ _ _ h => h) (Tells.of_yields (Or.inl ⟨by rfl, ?hy3k4⟩)) ?r3k4
            case hy3k4 => (intro w hSw; (try dsimp only at hSw); go_simp; try with_reducible rfl)
            (try simp only [Act.put]); (try simp only [List.setIfInBounds_toArray]); (repeat (first | simp only [List.set_cons_succ] | simp only [List.set_cons_zero]))
            refine wpS_take (i := 4) (v := ?v4k4) (show _ = some _ by simp only [List.getElem?_toArray, List.getElem?_cons_succ, List.getElem?_cons_zero]; exact rfl) (by kernel_rfl) (by kernel_rfl) (by kernel_rfl) (by kernel_rfl) (by exact fun _ _ _ h => h) (Tells.of_yields (Or.inl ⟨by rfl, ?hy4k4⟩)) ?r4k4
            case hy4k4 => (intro w hSw; (try dsimp only at hSw); go_simp; try with_reducible rfl)
            (try simp only [Act.put]); (try simp only [List.setIfInBounds_toArray]); (repeat (first | simp only [List.set_cons_succ] | simp only [List.set_cons_zero]))
            refine wpS_take (i := 5) (v := ?v5k4) (show _ = some _ by simp only [List.getElem?_toArray, List.getElem?_cons_succ, List.getElem?_cons_zero]; exact rfl) (by kernel_rfl) (by kernel_rfl) (by kernel_rfl) (by kernel_rfl) (by exact fun _ _ _ h => h) (Tells.of_yields (Or.inl ⟨by rfl, ?hy5k4⟩)) ?r5k4
            case hy5k4 => (intro w hSw; (try dsimp only at hSw); go_simp; try with_reducible rfl)
            (try simp only [Act.put]); (try simp only [List.setIfInBounds_toArray]); (repeat (first | simp only [List.set_cons_succ] | simp only [List.set_cons_zero]))
            refine wpS_take (i := 6) (v := ?v6k4) (show _ = some _ by simp only [List.getElem?_toArray, List.getElem?_cons_succ, List.getElem?_cons_zero]; exact rfl) (by kernel_rfl) (by kernel_rfl) (by kernel_rfl) (by kernel_rfl) (by exact fun _ _ _ h => h) (Tells.of_yields (Or.inl ⟨by rfl, ?hy6k4⟩)) ?r6k4
            case hy6k4 => (intro w hSw; (try dsimp only at hSw); go_simp; try with_reducible rfl)
            (try simp only [Act.put]); (try simp only [List.setIfInBounds_toArray]); (repeat (first | simp only [List.set_cons_succ] | simp only [List.set_cons_zero]))
            refine wpS_take (i := 7) (v := ?v7k4) (show _ = some _ by simp only [List.getElem?_toArray, List.getElem?_cons_succ, List.getElem?_cons_zero]; exact rfl) (by kernel_rfl) (by kernel_rfl) (by kernel_rfl) (by kernel_rfl) (by exact fun _ _ _ h => h) (Tells.of_yields (Or.inl ⟨by rfl, ?hy7k4⟩)) ?r7k4
            case hy7k4 => (intro w hSw; (try dsimp only at hSw); go_simp; try with_reducible rfl)
            (try simp only [Act.put]); (try simp only [List.setIfInBounds_toArray]); (repeat (first | simp only [List.set_cons_succ] | simp only [List.set_cons_zero]))
            refine wpS_take (i := 8) (v := (.int .i64 (i : Int))) (show _ = some _ by simp only [List.getElem?_toArray, List.getElem?_cons_succ, List.getElem?_cons_zero]; exact rfl) (by kernel_rfl) (by kernel_rfl) (by kernel_rfl) (by kernel_rfl) (by exact fun _ _ _ h => h) (Tells.of_wp (by rfl) (t := 34) rfl (by kernel_rfl) ?hc8k4) ?r8k4
            case hc8k4 =>
              intro u hSu
              (try dsimp only at hSu)
              go_simp
              go_at_call 91; refine (hpl _).mono ?_; rintro e u2 ⟨rfl, rfl⟩
              exact ⟨rfl, hSu⟩
            (try simp only [Act.put]); (try simp only [List.setIfInBounds_toArray]); (repeat (first | simp only [List.set_cons_succ] | simp only [List.set_cons_zero]))
            refine wpS_take (i := 9) (v := ?v9k4) (show _ = some _ by simp only [List.getElem?_toArray, List.getElem?_cons_succ, List.getElem?_cons_zero]; exact rfl) (by kernel_rfl) (by kernel_rfl) (by kernel_rfl) (by kernel_rfl) (by exact fun _ _ _ h => h) (Tells.of_yields (Or.inl ⟨by rfl, ?hy9k4⟩)) ?r9k4
            case hy9k4 => (intro w hSw; (try dsimp only at hSw); go_simp; try with_reducible rfl)
            (try simp only [Act.put]); (try simp only [List.setIfInBounds_toArray]); (repeat (first | simp only [List.set_cons_succ] | simp only [List.set_cons_zero]))
            refine wpS_take (i := 10) (v := ?v10k4) (show _ = some _ by simp only [List.getElem?_toArray, List.getElem?_cons_succ, List.getElem?_cons_zero]; exact rfl) (by kernel_rfl) (by kernel_rfl) (by kernel_rfl) (by kernel_rfl) (by exact fun _ _ _ h => h) (Tells.of_yields (Or.inl ⟨by rfl, ?hy10k4⟩)) ?r10k4
            case hy10k4 => (intro w hSw; (try dsimp only at hSw); go_simp; try with_reducible rfl)
            (try simp only [Act.put]); (try simp only [List.setIfInBounds_toArray]); (repeat (first | simp only [List.set_cons_succ] | simp only [List.set_cons_zero]))
            refine wpS_take (i := 11) (v := ?v11k4) (show _ = some _ by simp only [List.getElem?_toArray, List.getElem?_cons_succ, List.getElem?_cons_zero]; exact rfl) (by kernel_rfl) (by kernel_rfl) (by kernel_rfl) (by kernel_rfl) (by exact fun _ _ _ h => h) (Tells.of_yields (Or.inl ⟨by rfl, ?hy11k4⟩)) ?r11k4
            case hy11k4 => (intro w hSw; (try dsimp only at hSw); go_simp; try with_reducible rfl)
            (try simp only [Act.put]); (try simp only [List.setIfInBounds_toArray]); (repeat (first | simp only [List.set_cons_succ] | simp only [List.set_cons_zero]))
            refine wpS_take (i := 12) (v := ?v12k4) (show _ = some _ by simp only [List.getElem?_toArray, List.getElem?_cons_succ, List.getElem?_cons_zero]; exact rfl) (by kernel_rfl) (by kernel_rfl) (by kernel_rfl) (by kernel_rfl) (by exact fun _ _ _ h => h) (Tells.of_yields (Or.inl ⟨by rfl, ?hy12k4⟩)) ?r12k4
            case hy12k4 => (intro w hSw; (try dsimp only at hSw); go_simp; try with_reducible rfl)
            (try simp only [Act.put]); (try simp only [List.setIfInBounds_toArray]); (repeat (first | simp only [List.set_cons_succ] | simp only [List.set_cons_zero]))
            refine wpS_take (i := 13) (show _ = some _ by simp only [List.getElem?_toArray, List.getElem?_cons_succ, List.getElem?_cons_zero]; exact rfl) (by kernel_rfl) (by kernel_rfl) (by kernel_rfl) (by kernel_rfl) (by exact fun _ _ _ h => h) (Tells.of_yields (yieldsIf_load_mid (by rfl) 26 (.tmp 3) rfl b 0 rfl (sb s) _ (fun v h => (CT.c h).s.whole) Tryz.underlying26 rfl (by rw [sb_length]; kernel_rfl))) ?_
            (try simp only [Act.put]); (try simp only [List.setIfInBounds_toArray]); (repeat (first | simp only [List.set_cons_succ] | simp only [List.set_cons_zero]))
            refine wpS_take (i := 14) (show _ = some _ by simp only [List.getElem?_toArray, List.getElem?_cons_succ, List.getElem?_cons_zero]; exact rfl) (by kernel_rfl) (by kernel_rfl) (by kernel_rfl) (by kernel_rfl) (by exact fun _ _ _ h => h) (Tells.of_yields (yieldsIf_load_mid (by rfl) 102 (.tmp 11) rfl M 0 rfl (ly L H) _ (fun v h => (CT.m h).whole) Tryz.underlying102 rfl (by kernel_rfl))) ?_
            (try simp only [Act.put]); (try simp only [List.setIfInBounds_toArray]); (repeat (first | simp only [List.set_cons_succ] | simp only [List.set_cons_zero]))
            refine wpS_take (i := 15) (v := ?v15k4) (show _ = some _ by simp only [List.getElem?_toArray, List.getElem?_cons_succ, List.getElem?_cons_zero]; exact rfl) (by kernel_rfl) (by kernel_rfl) (by kernel_rfl) (by kernel_rfl) (by exact fun _ _ _ h => h) (Tells.of_yields (Or.inl ⟨by rfl, ?hy15k4⟩)) ?r15k4
            case hy15k4 => (intro w hSw; (try dsimp only at hSw); go_simp; try with_reducible rfl)
            (try simp only [Act.put]); (try simp only [List.setIfInBounds_toArray]); (repeat (first | simp only [List.set_cons_succ] | simp only [List.set_cons_zero]))
            refine wpS_take (i := 16) (v := (.agg (sb hd).toArray)) (show _ = some _ by simp only [List.getElem?_toArray, List.getElem?_cons_succ, List.getElem?_cons_zero]; exact rfl) (by kernel_rfl) (by kernel_rfl) (by kernel_rfl) (by kernel_rfl) (by exact fun _ _ _ h => h) (Tells.of_wp (by rfl) (t := 42) rfl (by kernel_rfl) ?hc16k4) ?r16k4
            case hc16k4 =>
              intro u hSu
              (try dsimp only at hSu)
              go_simp
              go_at_call 92; refine (hc _ hSu.c.tabs).mono ?_; rintro e u2 ⟨rfl, kb⟩
              exact ⟨rfl, hSu.next kb⟩
            (try simp only [Act.put]); (try simp only [List.setIfInBounds_toArray]); (repeat (first | simp only [List.set_cons_succ] | simp only [List.set_cons_zero]))
            refine wpS_take (i := 17) (v := ?v17k4) (show _ = some _ by simp only [List.getElem?_toArray, List.getElem?_cons_succ, List.getElem?_cons_zero]; exact rfl) (by kernel_rfl) (by kernel_rfl) (by kernel_rfl) (by kernel_rfl) (by exact fun _ _ _ h => h) (Tells.of_yields (Or.inl ⟨by rfl, ?hy17k4⟩)) ?r17k4
            case hy17k4 => (intro w hSw; (try dsimp only at hSw); go_simp; try with_reducible rfl)
            (try simp only [Act.put]); (try simp only [List.setIfInBounds_toArray]); (repeat (first | simp only [List.set_cons_succ] | simp only [List.set_cons_zero]))
            refine wpS_take (i := 18) (v := ?v18k4) (show _ = some _ by simp only [List.getElem?_toArray, List.getElem?_cons_succ, List.getElem?_cons_zero]; exact rfl) (by kernel_rfl) (by kernel_rfl) (by kernel_rfl) (by kernel_rfl) (by exact fun _ _ _ h => h) (Tells.of_yields (Or.inl ⟨by rfl, ?hy18k4⟩)) ?r18k4
            case hy18k4 => (intro w hSw; (try dsimp only at hSw); go_simp; try with_reducible rfl)
            (try simp only [Act.put]); (try simp only [List.setIfInBounds_toArray]); (repeat (first | simp only [List.set_cons_succ] | simp only [List.set_cons_zero]))
            refine wpS_done (by kernel_rfl) ?_
            intro u hSu
            have hr := hSu.c.r
            go_wp2_with (refine store_ly rfl _ _ rfl (b + 1) 0 0 0 0 hr rfl rfl ?_; intro hA2)
            refine bodyPost_ret (ret79b rfl _ _ (b + 1) 0 0 rfl hA2) rfl ⟨?_, ?_⟩
            · rw [HR.out, cR_no hno]; rfl
            · have hbl := hSu.c.below
              have hbz := HB.out
              rw [hbz] at hbl ⊢
              exact hbl.trans (Fr.below (X := fun k => k = w.heap.size + 1) ((Fr.refl _ _).setRow _ _ (.inl rfl)) (fun k e => by omega) hbl.size)
        · have hno : ¬ hdOK s i n := by
            intro h
            have h1 := HG.out
            exact hpi (by have := h.2.2.2.2.1; omega)
          have hg0 : ((gn : Int) == 0) = false := by simp [h0]
          have hne : (((gn % 2 : Nat) : Int) == (i : Int)) = false := by simp; omega
          have hne2 : (((gn % 2 : Nat) : Int) != (i : Int)) = true := by simp; omega
          obtain ⟨j, hj⟩ : ∃ j, j = gn % 2 := ⟨_, rfl⟩
          have hpl := fun W => headPlace_any gn hgl W
          rw [← hj] at hne hne2 hpl
          clear h0 hpi hj
          refine wp_region_s (fun v => CT w v b s M L H) 19 (by kernel_rfl) hS3.drew ?_
          refine wpS_take (i := 0) (v := ?v0k5) (show _ = some _ by simp only [List.getElem?_toArray, List.getElem?_cons_zero]; exact rfl) (by kernel_rfl) (by kernel_rfl) (by kernel_rfl) (by kernel_rfl) (by exact fun _ _ _ h => h) (Tells.of_yields (Or.inl ⟨by rfl, ?hy0k5⟩)) ?r0k5
          case hy0k5 => (intro w hSw; (try dsimp only at hSw); go_simp; try with_reducible rfl)
          (try simp only [Act.put]); (try simp only [List.setIfInBounds_toArray]); (repeat (first | simp only [List.set_cons_succ] | simp only [List.set_cons_zero]))
          refine wpS_take (i := 1) (v := ?v1k5) (show _ = some _ by simp only [List.getElem?_toArray, List.getElem?_cons_succ, List.getElem?_cons_zero]; exact rfl) (by kernel_rfl) (by kernel_rfl) (by kernel_rfl) (by kernel_rfl) (by exact fun _ _ _ h => h) (Tells.of_yields (Or.inl ⟨by rfl, ?hy1k5⟩)) ?r1k5
          case hy1k5 => (intro w hSw; (try dsimp only at hSw); go_simp; try with_reducible rfl)
          (try simp only [Act.put]); (try simp only [List.setIfInBounds_toArray]); (repeat (first | simp only [List.set_cons_succ] | simp only [List.set_cons_zero]))
          refine wpS_take (i := 2) (v := ?v2k5) (show _ = some _ by simp only [List.getElem?_toArray, List.getElem?_cons_succ, List.getElem?_cons_zero]; exact rfl) (by kernel_rfl) (by kernel_rfl) (by kernel_rfl) (by kernel_rfl) (by exact fun _ _ _ h => h) (Tells.of_yields (Or.inl ⟨by rfl, ?hy2k5⟩)) ?r2k5
          case hy2k5 => (intro w hSw; (try dsimp only at hSw); go_simp; try with_reducible rfl)
          (try simp only [Act.put]); (try simp only [List.setIfInBounds_toArray]); (repeat (first | simp only [List.set_cons_succ] | simp only [List.set_cons_zero]))
          refine wpS_take (i := 3) (v := ?v3k5) (show _ = some _ by simp only [List.getElem?_toArray, List.getElem?_cons_succ, List.getElem?_cons_zero]; exact rfl) (by kernel_rfl) (by kernel_rfl) (by kernel_rfl) (by kernel_rfl) (by exact fun _ _ _ h => h) (Tells.of_yields (Or.inl ⟨by rfl, ?hy3k5⟩)) ?r3k5
          case hy3k5 => (intro w hSw; (try dsimp only at hSw); go_simp; try with_reducible rfl)
          (try simp only [Act.put]); (try simp only [List.setIfInBounds_toArray]); (repeat (first | simp only [List.set_cons_succ] | simp only [List.set_cons_zero]))
          refine wpS_take (i := 4) (v := ?v4k5) (show _ = some _ by simp only [List.getElem?_toArray, List.getElem?_cons_succ, List.getElem?_cons_zero]; exact rfl) (by kernel_rfl) (by kernel_rfl) (by kernel_rfl) (by kernel_rfl) (by exact fun _ _ _ h => h) (Tells.of_yields (Or.inl ⟨by rfl, ?hy4k5⟩)) ?r4k5
          case hy4k5 => (intro w hSw; (try dsimp only at hSw); go_simp; try with_reducible rfl)
          (try simp only [Act.put]); (try simp only [List.setIfInBounds_toArray]); (repeat (first | simp only [List.set_cons_succ] | simp only [List.set_cons_zero]))
          refine wpS_take (i := 5) (v := ?v5k5) (show _ = some _ by simp only [List.getElem?_toArray, List.getElem?_cons_succ, List.getElem?_cons_zero]; exact rfl) (by kernel_rfl) (by kernel_rfl) (by kernel_rfl) (by kernel_rfl) (by exact fun _ _ _ h => h) (Tells.of_yields (Or.inl ⟨by rfl, ?hy5k5⟩)) ?r5k5
          case hy5k5 => (intro w hSw; (try dsimp only at hSw); go_simp; try with_reducible rfl)
          (try simp only [Act.put]); (try simp only [List.setIfInBounds_toArray]); (repeat (first | simp only [List.set_cons_succ] | simp only [List.set_cons_zero]))
          refine wpS_take (i := 6) (v := ?v6k5) (show _ = some _ by simp only [List.getElem?_toArray, List.getElem?_cons_succ, List.getElem?_cons_zero]; exact rfl) (by kernel_rfl) (by kernel_rfl) (by kernel_rfl) (by kernel_rfl) (by exact fun _ _ _ h => h) (Tells.of_yields (Or.inl ⟨by rfl, ?hy6k5⟩)) ?r6k5
          case hy6k5 => (intro w hSw; (try dsimp only at hSw); go_simp; try with_reducible rfl)
          (try simp only [Act.put]); (try simp only [List.setIfInBounds_toArray]); (repeat (first | simp only [List.set_cons_succ] | simp only [List.set_cons_zero]))
          refine wpS_take (i := 7) (v := ?v7k5) (show _ = some _ by simp only [List.getElem?_toArray, List.getElem?_cons_succ, List.getElem?_cons_zero]; exact rfl) (by kernel_rfl) (by kernel_rfl) (by kernel_rfl) (by kernel_rfl) (by exact fun _ _ _ h => h) (Tells.of_yields (Or.inl ⟨by rfl, ?hy7k5⟩)) ?r7k5
          case hy7k5 => (intro w hSw; (try dsimp only at hSw); go_simp; try with_reducible rfl)
          (try simp only [Act.put]); (try simp only [List.setIfInBounds_toArray]); (repeat (first | simp only [List.set_cons_succ] | simp only [List.set_cons_zero]))
          refine wpS_take (i := 8) (v := (.int .i64 (j : Int))) (show _ = some _ by simp only [List.getElem?_toArray, List.getElem?_cons_succ, List.getElem?_cons_zero]; exact rfl) (by kernel_rfl) (by kernel_rfl) (by kernel_rfl) (by kernel_rfl) (by exact fun _ _ _ h => h) (Tells.of_wp (by rfl) (t := 34) rfl (by kernel_rfl) ?hc8k5) ?r8k5
          case hc8k5 =>
            intro u hSu
            (try dsimp only at hSu)
            go_simp
            go_at_call 91; refine (hpl _).mono ?_; rintro e u2 ⟨rfl, rfl⟩
            exact ⟨rfl, hSu⟩
          (try simp only [Act.put]); (try simp only [List.setIfInBounds_toArray]); (repeat (first | simp only [List.set_cons_succ] | simp only [List.set_cons_zero]))
          refine wpS_take (i := 9) (v := ?v9k5) (show _ = some _ by simp only [List.getElem?_toArray, List.getElem?_cons_succ, List.getElem?_cons_zero]; exact rfl) (by kernel_rfl) (by kernel_rfl) (by kernel_rfl) (by kernel_rfl) (by exact fun _ _ _ h => h) (Tells.of_yields (Or.inl ⟨by rfl, ?hy9k5⟩)) ?r9k5
          case hy9k5 => (intro w hSw; (try dsimp only at hSw); go_simp; try with_reducible rfl)
          (try simp only [Act.put]); (try simp only [List.setIfInBounds_toArray]); (repeat (first | simp only [List.set_cons_succ] | simp only [List.set_cons_zero]))
          refine wpS_take (i := 10) (v := ?v10k5) (show _ = some _ by simp only [List.getElem?_toArray, List.getElem?_cons_succ, List.getElem?_cons_zero]; exact rfl) (by kernel_rfl) (by kernel_rfl) (by kernel_rfl) (by kernel_rfl) (by exact fun _ _ _ h => h) (Tells.of_yields (Or.inl ⟨by rfl, ?hy10k5⟩)) ?r10k5
          case hy10k5 => (intro w hSw; (try dsimp only at hSw); go_simp; try with_reducible rfl)
          (try simp only [Act.put]); (try simp only [List.setIfInBounds_toArray]); (repeat (first | simp only [List.set_cons_succ] | simp only [List.set_cons_zero]))
          refine wpS_take (i := 11) (v := ?v11k5) (show _ = some _ by simp only [List.getElem?_toArray, List.getElem?_cons_succ, List.getElem?_cons_zero]; exact rfl) (by kernel_rfl) (by kernel_rfl) (by kernel_rfl) (by kernel_rfl) (by exact fun _ _ _ h => h) (Tells.of_yields (Or.inl ⟨by rfl, ?hy11k5⟩)) ?r11k5
          case hy11k5 => (intro w hSw; (try dsimp only at hSw); go_simp; try with_reducible rfl)
          (try simp only [Act.put]); (try simp only [List.setIfInBounds_toArray]); (repeat (first | simp only [List.set_cons_succ] | simp only [List.set_cons_zero]))
          refine wpS_take (i := 12) (v := ?v12k5) (show _ = some _ by simp only [List.getElem?_toArray, List.getElem?_cons_succ, List.getElem?_cons_zero]; exact rfl) (by kernel_rfl) (by kernel_rfl) (by kernel_rfl) (by kernel_rfl) (by exact fun _ _ _ h => h) (Tells.of_yields (Or.inl ⟨by rfl, ?hy12k5⟩)) ?r12k5
          case hy12k5 => (intro w hSw; (try dsimp only at hSw); go_simp; try with_reducible rfl)
          (try simp only [Act.put]); (try simp only [List.setIfInBounds_toArray]); (repeat (first | simp only [List.set_cons_succ] | simp only [List.set_cons_zero]))
          refine wpS_take (i := 13) (v := undef) (show _ = some _ by simp only [List.getElem?_toArray, List.getElem?_cons_succ, List.getElem?_cons_zero]; exact rfl) (by kernel_rfl) (by kernel_rfl) (by kernel_rfl) (by kernel_rfl) (by exact fun _ _ _ h => h) (Tells.of_yields (Or.inr ⟨by rfl, rfl⟩)) ?_
          (try simp only [Act.put]); (try simp only [List.setIfInBounds_toArray]); (repeat (first | simp only [List.set_cons_succ] | simp only [List.set_cons_zero]))
          refine wpS_take (i := 14) (v := undef) (show _ = some _ by simp only [List.getElem?_toArray, List.getElem?_cons_succ, List.getElem?_cons_zero]; exact rfl) (by kernel_rfl) (by kernel_rfl) (by kernel_rfl) (by kernel_rfl) (by exact fun _ _ _ h => h) (Tells.of_yields (Or.inr ⟨by rfl, rfl⟩)) ?_
          (try simp only [Act.put]); (try simp only [List.setIfInBounds_toArray]); (repeat (first | simp only [List.set_cons_succ] | simp only [List.set_cons_zero]))
          refine wpS_take (i := 15) (v := undef) (show _ = some _ by simp only [List.getElem?_toArray, List.getElem?_cons_succ, List.getElem?_cons_zero]; exact rfl) (by kernel_rfl) (by kernel_rfl) (by kernel_rfl) (by kernel_rfl) (by exact fun _ _ _ h => h) (Tells.of_yields (Or.inr ⟨by rfl, rfl⟩)) ?_
          (try simp only [Act.put]); (try simp only [List.setIfInBounds_toArray]); (repeat (first | simp only [List.set_cons_succ] | simp only [List.set_cons_zero]))
          refine wpS_take (i := 16) (v := undef) (show _ = some _ by simp only [List.getElem?_toArray, List.getElem?_cons_succ, List.getElem?_cons_zero]; exact rfl) (by kernel_rfl) (by kernel_rfl) (by kernel_rfl) (by kernel_rfl) (by exact fun _ _ _ h => h) (Tells.of_yields (Or.inr ⟨by rfl, rfl⟩)) ?_
          (try simp only [Act.put]); (try simp only [List.setIfInBounds_toArray]); (repeat (first | simp only [List.set_cons_succ] | simp only [List.set_cons_zero]))
          refine wpS_take (i := 17) (v := undef) (show _ = some _ by simp only [List.getElem?_toArray, List.getElem?_cons_succ, List.getElem?_cons_zero]; exact rfl) (by kernel_rfl) (by kernel_rfl) (by kernel_rfl) (by kernel_rfl) (by exact fun _ _ _ h => h) (Tells.of_yields (Or.inr ⟨by rfl, rfl⟩)) ?_
          (try simp only [Act.put]); (try simp only [List.setIfInBounds_toArray]); (repeat (first | simp only [List.set_cons_succ] | simp only [List.set_cons_zero]))
          refine wpS_take (i := 18) (v := ?v18k5) (show _ = some _ by simp only [List.getElem?_toArray, List.getElem?_cons_succ, List.getElem?_cons_zero]; exact rfl) (by kernel_rfl) (by kernel_rfl) (by kernel_rfl) (by kernel_rfl) (by exact fun _ _ _ h => h) (Tells.of_yields (Or.inl ⟨by rfl, ?hy18k5⟩)) ?r18k5
          case hy18k5 => (intro w hSw; (try dsimp only at hSw); go_simp; try with_reducible rfl)
          (try simp only [Act.put]); (try simp only [List.setIfInBounds_toArray]); (repeat (first | simp only [List.set_cons_succ] | simp only [List.set_cons_zero]))
          refine wpS_done (by kernel_rfl) ?_
          intro u hSu
          have hr := hSu.c.r
          go_wp2_with (refine store_ly rfl _ _ rfl (b + 1) 0 0 0 0 hr rfl rfl ?_; intro hA2)
          refine bodyPost_ret (ret79b rfl _ _ (b + 1) 0 0 rfl hA2) rfl ⟨?_, ?_⟩
          · rw [HR.out, cR_no hno]; rfl
          · have hbl := hSu.c.below
            have hbz := HB.out
            rw [hbz] at hbl ⊢
            exact hbl.trans (Fr.below (X := fun k => k = w.heap.size + 1) ((Fr.refl _ _).setRow _ _ (.inl rfl)) (fun k e => by omega) hbl.size)
end Go.Proofs.YtndfhmlcfaaaiaaGreatDoor
