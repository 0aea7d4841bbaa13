/- Disks that are loaded. -/
import Derived.Test.YteimfnnkjhopdaaDoesB
import Derived.Great.BuildSlice
namespace Go.Proofs.Yteimfnnkjhopdaa
open Go.RowKit

section
variable {w : World} {ops : Array Oper} {rest : List Oper} {o : Oper} {a : Act} {Q : Exit → Act → World → Prop}
/-- A row of one sector. -/
theorem build_sec (hg : o.guard = none) (x : Operand) (ho : o.op = .buildSlice 37 1 #[(0, x)]) (s : Sec) (hx : a.eval x = .agg (sb s).toArray)
    (h : wpList Try.prog ops Q rest (a.put o.dst (.slice (some ⟨w.heap.size, 0, none⟩) 1 1)) (w.alloc (.cells (sb s).toArray 39))) : wpList Try.prog ops Q (o :: rest) a w := by
  obtain ⟨i0, hi, hz0, hz1, hz2⟩ := info_parts info39
  refine wpList_buildSlice hg 37 39 1 _ ho (sb s).toArray i0 (sv zs) Try.underlying37 hi hz0 (by rw [hz1]; omega) (by rw [hz1]; omega) ?_ h
  rw [show ((#[(0, x)] : Array (Nat × Operand)).map fun (i, x) => (i, a.eval x)).toList = [(0, a.eval x)] by simp, hx, hz1]
  have := Great.fill_whole (s := 512) (by omega) [.agg (sb s).toArray] ((Array.range (1 * 512)).map ((sv zs).cells[· % (sv zs).cells.size]!)) (by
    intro v hv
    simp only [List.mem_singleton] at hv
    subst hv
    show (sb s).toArray.size = 512
    rw [List.size_toArray, sb_length]) (by simp)
  rw [show ((([.agg (sb s).toArray] : List Value).zipIdx 0).map fun x => (x.2, x.1)) = [(0, .agg (sb s).toArray)] from rfl] at this
  rw [this]
  simp [Value.cells]
/-- 'append(l, s)', l a row of sectors of the call's own. -/
theorem push_sec (hg : o.guard = none) (s x : Operand) (ho : o.op = .call { callee := .builtin .append, args := #[s, x], argTypes := #[37, 37] }) (base : Nat) (v : Value) (n : Nat) (F : Nat → Sec) (hv : a.eval s = v) (hown : w.ownsRow base 39 512 v n (flat n F))
    (g : Nat) (S : Sec) (hx : a.eval x = .slice (some ⟨g, 0, none⟩) 1 1) (hc : Blk w g 39 (sb S)) (hbig : n ≤ 100000) (hbase : base ≤ w.heap.size) (hF : F n = S)
    (h : ∀ v' w', w'.ownsRow base 39 512 v' (n + 1) (flat (n + 1) F) → w.grownBy w' v.ownBlock → wpList Try.prog ops Q rest (a.put o.dst v') w') : wpList Try.prog ops Q (o :: rest) a w := by
  obtain ⟨i0, hi, hz0, hz1, hz2⟩ := info_parts info39
  refine wpList_append_own w hg s x 37 ho base 39 i0 (sv zs) 512 512 Try.underlying37 hi hz0 hz1 hz2 (by show (sb zs).toArray.size = 512; rw [List.size_toArray, sb_length]) (by decide) v n (flat n F) hv hown ⟨g, 0, none⟩ 1 1 (sb S) hx (by rw [sb_length]) (fun j u hj => by rw [add_zero_block]; exact hc.cell j u hj) (sb_one' S) (by unfold maxLen; omega) (by omega) hbase ?_
  intro v' w' h1 h2 _
  refine h v' w' ?_ h2
  rw [flat_succ, hF]
  exact h1
end
theorem load_bad (w : World) (c : Nat) : Calls Try.prog 15 #[.slice none 0 c] w fun e w' => e = .returned (.tuple #[.pointer none, .int .i64 2]) ∧ w = w' := by
  have hm := may_any 0 w
  rw [decide_eq_false (by omega)] at hm
  go_enter Try.func15, Try.ntmps15
  go_wp2_with (go_at_call 31; refine hm.mono ?_; rintro e w' ⟨rfl, rfl⟩)
  go_ret2
  exact ⟨rfl, rfl⟩
/-- A disk was loaded. -/
def Loaded (w w' : World) (r n : Nat) (F : Nat → Sec) : Prop := w.heap.size ≤ r ∧ ∃ f m cap, w.heap.size ≤ f ∧ w.heap.size ≤ m ∧ Lay w' r f m cap (St.start n F) ∧ Below w.heap.size w w'
set_option maxHeartbeats 1000000 in
theorem load_any (w : World) (g n c : Nat) (F : Nat → Sec) (h : Rw w g n F) (h1 : 1 ≤ n) (hn : n ≤ 16384) : Calls Try.prog 15 #[.slice (some ⟨g, 0, none⟩) n c] w fun e w' => ∃ r, e = .returned (.tuple #[.pointer (some ⟨r, 0, none⟩), .int .i64 0]) ∧ Loaded w w' r n F := by
  have hm := may_any n w
  rw [decide_eq_true (show 1 ≤ (n : Int) ∧ (n : Int) ≤ 16384 by omega)] at hm
  go_enter Try.func15, Try.ntmps15
  go_wp2_with fail
  go_at_call 31; refine hm.mono ?_; rintro e w' ⟨rfl, rfl⟩
  go_wp2_with fail
  go_at_call 41; refine (clone_any _ g n c F h h1 hn).mono ?_; rintro e w1 ⟨f, cap, rfl, hf, hR, hB⟩
  go_wp2_with fail
  go_at_call 32; refine (over_any w1 f n cap F hR h1 hn).mono ?_; rintro e w2 ⟨r, m, rfl, hr, hm2, hL, hB2⟩
  go_wp2_with fail
  go_ret2
  have := hB.size
  exact ⟨r, rfl, by omega, f, m, cap, by omega, by omega, hL, hB.trans (hB2.mono this)⟩
theorem rload_bad (w : World) (c : Nat) : Calls Try.prog 16 #[.slice none 0 c] w fun e w' => e = .returned (.tuple #[.pointer none, .int .i64 2]) ∧ w = w' := by
  go_enter Try.func16, Try.ntmps16
  go_wp2_with fail
  go_at_call 11; refine (rnew_bad 0 _ (by omega)).mono ?_; rintro e w' ⟨rfl, rfl⟩
  go_wp2_with fail
  go_loopw [6] (fun v wr => v = .int .i64 0 ∧ wr = w) (fun _ _ => 0)
  case atStart => exact ⟨rfl, rfl⟩
  case round =>
    obtain ⟨rfl, rfl⟩ := hrel
    go_wp2_with fail
    go_ret2
    exact ⟨rfl, rfl⟩
/-- The document's disk was loaded. -/
def RLoaded (w w' : World) (r n : Nat) (F : Nat → Sec) : Prop := w.heap.size ≤ r ∧ ∃ a b h, w.heap.size ≤ a ∧ w.heap.size ≤ b ∧ w.heap.size ≤ h ∧ RLay w' r a b h (St.start n F) ∧ Below w.heap.size w w'
theorem rlay_mix {w : World} {r a b h n : Nat} {F : Nat → Sec} (L : RLay w r a b h (St.start n (mix F n))) : RLay w r a b h (St.start n F) :=
  ⟨L.blk, L.row.congr (fun i hi => by
    have hi' : i < n := hi
    show (if i < n then F i else zs) = F i
    rw [if_pos hi']), L.wts, L.has, L.ab, L.one, L.top, L.low, L.arm⟩
set_option maxRecDepth 100000 in
set_option maxHeartbeats 2000000 in
theorem rload_any (w : World) (g n c : Nat) (F : Nat → Sec) (hG : Rw w g n F) (h1 : 1 ≤ n) (hn : n ≤ 16384) : Calls Try.prog 16 #[.slice (some ⟨g, 0, none⟩) n c] w fun e w' => ∃ r, e = .returned (.tuple #[.pointer (some ⟨r, 0, none⟩), .int .i64 0]) ∧ RLoaded w w' r n F := by
  go_enter Try.func16, Try.ntmps16
  go_wp2_with fail
  go_at_call 11; refine (rnew_any n w h1 hn).mono ?_; rintro e w1 ⟨q, rfl, hq, x, y, z, hx, hy, hz, hL, hB⟩
  have hgx : ∀ k, rfp q x y z k → w.heap.size ≤ k := by
    rintro k (rfl | rfl | rfl | rfl)
    · exact hq
    · exact hx
    · exact hy
    · exact hz
  have hgn : ¬ rfp q x y z g := fun h => by have := hgx g h; have := hG.lt; omega
  have hG1 : Rw w1 g n F := hG.fr (X := fun _ => False) (Fr.of_below hB (Nat.le_refl _)) (fun h => h)
  have HQ : Hid (w.heap.size ≤ q ∧ w.heap.size ≤ x ∧ w.heap.size ≤ y ∧ w.heap.size ≤ z) := ⟨hq, hx, hy, hz⟩
  have HGX : Hid (∀ k, rfp q x y z k → w.heap.size ≤ k) := hgx
  clear hq hx hy hz hgx hG
  go_wp2_with fail
  go_loopw [6] (fun v wr => ∃ (j : Nat), j ≤ n ∧ v = .int .i64 (j : Int) ∧ RLay wr q x y z (St.start n (mix F j)) ∧ Fr (rfp q x y z) w1 wr) (fun v _ => n - (intOf v).toNat)
  case atStart => exact ⟨0, by omega, rfl, by rw [mix_zero]; exact hL, Fr.refl _ _⟩
  case round =>
    clear hL
    obtain ⟨j, hj, rfl, hL, hF⟩ := hrel
    by_cases hi : j < n
    · have hjI : (j : Int) < n := by omega
      have c0 : wr.cell? ⟨q, 0, none⟩ = some (.slice (some ⟨x, 0, none⟩) n n) := hL.c0
      have hRA : Rw wr x n (mix F j) := hL.row
      obtain ⟨S, hS⟩ : ∃ S, S = F j := ⟨_, rfl⟩
      have HS : Hid (S = F j) := hS
      have hRB : Hid (∀ v : World, Sm wr v → v.rangeAt g (j * 512) (sb S)) := fun v h => HS.out ▸ (h.row (hG1.fr hF hgn)).range hi
      have h0j : (0 : Int) ≤ j := by omega
      clear hS
      go_wp2_with fail
      refine wp_region_to (fun v => Sm wr v) 10 (by kernel_rfl) ?_
      have hS0 := Sm.drew wr
      refine wpTo_take (i := 0) (v := ?v0q) (show _ = some _ by simp only [List.getElem?_toArray, List.getElem?_cons_zero]; exact rfl) (by kernel_rfl) (by kernel_rfl) (by kernel_rfl) (by kernel_rfl) (by exact fun _ _ _ h => h) (Or.inl ⟨by rfl, ?hy0q⟩) hS0 ?r0q
      case hy0q => (intro w hSw; (try dsimp only at hSw); go_simp; try with_reducible rfl)
      (try simp only [Act.put]); (try simp only [List.setIfInBounds_toArray]); (repeat (first | simp only [List.set_cons_succ] | simp only [List.set_cons_zero]))
      refine wpTo_take (i := 1) (v := ?v1q) (show _ = some _ by simp only [List.getElem?_toArray, List.getElem?_cons_succ, List.getElem?_cons_zero]; exact rfl) (by kernel_rfl) (by kernel_rfl) (by kernel_rfl) (by kernel_rfl) (by exact fun _ _ _ h => h) (Or.inl ⟨by rfl, ?hy1q⟩) hS0 ?r1q
      case hy1q => (intro w hSw; (try dsimp only at hSw); go_simp; try with_reducible rfl)
      (try simp only [Act.put]); (try simp only [List.setIfInBounds_toArray]); (repeat (first | simp only [List.set_cons_succ] | simp only [List.set_cons_zero]))
      refine wpTo_take (i := 2) (v := ?v2q) (show _ = some _ by simp only [List.getElem?_toArray, List.getElem?_cons_succ, List.getElem?_cons_zero]; exact rfl) (by kernel_rfl) (by kernel_rfl) (by kernel_rfl) (by kernel_rfl) (by exact fun _ _ _ h => h) (Or.inl ⟨by rfl, ?hy2q⟩) hS0 ?r2q
      case hy2q => (intro w hSw; (try dsimp only at hSw); go_simp; try with_reducible rfl)
      (try simp only [Act.put]); (try simp only [List.setIfInBounds_toArray]); (repeat (first | simp only [List.set_cons_succ] | simp only [List.set_cons_zero]))
      refine wpTo_take (i := 3) (v := ?v3q) (show _ = some _ by simp only [List.getElem?_toArray, List.getElem?_cons_succ, List.getElem?_cons_zero]; exact rfl) (by kernel_rfl) (by kernel_rfl) (by kernel_rfl) (by kernel_rfl) (by exact fun _ _ _ h => h) (Or.inl ⟨by rfl, ?hy3q⟩) hS0 ?r3q
      case hy3q => (intro w hSw; (try dsimp only at hSw); have hcc := (hSw.cell _).trans c0; go_simp; try with_reducible rfl)
      (try simp only [Act.put]); (try simp only [List.setIfInBounds_toArray]); (repeat (first | simp only [List.set_cons_succ] | simp only [List.set_cons_zero]))
      refine wpTo_take (i := 4) (v := ?v4q) (show _ = some _ by simp only [List.getElem?_toArray, List.getElem?_cons_succ, List.getElem?_cons_zero]; exact rfl) (by kernel_rfl) (by kernel_rfl) (by kernel_rfl) (by kernel_rfl) (by exact fun _ _ _ h => h) (Or.inl ⟨by rfl, ?hy4q⟩) hS0 ?r4q
      case hy4q => (intro w hSw; (try dsimp only at hSw); go_simp; try with_reducible rfl)
      (try simp only [Act.put]); (try simp only [List.setIfInBounds_toArray]); (repeat (first | simp only [List.set_cons_succ] | simp only [List.set_cons_zero]))
      refine wpTo_take (i := 5) (v := ?v5q) (show _ = some _ by simp only [List.getElem?_toArray, List.getElem?_cons_succ, List.getElem?_cons_zero]; exact rfl) (by kernel_rfl) (by kernel_rfl) (by kernel_rfl) (by kernel_rfl) (by exact fun _ _ _ h => h) (Or.inl ⟨by rfl, ?hy5q⟩) hS0 ?r5q
      case hy5q => (intro w hSw; (try dsimp only at hSw); go_simp; try with_reducible rfl)
      (try simp only [Act.put]); (try simp only [List.setIfInBounds_toArray]); (repeat (first | simp only [List.set_cons_succ] | simp only [List.set_cons_zero]))
      refine wpTo_take (i := 6) (v := ?v6q) (show _ = some _ by simp only [List.getElem?_toArray, List.getElem?_cons_succ, List.getElem?_cons_zero]; exact rfl) (by kernel_rfl) (by kernel_rfl) (by kernel_rfl) (by kernel_rfl) (by exact fun _ _ _ h => h) (Or.inl ⟨by rfl, ?hy6q⟩) hS0 ?r6q
      case hy6q => (intro w hSw; (try dsimp only at hSw); go_simp; try with_reducible rfl)
      (try simp only [Act.put]); (try simp only [List.setIfInBounds_toArray]); (repeat (first | simp only [List.set_cons_succ] | simp only [List.set_cons_zero]))
      refine wpTo_take (i := 7) (v := ?v7q) (show _ = some _ by simp only [List.getElem?_toArray, List.getElem?_cons_succ, List.getElem?_cons_zero]; exact rfl) (by kernel_rfl) (by kernel_rfl) (by kernel_rfl) (by kernel_rfl) (by exact fun _ _ _ h => h) (Or.inl ⟨by rfl, ?hy7q⟩) hS0 ?r7q
      case hy7q => (intro w hSw; (try dsimp only at hSw); go_simp; try with_reducible rfl)
      (try simp only [Act.put]); (try simp only [List.setIfInBounds_toArray]); (repeat (first | simp only [List.set_cons_succ] | simp only [List.set_cons_zero]))
      refine wpTo_take (i := 8) (show _ = some _ by simp only [List.getElem?_toArray, List.getElem?_cons_succ, List.getElem?_cons_zero]; exact rfl) (by kernel_rfl) (by kernel_rfl) (by kernel_rfl) (by kernel_rfl) (by exact fun _ _ _ h => h) (yieldsIf_load_mid (by rfl) 39 (.tmp 30) rfl g (j * 512) rfl (sb S) _ (fun v q => hRB.out v q) Try.underlying39 rfl (by rw [sb_length]; kernel_rfl)) hS0 ?_
      (try simp only [Act.put]); (try simp only [List.setIfInBounds_toArray]); (repeat (first | simp only [List.set_cons_succ] | simp only [List.set_cons_zero]))
      refine wpTo_take (i := 9) (v := ?v9q) (show _ = some _ by simp only [List.getElem?_toArray, List.getElem?_cons_succ, List.getElem?_cons_zero]; exact rfl) (by kernel_rfl) (by kernel_rfl) (by kernel_rfl) (by kernel_rfl) (by exact fun _ _ _ h => h) (Or.inl ⟨by rfl, ?hy9q⟩) hS0 ?r9q
      case hy9q => (intro w hSw; (try dsimp only at hSw); go_simp; try with_reducible rfl)
      (try simp only [Act.put]); (try simp only [List.setIfInBounds_toArray]); (repeat (first | simp only [List.set_cons_succ] | simp only [List.set_cons_zero]))
      refine wpTo_last (by kernel_rfl) (show _ = some _ by simp only [List.getElem?_toArray, List.getElem?_cons_succ, List.getElem?_cons_zero]; exact rfl) (by kernel_rfl) (fun K hK => ?_)
      rw [if_pos (by rfl)]
      refine put_row _ _ rfl x n _ (hS0.row hRA) j hi S rfl rfl (fun hR5 => ?_)
      refine hK.out _ _ ?_
      clear hK K
      (try simp only [Act.put]); (try simp only [List.setIfInBounds_toArray]); (repeat (first | simp only [List.set_cons_succ] | simp only [List.set_cons_zero]))
      have hLx := rlast_lay hL.drew j hi S
      have hFx := (Fr.drew hF).setCells x (j * 512) (sb S) (.inl (.inr (.inl rfl)))
      have HM : Hid (upd (mix F j) j S = mix F (j + 1)) := (by show _ = _; rw [HS.out]; exact mix_succ F j)
      have hLy : RLay (wr.drew.setCells x (j * 512) (sb S)) q x y z (St.start n (mix F (j + 1))) := by
        rw [← HM.out]
        exact hLx
      go_wp2_with fail
      go_roundw
      case rel => exact ⟨j + 1, by omega, by go_num, hLy, hFx⟩
      case measure => simp [intOf]; omega
    · have hjI : ¬ (j : Int) < n := by omega
      have ej : j = n := by omega
      rw [ej] at hL
      clear ej
      have hBB := hB.trans (hF.below (b := w.heap.size) HGX.out hB.size)
      go_wp2_with fail
      go_ret2
      exact ⟨q, rfl, HQ.out.1, x, y, z, HQ.out.2.1, HQ.out.2.2.1, HQ.out.2.2.2, rlay_mix hL, hBB⟩
end Go.Proofs.Yteimfnnkjhopdaa
