/- The frames of a record. -/
import Derived.Test.YtndfhmlcfaaaiaaGreatDoorImg
import Derived.Test.YtndfhmlcfaaaiaaGreatDoorFr1
import Derived.Test.YtndfhmlcfaaaiaaGreatDoorMod
import Derived.Great.BuildSlice
namespace Go.Proofs.YtndfhmlcfaaaiaaGreatDoor
open Go.RowKit

/-- Images as they are handed in. -/
def toI (W : List Im) : List (Int × Pg) := W.map fun x => ((x.1 : Int), x.2)
theorem toI_length (W : List Im) : (toI W).length = W.length := by simp [toI]
theorem toI_at {W : List Im} {k : Nat} {x : Im} (h : W[k]? = some x) : (toI W)[k]? = some ((x.1 : Int), x.2) := by simp [toI, h]
theorem over_pgOf (l xs : List B) (h : l.length + xs.length ≤ 480) : over (pgOf l).l l.length xs = (pgOf (l ++ xs)).l := by
  have e : ∀ m : List B, m.length ≤ 480 → (pgOf m).l = m ++ List.replicate (480 - m.length) 0#8 := fun m hm => by
    show (m ++ zp.l).take 480 = _
    rw [List.take_append, List.take_of_length_le hm]
    congr 1
    show (List.replicate 480 0#8).take _ = _
    rw [List.take_replicate, Nat.min_eq_left (by omega)]
  rw [e l (by omega), e (l ++ xs) (by rw [List.length_append]; exact h)]
  unfold over
  rw [List.take_left, List.drop_append, List.drop_of_length_le (by omega), List.nil_append, List.drop_replicate, List.length_append, List.append_assoc]
  congr 3
  omega
theorem nmB_take {W : List Im} {k : Nat} {x : Im} (h : W[k]? = some x) : nmB (W.take (k + 1)) = nmB (W.take k) ++ beb 4 x.1 := by
  unfold nmB
  rw [List.take_add_one, h]
  simp
theorem over_nm {W : List Im} {k : Nat} {x : Im} (h : W[k]? = some x) (hk : k < 120) : over (pgOf (nmB (W.take k))).l (4 * k) (beb 4 x.1) = (pgOf (nmB (W.take (k + 1)))).l := by
  have hl : (nmB (W.take k)).length = 4 * k := by
    rw [nmB_length, List.length_take, Nat.min_eq_left]
    exact Nat.le_of_lt (List.getElem?_eq_some_iff.1 h).1
  rw [nmB_take h, ← over_pgOf _ _ (by rw [hl, beb_length]; omega), hl]
theorem pgOf_nil : pgOf [] = zp := by
  have e : (([] : List B) ++ zp.l).take 480 = zp.l := by rw [List.nil_append, List.take_of_length_le (by rw [zp.h]; omega)]
  unfold pgOf
  simp only [e]
theorem add_zero_block (g j : Nat) : (⟨g, 0, none⟩ : Addr).add j = ⟨g, j, none⟩ := by unfold Addr.add; split <;> simp_all

theorem info64 : (Tryz.prog.info? 26).map (fun i => (i.zero, i.size, i.bytes)) = some (some (sv zs), 512, 512) := by kernel_rfl
section
variable {w : World} {ops : Array Oper} {rest : List Oper} {o : Oper} {a : Act} {Q : Exit → Act → World → Prop}
/-- '[]api.Sector{s}'. -/
theorem build_sec (hg : o.guard = none) (x : Operand) (ho : o.op = .buildSlice 24 1 #[(0, x)]) (s : Sec) (hx : a.eval x = .agg (sb s).toArray)
    (h : wpList Tryz.prog ops Q rest (a.put o.dst (.slice (some ⟨w.heap.size, 0, none⟩) 1 1)) (w.alloc (.cells (sb s).toArray 26))) : wpList Tryz.prog ops Q (o :: rest) a w := by
  obtain ⟨i0, hi, hz0, hz1, hz2⟩ := info_parts info64
  refine wpList_buildSlice hg 24 26 1 _ ho (sb s).toArray i0 (sv zs) Tryz.underlying24 hi hz0 (by rw [hz1]; omega) (by rw [hz1]; omega) ?_ h
  rw [show ((#[(0, x)] : Array (Nat × Operand)).map fun (i, x) => (i, a.eval x)).toList = [(0, a.eval x)] by simp, hx, hz1]
  have := Great.fill_whole (s := 512) (by omega) [.agg (sb s).toArray] ((Array.range (1 * 512)).map ((sv zs).cells[· % (sv zs).cells.size]!)) (by
    intro v hv
    simp only [List.mem_singleton] at hv
    subst hv
    show (sb s).toArray.size = 512
    rw [List.size_toArray, sb_length]) (by simp)
  rw [show ((([.agg (sb s).toArray] : List Value).zipIdx 0).map fun x => (x.2, x.1)) = [(0, .agg (sb s).toArray)] from rfl] at this
  rw [this]
  simp [Value.cells]
/-- 'append(l, s)', l a row of sectors of the call's own. -/
theorem push_sec (hg : o.guard = none) (s x : Operand) (ho : o.op = .call { callee := .builtin .append, args := #[s, x], argTypes := #[24, 24] }) (base : Nat) (v : Value) (n : Nat) (F : Nat → Sec) (hv : a.eval s = v) (hown : w.ownsRow base 26 512 v n (flat n F))
    (g : Nat) (S : Sec) (hx : a.eval x = .slice (some ⟨g, 0, none⟩) 1 1) (hc : Blk w g 26 (sb S)) (hbig : n ≤ 100000) (hbase : base ≤ w.heap.size) (hF : F n = S)
    (h : ∀ v' w', w'.ownsRow base 26 512 v' (n + 1) (flat (n + 1) F) → w.grownBy w' v.ownBlock → wpList Tryz.prog ops Q rest (a.put o.dst v') w') : wpList Tryz.prog ops Q (o :: rest) a w := by
  obtain ⟨i0, hi, hz0, hz1, hz2⟩ := info_parts info64
  refine wpList_append_own w hg s x 24 ho base 26 i0 (sv zs) 512 512 Tryz.underlying24 hi hz0 hz1 hz2 (by show (sb zs).toArray.size = 512; rw [List.size_toArray, sb_length]) (by decide) v n (flat n F) hv hown ⟨g, 0, none⟩ 1 1 (sb S) hx (by rw [sb_length]) (fun j u hj => by rw [add_zero_block]; exact hc.cell j u hj) (sb_one' S) (by unfold maxLen; omega) (by omega) hbase ?_
  intro v' w' h1 h2 _
  refine h v' w' ?_ h2
  rw [flat_succ, hF]
  exact h1
end
theorem own_one (w : World) (base : Nat) (F : Nat → Sec) (S : Sec) (hF : F 0 = S) (hb : base ≤ w.heap.size) : (w.alloc (.cells (sb S).toArray 26)).ownsRow base 26 512 (.slice (some ⟨w.heap.size, 0, none⟩) 1 1) 1 (flat 1 F) := by
  have e : flat 1 F = sb S := by rw [flat_succ, hF]; rfl
  refine ⟨flat_length _ _, .inr ⟨w.heap.size, 1, _, rfl, hb, heap_alloc_new w _, Nat.le_refl _, by decide, by rw [List.size_toArray, sb_length], ?_⟩⟩
  rw [e, List.take_of_length_le (by simp [sb_length])]
theorem im_page {U : World} {n : Nat} {y : Int × Pg} (h : Blk U n 82 (ic y)) : U.rangeAt n 1 (pb y.2) := by
  intro j u hu
  exact h.cell (1 + j) u (by rw [Nat.add_comm]; exact hu)
/-- What lies in memory while the names are listed. -/
structure RS (w v : World) (b n : Nat) (x : Int × Pg) (cur : List B) : Prop where
  pg : Blk v b 66 (bys cur)
  im : Blk v n 82 (ic x)
  below : Below b w v
section
variable {w v v' : World} {b n : Nat} {x : Int × Pg} {cur : List B}
theorem RS.next (h : RS w v b n x cur) (hb : Below v.heap.size v v') : RS w v' b n x cur := ⟨h.pg.next hb, h.im.next hb, h.below.trans (hb.mono (Nat.le_of_lt h.pg.lt))⟩
theorem RS.drew (h : RS w v b n x cur) : RS w v.drew b n x cur := h.next ⟨rfl, rfl, rfl, Nat.le_refl _, fun _ _ => rfl⟩
end
set_option maxRecDepth 100000 in
set_option maxHeartbeats 4000000 in
theorem recordOf_any (w : World) (g s : Nat) (ao : Option Addr) (cp : Nat) (W : List Im) (h : Ims w ao (toI W)) (hT : Tabs w) (hW : W.length ≤ 120) (hp : ∀ x ∈ W, x.1 < 4294967296) (hg : g < 18446744073709551616) (hs : s < 18446744073709551616) :
    Calls Tryz.prog 81 #[.int .u64 (g : Int), .int .u64 (s : Int), .slice ao W.length cp] w fun e w' => ∃ v, e = .returned v ∧ w'.ownsRow w.heap.size 26 512 v (W.length + 2) (flat (W.length + 2) (rf g s W)) ∧ Below w.heap.size w w' := by
  have hz31 := zero31
  have hz74 := zero74
  obtain ⟨b, hb⟩ : ∃ b, b = w.heap.size := ⟨_, rfl⟩
  have kk : Below b w (w.alloc (.cells (pb zp).toArray 66)) := by rw [hb]; exact (Below.refl w.heap.size w).alloc (Nat.le_refl _) (.cells (pb zp).toArray 66)
  have hP0 := Blk.new w 66 (pb zp)
  have hImW : Hid (∀ v, Below b w v → Ims v ao (toI W)) := fun v k => h.next (by rw [← hb]; exact k)
  have hTbW : Hid (∀ v, Below b w v → Tabs v) := fun v k => hT.next (by rw [← hb]; exact k)
  rw [← hb] at hP0 ⊢
  have hpgn := pgOf_nil
  obtain ⟨F, hFd⟩ : ∃ F, F = rf g s W := ⟨_, rfl⟩
  have HF : Hid (F = rf g s W) := hFd
  rw [← hFd]
  clear hFd
  go_enter Tryz.func81, Tryz.ntmps81
  go_wp2_with fail
  rw [← hb]
  obtain ⟨w0, hw0⟩ : ∃ w0, w0 = (w.alloc (.cells (pb zp).toArray 66)) := ⟨_, rfl⟩
  rw [← hw0] at hP0 kk ⊢
  have hs0 : w0.heap.size = b + 1 := by rw [hw0, World.size_alloc, hb]
  have HB : Hid (b = w.heap.size) := hb
  clear hw0 hb
  go_loopw [16] (fun i wr => ∃ k : Nat, k ≤ W.length ∧ i = .int .i64 (k : Int) ∧ Below b w wr ∧ b + 1 ≤ wr.heap.size ∧ Blk wr b 66 (pb (pgOf (nmB (W.take k))))) (fun i _ => W.length - (intOf i).toNat)
  case atStart => exact ⟨0, by omega, rfl, kk, by omega, hP0⟩
  case round =>
    obtain ⟨k, hk, rfl, hb, hbs, hPg⟩ := hrel
    clear hP0
    by_cases hlt : k < W.length
    · have hkI : (k : Int) < (W.length : Int) := by omega
      obtain ⟨x, hx⟩ : ∃ x, W[k]? = some x := ⟨_, List.getElem?_eq_getElem hlt⟩
      obtain ⟨gi, rfl, hgi⟩ := (hImW.out wr hb).at (toI_at hx)
      have hrg := hgi.range (toI_at hx)
      have hpx := hp x (List.mem_of_getElem? hx)
      have hov := over_nm hx (by omega)
      obtain ⟨c0, hc0⟩ : ∃ c0, c0 = pgOf (nmB (W.take k)) := ⟨_, rfl⟩
      obtain ⟨c1, hc1⟩ : ∃ c1, c1 = pgOf (nmB (W.take (k + 1))) := ⟨_, rfl⟩
      rw [← hc0] at hPg hov
      rw [← hc1] at hov
      have HC1 : Hid (c1 = pgOf (nmB (W.take (k + 1)))) := hc1
      clear hc0 hc1
      obtain ⟨y, hy⟩ : ∃ y : Int × Pg, y = ((x.1 : Int), x.2) := ⟨_, rfl⟩
      have hy1 : y.1 = (x.1 : Int) := by rw [hy]
      rw [← hy] at hrg
      clear hy
      have hNw := Blk.new wr 82 (ic (0, zp))
      have kA := (Below.refl wr.heap.size wr).alloc (Nat.le_refl _) (.cells (ic (0, zp)).toArray 82)
      have hst := (Fr.refl (fun j => j = wr.heap.size) (wr.alloc (.cells (ic (0, zp)).toArray 82))).setRow wr.heap.size (ic y).toArray (.inl rfl)
      have kU : Below wr.heap.size wr ((wr.alloc (.cells (ic (0, zp)).toArray 82)).setRow wr.heap.size (ic y).toArray) := kA.trans (hst.below (fun j e => by omega) kA.size)
      obtain ⟨U, hU⟩ : ∃ U, U = ((wr.alloc (.cells (ic (0, zp)).toArray 82)).setRow wr.heap.size (ic y).toArray) := ⟨_, rfl⟩
      rw [← hU] at kU
      have HU : Hid (U = ((wr.alloc (.cells (ic (0, zp)).toArray 82)).setRow wr.heap.size (ic y).toArray)) := hU
      have hF0 : Blk U wr.heap.size 82 (ic y) → RS w U b wr.heap.size y c0.l := fun hA => ⟨hPg.next kU, hA, hb.trans (kU.mono (by omega))⟩
      clear hU hst kA
      have hcv : IntKind.u32.wrap (x.1 : Int) = (x.1 : Int) := by rw [IntKind.wrap_u32']; omega
      have hmul : IntKind.i64.wrap (4 * (k : Int)) = 4 * (k : Int) := by rw [IntKind.wrap_i64]; omega
      have hfr := fun X => from31 X b (4 * k) (by omega)
      push_cast at hfr
      go_wp2_with (first
        | (refine wpList_load_mid rfl 82 _ rfl gi (k * 481) rfl (ic y) _ hrg Tryz.underlying82 rfl (by rw [ic_length]; kernel_rfl) ?_)
        | (refine store_im rfl _ _ rfl wr.heap.size (0, zp) y hNw rfl rfl ?_; intro hA; rw [← HU.out] at hA ⊢; have hF := hF0 hA; clear hF0 hA))
      clear hNw
      refine wp_region_to (fun v => RS w v b wr.heap.size y c0.l) 7 (by kernel_rfl) ?_
      have hS0 := hF.drew
      clear hF
      refine wpTo_take (i := 0) (v := ?v0) (show _ = some _ by simp only [List.getElem?_toArray, List.getElem?_cons_zero]; exact rfl) (by kernel_rfl) (by kernel_rfl) (by kernel_rfl) (by kernel_rfl) (by exact fun _ _ _ h => h) (Or.inl ⟨by rfl, ?hy0⟩) hS0 ?r0
      case hy0 => (intro w hSw; (try dsimp only at hSw); go_simp; try with_reducible rfl)
      (try simp only [Act.put]); (try simp only [List.setIfInBounds_toArray]); (repeat (first | simp only [List.set_cons_succ] | simp only [List.set_cons_zero]))
      refine wpTo_take (i := 1) (v := ?v1) (show _ = some _ by simp only [List.getElem?_toArray, List.getElem?_cons_succ, List.getElem?_cons_zero]; exact rfl) (by kernel_rfl) (by kernel_rfl) (by kernel_rfl) (by kernel_rfl) (by exact fun _ _ _ h => h) (Or.inl ⟨by rfl, ?hy1⟩) hS0 ?r1
      case hy1 => (intro w hSw; (try dsimp only at hSw); go_simp; try with_reducible rfl)
      (try simp only [Act.put]); (try simp only [List.setIfInBounds_toArray]); (repeat (first | simp only [List.set_cons_succ] | simp only [List.set_cons_zero]))
      refine wpTo_take (i := 2) (v := ?v2) (show _ = some _ by simp only [List.getElem?_toArray, List.getElem?_cons_succ, List.getElem?_cons_zero]; exact rfl) (by kernel_rfl) (by kernel_rfl) (by kernel_rfl) (by kernel_rfl) (by exact fun _ _ _ h => h) (Or.inl ⟨by rfl, ?hy2⟩) hS0 ?r2
      case hy2 => (intro w hSw; (try dsimp only at hSw); go_simp; try with_reducible rfl)
      (try simp only [Act.put]); (try simp only [List.setIfInBounds_toArray]); (repeat (first | simp only [List.set_cons_succ] | simp only [List.set_cons_zero]))
      refine wpTo_take (i := 3) (v := ?v3) (show _ = some _ by simp only [List.getElem?_toArray, List.getElem?_cons_succ, List.getElem?_cons_zero]; exact rfl) (by kernel_rfl) (by kernel_rfl) (by kernel_rfl) (by kernel_rfl) (by exact fun _ _ _ h => h) (Or.inl ⟨by rfl, ?hy3⟩) hS0 ?r3
      case hy3 => (intro w hSw; (try dsimp only at hSw); go_simp; try with_reducible rfl)
      (try simp only [Act.put]); (try simp only [List.setIfInBounds_toArray]); (repeat (first | simp only [List.set_cons_succ] | simp only [List.set_cons_zero]))
      refine wpTo_take (i := 4) (v := ?v4) (show _ = some _ by simp only [List.getElem?_toArray, List.getElem?_cons_succ, List.getElem?_cons_zero]; exact rfl) (by kernel_rfl) (by kernel_rfl) (by kernel_rfl) (by kernel_rfl) (by exact fun _ _ _ h => h) (Or.inl ⟨by rfl, ?hy4⟩) hS0 ?r4
      case hy4 => (intro w hSw; (try dsimp only at hSw); have hc0 := Blk.cell hSw.im 0 _ rfl; rw [hy1] at hc0; go_simp; try with_reducible rfl)
      (try simp only [Act.put]); (try simp only [List.setIfInBounds_toArray]); (repeat (first | simp only [List.set_cons_succ] | simp only [List.set_cons_zero]))
      refine wpTo_take (i := 5) (v := ?v5) (show _ = some _ by simp only [List.getElem?_toArray, List.getElem?_cons_succ, List.getElem?_cons_zero]; exact rfl) (by kernel_rfl) (by kernel_rfl) (by kernel_rfl) (by kernel_rfl) (by exact fun _ _ _ h => h) (Or.inl ⟨by rfl, ?hy5⟩) hS0 ?r5
      case hy5 => (intro w hSw; (try dsimp only at hSw); go_simp; try with_reducible rfl)
      (try simp only [Act.put]); (try simp only [List.setIfInBounds_toArray]); (repeat (first | simp only [List.set_cons_succ] | simp only [List.set_cons_zero]))
      refine wpTo_one (i := 6) (by kernel_rfl) (show _ = some _ by simp only [List.getElem?_toArray, List.getElem?_cons_succ, List.getElem?_cons_zero]; exact rfl) (fun K hK => ?_)
      go_simp
      go_at_call 109; refine (put32_nil x.1 hpx _).mono ?_; rintro e v1 ⟨ad, c, rfl, hsh, kb⟩
      (try simp only [])
      refine hK.out _ _ (RS.next hS0 kb) (fun hS1 => ?_)
      clear hK K
      (try simp only [Act.put]); (try simp only [List.setIfInBounds_toArray]); (repeat (first | simp only [List.set_cons_succ] | simp only [List.set_cons_zero]))
      refine wpTo_last (by kernel_rfl) (show _ = some _ by simp only [List.getElem?_toArray, List.getElem?_cons_succ, List.getElem?_cons_zero]; exact rfl) (by kernel_rfl) (fun K hK => ?_)
      rw [if_pos (by rfl)]
      refine copy_in _ _ rfl b (4 * k) (480 - 4 * k) (480 - 4 * k) rfl ad 4 c rfl 66 c0.l hS1.pg (beb 4 x.1) hsh (by omega) (by rw [c0.h]; omega) (fun w' hw' hb' => ?_)
      rw [hov] at hw' hb'
      have hfr : Fr (fun k => k = b) v1 w' := by rw [hw']; exact (Fr.refl _ _).setRow _ _ (.inl rfl)
      have hbl : Below b w w' := hS1.below.trans (hfr.below (fun k e => by omega) (Nat.le_of_lt hS1.pg.lt))
      clear hw' hS0 hS1 hov hsh kb
      refine hK.out _ _ ?_
      clear hK K
      (try simp only [Act.put]); (try simp only [List.setIfInBounds_toArray]); (repeat (first | simp only [List.set_cons_succ] | simp only [List.set_cons_zero]))
      go_wp2_with fail
      rw [HC1.out] at hb'
      refine ⟨⟨k + 1, by omega, by push_cast; rfl, hbl, ?_, hb'⟩, by simp only [intOf]; omega⟩
      exact hb'.lt
    · have hkI : ¬ (k : Int) < (W.length : Int) := by omega
      have ek : W.take k = W := List.take_of_length_le (by omega)
      rw [ek] at hPg
      obtain ⟨pg0, hpg⟩ : ∃ pg0, pg0 = pgOf (nmB W) := ⟨_, rfl⟩
      have hf0 : rf g s W 0 = frm 2#8 g s W.length pg0 := by rw [hpg]; simp [rf]
      rw [← hpg] at hPg
      clear hpg ek
      have hc0 : ∀ U, Tabs U → Calls Tryz.prog 101 #[.agg (tc 2 g s (W.length : Int)).toArray, .agg (pb pg0).toArray] U fun e w' => e = .returned (.agg (sb (rf g s W 0)).toArray) ∧ Below U.heap.size U w' := fun U hU => by
        rw [hf0]
        exact frame_any 2#8 2 g s W.length W.length pg0 U hU rfl hg hs rfl (by omega)
      have hTb := hTbW.out wr hb
      rw [← HF.out] at hc0
      clear hf0
      go_wp2_with (first
        | (refine load_pg rfl _ rfl b pg0 hPg rfl ?_)
        | (go_at_call 101; refine (hc0 _ hTb).mono ?_; rintro e w1 ⟨rfl, kb1⟩)
        | (refine build_sec rfl _ rfl (F 0) rfl ?_))
      have kb1s := kb1.size
      have hO := own_one w1 b F (F 0) rfl (by omega)
      have hB2 : Below b w (w1.alloc (.cells (sb (F 0)).toArray 26)) := hb.trans ((kb1.mono (by omega)).alloc (by omega) _)
      have hS2 : b + 1 ≤ (w1.alloc (.cells (sb (F 0)).toArray 26)).heap.size := by rw [World.size_alloc]; omega
      obtain ⟨w2, hw2⟩ : ∃ w2, w2 = w1.alloc (.cells (sb (F 0)).toArray 26) := ⟨_, rfl⟩
      rw [← hw2] at hO hB2 hS2 ⊢
      clear hw2 hc0 hTb hPg kb1s kb1
      go_loopw [11, 41] (fun u i wr => ∃ j : Nat, j ≤ W.length ∧ i = .int .i64 (j : Int) ∧ wr.ownsRow b 26 512 u (j + 1) (flat (j + 1) F) ∧ Below b w wr ∧ b + 1 ≤ wr.heap.size) (fun _ i _ => W.length - (intOf i).toNat)
      case atStart => exact ⟨0, by omega, rfl, hO, hB2, hS2⟩
      case round =>
        obtain ⟨j, hj, rfl, hO1, hb1, hs1⟩ := hrel
        clear hO hB2 hS2
        by_cases hlt2 : j < W.length
        · have hjI : (j : Int) < (W.length : Int) := by omega
          obtain ⟨x, hx⟩ : ∃ x, W[j]? = some x := ⟨_, List.getElem?_eq_getElem hlt2⟩
          obtain ⟨gi, rfl, hgi⟩ := (hImW.out _ hb1).at (toI_at hx)
          have hrg := hgi.range (toI_at hx)
          have hf1 : F (j + 1) = frm 3#8 g s j x.2 := by
            rw [HF.out]
            unfold rf
            rw [if_neg (by omega), if_pos (by omega), Nat.add_sub_cancel, List.getD_eq_getElem?_getD, hx]
            rfl
          obtain ⟨y, hy⟩ : ∃ y : Int × Pg, y = ((x.1 : Int), x.2) := ⟨_, rfl⟩
          have hy2 : x.2 = y.2 := by rw [hy]
          rw [← hy] at hrg
          rw [hy2] at hf1
          clear hy hy2
          have hc1 : ∀ U, Tabs U → Calls Tryz.prog 101 #[.agg (tc 3 g s (j : Int)).toArray, .agg (pb y.2).toArray] U fun e w' => e = .returned (.agg (sb (F (j + 1))).toArray) ∧ Below U.heap.size U w' := fun U hU => by
            rw [hf1]
            exact frame_any 3#8 3 g s j j y.2 U hU rfl hg hs rfl (by omega)
          obtain ⟨S1, hS1⟩ : ∃ S1, S1 = F (j + 1) := ⟨_, rfl⟩
          rw [← hS1] at hc1
          have HS1 : Hid (F (j + 1) = S1) := hS1.symm
          clear hS1 hf1
          have hNw := Blk.new wr 82 (ic (0, zp))
          have kA := (Below.refl wr.heap.size wr).alloc (Nat.le_refl _) (.cells (ic (0, zp)).toArray 82)
          have hst := (Fr.refl (fun j => j = wr.heap.size) (wr.alloc (.cells (ic (0, zp)).toArray 82))).setRow wr.heap.size (ic y).toArray (.inl rfl)
          have kU : Below wr.heap.size wr ((wr.alloc (.cells (ic (0, zp)).toArray 82)).setRow wr.heap.size (ic y).toArray) := kA.trans (hst.below (fun j e => by omega) kA.size)
          obtain ⟨U, hU⟩ : ∃ U, U = ((wr.alloc (.cells (ic (0, zp)).toArray 82)).setRow wr.heap.size (ic y).toArray) := ⟨_, rfl⟩
          rw [← hU] at kU
          have HU : Hid (U = ((wr.alloc (.cells (ic (0, zp)).toArray 82)).setRow wr.heap.size (ic y).toArray)) := hU
          have hUb := hb1.trans (kU.mono (by omega))
          have hTb := hTbW.out U hUb
          have hne : u11.ownBlock = none ∨ u11.ownBlock ≠ none := by cases u11.ownBlock <;> simp
          have hOU := hO1.kept (grown_of_below kU) hne
          have hUs := kU.size
          have hpgr : Blk U wr.heap.size 82 (ic y) → U.rangeAt wr.heap.size 1 (pb y.2) := fun h => im_page h
          clear hU hst kA
          go_wp2_with (first
            | (refine wpList_load_mid rfl 82 _ rfl gi (j * 481) rfl (ic y) _ hrg Tryz.underlying82 rfl (by rw [ic_length]; kernel_rfl) ?_)
            | (refine store_im rfl _ _ rfl wr.heap.size (0, zp) y hNw rfl rfl ?_; intro hA; rw [← HU.out] at hA ⊢; have hpr := hpgr hA; clear hA hpgr)
            | (refine wpList_load_mid rfl 66 _ rfl wr.heap.size 1 rfl (pb y.2) _ hpr Tryz.underlying66 rfl (by rw [pb_length]; kernel_rfl) ?_)
            | (go_at_call 101; refine (hc1 _ hTb).mono ?_; rintro e w3 ⟨rfl, kb3⟩)
            | (refine build_sec rfl _ rfl S1 rfl ?_
               have hO3 := (hOU.kept (grown_of_below kb3) hne).alloc (.cells (sb S1).toArray 26)
               have hC3 := Blk.new w3 26 (sb S1)
               have hB3 : Below b w (w3.alloc (.cells (sb S1).toArray 26)) := (hUb.trans (kb3.mono (by omega))).alloc (by have := kb3.size; omega) _
               have hS3 : b + 1 ≤ (w3.alloc (.cells (sb S1).toArray 26)).heap.size := by have := kb3.size; rw [World.size_alloc]; omega)
            | (at_builtin; refine push_sec rfl _ _ rfl b _ (j + 1) F rfl hO3 w3.heap.size S1 rfl hC3 (by omega) (by omega) HS1.out ?_; intro u4 w4 hO4 hg4))
          refine ⟨⟨j + 1, by omega, by push_cast; rfl, hO4, hB3.grown hg4 (by omega) (fun q hq => (hO3.lt q hq).1), ?_⟩, by simp only [intOf]; omega⟩
          have := hg4.size
          omega
        · have hjI : ¬ (j : Int) < (W.length : Int) := by omega
          have ej : j = W.length := by omega
          have hTb := hTbW.out wr hb1
          have hf1 : F (W.length + 1) = frm 4#8 g s W.length zp := by
            rw [HF.out]
            unfold rf
            rw [if_neg (by omega), if_neg (by omega)]
          have hc1 : ∀ U, Tabs U → Calls Tryz.prog 101 #[.agg (tc 4 g s (W.length : Int)).toArray, .agg (pb zp).toArray] U fun e w' => e = .returned (.agg (sb (F (W.length + 1))).toArray) ∧ Below U.heap.size U w' := fun U hU => by
            rw [hf1]
            exact frame_any 4#8 4 g s W.length W.length zp U hU rfl hg hs rfl (by omega)
          obtain ⟨S1, hS1⟩ : ∃ S1, S1 = F (W.length + 1) := ⟨_, rfl⟩
          rw [← hS1] at hc1
          have HS1 : Hid (F (W.length + 1) = S1) := hS1.symm
          rw [ej] at hO1
          have hne : u11.ownBlock = none ∨ u11.ownBlock ≠ none := by cases u11.ownBlock <;> simp
          clear hS1 hf1 ej
          go_wp2_with (first
            | (refine build_pg rfl rfl ?_)
            | (go_at_call 101; refine (hc1 _ hTb).mono ?_; rintro e w3 ⟨rfl, kb3⟩)
            | (refine build_sec rfl _ rfl S1 rfl ?_
               have hO3 := (hO1.kept (grown_of_below kb3) hne).alloc (.cells (sb S1).toArray 26)
               have hC3 := Blk.new w3 26 (sb S1)
               have hB3 : Below b w (w3.alloc (.cells (sb S1).toArray 26)) := (hb1.trans (kb3.mono (by omega))).alloc (by have := kb3.size; omega) _
               have hS3 : b + 1 ≤ (w3.alloc (.cells (sb S1).toArray 26)).heap.size := by have := kb3.size; rw [World.size_alloc]; omega)
            | (at_builtin; refine push_sec rfl _ _ rfl b _ (W.length + 1) F rfl hO3 w3.heap.size S1 rfl hC3 (by omega) (by omega) HS1.out ?_; intro u4 w4 hO4 hg4))
          go_ret
          exact ⟨_, rfl, hO4, hB3.grown hg4 (by omega) (fun q hq => (hO3.lt q hq).1)⟩
end Go.Proofs.YtndfhmlcfaaaiaaGreatDoor
