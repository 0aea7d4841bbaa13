import Derived.Test.YtndfhmlcfaaaiaaGreatDoorWrite
/- What is pending made flushed. -/
namespace Go.Proofs.YtndfhmlcfaaaiaaGreatDoor
open Go.RowKit

/-- The same memory. -/
structure Sm (u v : World) : Prop where
  heap : v.heap = u.heap
  os : v.os = u.os
  tape : v.tape = u.tape
  output : v.output = u.output
theorem Sm.drew (u : World) : Sm u u.drew := ⟨rfl, rfl, rfl, rfl⟩
section
variable {u v w : World}
theorem Sm.cell (h : Sm u v) (a : Addr) : v.cell? a = u.cell? a := World.cell?_of_block (by rw [h.heap])
theorem Sm.blk (h : Sm u v) {g : Nat} {t : TypeId} {vs : List Value} (hb : Blk u g t vs) : Blk v g t vs := by unfold Blk; rw [h.heap]; exact hb
theorem Sm.row (h : Sm u v) {f n : Nat} {F : Nat → Sec} (hr : Rw u f n F) : Rw v f n F := hr.same (by rw [h.heap])
theorem Sm.fr (h : Sm u v) {X : Nat → Prop} (hf : Fr X w u) : Fr X w v := ⟨h.os.trans hf.os, h.tape.trans hf.tape, h.output.trans hf.output, by rw [h.heap]; exact hf.size, by rw [h.heap]; exact hf.block⟩
end
theorem ranges_same {w w' : World} {b r n : Nat} {D : DataW Sec} {left : Lit → Bool} {cnt : Nat} (h : w.ranges Tryz.prog 3 secR b r n D left cnt) (h1 : w'.heap[b]? = w.heap[b]?) (h2 : w'.heap[r]? = w.heap[r]?) : w'.ranges Tryz.prog 3 secR b r n D left cnt := by
  obtain ⟨es, clock, since, seen, c0, hb, F, hs, hD, hr, rest⟩ := h
  exact ⟨es, clock, since, seen, c0, h1.trans hb, F, hs, hD, h2.trans hr, rest⟩
/-- 's[i] = x'. -/
theorem put_row {w : World} {o : Oper} {a : Act} {K : Act → World → Prop} {Q : Exit → Act → World → Prop} (x y : Operand) (ho : o.op = .store 26 x y) (f n : Nat) (F : Nat → Sec) (hR : Rw w f n F) (i : Nat) (hi : i < n) (s : Sec)
    (hx : a.eval x = .pointer (some ⟨f, i * 512, none⟩)) (hy : a.eval y = .agg (sb s).toArray) (h : Rw (w.setCells f (i * 512) (sb s)) f n (upd F i s) → K (a.put o.dst undef) (w.setCells f (i * 512) (sb s))) : o.wp Tryz.prog a w K Q :=
  wp_store_mid 26 x y ho f (i * 512) (sb s).toArray hx hy (by rw [List.size_toArray, sb_length]; exact hR.there hi) (by rw [List.size_toArray, sb_length]; kernel_rfl) (sb_one s) (h (hR.put hi s))
/-- The step of a range over the map. -/
theorem next_sec {w : World} {ops : Array Oper} {rest : List Oper} {o : Oper} {a : Act} {Q : Exit → Act → World → Prop} (hg : o.guard = none) (it : Operand) (hop : o.op = Op.next it false) (b r n : Nat) (D : DataW Sec) (W : Nat → Option Sec) (left : Lit → Bool) (cnt : Nat)
    (hM : Mp D W) (h : w.ranges Tryz.prog 3 secR b r n D left cnt) (hit : a.eval it = .pointer (some ⟨r, 0, none⟩))
    (hDone : (∀ kl, left kl = false) → wpList Tryz.prog ops Q rest (a.put o.dst (.tuple #[.bool false])) w)
    (hMore : ∀ (i : Nat) (s : Sec) (w' : World) (cnt' : Nat), W i = some s → left (ky i) = true → w'.ranges Tryz.prog 3 secR b r n D (fun z => left z && !z.sameKey (ky i)) cnt' → cnt' < cnt → w.grownBy w' (some r) → w'.heap.size = w.heap.size →
      (Instr.entry (.pointer (some ⟨r, 0, none⟩))).run Tryz.prog w' = .ok (.tuple #[.int .i64 (i : Int), .agg (sb s).toArray]) w' → wpList Tryz.prog ops Q rest (a.put o.dst (.tuple #[.bool true, .int .i64 (i : Int), .agg (sb s).toArray])) w') :
    wpList Tryz.prog ops Q (o :: rest) a w := by
  refine wpList_next_ranges w hg it hop 3 law3 secR (Value.int .i64) (fun s : Sec => .agg (sb s).toArray) (fun key kl hk => by obtain ⟨x, rfl, _⟩ := Maps.keyOf_int_inv Tryz.underlying3 hk; exact ⟨x, rfl⟩) (fun v y hv => by obtain ⟨s, rfl, _⟩ := secR_inv hv; exact ⟨s, rfl⟩) b r n D left cnt hit h (fun _ hl => hDone hl) ?_
  intro x c kl y w' cnt' hkey hlk hv hat hrg hlt hgr hsz hen
  obtain ⟨x', ex, rfl, _⟩ := Maps.keyOf_int_inv Tryz.underlying3 hkey
  cases ex
  obtain ⟨s, es, rfl⟩ := secR_inv hv
  have es' := sv_inj (s := c) (t := s) es
  subst es'
  have h1 := hM.2 (.int .i64 x) .nil
  rw [hat] at h1
  cases hw : wl W (.int .i64 x) with
  | none => rw [hw] at h1; cases h1
  | some t =>
    rw [hw] at h1
    injection h1 with h1
    subst h1
    have h0 : 0 ≤ x := by
      rcases Int.lt_or_le x 0 with hn | hn
      · rw [wl_neg W x hn] at hw; cases hw
      · exact hn
    obtain ⟨i, rfl⟩ := Int.eq_ofNat_of_zero_le h0
    have hwi : W i = some c := (wl_ky W i).symm.trans hw
    exact hMore i c w' cnt' hwi hlk hrg hlt hgr hsz hen
theorem same_ky (i j : Nat) : (ky i).sameKey (ky j) = decide (i = j) := by
  by_cases h : i = j
  · subst h; simp [ky, Lit.sameKey]
  · rw [decide_eq_false h]
    exact Maps.sameKey_ne (fun e => h (ky_inj e))

def St.tick (d : St) : St := { d with flushes := d.flushes + 1 }
/-- All that is pending is flushed. -/
def St.all (d : St) : St := { d with lasts := d.at, waits := fun _ => none }
theorem op_n (d : St) : d.op.1.n = d.n := by unfold St.op; split; rfl; split <;> rfl
theorem op_lasts (d : St) : d.op.1.lasts = d.lasts := by unfold St.op; split; rfl; split <;> rfl
theorem op_waits (d : St) : d.op.1.waits = d.waits := by unfold St.op; split; rfl; split <;> rfl
theorem op_writes (d : St) : d.op.1.writes = d.writes := by unfold St.op; split; rfl; split <;> rfl
theorem op_flushes (d : St) : d.op.1.flushes = d.flushes := by unfold St.op; split; rfl; split <;> rfl
/-- What lies flushed while the range goes. -/
def mid (d : St) (left : Lit → Bool) (i : Nat) : Sec := if left (ky i) then d.lasts i else d.at i
theorem mid_start (d : St) (D : DataW Sec) (hM : Mp D d.waits) : mid d (Maps.has D) = d.lasts := by
  funext i
  unfold mid
  rw [hM.has, wl_ky]
  unfold St.at
  cases d.waits i <;> simp
theorem mid_end (d : St) (left : Lit → Bool) (h : ∀ kl, left kl = false) : mid d left = d.at := by
  funext i
  unfold mid
  rw [h]
  rfl
theorem mid_step (d : St) (left : Lit → Bool) (i : Nat) (s : Sec) (h : d.waits i = some s) : upd (mid d left) i s = mid d (fun z => left z && !z.sameKey (ky i)) := by
  funext j
  unfold mid upd
  simp only [same_ky]
  by_cases e : j = i
  · subst e
    simp [St.at, h]
  · simp [e]

theorem flush_nil (w : World) : Calls Tryz.prog 82 #[.pointer none] w fun e w' => e = .returned (.int .i64 1) ∧ w = w' := by
  go_enter Tryz.func82, Tryz.ntmps82
  go_wp2_with (go_at_call 110; refine (outage_nil _).mono ?_; rintro e w' ⟨rfl, rfl⟩)
  go_ret
  exact ⟨rfl, rfl⟩
theorem flush_out (w : World) (r f m cap : Nat) (d : St) (h : Lay w r f m cap d) (hoff : d.off = true) : Calls Tryz.prog 82 #[.pointer (some ⟨r, 0, none⟩)] w fun e w' => e = .returned (.int .i64 6) ∧ w = w' := by
  have hr := outage_any w r f m cap d h
  unfold St.out at hr
  rw [hoff] at hr
  simp only [if_true] at hr
  go_enter Tryz.func82, Tryz.ntmps82
  go_wp2_with (go_at_call 110; refine hr.mono ?_; rintro e w' ⟨rfl, rfl⟩)
  go_ret
  exact ⟨rfl, rfl⟩
theorem tick_lay (w : World) (r f m cap : Nat) (d : St) (h : Lay w r f m cap d) (T : Nat) (hT : T = d.flushes + 1) : Lay (w.setCell ⟨r, 3, none⟩ (.int .i64 (T : Int))) r f m cap d.tick ∧ Fr (fp r f m) w (w.setCell ⟨r, 3, none⟩ (.int .i64 (T : Int))) := by
  subst hT
  exact ⟨h.put 3 _ d.tick rfl rfl rfl rfl (Nat.le_refl _) h.arm, (Fr.refl _ w).setCell _ _ (.inl (fp_r r f m))⟩
theorem flush_off (w : World) (r f m cap : Nat) (d : St) (h : Lay w r f m cap d) (hoff : d.off = false) (E : Int) (hE : d.tick.op.2 = E) (h0 : E ≠ 0) (hf : d.flushes < 1000000000) : Calls Tryz.prog 82 #[.pointer (some ⟨r, 0, none⟩)] w fun e w' => e = .returned (.int .i64 E) ∧ Lay w' r f m cap d.tick.op.1 ∧ Fr (fp r f m) w w' := by
  have hr := outage_any w r f m cap d h
  unfold St.out at hr
  rw [hoff] at hr
  simp only [Bool.false_eq_true, if_false] at hr
  have c3 := h.c3
  have f3 := h.fz 3
  obtain ⟨T, hT⟩ : ∃ T, T = d.flushes + 1 := ⟨_, rfl⟩
  have hwr1 : IntKind.i64.wrap ((d.flushes : Int) + 1) = (T : Int) := by rw [IntKind.wrap_i64]; omega
  have hwr2 : IntKind.i64.wrap (T : Int) = (T : Int) := by rw [IntKind.wrap_i64]; omega
  have hI : (d.flushes : Int) + 1 = (T : Int) := by omega
  obtain ⟨hL1, hF1⟩ := tick_lay w r f m cap d h T hT
  clear hT
  have ho := operation_any _ r f m cap _ hL1
  rw [hE] at ho
  have h0b : (E == 0) = false := by simp [h0]
  go_enter Tryz.func82, Tryz.ntmps82
  go_wp2_with (first | (go_at_call 110; refine hr.mono ?_; rintro e w' ⟨rfl, rfl⟩) | (go_at_call 111; refine ho.mono ?_; rintro e w2 ⟨rfl, hL2, hF2, hS2⟩))
  go_ret
  exact ⟨rfl, hL2, hF1.trans hF2 (fun _ _ h => h)⟩
set_option maxRecDepth 100000 in
set_option maxHeartbeats 2000000 in
theorem flush_good (w : World) (r f m cap : Nat) (d : St) (h : Lay w r f m cap d) (hoff : d.off = false) (hE : d.tick.op.2 = 0) (hf : d.flushes < 1000000000) :
    Calls Tryz.prog 82 #[.pointer (some ⟨r, 0, none⟩)] w fun e w' => e = .returned (.int .i64 0) ∧ ∃ m', w.heap.size ≤ m' ∧ Lay w' r f m' cap d.tick.op.1.all ∧ Fr (fp r f m) w w' := by
  have hz := zero39
  have hr := outage_any w r f m cap d h
  unfold St.out at hr
  rw [hoff] at hr
  simp only [Bool.false_eq_true, if_false] at hr
  have c3 := h.c3
  have f3 := h.fz 3
  obtain ⟨T, hT⟩ : ∃ T, T = d.flushes + 1 := ⟨_, rfl⟩
  have hwr1 : IntKind.i64.wrap ((d.flushes : Int) + 1) = (T : Int) := by rw [IntKind.wrap_i64]; omega
  have hwr2 : IntKind.i64.wrap (T : Int) = (T : Int) := by rw [IntKind.wrap_i64]; omega
  have hI : (d.flushes : Int) + 1 = (T : Int) := by omega
  obtain ⟨hL1, hF1⟩ := tick_lay w r f m cap d h T hT
  clear hT
  have ho := operation_any _ r f m cap _ hL1
  rw [hE] at ho
  obtain ⟨d2, hd2⟩ : ∃ d2, d2 = d.tick.op.1 := ⟨_, rfl⟩
  rw [← hd2] at ho ⊢
  clear hd2
  have hfr : fp r f m r := fp_r r f m
  have hff : fp r f m f := fp_f r f m
  go_enter Tryz.func82, Tryz.ntmps82
  go_wp2_with (go_at_call 110; refine hr.mono ?_; rintro e w' ⟨rfl, rfl⟩)
  go_at_call 111; refine ho.mono ?_; rintro e w2 ⟨rfl, hL2, hF2, hS2⟩
  have c1 := hL2.c1
  obtain ⟨D, hD, hM⟩ := hL2.map
  have hF12 : Fr (fp r f m) w w2 := hF1.trans hF2 (fun _ _ h => h)
  clear hL1 hF1 hF2 hr ho h c3 f3
  go_wp2_with (first
    | (at_range; refine wpList_range_own _ rfl _ 96 rfl 3 26 law3 Tryz.underlying96 _ m _ _ rfl hD ?_; intro w0 hrg0 hg0 hs0)
    | go_in)
  (try go_frame)
  obtain ⟨IT, hIT⟩ : ∃ I, I = w2.heap.size := ⟨_, rfl⟩
  rw [← hIT] at hrg0 ⊢
  have hitr : IT ≠ r := by have := hL2.blk.lt; omega
  have hitf : IT ≠ f := by have := hL2.row.lt; omega
  have hitm : IT ≠ m := by have := hL2.mlt; omega
  have hmr := hL2.mr_ne
  have hmf := hL2.mf_ne
  have hfrn := hL2.fr_ne
  have htop := hL2.top
  have hITw : w.heap.size ≤ IT := by have := hF12.size; omega
  have hIT0 : IT < w0.heap.size := by omega
  have HIT : Hid (IT = w2.heap.size) := hIT
  clear hIT hS2
  go_loopw [5] (fun _ wr => ∃ (left : Lit → Bool) (cnt : Nat), wr.ranges Tryz.prog 3 secR m IT d2.writes D left cnt ∧ Blk wr r 98 (dc f m cap d2) ∧ Rw wr f d2.n (mid d2 left) ∧ Fr (fp r f m) w wr ∧ IT < wr.heap.size) (fun _ wr => wr.rangeLeft m IT)
  case atStart =>
    refine ⟨_, _, hrg0, ?_, ?_, hF12.grown hg0 (fun j e => (by cases e)), hIT0⟩
    · exact (hg0.block r hL2.blk.lt (by simp)).trans hL2.blk
    · rw [mid_start d2 D hM]
      exact hL2.row.same (hg0.block f hL2.row.lt (by simp))
  case round =>
    obtain ⟨left, cnt, hrg, hblk, hrow, hfrm, hITl⟩ := hrel
    clear hrg0 hg0 hs0 c1
    go_wp2_with (first
      | (at_next; refine next_sec rfl _ rfl m IT _ D d2.waits left cnt hM hrg rfl ?_ ?_)
      | go_in)
    · intro hl0
      rw [mid_end d2 left hl0] at hrow
      have hLA : Lay wr r f m cap { d2 with lasts := d2.at } := ⟨hblk, hrow, ⟨D, hrg.owns, hM⟩, hL2.one, hL2.top, hL2.low, hL2.arm⟩
      go_wp2_with (go_at_call 60; refine (forget_any _ r f m cap _ hLA).mono ?_; rintro e w3 ⟨rfl, m', hm', hL3, hF3⟩)
      go_ret
      exact ⟨rfl, m', Nat.le_trans hfrm.size hm', hL3, hfrm.trans hF3 (fun _ _ h => h)⟩
    · intro i s w1 cnt1 hwi hlk hrg1 hlt hg1 hs1 hen
      have hi : i < d2.n := by
        rcases Nat.lt_or_ge i d2.n with h1 | h1
        · exact h1
        · rw [hL2.low i h1] at hwi; cases hwi
      have hB := Blk.new w1 26 (sb zs)
      have hblk1 : Blk w1 r 98 (dc f m cap d2) := (hg1.block r hblk.lt (fun e => hitr (Option.some.inj e).symm)).trans hblk
      have hrow1 : Rw w1 f d2.n (mid d2 left) := hrow.same (hg1.block f hrow.lt (fun e => hitf (Option.some.inj e).symm))
      have hfr1 : Fr (fp r f m) w w1 := hfrm.grown hg1 (fun j e => by cases e; right; exact hITw)
      have hle := hfr1.size
      have hIT1 : IT < w1.heap.size := by omega
      have hsz1 : Hid (w1.heap.size = wr.heap.size) := hs1
      clear hs1
      go_wp2_with (first
        | (refine store_sec rfl _ _ rfl w1.heap.size zs s hB rfl rfl ?_; intro hsecU))
      have hfr2 := (Fr.refl (fun k => k = w1.heap.size) (w1.alloc (.cells (sb zs).toArray 26))).setRow w1.heap.size (sb s).toArray (.inl rfl)
      have hblkU := (hblk1.alloc (.cells (sb zs).toArray 26)).fr hfr2 (by have := hblk1.lt; omega)
      have hrowU := (hrow1.same (heap_alloc_old w1 (.cells (sb zs).toArray 26) hrow1.lt)).fr hfr2 (by have := hrow1.lt; omega)
      have hrgU := ranges_same (hrg1.alloc (.cells (sb zs).toArray 26)) (hfr2.block m (by have := (hrg1.alloc (.cells (sb zs).toArray 26)).owns.lt; exact this) (by have := hrg1.owns.lt; omega)) (hfr2.block IT (by simp; omega) (by omega))
      have hfrU : Fr (fp r f m) w ((w1.alloc (.cells (sb zs).toArray 26)).setRow w1.heap.size (sb s).toArray) := (hfr1.alloc _).setRow _ _ (.inr hle)
      have hITU : IT < ((w1.alloc (.cells (sb zs).toArray 26)).setRow w1.heap.size (sb s).toArray).heap.size := by rw [setRow_size]; simp; omega
      obtain ⟨U, hU⟩ : ∃ U, U = ((w1.alloc (.cells (sb zs).toArray 26)).setRow w1.heap.size (sb s).toArray) := ⟨_, rfl⟩
      obtain ⟨G, hG⟩ : ∃ G, G = w1.heap.size := ⟨_, rfl⟩
      rw [← hU] at hsecU hblkU hrowU hrgU hfrU hITU ⊢
      rw [← hG] at hsecU ⊢
      have c0U := hblkU.cell 0 _ rfl
      have hI1 : (i : Int) < d2.n := by omega
      obtain ⟨F, hF⟩ : ∃ F, F = mid d2 left := ⟨_, rfl⟩
      rw [← hF] at hrowU
      clear hU hfr2 hB hblk1 hrow1 hfr1 hrg1 hblk hrow hfrm hen hD
      refine wp_region_to (fun v => Sm U v) 7 (by kernel_rfl) ?_
      have hS0 := Sm.drew U
      refine wpTo_take (i := 0) (v := ?v0q) (show _ = some _ by simp only [List.getElem?_toArray, List.getElem?_cons_zero]; exact rfl) (by kernel_rfl) (by kernel_rfl) (by kernel_rfl) (by kernel_rfl) (by exact fun _ _ _ h => h) (Or.inl ⟨by rfl, ?hy0q⟩) hS0 ?r0q
      case hy0q => (intro w hSw; (try dsimp only at hSw); go_simp; try with_reducible rfl)
      (try simp only [Act.put]); (try simp only [List.setIfInBounds_toArray]); (repeat (first | simp only [List.set_cons_succ] | simp only [List.set_cons_zero]))
      refine wpTo_take (i := 1) (v := ?v1q) (show _ = some _ by simp only [List.getElem?_toArray, List.getElem?_cons_succ, List.getElem?_cons_zero]; exact rfl) (by kernel_rfl) (by kernel_rfl) (by kernel_rfl) (by kernel_rfl) (by exact fun _ _ _ h => h) (Or.inl ⟨by rfl, ?hy1q⟩) hS0 ?r1q
      case hy1q => (intro w hSw; (try dsimp only at hSw); go_simp; try with_reducible rfl)
      (try simp only [Act.put]); (try simp only [List.setIfInBounds_toArray]); (repeat (first | simp only [List.set_cons_succ] | simp only [List.set_cons_zero]))
      refine wpTo_take (i := 2) (v := ?v2q) (show _ = some _ by simp only [List.getElem?_toArray, List.getElem?_cons_succ, List.getElem?_cons_zero]; exact rfl) (by kernel_rfl) (by kernel_rfl) (by kernel_rfl) (by kernel_rfl) (by exact fun _ _ _ h => h) (Or.inl ⟨by rfl, ?hy2q⟩) hS0 ?r2q
      case hy2q => (intro w hSw; (try dsimp only at hSw); go_simp; try with_reducible rfl)
      (try simp only [Act.put]); (try simp only [List.setIfInBounds_toArray]); (repeat (first | simp only [List.set_cons_succ] | simp only [List.set_cons_zero]))
      refine wpTo_take (i := 4) (v := ?v4q) (show _ = some _ by simp only [List.getElem?_toArray, List.getElem?_cons_succ, List.getElem?_cons_zero]; exact rfl) (by kernel_rfl) (by kernel_rfl) (by kernel_rfl) (by kernel_rfl) (by exact fun _ _ _ h => h) (Or.inl ⟨by rfl, ?hy4q⟩) hS0 ?r4q
      case hy4q => (intro w hSw; (try dsimp only at hSw); go_simp; try with_reducible rfl)
      (try simp only [Act.put]); (try simp only [List.setIfInBounds_toArray]); (repeat (first | simp only [List.set_cons_succ] | simp only [List.set_cons_zero]))
      refine wpTo_take (i := 3) (v := ?v3q) (show _ = some _ by simp only [List.getElem?_toArray, List.getElem?_cons_succ, List.getElem?_cons_zero]; exact rfl) (by kernel_rfl) (by kernel_rfl) (by kernel_rfl) (by kernel_rfl) (by exact fun _ _ _ h => h) (Or.inl ⟨by rfl, ?hy3q⟩) hS0 ?r3q
      case hy3q => (intro w hSw; (try dsimp only at hSw); have hcc := (hSw.cell _).trans c0U; go_simp; try with_reducible rfl)
      (try simp only [Act.put]); (try simp only [List.setIfInBounds_toArray]); (repeat (first | simp only [List.set_cons_succ] | simp only [List.set_cons_zero]))
      refine wpTo_take (i := 5) (show _ = some _ by simp only [List.getElem?_toArray, List.getElem?_cons_succ, List.getElem?_cons_zero]; exact rfl) (by kernel_rfl) (by kernel_rfl) (by kernel_rfl) (by kernel_rfl) (by exact fun _ _ _ h => h) (yieldsIf_load_mid (by rfl) 26 (.tmp 6) rfl G 0 rfl (sb s) _ (fun v h => (h.blk hsecU).whole) Tryz.underlying26 rfl (by rw [sb_length]; kernel_rfl)) hS0 ?_
      (try simp only [Act.put]); (try simp only [List.setIfInBounds_toArray]); (repeat (first | simp only [List.set_cons_succ] | simp only [List.set_cons_zero]))
      refine wpTo_take (i := 6) (v := ?v6q) (show _ = some _ by simp only [List.getElem?_toArray, List.getElem?_cons_succ, List.getElem?_cons_zero]; exact rfl) (by kernel_rfl) (by kernel_rfl) (by kernel_rfl) (by kernel_rfl) (by exact fun _ _ _ h => h) (Or.inl ⟨by rfl, ?hy6q⟩) hS0 ?r6q
      case hy6q => (intro w hSw; (try dsimp only at hSw); go_simp; try with_reducible rfl)
      (try simp only [Act.put]); (try simp only [List.setIfInBounds_toArray]); (repeat (first | simp only [List.set_cons_succ] | simp only [List.set_cons_zero]))
      refine wpTo_last (by kernel_rfl) (show _ = some _ by simp only [List.getElem?_toArray, List.getElem?_cons_succ, List.getElem?_cons_zero]; exact rfl) (by kernel_rfl) (fun K hK => ?_)
      rw [if_pos (by rfl)]
      refine put_row _ _ rfl f _ F (hS0.row hrowU) i hi s rfl rfl (fun hR3 => ?_)
      refine hK.out _ _ ?_
      clear hK K
      (try simp only [Act.put]); (try simp only [List.setIfInBounds_toArray]); (repeat (first | simp only [List.set_cons_succ] | simp only [List.set_cons_zero]))
      have hSm := hS0
      have hfrV := (hSm.fr hfrU).setCells f (i * 512) (sb s) (.inl hff)
      have hfrW := (Fr.refl (fun k => k = f) U.drew).setCells f (i * 512) (sb s) (.inl rfl)
      go_roundw
      case rel =>
        (repeat apply Exists.intro)
        refine ⟨?_, rfl⟩
        refine ⟨_, cnt1, ranges_same hrgU (hfrW.block m hrgU.owns.lt hmf) (hfrW.block IT hITU hitf), (hSm.blk hblkU).fr hfrW (fun e => hfrn e.symm), ?_, hfrV, Nat.lt_of_lt_of_le hITU hfrW.size⟩
        rw [← mid_step d2 left i s hwi, ← hF]
        exact hR3
      case measure =>
        rw [(ranges_same hrgU (hfrW.block m hrgU.owns.lt hmf) (hfrW.block IT hITU hitf)).left_eq, hrg.left_eq]
        exact hlt
end Go.Proofs.YtndfhmlcfaaaiaaGreatDoor


/- The power back on; what is kept. -/
namespace Go.Proofs.YtndfhmlcfaaaiaaGreatDoor
open Go.RowKit

/-- In w a slice at ao, of length n, shows the numbers xs. -/
structure Ints (w : World) (ao : Option Addr) (n : Nat) (xs : List Int) : Prop where
  len : xs.length = n
  bare : ao = none → n = 0
  cell : ∀ ad, ao = some ad → ∀ j, j < n → w.cell? (ad.add j) = some (.int .i64 (xs.getD j 0))
  wf : ∀ x ∈ xs, (Lit.int .i64 x).wf = true
theorem add_block (ad : Addr) (j : Nat) : (ad.add j).block = ad.block := by unfold Addr.add; split <;> rfl
theorem Ints.lt {w : World} {ad : Addr} {n : Nat} {xs : List Int} (h : Ints w (some ad) n xs) (hn : 0 < n) : ad.block < w.heap.size := by
  have h1 := h.cell ad rfl 0 hn
  have h2 := World.block_lt_of_cell? _ _ h1
  rwa [add_block] at h2
theorem Ints.fr {X : Nat → Prop} {w w' : World} {ao : Option Addr} {n : Nat} {xs : List Int} (h : Ints w ao n xs) (hf : Fr X w w') (hX : ∀ ad, ao = some ad → 0 < n → ¬ X ad.block) : Ints w' ao n xs :=
  ⟨h.len, h.bare, fun ad had j hj => by
    subst had
    have := World.cell?_of_block (w := w) (w' := w') (a := ad.add j) (by rw [add_block]; exact hf.block _ (h.lt (by omega)) (hX ad rfl (by omega)))
    rw [this]
    exact h.cell ad rfl j hj, h.wf⟩
theorem Ints.next {w w' : World} {ao : Option Addr} {n : Nat} {xs : List Int} (h : Ints w ao n xs) (hb : Below w.heap.size w w') : Ints w' ao n xs :=
  h.fr (X := fun _ => False) (Fr.of_below hb (Nat.le_refl _)) (fun _ _ _ hx => hx)

/-- What lies flushed when the numbers ks have been gone through. -/
def kept (d : St) (ks : List Int) (i : Nat) : Sec := if (i : Int) ∈ ks then d.at i else d.lasts i
def St.on (d : St) (ks : List Int) : St := { d with off := false, lasts := kept d ks, waits := fun _ => none }
theorem kept_nil (d : St) : kept d [] = d.lasts := by funext i; simp [kept]
theorem kept_hit (d : St) (ks : List Int) (i : Nat) (s : Sec) (h : d.waits i = some s) : upd (kept d ks) i s = kept d (ks ++ [(i : Int)]) := by
  funext j
  unfold kept upd
  by_cases e : j = i
  · subst e
    simp [St.at, h]
  · have : ¬ (j : Int) = (i : Int) := by omega
    simp [e, this]
theorem kept_miss (d : St) (ks : List Int) (x : Int) (h : wl d.waits (.int .i64 x) = none) : kept d (ks ++ [x]) = kept d ks := by
  funext j
  unfold kept
  by_cases e : (j : Int) = x
  · subst e
    have h1 : d.waits j = none := (wl_ky d.waits j).symm.trans h
    have : d.at j = d.lasts j := by unfold St.at; rw [h1]; rfl
    simp [this]
  · simp [e]
theorem take_snoc (xs : List Int) (j n : Nat) (hl : xs.length = n) (hj : j < n) : xs.take (j + 1) = xs.take j ++ [xs.getD j 0] := by
  rw [List.take_add_one]
  simp [List.getD, List.getElem?_eq_getElem (show j < xs.length by omega)]

theorem lt_of_block' {w : World} {b : Nat} {o : Obj} (h : w.heap[b]? = some o) : b < w.heap.size := (Array.getElem?_eq_some_iff.1 h).1
theorem on_nil (w : World) (ao : Option Addr) (n c : Nat) : Calls Tryz.prog 27 #[.pointer none, .slice ao n c] w fun e w' => e = .returned (.int .i64 1) ∧ w = w' := by
  go_enter Tryz.func27, Tryz.ntmps27
  go_wp2
  go_ret
  exact ⟨rfl, rfl⟩
theorem on_not (w : World) (r f m cap : Nat) (d : St) (h : Lay w r f m cap d) (hoff : d.off = false) (ao : Option Addr) (n c : Nat) : Calls Tryz.prog 27 #[.pointer (some ⟨r, 0, none⟩), .slice ao n c] w fun e w' => e = .returned (.int .i64 70) ∧ w = w' := by
  have c5 := h.c5
  rw [hoff] at c5
  go_enter Tryz.func27, Tryz.ntmps27
  go_wp2
  go_ret
  exact ⟨rfl, rfl⟩
set_option maxRecDepth 100000 in
set_option maxHeartbeats 2000000 in
theorem on_good (w : World) (r f m cap : Nat) (d : St) (h : Lay w r f m cap d) (hoff : d.off = true) (ao : Option Addr) (n c : Nat) (xs : List Int) (hx : Ints w ao n xs) (hap : ∀ ad, ao = some ad → 0 < n → ¬ fp r f m ad.block) (hn : n ≤ 9223372036854775807) :
    Calls Tryz.prog 27 #[.pointer (some ⟨r, 0, none⟩), .slice ao n c] w fun e w' => e = .returned (.int .i64 0) ∧ ∃ m', w.heap.size ≤ m' ∧ Lay w' r f m' cap (d.on xs) ∧ Fr (fp r f m) w w' := by
  have hz := zero39
  have c5 := h.c5
  rw [hoff] at c5
  have f5 := h.fz 5
  have hL1 : Lay (w.setCell ⟨r, 5, none⟩ (.bool false)) r f m cap { d with off := false } := h.put 5 _ _ rfl rfl rfl rfl (Nat.le_refl _) h.arm
  have hF1 : Fr (fp r f m) w (w.setCell ⟨r, 5, none⟩ (.bool false)) := (Fr.refl _ w).setCell _ _ (.inl (fp_r r f m))
  obtain ⟨D, hD, hM⟩ := hL1.map
  have hl := hx.len
  have hmr := h.mr_ne
  have hmf := h.mf_ne
  have hfrn := h.fr_ne
  have htop := h.top
  have hnI : (n : Int) ≤ 9223372036854775807 := by omega
  have hff : fp r f m f := fp_f r f m
  go_enter Tryz.func27, Tryz.ntmps27
  go_wp2
  go_loopw [23] (fun v wr => ∃ (j : Nat), j ≤ n ∧ v = .int .i64 (j : Int) ∧ Blk wr r 98 (dc f m cap { d with off := false }) ∧ Rw wr f d.n (kept d (xs.take j)) ∧ wr.ownsMap Tryz.prog 3 secR m d.writes D ∧ Fr (fp r f m) w wr) (fun v _ => n - (intOf v).toNat)
  case atStart =>
    refine ⟨0, by omega, rfl, hL1.blk, ?_, hD, hF1⟩
    rw [List.take_zero, kept_nil]
    exact hL1.row
  case round =>
    obtain ⟨j, hj, rfl, hblk, hrow, hown, hfrm⟩ := hrel
    clear c5 f5
    by_cases hjn : j < n
    · have hjI : (j : Int) < n := by omega
      cases ao with
      | none => have := hx.bare rfl; omega
      | some ad =>
        have hxr := hx.fr hfrm hap
        have cx := hxr.cell ad rfl j hjn
        have hwf := hx.wf (xs.getD j 0) (by simp [List.getD, List.getElem?_eq_getElem (show j < xs.length by omega)])
        have hts := take_snoc xs j n hl hjn
        obtain ⟨x, ex⟩ : ∃ x, x = xs.getD j 0 := ⟨_, rfl⟩
        rw [← ex] at cx hwf hts
        clear ex
        have HTS : Hid (xs.take (j + 1) = xs.take j ++ [x]) := hts
        clear hts
        have c1 := hblk.cell 1 _ rfl
        have hB := Blk.new wr 26 (sb zs)
        have hle := hfrm.size
        have hfr2 := fun s : Sec => (Fr.refl (fun k => k = wr.heap.size) (wr.alloc (.cells (sb zs).toArray 26))).setRow wr.heap.size (sb s).toArray (.inl rfl)
        cases hw : wl d.waits (.int .i64 x) with
        | none =>
          go_wp2_with (first
            | (at_lookup; refine look_sec rfl _ _ rfl m _ D d.waits hown hM rfl x rfl hwf zs (by rw [hw]; rfl) false (by rw [hw]; rfl) ?_)
            | (refine store_sec rfl _ _ rfl wr.heap.size zs zs hB rfl rfl ?_; intro hsecU))
          go_roundw
          case rel =>
            refine ⟨j + 1, by omega, by go_num, (hblk.alloc _).fr (hfr2 zs) (by have := hblk.lt; omega), ?_, ?_, (hfrm.alloc _).setRow _ _ (.inr hle)⟩
            · rw [HTS.out, kept_miss d _ x hw]
              exact (hrow.same (heap_alloc_old wr _ hrow.lt)).fr (hfr2 zs) (by have := hrow.lt; omega)
            · obtain ⟨es, cl, hb, e⟩ := hown.alloc (.cells (sb zs).toArray 26)
              exact ⟨es, cl, ((hfr2 zs).block m (lt_of_block' hb) (by have := hown.lt; omega)).trans hb, e⟩
          case measure => simp [intOf]; omega
        | some s =>
          have h0 : 0 ≤ x := by
            rcases Int.lt_or_le x 0 with hn | hn
            · rw [wl_neg d.waits x hn] at hw; cases hw
            · exact hn
          obtain ⟨i, hi0⟩ := Int.eq_ofNat_of_zero_le h0
          subst hi0
          have hwi : d.waits i = some s := (wl_ky d.waits i).symm.trans hw
          have hi : i < d.n := by
            rcases Nat.lt_or_ge i d.n with h1 | h1
            · exact h1
            · rw [h.low i h1] at hwi; cases hwi
          have hI1 : (i : Int) < d.n := by omega
          go_wp2_with (first
            | (at_lookup; refine look_sec rfl _ _ rfl m _ D d.waits hown hM rfl (i : Int) rfl hwf s (by rw [hw]; rfl) true (by rw [hw]; rfl) ?_)
            | (refine store_sec rfl _ _ rfl wr.heap.size zs s hB rfl rfl ?_; intro hsecU))
          have hblkU := (hblk.alloc (.cells (sb zs).toArray 26)).fr (hfr2 s) (by have := hblk.lt; omega)
          have hrowU := (hrow.same (heap_alloc_old wr (.cells (sb zs).toArray 26) hrow.lt)).fr (hfr2 s) (by have := hrow.lt; omega)
          have hownU : ((wr.alloc (.cells (sb zs).toArray 26)).setRow wr.heap.size (sb s).toArray).ownsMap Tryz.prog 3 secR m d.writes D := by
            obtain ⟨es, cl, hb, e⟩ := hown.alloc (.cells (sb zs).toArray 26)
            exact ⟨es, cl, ((hfr2 s).block m (lt_of_block' hb) (by have := hown.lt; omega)).trans hb, e⟩
          have hfrU : Fr (fp r f m) w ((wr.alloc (.cells (sb zs).toArray 26)).setRow wr.heap.size (sb s).toArray) := (hfrm.alloc _).setRow _ _ (.inr hle)
          obtain ⟨U, hU⟩ : ∃ U, U = ((wr.alloc (.cells (sb zs).toArray 26)).setRow wr.heap.size (sb s).toArray) := ⟨_, rfl⟩
          obtain ⟨G, hG⟩ : ∃ G, G = wr.heap.size := ⟨_, rfl⟩
          rw [← hU] at hsecU hblkU hrowU hownU hfrU ⊢
          rw [← hG] at hsecU ⊢
          have c0U : U.cell? ⟨r, 0, none⟩ = some (.slice (some ⟨f, 0, none⟩) d.n cap) := hblkU.cell 0 _ rfl
          obtain ⟨F, hF⟩ : ∃ F, F = kept d (xs.take j) := ⟨_, rfl⟩
          rw [← hF] at hrowU
          have HF : Hid (F = kept d (xs.take j)) := hF
          clear hF hU hfr2 hB hblk hrow hown hfrm cx hxr c1 hG
          refine wp_region_to (fun v => Sm U v) 7 (by kernel_rfl) ?_
          have hS0 := Sm.drew U
          refine wpTo_take (i := 0) (v := ?v0q) (show _ = some _ by simp only [List.getElem?_toArray, List.getElem?_cons_zero]; exact rfl) (by kernel_rfl) (by kernel_rfl) (by kernel_rfl) (by kernel_rfl) (by exact fun _ _ _ h => h) (Or.inl ⟨by rfl, ?hy0q⟩) hS0 ?r0q
          case hy0q => (intro w hSw; (try dsimp only at hSw); go_simp; try with_reducible rfl)
          (try simp only [Act.put]); (try simp only [List.setIfInBounds_toArray]); (repeat (first | simp only [List.set_cons_succ] | simp only [List.set_cons_zero]))
          refine wpTo_take (i := 1) (v := ?v1q) (show _ = some _ by simp only [List.getElem?_toArray, List.getElem?_cons_succ, List.getElem?_cons_zero]; exact rfl) (by kernel_rfl) (by kernel_rfl) (by kernel_rfl) (by kernel_rfl) (by exact fun _ _ _ h => h) (Or.inl ⟨by rfl, ?hy1q⟩) hS0 ?r1q
          case hy1q => (intro w hSw; (try dsimp only at hSw); go_simp; try with_reducible rfl)
          (try simp only [Act.put]); (try simp only [List.setIfInBounds_toArray]); (repeat (first | simp only [List.set_cons_succ] | simp only [List.set_cons_zero]))
          refine wpTo_take (i := 2) (v := ?v2q) (show _ = some _ by simp only [List.getElem?_toArray, List.getElem?_cons_succ, List.getElem?_cons_zero]; exact rfl) (by kernel_rfl) (by kernel_rfl) (by kernel_rfl) (by kernel_rfl) (by exact fun _ _ _ h => h) (Or.inl ⟨by rfl, ?hy2q⟩) hS0 ?r2q
          case hy2q => (intro w hSw; (try dsimp only at hSw); go_simp; try with_reducible rfl)
          (try simp only [Act.put]); (try simp only [List.setIfInBounds_toArray]); (repeat (first | simp only [List.set_cons_succ] | simp only [List.set_cons_zero]))
          refine wpTo_take (i := 4) (v := ?v4q) (show _ = some _ by simp only [List.getElem?_toArray, List.getElem?_cons_succ, List.getElem?_cons_zero]; exact rfl) (by kernel_rfl) (by kernel_rfl) (by kernel_rfl) (by kernel_rfl) (by exact fun _ _ _ h => h) (Or.inl ⟨by rfl, ?hy4q⟩) hS0 ?r4q
          case hy4q => (intro w hSw; (try dsimp only at hSw); go_simp; try with_reducible rfl)
          (try simp only [Act.put]); (try simp only [List.setIfInBounds_toArray]); (repeat (first | simp only [List.set_cons_succ] | simp only [List.set_cons_zero]))
          refine wpTo_take (i := 3) (v := ?v3q) (show _ = some _ by simp only [List.getElem?_toArray, List.getElem?_cons_succ, List.getElem?_cons_zero]; exact rfl) (by kernel_rfl) (by kernel_rfl) (by kernel_rfl) (by kernel_rfl) (by exact fun _ _ _ h => h) (Or.inl ⟨by rfl, ?hy3q⟩) hS0 ?r3q
          case hy3q => (intro w hSw; (try dsimp only at hSw); have hcc := (hSw.cell _).trans c0U; go_simp; try with_reducible rfl)
          (try simp only [Act.put]); (try simp only [List.setIfInBounds_toArray]); (repeat (first | simp only [List.set_cons_succ] | simp only [List.set_cons_zero]))
          refine wpTo_take (i := 5) (show _ = some _ by simp only [List.getElem?_toArray, List.getElem?_cons_succ, List.getElem?_cons_zero]; exact rfl) (by kernel_rfl) (by kernel_rfl) (by kernel_rfl) (by kernel_rfl) (by exact fun _ _ _ h => h) (yieldsIf_load_mid (by rfl) 26 (.tmp 7) rfl G 0 rfl (sb s) _ (fun v h => (h.blk hsecU).whole) Tryz.underlying26 rfl (by rw [sb_length]; kernel_rfl)) hS0 ?_
          (try simp only [Act.put]); (try simp only [List.setIfInBounds_toArray]); (repeat (first | simp only [List.set_cons_succ] | simp only [List.set_cons_zero]))
          refine wpTo_take (i := 6) (v := ?v6q) (show _ = some _ by simp only [List.getElem?_toArray, List.getElem?_cons_succ, List.getElem?_cons_zero]; exact rfl) (by kernel_rfl) (by kernel_rfl) (by kernel_rfl) (by kernel_rfl) (by exact fun _ _ _ h => h) (Or.inl ⟨by rfl, ?hy6q⟩) hS0 ?r6q
          case hy6q => (intro w hSw; (try dsimp only at hSw); go_simp; try with_reducible rfl)
          (try simp only [Act.put]); (try simp only [List.setIfInBounds_toArray]); (repeat (first | simp only [List.set_cons_succ] | simp only [List.set_cons_zero]))
          refine wpTo_last (by kernel_rfl) (show _ = some _ by simp only [List.getElem?_toArray, List.getElem?_cons_succ, List.getElem?_cons_zero]; exact rfl) (by kernel_rfl) (fun K hK => ?_)
          rw [if_pos (by rfl)]
          refine put_row _ _ rfl f _ F (hS0.row hrowU) i hi s rfl rfl (fun hR3 => ?_)
          refine hK.out _ _ ?_
          clear hK K
          (try simp only [Act.put]); (try simp only [List.setIfInBounds_toArray]); (repeat (first | simp only [List.set_cons_succ] | simp only [List.set_cons_zero]))
          have hSm := hS0
          have hfrV := (hSm.fr hfrU).setCells f (i * 512) (sb s) (.inl hff)
          have hfrW := (Fr.refl (fun k => k = f) U.drew).setCells f (i * 512) (sb s) (.inl rfl)
          go_wp2_with fail
          go_roundw
          case rel =>
            refine ⟨j + 1, by omega, by go_num, (hSm.blk hblkU).fr hfrW (fun e => hfrn e.symm), ?_, ?_, hfrV⟩
            · rw [HTS.out, ← kept_hit d _ i s hwi, ← HF.out]
              exact hR3
            · obtain ⟨es, cl, hb, e⟩ := hownU
              exact ⟨es, cl, (hfrW.block m (lt_of_block' hb) hmf).trans hb, e⟩
          case measure => simp [intOf]; omega
    · have hjI : ¬ (j : Int) < n := by omega
      have ej : j = n := by omega
      rw [ej, List.take_of_length_le (by omega)] at hrow
      have hLA : Lay wr r f m cap { d with off := false, lasts := kept d xs } := ⟨hblk, hrow, ⟨D, hown, hM⟩, h.one, h.top, h.low, h.arm⟩
      go_wp2_with (go_at_call 60; refine (forget_any _ r f m cap _ hLA).mono ?_; rintro e w3 ⟨rfl, m', hm', hL3, hF3⟩)
      go_ret
      exact ⟨rfl, m', Nat.le_trans hfrm.size hm', hL3, hfrm.trans hF3 (fun _ _ h => h)⟩
end Go.Proofs.YtndfhmlcfaaaiaaGreatDoor


/- Each call on a disk, in one sentence. -/
namespace Go.Proofs.YtndfhmlcfaaaiaaGreatDoor
open Go.RowKit

def St.wr (d : St) (i : Int) (s : Sec) : St × Int := if d.off = true then (d, 6) else if i < 0 ∨ (d.n : Int) ≤ i then (d, 2) else (d.write i.toNat s).op
def St.fl (d : St) : St × Int := if d.off = true then (d, 6) else if d.tick.op.2 = 0 then (d.tick.op.1.all, 0) else (d.tick.op.1, d.tick.op.2)
def St.rd (d : St) (i : Int) : Sec × Int := if d.off = true then (zs, 6) else if i < 0 ∨ (d.n : Int) ≤ i then (zs, 2) else (d.at i.toNat, 0)
def St.ar (d : St) (i : Int) : St × Int := if i < 0 then (d, 2) else ({ d with armed := i.toNat }, 0)
def St.po (d : St) (ks : List Int) : St × Int := if d.off = true then (d.on ks, 0) else (d, 70)

/-- The disk has turned to d; nothing but its blocks has been touched. -/
def Turn (w w' : World) (r f m cap : Nat) (d : St) : Prop := ∃ m', (m' = m ∨ w.heap.size ≤ m') ∧ Lay w' r f m' cap d ∧ Fr (fp r f m) w w'
theorem Turn.of {w w' : World} {r f m cap : Nat} {d : St} (h : Lay w' r f m cap d) (hf : Fr (fp r f m) w w') : Turn w w' r f m cap d := ⟨m, .inl rfl, h, hf⟩
theorem Turn.still {w w' : World} {r f m cap : Nat} {d : St} (h : Lay w r f m cap d) (hb : Below w.heap.size w w') : Turn w w' r f m cap d := ⟨m, .inl rfl, h.next hb, Fr.of_below hb (Nat.le_refl _)⟩

theorem wr_any (w : World) (r f m cap : Nat) (d : St) (h : Lay w r f m cap d) (i : Int) (s : Sec) (hw : d.writes < 1000000000) :
    Calls Tryz.prog 84 #[.pointer (some ⟨r, 0, none⟩), .int .i64 i, .agg (sb s).toArray] w fun e w' => e = .returned (.int .i64 (d.wr i s).2) ∧ Turn w w' r f m cap (d.wr i s).1 := by
  unfold St.wr
  by_cases ho : d.off = true
  · rw [if_pos ho]
    exact (write_bad w r f m cap d h i 6 s (by unfold St.no; rw [if_pos ho]) (by decide)).mono fun e w' ⟨he, hb⟩ => ⟨he, .still h hb⟩
  · rw [if_neg ho]
    by_cases hi : i < 0 ∨ (d.n : Int) ≤ i
    · rw [if_pos hi]
      exact (write_bad w r f m cap d h i 2 s (by unfold St.no; rw [if_neg ho, if_pos hi]) (by decide)).mono fun e w' ⟨he, hb⟩ => ⟨he, .still h hb⟩
    · rw [if_neg hi]
      obtain ⟨k, rfl⟩ := Int.eq_ofNat_of_zero_le (show 0 ≤ i by omega)
      exact (write_good w r f m cap d h k s (by simpa using ho) (by omega) hw).mono fun e w' ⟨he, hl, hf⟩ => ⟨he, .of hl hf⟩
theorem fl_any (w : World) (r f m cap : Nat) (d : St) (h : Lay w r f m cap d) (hf : d.flushes < 1000000000) :
    Calls Tryz.prog 82 #[.pointer (some ⟨r, 0, none⟩)] w fun e w' => e = .returned (.int .i64 d.fl.2) ∧ Turn w w' r f m cap d.fl.1 := by
  unfold St.fl
  by_cases ho : d.off = true
  · rw [if_pos ho]
    exact (flush_out w r f m cap d h ho).mono fun e w' ⟨he, hw⟩ => by subst hw; exact ⟨he, .still h (Below.refl _ _)⟩
  · rw [if_neg ho]
    by_cases h0 : d.tick.op.2 = 0
    · rw [if_pos h0]
      exact (flush_good w r f m cap d h (by simpa using ho) h0 hf).mono fun e w' ⟨he, m', hm', hl, hfr⟩ => ⟨he, m', .inr hm', hl, hfr⟩
    · rw [if_neg h0]
      exact (flush_off w r f m cap d h (by simpa using ho) _ rfl h0 hf).mono fun e w' ⟨he, hl, hfr⟩ => ⟨he, .of hl hfr⟩
theorem rd_any (w : World) (r f m cap : Nat) (d : St) (h : Lay w r f m cap d) (i : Int) :
    Calls Tryz.prog 74 #[.pointer (some ⟨r, 0, none⟩), .int .i64 i] w fun e w' => e = .returned (.tuple #[.agg (sb (d.rd i).1).toArray, .int .i64 (d.rd i).2]) ∧ Below w.heap.size w w' := by
  unfold St.rd
  by_cases ho : d.off = true
  · rw [if_pos ho]
    exact read_bad w r f m cap d h i 6 (by unfold St.no; rw [if_pos ho]) (by decide)
  · rw [if_neg ho]
    by_cases hi : i < 0 ∨ (d.n : Int) ≤ i
    · rw [if_pos hi]
      exact read_bad w r f m cap d h i 2 (by unfold St.no; rw [if_neg ho, if_pos hi]) (by decide)
    · rw [if_neg hi]
      obtain ⟨k, rfl⟩ := Int.eq_ofNat_of_zero_le (show 0 ≤ i by omega)
      exact read_good w r f m cap d h k (by simpa using ho) (by omega)
theorem ar_any (w : World) (r f m cap : Nat) (d : St) (h : Lay w r f m cap d) (i : Int) (hi : i < 9223372036854775808) :
    Calls Tryz.prog 26 #[.pointer (some ⟨r, 0, none⟩), .int .i64 i] w fun e w' => e = .returned (.int .i64 (d.ar i).2) ∧ Turn w w' r f m cap (d.ar i).1 := by
  unfold St.ar
  by_cases hn : i < 0
  · rw [if_pos hn]
    exact (arm_bad w r i hn).mono fun e w' ⟨he, hw⟩ => by subst hw; exact ⟨he, .still h (Below.refl _ _)⟩
  · rw [if_neg hn]
    obtain ⟨k, rfl⟩ := Int.eq_ofNat_of_zero_le (show 0 ≤ i by omega)
    exact (arm_any w r f m cap d h k (by omega)).mono fun e w' ⟨he, hl, hf, _⟩ => ⟨he, .of hl hf⟩
theorem po_any (w : World) (r f m cap : Nat) (d : St) (h : Lay w r f m cap d) (ao : Option Addr) (n c : Nat) (xs : List Int) (hx : Ints w ao n xs) (hap : ∀ ad, ao = some ad → 0 < n → ¬ fp r f m ad.block) (hn : n ≤ 9223372036854775807) :
    Calls Tryz.prog 27 #[.pointer (some ⟨r, 0, none⟩), .slice ao n c] w fun e w' => e = .returned (.int .i64 (d.po xs).2) ∧ Turn w w' r f m cap (d.po xs).1 := by
  unfold St.po
  by_cases ho : d.off = true
  · rw [if_pos ho]
    exact (on_good w r f m cap d h ho ao n c xs hx hap hn).mono fun e w' ⟨he, m', hm', hl, hfr⟩ => ⟨he, m', .inr hm', hl, hfr⟩
  · rw [if_neg ho]
    exact (on_not w r f m cap d h (by simpa using ho) ao n c).mono fun e w' ⟨he, hw⟩ => by subst hw; exact ⟨he, .still h (Below.refl _ _)⟩

section
variable {w w' : World} {r f m cap : Nat} {d : St}
/-- A block beside a disk. -/
def Side (w : World) (g : Nat) (t : TypeId) (vs : List Value) (r f m : Nat) : Prop := Blk w g t vs ∧ ¬ fp r f m g
theorem Side.turn {g : Nat} {t : TypeId} {vs : List Value} {m' : Nat} (h : Side w g t vs r f m) (hf : Fr (fp r f m) w w') (hm : m' = m ∨ w.heap.size ≤ m') : Side w' g t vs r f m' := by
  refine ⟨h.1.fr hf h.2, fun hx => ?_⟩
  have hlt := h.1.lt
  rcases hx with e | e | e
  · exact h.2 (.inl e)
  · exact h.2 (.inr (.inl e))
  · rcases hm with rfl | hm
    · exact h.2 (.inr (.inr e))
    · omega
theorem Side.next {g : Nat} {t : TypeId} {vs : List Value} (h : Side w g t vs r f m) (hb : Below w.heap.size w w') : Side w' g t vs r f m := ⟨h.1.next hb, h.2⟩
theorem Side.new {g : Nat} {t : TypeId} {vs : List Value} (hl : Lay w r f m cap d) (hb : Blk w' g t vs) (hg : w.heap.size ≤ g) : Side w' g t vs r f m := by
  refine ⟨hb, fun hx => ?_⟩
  have h1 := hl.blk.lt
  have h2 := hl.row.lt
  have h3 := hl.mlt
  rcases hx with e | e | e <;> omega
/-- A sector laid into a block of its own. -/
theorem boxed (v : World) (s : Sec) : Blk ((v.alloc (.cells (sb zs).toArray 26)).setRow v.heap.size (sb s).toArray) v.heap.size 26 (sb s) ∧ Below v.heap.size v ((v.alloc (.cells (sb zs).toArray 26)).setRow v.heap.size (sb s).toArray) := by
  have h := Blk.new v 26 (sb zs)
  refine ⟨setRow_heap _ v.heap.size _ _ 26 _ h, ?_⟩
  exact Fr.below (X := fun k => v.heap.size ≤ k) (((Fr.refl _ v).alloc _).setRow _ _ (.inl (Nat.le_refl _))) (fun _ h => h) (Nat.le_refl _)
theorem op_zero (d : St) (h : d.armed = 0) : d.op = (d, 0) := by unfold St.op; rw [if_pos h]
end
end Go.Proofs.YtndfhmlcfaaaiaaGreatDoor

