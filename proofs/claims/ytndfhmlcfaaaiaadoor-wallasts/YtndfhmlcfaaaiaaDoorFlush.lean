/- What is pending made flushed. -/
import Derived.Test.YtndfhmlcfaaaiaaDoorWrite
namespace Go.Proofs.YtndfhmlcfaaaiaaDoor
open Go.RowKit

/-- The same memory. -/
structure Sm (u v : World) : Prop where
  heap : v.heap = u.heap
  os : v.os = u.os
  tape : v.tape = u.tape
  output : v.output = u.output
theorem Sm.drew (u : World) : Sm u u.drew := ⟨rfl, rfl, rfl, rfl⟩
section
variable {u v w : World}
theorem Sm.cell (h : Sm u v) (a : Addr) : v.cell? a = u.cell? a := World.cell?_of_block (by rw [h.heap])
theorem Sm.blk (h : Sm u v) {g : Nat} {t : TypeId} {vs : List Value} (hb : Blk u g t vs) : Blk v g t vs := by unfold Blk; rw [h.heap]; exact hb
theorem Sm.row (h : Sm u v) {f n : Nat} {F : Nat → Sec} (hr : Rw u f n F) : Rw v f n F := hr.same (by rw [h.heap])
theorem Sm.fr (h : Sm u v) {X : Nat → Prop} (hf : Fr X w u) : Fr X w v := ⟨h.os.trans hf.os, h.tape.trans hf.tape, h.output.trans hf.output, by rw [h.heap]; exact hf.size, by rw [h.heap]; exact hf.block⟩
end
theorem ranges_same {w w' : World} {b r n : Nat} {D : DataW Sec} {left : Lit → Bool} {cnt : Nat} (h : w.ranges Tryd.prog 3 secR b r n D left cnt) (h1 : w'.heap[b]? = w.heap[b]?) (h2 : w'.heap[r]? = w.heap[r]?) : w'.ranges Tryd.prog 3 secR b r n D left cnt := by
  obtain ⟨es, clock, since, seen, c0, hb, F, hs, hD, hr, rest⟩ := h
  exact ⟨es, clock, since, seen, c0, h1.trans hb, F, hs, hD, h2.trans hr, rest⟩
/-- 's[i] = x'. -/
theorem put_row {w : World} {o : Oper} {a : Act} {K : Act → World → Prop} {Q : Exit → Act → World → Prop} (x y : Operand) (ho : o.op = .store 64 x y) (f n : Nat) (F : Nat → Sec) (hR : Rw w f n F) (i : Nat) (hi : i < n) (s : Sec)
    (hx : a.eval x = .pointer (some ⟨f, i * 512, none⟩)) (hy : a.eval y = .agg (sb s).toArray) (h : Rw (w.setCells f (i * 512) (sb s)) f n (upd F i s) → K (a.put o.dst undef) (w.setCells f (i * 512) (sb s))) : o.wp Tryd.prog a w K Q :=
  wp_store_mid 64 x y ho f (i * 512) (sb s).toArray hx hy (by rw [List.size_toArray, sb_length]; exact hR.there hi) (by rw [List.size_toArray, sb_length]; kernel_rfl) (sb_one s) (h (hR.put hi s))
/-- The step of a range over the map. -/
theorem next_sec {w : World} {ops : Array Oper} {rest : List Oper} {o : Oper} {a : Act} {Q : Exit → Act → World → Prop} (hg : o.guard = none) (it : Operand) (hop : o.op = Op.next it false) (b r n : Nat) (D : DataW Sec) (W : Nat → Option Sec) (left : Lit → Bool) (cnt : Nat)
    (hM : Mp D W) (h : w.ranges Tryd.prog 3 secR b r n D left cnt) (hit : a.eval it = .pointer (some ⟨r, 0, none⟩))
    (hDone : (∀ kl, left kl = false) → wpList Tryd.prog ops Q rest (a.put o.dst (.tuple #[.bool false])) w)
    (hMore : ∀ (i : Nat) (s : Sec) (w' : World) (cnt' : Nat), W i = some s → left (ky i) = true → w'.ranges Tryd.prog 3 secR b r n D (fun z => left z && !z.sameKey (ky i)) cnt' → cnt' < cnt → w.grownBy w' (some r) → w'.heap.size = w.heap.size →
      (Instr.entry (.pointer (some ⟨r, 0, none⟩))).run Tryd.prog w' = .ok (.tuple #[.int .i64 (i : Int), .agg (sb s).toArray]) w' → wpList Tryd.prog ops Q rest (a.put o.dst (.tuple #[.bool true, .int .i64 (i : Int), .agg (sb s).toArray])) w') :
    wpList Tryd.prog ops Q (o :: rest) a w := by
  refine wpList_next_ranges w hg it hop 3 law3 secR (Value.int .i64) (fun s : Sec => .agg (sb s).toArray) (fun key kl hk => by obtain ⟨x, rfl, _⟩ := Maps.keyOf_int_inv Tryd.underlying3 hk; exact ⟨x, rfl⟩) (fun v y hv => by obtain ⟨s, rfl, _⟩ := secR_inv hv; exact ⟨s, rfl⟩) b r n D left cnt hit h (fun _ hl => hDone hl) ?_
  intro x c kl y w' cnt' hkey hlk hv hat hrg hlt hgr hsz hen
  obtain ⟨x', ex, rfl, _⟩ := Maps.keyOf_int_inv Tryd.underlying3 hkey
  cases ex
  obtain ⟨s, es, rfl⟩ := secR_inv hv
  have es' := sv_inj (s := c) (t := s) es
  subst es'
  have h1 := hM.2 (.int .i64 x) .nil
  rw [hat] at h1
  cases hw : wl W (.int .i64 x) with
  | none => rw [hw] at h1; cases h1
  | some t =>
    rw [hw] at h1
    injection h1 with h1
    subst h1
    have h0 : 0 ≤ x := by
      rcases Int.lt_or_le x 0 with hn | hn
      · rw [wl_neg W x hn] at hw; cases hw
      · exact hn
    obtain ⟨i, rfl⟩ := Int.eq_ofNat_of_zero_le h0
    have hwi : W i = some c := (wl_ky W i).symm.trans hw
    exact hMore i c w' cnt' hwi hlk hrg hlt hgr hsz hen
theorem same_ky (i j : Nat) : (ky i).sameKey (ky j) = decide (i = j) := by
  by_cases h : i = j
  · subst h; simp [ky, Lit.sameKey]
  · rw [decide_eq_false h]
    exact Maps.sameKey_ne (fun e => h (ky_inj e))

def St.tick (d : St) : St := { d with flushes := d.flushes + 1 }
/-- All that is pending is flushed. -/
def St.all (d : St) : St := { d with lasts := d.at, waits := fun _ => none }
theorem op_n (d : St) : d.op.1.n = d.n := by unfold St.op; split; rfl; split <;> rfl
theorem op_lasts (d : St) : d.op.1.lasts = d.lasts := by unfold St.op; split; rfl; split <;> rfl
theorem op_waits (d : St) : d.op.1.waits = d.waits := by unfold St.op; split; rfl; split <;> rfl
theorem op_writes (d : St) : d.op.1.writes = d.writes := by unfold St.op; split; rfl; split <;> rfl
theorem op_flushes (d : St) : d.op.1.flushes = d.flushes := by unfold St.op; split; rfl; split <;> rfl
/-- What lies flushed while the range goes. -/
def mid (d : St) (left : Lit → Bool) (i : Nat) : Sec := if left (ky i) then d.lasts i else d.at i
theorem mid_start (d : St) (D : DataW Sec) (hM : Mp D d.waits) : mid d (Maps.has D) = d.lasts := by
  funext i
  unfold mid
  rw [hM.has, wl_ky]
  unfold St.at
  cases d.waits i <;> simp
theorem mid_end (d : St) (left : Lit → Bool) (h : ∀ kl, left kl = false) : mid d left = d.at := by
  funext i
  unfold mid
  rw [h]
  rfl
theorem mid_step (d : St) (left : Lit → Bool) (i : Nat) (s : Sec) (h : d.waits i = some s) : upd (mid d left) i s = mid d (fun z => left z && !z.sameKey (ky i)) := by
  funext j
  unfold mid upd
  simp only [same_ky]
  by_cases e : j = i
  · subst e
    simp [St.at, h]
  · simp [e]

theorem flush_nil (w : World) : Calls Tryd.prog 29 #[.pointer none] w fun e w' => e = .returned (.int .i64 1) ∧ w = w' := by
  go_enter Tryd.func29, Tryd.ntmps29
  go_wp2_with (go_at_call 51; refine (outage_nil _).mono ?_; rintro e w' ⟨rfl, rfl⟩)
  go_ret
  exact ⟨rfl, rfl⟩
theorem flush_out (w : World) (r f m cap : Nat) (d : St) (h : Lay w r f m cap d) (hoff : d.off = true) : Calls Tryd.prog 29 #[.pointer (some ⟨r, 0, none⟩)] w fun e w' => e = .returned (.int .i64 6) ∧ w = w' := by
  have hr := outage_any w r f m cap d h
  unfold St.out at hr
  rw [hoff] at hr
  simp only [if_true] at hr
  go_enter Tryd.func29, Tryd.ntmps29
  go_wp2_with (go_at_call 51; refine hr.mono ?_; rintro e w' ⟨rfl, rfl⟩)
  go_ret
  exact ⟨rfl, rfl⟩
theorem tick_lay (w : World) (r f m cap : Nat) (d : St) (h : Lay w r f m cap d) (T : Nat) (hT : T = d.flushes + 1) : Lay (w.setCell ⟨r, 3, none⟩ (.int .i64 (T : Int))) r f m cap d.tick ∧ Fr (fp r f m) w (w.setCell ⟨r, 3, none⟩ (.int .i64 (T : Int))) := by
  subst hT
  exact ⟨h.put 3 _ d.tick rfl rfl rfl rfl (Nat.le_refl _) h.arm, (Fr.refl _ w).setCell _ _ (.inl (fp_r r f m))⟩
theorem flush_off (w : World) (r f m cap : Nat) (d : St) (h : Lay w r f m cap d) (hoff : d.off = false) (E : Int) (hE : d.tick.op.2 = E) (h0 : E ≠ 0) (hf : d.flushes < 1000000000) : Calls Tryd.prog 29 #[.pointer (some ⟨r, 0, none⟩)] w fun e w' => e = .returned (.int .i64 E) ∧ Lay w' r f m cap d.tick.op.1 ∧ Fr (fp r f m) w w' := by
  have hr := outage_any w r f m cap d h
  unfold St.out at hr
  rw [hoff] at hr
  simp only [Bool.false_eq_true, if_false] at hr
  have c3 := h.c3
  have f3 := h.fz 3
  obtain ⟨T, hT⟩ : ∃ T, T = d.flushes + 1 := ⟨_, rfl⟩
  have hwr1 : IntKind.i64.wrap ((d.flushes : Int) + 1) = (T : Int) := by rw [IntKind.wrap_i64]; omega
  have hwr2 : IntKind.i64.wrap (T : Int) = (T : Int) := by rw [IntKind.wrap_i64]; omega
  have hI : (d.flushes : Int) + 1 = (T : Int) := by omega
  obtain ⟨hL1, hF1⟩ := tick_lay w r f m cap d h T hT
  clear hT
  have ho := operation_any _ r f m cap _ hL1
  rw [hE] at ho
  have h0b : (E == 0) = false := by simp [h0]
  go_enter Tryd.func29, Tryd.ntmps29
  go_wp2_with (first | (go_at_call 51; refine hr.mono ?_; rintro e w' ⟨rfl, rfl⟩) | (go_at_call 50; refine ho.mono ?_; rintro e w2 ⟨rfl, hL2, hF2, hS2⟩))
  go_ret
  exact ⟨rfl, hL2, hF1.trans hF2 (fun _ _ h => h)⟩
set_option maxRecDepth 100000 in
set_option maxHeartbeats 2000000 in
theorem flush_good (w : World) (r f m cap : Nat) (d : St) (h : Lay w r f m cap d) (hoff : d.off = false) (hE : d.tick.op.2 = 0) (hf : d.flushes < 1000000000) :
    Calls Tryd.prog 29 #[.pointer (some ⟨r, 0, none⟩)] w fun e w' => e = .returned (.int .i64 0) ∧ ∃ m', w.heap.size ≤ m' ∧ Lay w' r f m' cap d.tick.op.1.all ∧ Fr (fp r f m) w w' := by
  have hz := zero39
  have hr := outage_any w r f m cap d h
  unfold St.out at hr
  rw [hoff] at hr
  simp only [Bool.false_eq_true, if_false] at hr
  have c3 := h.c3
  have f3 := h.fz 3
  obtain ⟨T, hT⟩ : ∃ T, T = d.flushes + 1 := ⟨_, rfl⟩
  have hwr1 : IntKind.i64.wrap ((d.flushes : Int) + 1) = (T : Int) := by rw [IntKind.wrap_i64]; omega
  have hwr2 : IntKind.i64.wrap (T : Int) = (T : Int) := by rw [IntKind.wrap_i64]; omega
  have hI : (d.flushes : Int) + 1 = (T : Int) := by omega
  obtain ⟨hL1, hF1⟩ := tick_lay w r f m cap d h T hT
  clear hT
  have ho := operation_any _ r f m cap _ hL1
  rw [hE] at ho
  obtain ⟨d2, hd2⟩ : ∃ d2, d2 = d.tick.op.1 := ⟨_, rfl⟩
  rw [← hd2] at ho ⊢
  clear hd2
  have hfr : fp r f m r := fp_r r f m
  have hff : fp r f m f := fp_f r f m
  go_enter Tryd.func29, Tryd.ntmps29
  go_wp2_with (go_at_call 51; refine hr.mono ?_; rintro e w' ⟨rfl, rfl⟩)
  go_at_call 50; refine ho.mono ?_; rintro e w2 ⟨rfl, hL2, hF2, hS2⟩
  have c1 := hL2.c1
  obtain ⟨D, hD, hM⟩ := hL2.map
  have hF12 : Fr (fp r f m) w w2 := hF1.trans hF2 (fun _ _ h => h)
  clear hL1 hF1 hF2 hr ho h c3 f3
  go_wp2_with (first
    | (at_range; refine wpList_range_own _ rfl _ 97 rfl 3 64 law3 Tryd.underlying97 _ m _ _ rfl hD ?_; intro w0 hrg0 hg0 hs0)
    | go_in)
  (try go_frame)
  obtain ⟨IT, hIT⟩ : ∃ I, I = w2.heap.size := ⟨_, rfl⟩
  rw [← hIT] at hrg0 ⊢
  have hitr : IT ≠ r := by have := hL2.blk.lt; omega
  have hitf : IT ≠ f := by have := hL2.row.lt; omega
  have hitm : IT ≠ m := by have := hL2.mlt; omega
  have hmr := hL2.mr_ne
  have hmf := hL2.mf_ne
  have hfrn := hL2.fr_ne
  have htop := hL2.top
  have hITw : w.heap.size ≤ IT := by have := hF12.size; omega
  have hIT0 : IT < w0.heap.size := by omega
  have HIT : Hid (IT = w2.heap.size) := hIT
  clear hIT hS2
  go_loopw [5] (fun _ wr => ∃ (left : Lit → Bool) (cnt : Nat), wr.ranges Tryd.prog 3 secR m IT d2.writes D left cnt ∧ Blk wr r 99 (dc f m cap d2) ∧ Rw wr f d2.n (mid d2 left) ∧ Fr (fp r f m) w wr ∧ IT < wr.heap.size) (fun _ wr => wr.rangeLeft m IT)
  case atStart =>
    refine ⟨_, _, hrg0, ?_, ?_, hF12.grown hg0 (fun j e => (by cases e)), hIT0⟩
    · exact (hg0.block r hL2.blk.lt (by simp)).trans hL2.blk
    · rw [mid_start d2 D hM]
      exact hL2.row.same (hg0.block f hL2.row.lt (by simp))
  case round =>
    obtain ⟨left, cnt, hrg, hblk, hrow, hfrm, hITl⟩ := hrel
    clear hrg0 hg0 hs0 c1
    go_wp2_with (first
      | (at_next; refine next_sec rfl _ rfl m IT _ D d2.waits left cnt hM hrg rfl ?_ ?_)
      | go_in)
    · intro hl0
      rw [mid_end d2 left hl0] at hrow
      have hLA : Lay wr r f m cap { d2 with lasts := d2.at } := ⟨hblk, hrow, ⟨D, hrg.owns, hM⟩, hL2.one, hL2.top, hL2.low, hL2.arm⟩
      go_wp2_with (go_at_call 52; refine (forget_any _ r f m cap _ hLA).mono ?_; rintro e w3 ⟨rfl, m', hm', hL3, hF3⟩)
      go_ret
      exact ⟨rfl, m', Nat.le_trans hfrm.size hm', hL3, hfrm.trans hF3 (fun _ _ h => h)⟩
    · intro i s w1 cnt1 hwi hlk hrg1 hlt hg1 hs1 hen
      have hi : i < d2.n := by
        rcases Nat.lt_or_ge i d2.n with h1 | h1
        · exact h1
        · rw [hL2.low i h1] at hwi; cases hwi
      have hB := Blk.new w1 64 (sb zs)
      have hblk1 : Blk w1 r 99 (dc f m cap d2) := (hg1.block r hblk.lt (fun e => hitr (Option.some.inj e).symm)).trans hblk
      have hrow1 : Rw w1 f d2.n (mid d2 left) := hrow.same (hg1.block f hrow.lt (fun e => hitf (Option.some.inj e).symm))
      have hfr1 : Fr (fp r f m) w w1 := hfrm.grown hg1 (fun j e => by cases e; right; exact hITw)
      have hle := hfr1.size
      have hIT1 : IT < w1.heap.size := by omega
      have hsz1 : Hid (w1.heap.size = wr.heap.size) := hs1
      clear hs1
      go_wp2_with (first
        | (refine store_sec rfl _ _ rfl w1.heap.size zs s hB rfl rfl ?_; intro hsecU))
      have hfr2 := (Fr.refl (fun k => k = w1.heap.size) (w1.alloc (.cells (sb zs).toArray 64))).setRow w1.heap.size (sb s).toArray (.inl rfl)
      have hblkU := (hblk1.alloc (.cells (sb zs).toArray 64)).fr hfr2 (by have := hblk1.lt; omega)
      have hrowU := (hrow1.same (heap_alloc_old w1 (.cells (sb zs).toArray 64) hrow1.lt)).fr hfr2 (by have := hrow1.lt; omega)
      have hrgU := ranges_same (hrg1.alloc (.cells (sb zs).toArray 64)) (hfr2.block m (by have := (hrg1.alloc (.cells (sb zs).toArray 64)).owns.lt; exact this) (by have := hrg1.owns.lt; omega)) (hfr2.block IT (by simp; omega) (by omega))
      have hfrU : Fr (fp r f m) w ((w1.alloc (.cells (sb zs).toArray 64)).setRow w1.heap.size (sb s).toArray) := (hfr1.alloc _).setRow _ _ (.inr hle)
      have hITU : IT < ((w1.alloc (.cells (sb zs).toArray 64)).setRow w1.heap.size (sb s).toArray).heap.size := by rw [setRow_size]; simp; omega
      obtain ⟨U, hU⟩ : ∃ U, U = ((w1.alloc (.cells (sb zs).toArray 64)).setRow w1.heap.size (sb s).toArray) := ⟨_, rfl⟩
      obtain ⟨G, hG⟩ : ∃ G, G = w1.heap.size := ⟨_, rfl⟩
      rw [← hU] at hsecU hblkU hrowU hrgU hfrU hITU ⊢
      rw [← hG] at hsecU ⊢
      have c0U := hblkU.cell 0 _ rfl
      have hI1 : (i : Int) < d2.n := by omega
      obtain ⟨F, hF⟩ : ∃ F, F = mid d2 left := ⟨_, rfl⟩
      rw [← hF] at hrowU
      clear hU hfr2 hB hblk1 hrow1 hfr1 hrg1 hblk hrow hfrm hen hD
      refine wp_region_to (fun v => Sm U v) 7 (by kernel_rfl) ?_
      have hS0 := Sm.drew U
      refine wpTo_take (i := 0) (v := ?v0q) (show _ = some _ by simp only [List.getElem?_toArray, List.getElem?_cons_zero]; exact rfl) (by kernel_rfl) (by kernel_rfl) (by kernel_rfl) (by kernel_rfl) (by exact fun _ _ _ h => h) (Or.inl ⟨by rfl, ?hy0q⟩) hS0 ?r0q
      case hy0q => (intro w hSw; (try dsimp only at hSw); go_simp; try with_reducible rfl)
      (try simp only [Act.put]); (try simp only [List.setIfInBounds_toArray]); (repeat (first | simp only [List.set_cons_succ] | simp only [List.set_cons_zero]))
      refine wpTo_take (i := 1) (v := ?v1q) (show _ = some _ by simp only [List.getElem?_toArray, List.getElem?_cons_succ, List.getElem?_cons_zero]; exact rfl) (by kernel_rfl) (by kernel_rfl) (by kernel_rfl) (by kernel_rfl) (by exact fun _ _ _ h => h) (Or.inl ⟨by rfl, ?hy1q⟩) hS0 ?r1q
      case hy1q => (intro w hSw; (try dsimp only at hSw); go_simp; try with_reducible rfl)
      (try simp only [Act.put]); (try simp only [List.setIfInBounds_toArray]); (repeat (first | simp only [List.set_cons_succ] | simp only [List.set_cons_zero]))
      refine wpTo_take (i := 2) (v := ?v2q) (show _ = some _ by simp only [List.getElem?_toArray, List.getElem?_cons_succ, List.getElem?_cons_zero]; exact rfl) (by kernel_rfl) (by kernel_rfl) (by kernel_rfl) (by kernel_rfl) (by exact fun _ _ _ h => h) (Or.inl ⟨by rfl, ?hy2q⟩) hS0 ?r2q
      case hy2q => (intro w hSw; (try dsimp only at hSw); go_simp; try with_reducible rfl)
      (try simp only [Act.put]); (try simp only [List.setIfInBounds_toArray]); (repeat (first | simp only [List.set_cons_succ] | simp only [List.set_cons_zero]))
      refine wpTo_take (i := 4) (v := ?v4q) (show _ = some _ by simp only [List.getElem?_toArray, List.getElem?_cons_succ, List.getElem?_cons_zero]; exact rfl) (by kernel_rfl) (by kernel_rfl) (by kernel_rfl) (by kernel_rfl) (by exact fun _ _ _ h => h) (Or.inl ⟨by rfl, ?hy4q⟩) hS0 ?r4q
      case hy4q => (intro w hSw; (try dsimp only at hSw); go_simp; try with_reducible rfl)
      (try simp only [Act.put]); (try simp only [List.setIfInBounds_toArray]); (repeat (first | simp only [List.set_cons_succ] | simp only [List.set_cons_zero]))
      refine wpTo_take (i := 3) (v := ?v3q) (show _ = some _ by simp only [List.getElem?_toArray, List.getElem?_cons_succ, List.getElem?_cons_zero]; exact rfl) (by kernel_rfl) (by kernel_rfl) (by kernel_rfl) (by kernel_rfl) (by exact fun _ _ _ h => h) (Or.inl ⟨by rfl, ?hy3q⟩) hS0 ?r3q
      case hy3q => (intro w hSw; (try dsimp only at hSw); have hcc := (hSw.cell _).trans c0U; go_simp; try with_reducible rfl)
      (try simp only [Act.put]); (try simp only [List.setIfInBounds_toArray]); (repeat (first | simp only [List.set_cons_succ] | simp only [List.set_cons_zero]))
      refine wpTo_take (i := 5) (show _ = some _ by simp only [List.getElem?_toArray, List.getElem?_cons_succ, List.getElem?_cons_zero]; exact rfl) (by kernel_rfl) (by kernel_rfl) (by kernel_rfl) (by kernel_rfl) (by exact fun _ _ _ h => h) (yieldsIf_load_mid (by rfl) 64 (.tmp 6) rfl G 0 rfl (sb s) _ (fun v h => (h.blk hsecU).whole) Tryd.underlying64 rfl (by rw [sb_length]; kernel_rfl)) hS0 ?_
      (try simp only [Act.put]); (try simp only [List.setIfInBounds_toArray]); (repeat (first | simp only [List.set_cons_succ] | simp only [List.set_cons_zero]))
      refine wpTo_take (i := 6) (v := ?v6q) (show _ = some _ by simp only [List.getElem?_toArray, List.getElem?_cons_succ, List.getElem?_cons_zero]; exact rfl) (by kernel_rfl) (by kernel_rfl) (by kernel_rfl) (by kernel_rfl) (by exact fun _ _ _ h => h) (Or.inl ⟨by rfl, ?hy6q⟩) hS0 ?r6q
      case hy6q => (intro w hSw; (try dsimp only at hSw); go_simp; try with_reducible rfl)
      (try simp only [Act.put]); (try simp only [List.setIfInBounds_toArray]); (repeat (first | simp only [List.set_cons_succ] | simp only [List.set_cons_zero]))
      refine wpTo_last (by kernel_rfl) (show _ = some _ by simp only [List.getElem?_toArray, List.getElem?_cons_succ, List.getElem?_cons_zero]; exact rfl) (by kernel_rfl) (fun K hK => ?_)
      rw [if_pos (by rfl)]
      refine put_row _ _ rfl f _ F (hS0.row hrowU) i hi s rfl rfl (fun hR3 => ?_)
      refine hK.out _ _ ?_
      clear hK K
      (try simp only [Act.put]); (try simp only [List.setIfInBounds_toArray]); (repeat (first | simp only [List.set_cons_succ] | simp only [List.set_cons_zero]))
      have hSm := hS0
      have hfrV := (hSm.fr hfrU).setCells f (i * 512) (sb s) (.inl hff)
      have hfrW := (Fr.refl (fun k => k = f) U.drew).setCells f (i * 512) (sb s) (.inl rfl)
      go_roundw
      case rel =>
        (repeat apply Exists.intro)
        refine ⟨?_, rfl⟩
        refine ⟨_, cnt1, ranges_same hrgU (hfrW.block m hrgU.owns.lt hmf) (hfrW.block IT hITU hitf), (hSm.blk hblkU).fr hfrW (fun e => hfrn e.symm), ?_, hfrV, Nat.lt_of_lt_of_le hITU hfrW.size⟩
        rw [← mid_step d2 left i s hwi, ← hF]
        exact hR3
      case measure =>
        rw [(ranges_same hrgU (hfrW.block m hrgU.owns.lt hmf) (hfrW.block IT hITU hitf)).left_eq, hrg.left_eq]
        exact hlt
end Go.Proofs.YtndfhmlcfaaaiaaDoor

