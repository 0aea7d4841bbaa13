/- Pages out of frames, frames of homes and heads, layouts. -/
import Derived.Test.YtndfhmlcfaaaiaaGreatDoorFr1
namespace Go.Proofs.YtndfhmlcfaaaiaaGreatDoor
open Go.RowKit

abbrev pb (x : Pg) : List Value := bys x.l
theorem pb_length (x : Pg) : (pb x).length = 480 := by rw [bys_length, x.h]
theorem pb_inj {x y : Pg} (h : pb x = pb y) : x = y := pg_ext (bys_inj h)
theorem info31 : (Tryz.prog.info? 66).map (fun i => (i.zero, i.size, i.bytes)) = some (some (.agg (pb zp).toArray), 480, 480) := by
  unfold pb zp
  kernel_rfl
theorem zero31 (w : World) : (zeroValue 66).run Tryz.prog w = .ok (.agg (pb zp).toArray) w := by
  unfold pb zp
  kernel_rfl
section
variable {w : World} {ops : Array Oper} {rest : List Oper} {o : Oper} {a : Act} {Q : Exit → Act → World → Prop}
/-- A whole page is loaded from a block of its own. -/
theorem load_pg (hgd : o.guard = none) (x : Operand) (ho : o.op = .load 66 x) (g : Nat) (s : Pg) (hA : Blk w g 66 (pb s)) (hx : a.eval x = .pointer (some ⟨g, 0, none⟩))
    (h : wpList Tryz.prog ops Q rest (a.put o.dst (.agg (pb s).toArray)) w) : wpList Tryz.prog ops Q (o :: rest) a w :=
  wpList_load_mid hgd 66 x ho g 0 hx (pb s) _ hA.whole Tryz.underlying66 rfl (by rw [pb_length]; kernel_rfl) h
/-- A whole page is stored into a block of its own. -/
theorem store_pg (hgd : o.guard = none) (x y : Operand) (ho : o.op = .store 66 x y) (g : Nat) (s0 s : Pg) (hA : Blk w g 66 (pb s0)) (hx : a.eval x = .pointer (some ⟨g, 0, none⟩)) (hy : a.eval y = .agg (pb s).toArray)
    (h : Blk (w.setRow g (pb s).toArray) g 66 (pb s) → wpList Tryz.prog ops Q rest (a.put o.dst undef) (w.setRow g (pb s).toArray)) : wpList Tryz.prog ops Q (o :: rest) a w :=
  wpList_store_row hgd 66 x y ho g (pb s).toArray hx hy 66 (pb s0).toArray hA (by rw [List.size_toArray, pb_length]; kernel_rfl) (by simp [bys_length, s0.h, s.h]) (bys_one _)
    (h (setRow_heap w g _ _ 66 _ hA))
/-- 'api.Page{}'. -/
theorem build_pg (hgd : o.guard = none) (ho : o.op = .build 66 #[]) (h : wpList Tryz.prog ops Q rest (a.put o.dst (.agg (pb zp).toArray)) w) : wpList Tryz.prog ops Q (o :: rest) a w := by
  have hb : Tryz.prog.built 66 ((#[] : Array (Nat × Operand)).map fun (i, x) => (i, a.eval x)).toList = some (pb zp).toArray := by
    unfold pb zp
    kernel_rfl
  exact wpList_build hgd 66 _ ho (by rw [hb]; rfl) (by rw [hb]; exact h)
end
/-- A page is handed back. -/
theorem ret31 {fn : Func} {p : Tmp} (h : fn.results = #[.cell p 66]) (tmps : Array Value) (w : World) (g : Nat) (s : Pg) (h2 : tmps.getD p undef = .pointer (some ⟨g, 0, none⟩)) (hB : Blk w g 66 (pb s)) :
    (results fn tmps).run Tryz.prog w = .ok (.agg (pb s).toArray) w := by
  have hp' : tmps[p]?.getD undef = .pointer (some ⟨g, 0, none⟩) := by simpa using h2
  simp [results, h, hp', asAddr, run_loadVar_row w g 66 66 (pb s).toArray (0, 0) _ hB Tryz.underlying66 rfl (by rw [List.size_toArray, pb_length]; kernel_rfl)]
/-- A page and an error's number are handed back. -/
theorem ret31e {fn : Func} {p u : Tmp} (h : fn.results = #[.cell p 66, .tmp u]) (tmps : Array Value) (w : World) (g : Nat) (s : Pg) (h2 : tmps.getD p undef = .pointer (some ⟨g, 0, none⟩)) (hB : Blk w g 66 (pb s)) :
    (results fn tmps).run Tryz.prog w = .ok (.tuple #[.agg (pb s).toArray, tmps.getD u undef]) w := by
  have hp' : tmps[p]?.getD undef = .pointer (some ⟨g, 0, none⟩) := by simpa using h2
  simp [results, h, hp', asAddr, run_loadVar_row w g 66 66 (pb s).toArray (0, 0) _ hB Tryz.underlying66 rfl (by rw [List.size_toArray, pb_length]; kernel_rfl)]

/-- What lies there while a page is taken out of a frame. -/
structure PS (w v : World) (b : Nat) (s : Sec) (cur : List B) : Prop where
  s : Blk v b 26 (sb s)
  r : Blk v (b + 1) 66 (pb zp)
  x : Blk v (b + 1 + 1) 66 (bys cur)
  below : Below b w v
theorem PS.drew {w v : World} {b : Nat} {s : Sec} {cur : List B} (h : PS w v b s cur) : PS w v.drew b s cur := ⟨h.s, h.r, h.x, ⟨h.below.os, h.below.tape, h.below.output, h.below.size, h.below.block⟩⟩
set_option maxRecDepth 100000 in
set_option maxHeartbeats 1000000 in
theorem pageIn_any (s : Sec) (w : World) : Calls Tryz.prog 76 #[.agg (sb s).toArray] w fun e w' => e = .returned (.agg (pb (pin s)).toArray) ∧ Below w.heap.size w w' := by
  have hz := zero31
  obtain ⟨pp, hpp⟩ : ∃ pp, pp = pin s := ⟨_, rfl⟩
  have hseg : seg s.l 32 480 = pp.l := by
    rw [hpp]
    unfold seg pin
    rw [List.take_of_length_le (by rw [List.length_drop, s.h]; omega)]
  rw [← hpp]
  clear hpp
  obtain ⟨b, hb⟩ : ∃ b, b = w.heap.size := ⟨_, rfl⟩
  have hF : PS w (((w.alloc (.cells (sb s).toArray 26)).alloc (.cells (pb zp).toArray 66)).alloc (.cells (pb zp).toArray 66)) b s zp.l := by
    have h1 := Blk.new w 26 (sb s)
    have h2 := Blk.new (w.alloc (.cells (sb s).toArray 26)) 66 (pb zp)
    have h3 := Blk.new ((w.alloc (.cells (sb s).toArray 26)).alloc (.cells (pb zp).toArray 66)) 66 (pb zp)
    simp only [World.size_alloc, ← hb] at h1 h2 h3
    refine ⟨(h1.alloc _).alloc _, h2.alloc _, h3, ?_⟩
    rw [hb]
    exact (((Below.refl _ w).alloc (Nat.le_refl _) _).alloc (by simp) _).alloc (by simp; omega) _
  have hw31 := fun W => whole31 W (b + 1 + 1)
  have hw32 := fun W => from64 W b 32 (by omega)
  go_enter Tryz.func76, Tryz.ntmps76
  go_wp2_with fail
  rw [← hb]
  obtain ⟨v0, hv0⟩ : ∃ v, v = (((w.alloc (.cells (sb s).toArray 26)).alloc (.cells (pb zp).toArray 66)).alloc (.cells (pb zp).toArray 66)) := ⟨_, rfl⟩
  rw [← hv0] at hF ⊢
  clear hv0
  have HB : Hid (b = w.heap.size) := hb
  clear hb
  refine wp_region_to (fun v => PS w v b s zp.l) 2 (by kernel_rfl) ?_
  have hS0 := hF.drew
  clear hF
  refine wpTo_take (i := 0) (v := ?v0) (show _ = some _ by simp only [List.getElem?_toArray, List.getElem?_cons_zero]; exact rfl) (by kernel_rfl) (by kernel_rfl) (by kernel_rfl) (by kernel_rfl) (by exact fun _ _ _ h => h) (Or.inl ⟨by rfl, ?hy0⟩) hS0 ?r0
  case hy0 => (intro w hSw; (try dsimp only at hSw); go_simp; try with_reducible rfl)
  (try simp only [Act.put]); (try simp only [List.setIfInBounds_toArray]); (repeat (first | simp only [List.set_cons_succ] | simp only [List.set_cons_zero]))
  refine wpTo_take (i := 1) (v := ?v1) (show _ = some _ by simp only [List.getElem?_toArray, List.getElem?_cons_succ, List.getElem?_cons_zero]; exact rfl) (by kernel_rfl) (by kernel_rfl) (by kernel_rfl) (by kernel_rfl) (by exact fun _ _ _ h => h) (Or.inl ⟨by rfl, ?hy1⟩) hS0 ?r1
  case hy1 => (intro w hSw; (try dsimp only at hSw); go_simp; try with_reducible rfl)
  (try simp only [Act.put]); (try simp only [List.setIfInBounds_toArray]); (repeat (first | simp only [List.set_cons_succ] | simp only [List.set_cons_zero]))
  refine wpTo_last (by kernel_rfl) (show _ = some _ by simp only [List.getElem?_toArray, List.getElem?_cons_succ, List.getElem?_cons_zero]; exact rfl) (by kernel_rfl) (fun K hK => ?_)
  rw [if_pos (by rfl)]
  refine copy_in _ _ rfl (b + 1 + 1) 0 480 480 rfl ⟨b, 32, none⟩ 480 480 rfl 66 zp.l hS0.x pp.l (by have := hS0.s.shows 32 480 (by rw [s.h]; omega); rwa [hseg] at this) (by omega) (by rw [zp.h]; omega) (fun w' hw' hb' => ?_)
  have hov : over zp.l 0 pp.l = pp.l := by have h1 := zp.h; have h2 := pp.h; unfold over; rw [List.take_zero, List.nil_append, List.drop_of_length_le (by omega), List.append_nil]
  rw [hov] at hw' hb'
  have hr := hS0.r.fr (w1 := w') (X := fun k => k = b + 1 + 1) (by rw [hw']; exact (Fr.refl _ _).setRow _ _ (.inl rfl)) (by omega)
  have hbl : Below b w w' := by rw [hw']; exact hS0.below.trans (Fr.below (X := fun k => k = b + 1 + 1) ((Fr.refl _ _).setRow _ _ (.inl rfl)) (fun k e => by omega) (Nat.le_of_lt hS0.s.lt))
  clear hw' hS0 hov
  refine hK.out _ _ ?_
  clear hK K
  (try simp only [Act.put]); (try simp only [List.setIfInBounds_toArray]); (repeat (first | simp only [List.set_cons_succ] | simp only [List.set_cons_zero]))
  have hbz := HB.out
  go_wp2_with (first | (refine load_pg rfl _ rfl (b + 1 + 1) pp hb' rfl ?_) | (refine store_pg rfl _ _ rfl (b + 1) zp pp hr rfl rfl ?_; intro hA1))
  refine bodyPost_ret (ret31 rfl _ _ (b + 1) pp rfl hA1) rfl ⟨rfl, ?_⟩
  rw [hbz] at hbl ⊢
  exact hbl.trans (Fr.below (X := fun k => k = w.heap.size + 1) ((Fr.refl _ _).setRow _ _ (.inl rfl)) (fun k e => by omega) hbl.size)

set_option maxRecDepth 100000 in
set_option maxHeartbeats 1000000 in
theorem homeFrame_any (g p : Nat) (x : Pg) (w : World) (hW : Tabs w) (hg : g < 18446744073709551616) (hp : p < 4294967296) :
    Calls Tryz.prog 77 #[.int .u64 (g : Int), .int .i64 (p : Int), .agg (pb x).toArray] w fun e w' => e = .returned (.agg (sb (hmF g p x)).toArray) ∧ Below w.heap.size w w' := by
  have hz := zero39
  have hc := fun W (hW : Tabs W) => frame_any 5#8 5 g 0 p p x W hW rfl hg (by omega) rfl hp
  obtain ⟨fs, hfs⟩ : ∃ fs, fs = hmF g p x := ⟨_, rfl⟩
  have hc2 : ∀ W, Tabs W → Calls Tryz.prog 101 #[.agg (tc 5 g 0 p).toArray, .agg (pb x).toArray] W fun e w' => e = .returned (.agg (sb fs).toArray) ∧ Below W.heap.size W w' := by rw [hfs]; exact hc
  rw [← hfs]
  clear hc hfs
  have h1 := (Blk.new w 66 (pb x)).alloc (.cells (sb zs).toArray 26)
  have h2 := Blk.new (w.alloc (.cells (pb x).toArray 66)) 26 (sb zs)
  have hb := ((Below.refl w.heap.size w).alloc (Nat.le_refl _) (.cells (pb x).toArray 66)).alloc (by simp) (.cells (sb zs).toArray 26)
  have hT := (hW.alloc (.cells (pb x).toArray 66)).alloc (.cells (sb zs).toArray 26)
  simp only [World.size_alloc] at h2
  go_enter Tryz.func77, Tryz.ntmps77
  go_wp2_with (first
    | (refine load_pg rfl _ rfl w.heap.size x h1 rfl ?_)
    | (go_at_call 101; refine (hc2 _ hT).mono ?_; rintro e w1 ⟨rfl, kb⟩; have h3 := h2.next kb)
    | (refine store_sec rfl _ _ rfl (w.heap.size + 1) zs fs h3 rfl rfl ?_; intro hA1))
  refine bodyPost_ret (ret64 rfl _ _ (w.heap.size + 1) fs rfl hA1) rfl ⟨rfl, ?_⟩
  exact (hb.trans (kb.mono hb.size)).trans (Fr.below (X := fun k => k = w.heap.size + 1) ((Fr.refl _ _).setRow _ _ (.inl rfl)) (fun k e => by omega) (Nat.le_trans hb.size kb.size))

/-- A layout, as cells. -/
def ly (L H : Int) : List Value := [.int .i64 L, .int .i64 H]
theorem zero79 (w : World) : (zeroValue 102).run Tryz.prog w = .ok (.agg (ly 0 0).toArray) w := by kernel_rfl
theorem ret79 {fn : Func} {p u : Tmp} (h : fn.results = #[.cell p 102, .tmp u]) (tmps : Array Value) (w : World) (g : Nat) (L H : Int) (h2 : tmps.getD p undef = .pointer (some ⟨g, 0, none⟩)) (hB : Blk w g 102 (ly L H)) :
    (results fn tmps).run Tryz.prog w = .ok (.tuple #[.agg (ly L H).toArray, tmps.getD u undef]) w := by
  have hp' : tmps[p]?.getD undef = .pointer (some ⟨g, 0, none⟩) := by simpa using h2
  simp [results, h, hp', asAddr, run_loadVar_row w g 102 102 (ly L H).toArray (0, 0) _ hB Tryz.underlying102 rfl (by kernel_rfl)]
theorem store_ly {w : World} {ops : Array Oper} {rest : List Oper} {o : Oper} {a : Act} {Q : Exit → Act → World → Prop} (hgd : o.guard = none) (x y : Operand) (ho : o.op = .store 102 x y) (g : Nat) (L0 H0 L H : Int) (hA : Blk w g 102 (ly L0 H0)) (hx : a.eval x = .pointer (some ⟨g, 0, none⟩)) (hy : a.eval y = .agg (ly L H).toArray)
    (h : Blk (w.setRow g (ly L H).toArray) g 102 (ly L H) → wpList Tryz.prog ops Q rest (a.put o.dst undef) (w.setRow g (ly L H).toArray)) : wpList Tryz.prog ops Q (o :: rest) a w :=
  wpList_store_row hgd 102 x y ho g (ly L H).toArray hx hy 102 (ly L0 H0).toArray hA (by kernel_rfl) (by simp [ly]) (by simp [ly, Value.oneCell'])
    (h (setRow_heap w g _ _ 102 _ hA))
def lyBad (size log : Int) : Prop := log < 3 ∨ 4000 < log ∨ size ≤ 2 + log
set_option maxRecDepth 100000 in
set_option maxHeartbeats 1000000 in
theorem layoutOf_bad (size log : Int) (w : World) (h : lyBad size log) (hl : log < 9000000000000000000) : Calls Tryz.prog 57 #[.int .i64 size, .int .i64 log] w fun e w' => e = .returned (.tuple #[.agg (ly 0 0).toArray, .bool false]) ∧ Below w.heap.size w w' := by
  have hz := zero79
  have hA := Blk.new w 102 (ly 0 0)
  unfold lyBad at h
  by_cases h1 : log < 3
  · go_enter Tryz.func57, Tryz.ntmps57
    go_wp2_with (refine store_ly rfl _ _ rfl w.heap.size 0 0 0 0 hA rfl rfl ?_; intro hA1)
    refine bodyPost_ret (ret79 rfl _ _ w.heap.size 0 0 rfl hA1) rfl ⟨rfl, ?_⟩
    exact Fr.below (X := fun k => k = w.heap.size) (((Fr.refl _ w).alloc _).setRow _ _ (.inl rfl)) (fun k e => by omega) (Nat.le_refl _)
  · by_cases h2 : 4000 < log
    · go_enter Tryz.func57, Tryz.ntmps57
      go_wp2_with (refine store_ly rfl _ _ rfl w.heap.size 0 0 0 0 hA rfl rfl ?_; intro hA1)
      refine bodyPost_ret (ret79 rfl _ _ w.heap.size 0 0 rfl hA1) rfl ⟨rfl, ?_⟩
      exact Fr.below (X := fun k => k = w.heap.size) (((Fr.refl _ w).alloc _).setRow _ _ (.inl rfl)) (fun k e => by omega) (Nat.le_refl _)
    · have h3 : size ≤ 2 + log := by omega
      go_enter Tryz.func57, Tryz.ntmps57
      go_wp2_with (refine store_ly rfl _ _ rfl w.heap.size 0 0 0 0 hA rfl rfl ?_; intro hA1)
      refine bodyPost_ret (ret79 rfl _ _ w.heap.size 0 0 rfl hA1) rfl ⟨rfl, ?_⟩
      exact Fr.below (X := fun k => k = w.heap.size) (((Fr.refl _ w).alloc _).setRow _ _ (.inl rfl)) (fun k e => by omega) (Nat.le_refl _)
set_option maxRecDepth 100000 in
set_option maxHeartbeats 1000000 in
theorem layoutOf_good (L H : Nat) (w : World) (h1 : 3 ≤ L) (h2 : L ≤ 4000) (h3 : 1 ≤ H) (h4 : H ≤ 16384) : Calls Tryz.prog 57 #[.int .i64 ((2 + L + H : Nat) : Int), .int .i64 (L : Int)] w fun e w' => e = .returned (.tuple #[.agg (ly L H).toArray, .bool true]) ∧ Below w.heap.size w w' := by
  have hz := zero79
  have hA := Blk.new w 102 (ly 0 0)
  have q1 : ¬ (L : Int) < 3 := by omega
  have q2 : ¬ 4000 < (L : Int) := by omega
  obtain ⟨n, hn⟩ : ∃ n : Nat, n = 2 + L + H := ⟨_, rfl⟩
  rw [← hn]
  have q3 : ¬ (n : Int) ≤ 2 + (L : Int) := by omega
  have q4 : (n : Int) - 2 - (L : Int) = (H : Int) := by omega
  have q5 : (n : Int) ≤ 30000 := by omega
  clear hn
  go_enter Tryz.func57, Tryz.ntmps57
  go_wp2_with (refine store_ly rfl _ _ rfl w.heap.size 0 0 L H hA rfl rfl ?_; intro hA1)
  refine bodyPost_ret (ret79 rfl _ _ w.heap.size L H rfl hA1) rfl ⟨rfl, ?_⟩
  exact Fr.below (X := fun k => k = w.heap.size) (((Fr.refl _ w).alloc _).setRow _ _ (.inl rfl)) (fun k e => by omega) (Nat.le_refl _)
theorem has_any (L H : Nat) (p : Int) (w : World) : Calls Tryz.prog 45 #[.agg (ly L H).toArray, .int .i64 p] w fun e w' => e = .returned (.bool (decide (0 ≤ p ∧ p < H))) ∧ Below w.heap.size w w' := by
  have hA := (Blk.new w 102 (ly L H)).cell 1 _ rfl
  by_cases h0 : 0 ≤ p
  · by_cases h1 : p < H
    · rw [decide_eq_true ⟨h0, h1⟩]
      go_enter Tryz.func45, Tryz.ntmps45
      go_wp2
      go_ret
      exact ⟨rfl, (Below.refl _ w).alloc (Nat.le_refl _) _⟩
    · rw [decide_eq_false (fun h => h1 h.2)]
      go_enter Tryz.func45, Tryz.ntmps45
      go_wp2
      go_ret
      exact ⟨rfl, (Below.refl _ w).alloc (Nat.le_refl _) _⟩
  · rw [decide_eq_false (fun h => h0 h.1)]
    go_enter Tryz.func45, Tryz.ntmps45
    go_wp2
    go_ret
    exact ⟨rfl, (Below.refl _ w).alloc (Nat.le_refl _) _⟩
theorem home_any (L H p : Nat) (hL : L ≤ 4000) (hp : p < 100000) (w : World) : Calls Tryz.prog 75 #[.agg (ly L H).toArray, .int .i64 (p : Int)] w fun e w' => e = .returned (.int .i64 ((2 + L + p : Nat) : Int)) ∧ Below w.heap.size w w' := by
  have hA := (Blk.new w 102 (ly L H)).cell 0 _ rfl
  obtain ⟨n, hn⟩ : ∃ n : Nat, n = 2 + L + p := ⟨_, rfl⟩
  have q1 : 2 + (L : Int) + (p : Int) = (n : Int) := by omega
  rw [← hn]
  clear hn
  have q2 : (L : Int) ≤ 4000 := by omega
  have q3 : (p : Int) < 100000 := by omega
  go_enter Tryz.func75, Tryz.ntmps75
  go_wp2
  go_ret
  exact ⟨rfl, (Below.refl _ w).alloc (Nat.le_refl _) _⟩
theorem headPlace_any (g : Nat) (hg : g < 18446744073709551616) (w : World) : Calls Tryz.prog 91 #[.int .u64 (g : Int)] w fun e w' => e = .returned (.int .i64 ((g % 2 : Nat) : Int)) ∧ w = w' := by
  go_enter Tryz.func91, Tryz.ntmps91
  go_wp2
  go_ret
  refine ⟨?_, rfl⟩
  show Ending.returned (.int .i64 ((g : Int) % 2)) = _
  rw [show ((g % 2 : Nat) : Int) = (g : Int) % 2 from by omega]

/-- What lies there while a head is made. -/
structure HS (w v : World) (b : Nat) (L H : Int) (cur : List B) : Prop where
  t : Blk v b 102 (ly L H)
  r : Blk v (b + 1) 26 (sb zs)
  x : Blk v (b + 1 + 1) 66 (bys cur)
  below : Below b w v
  tabs : Tabs v
section
variable {w v v' : World} {b : Nat} {L H : Int} {cur : List B}
theorem HS.next (h : HS w v b L H cur) (hb : Below v.heap.size v v') : HS w v' b L H cur := ⟨h.t.next hb, h.r.next hb, h.x.next hb, h.below.trans (hb.mono (Nat.le_of_lt h.t.lt)), h.tabs.next hb⟩
theorem HS.drew (h : HS w v b L H cur) : HS w v.drew b L H cur := h.next ⟨rfl, rfl, rfl, Nat.le_refl _, fun _ _ => rfl⟩
end
theorem pgOf_over (L H : Nat) : over zp.l 0 (beb 4 L ++ beb 4 H) = (pgOf (beb 4 L ++ beb 4 H)).l := by
  have h8 : (beb 4 L ++ beb 4 H).length = 8 := by simp [beb_length]
  unfold over pgOf
  rw [List.take_zero, List.nil_append, h8]
  show beb 4 L ++ beb 4 H ++ (zr 480).drop (0 + 8) = (beb 4 L ++ beb 4 H ++ zr 480).take 480
  rw [List.take_append, h8, List.take_of_length_le (by omega), zr, List.drop_replicate, List.take_replicate]
  rfl
set_option maxRecDepth 100000 in
set_option maxHeartbeats 4000000 in
theorem head_any (L H g : Nat) (w : World) (hW : Tabs w) (hg : g < 18446744073709551616) (hL : L < 4294967296) (hH : H < 4294967296) :
    Calls Tryz.prog 92 #[.agg (ly L H).toArray, .int .u64 (g : Int)] w fun e w' => e = .returned (.agg (sb (hdF L H g)).toArray) ∧ Below w.heap.size w w' := by
  have hz := zero39
  have hz1 := zero31
  have hc := fun W (hW : Tabs W) => frame_any 1#8 1 g 0 0 0 (pgOf (beb 4 L ++ beb 4 H)) W hW rfl hg (by omega) rfl (by omega)
  obtain ⟨fs, hfs⟩ : ∃ fs, fs = hdF L H g := ⟨_, rfl⟩
  have hov := pgOf_over L H
  obtain ⟨pg, hpg⟩ : ∃ pg, pg = pgOf (beb 4 L ++ beb 4 H) := ⟨_, rfl⟩
  rw [← hpg] at hc hov
  have hc2 : ∀ W, Tabs W → Calls Tryz.prog 101 #[.agg (tc 1 g 0 0).toArray, .agg (pb pg).toArray] W fun e w' => e = .returned (.agg (sb fs).toArray) ∧ Below W.heap.size W w' := by rw [hfs, hdF, ← hpg]; exact hc
  rw [← hfs]
  clear hc hfs hpg
  obtain ⟨b, hb⟩ : ∃ b, b = w.heap.size := ⟨_, rfl⟩
  have hF : HS w (((w.alloc (.cells (ly L H).toArray 102)).alloc (.cells (sb zs).toArray 26)).alloc (.cells (pb zp).toArray 66)) b L H zp.l := by
    have h1 := Blk.new w 102 (ly L H)
    have h2 := Blk.new (w.alloc (.cells (ly L H).toArray 102)) 26 (sb zs)
    have h3 := Blk.new ((w.alloc (.cells (ly L H).toArray 102)).alloc (.cells (sb zs).toArray 26)) 66 (pb zp)
    simp only [World.size_alloc, ← hb] at h1 h2 h3
    refine ⟨(h1.alloc _).alloc _, h2.alloc _, h3, ?_, ((hW.alloc _).alloc _).alloc _⟩
    rw [hb]
    exact (((Below.refl _ w).alloc (Nat.le_refl _) _).alloc (by simp) _).alloc (by simp; omega) _
  have hw31 := fun W => whole31 W (b + 1 + 1)
  have hcL : IntKind.u32.wrap (L : Int) = (L : Int) := by rw [IntKind.wrap_u32']; omega
  have hcH : IntKind.u32.wrap (H : Int) = (H : Int) := by rw [IntKind.wrap_u32']; omega
  have hb2 : 2 ≤ b := by rw [hb]; exact hW.two
  go_enter Tryz.func92, Tryz.ntmps92
  go_wp2_with fail
  rw [← hb]
  obtain ⟨v0, hv0⟩ : ∃ v, v = (((w.alloc (.cells (ly L H).toArray 102)).alloc (.cells (sb zs).toArray 26)).alloc (.cells (pb zp).toArray 66)) := ⟨_, rfl⟩
  rw [← hv0] at hF ⊢
  clear hv0
  have HB : Hid (b = w.heap.size) := hb
  clear hb
  refine wp_region_to (fun v => HS w v b L H zp.l) 9 (by kernel_rfl) ?_
  have hS0 := hF.drew
  clear hF
  refine wpTo_take (i := 0) (v := ?v0) (show _ = some _ by simp only [List.getElem?_toArray, List.getElem?_cons_zero]; exact rfl) (by kernel_rfl) (by kernel_rfl) (by kernel_rfl) (by kernel_rfl) (by exact fun _ _ _ h => h) (Or.inl ⟨by rfl, ?hy0⟩) hS0 ?r0
  case hy0 => (intro w hSw; (try dsimp only at hSw); go_simp; try with_reducible rfl)
  (try simp only [Act.put]); (try simp only [List.setIfInBounds_toArray]); (repeat (first | simp only [List.set_cons_succ] | simp only [List.set_cons_zero]))
  refine wpTo_take (i := 1) (v := ?v1) (show _ = some _ by simp only [List.getElem?_toArray, List.getElem?_cons_succ, List.getElem?_cons_zero]; exact rfl) (by kernel_rfl) (by kernel_rfl) (by kernel_rfl) (by kernel_rfl) (by exact fun _ _ _ h => h) (Or.inl ⟨by rfl, ?hy1⟩) hS0 ?r1
  case hy1 => (intro w hSw; (try dsimp only at hSw); go_simp; try with_reducible rfl)
  (try simp only [Act.put]); (try simp only [List.setIfInBounds_toArray]); (repeat (first | simp only [List.set_cons_succ] | simp only [List.set_cons_zero]))
  refine wpTo_take (i := 2) (v := ?v2) (show _ = some _ by simp only [List.getElem?_toArray, List.getElem?_cons_succ, List.getElem?_cons_zero]; exact rfl) (by kernel_rfl) (by kernel_rfl) (by kernel_rfl) (by kernel_rfl) (by exact fun _ _ _ h => h) (Or.inl ⟨by rfl, ?hy2⟩) hS0 ?r2
  case hy2 => (intro w hSw; (try dsimp only at hSw); have hc0 := Blk.cell hSw.t 0 _ rfl; have hc1 := Blk.cell hSw.t 1 _ rfl; go_simp; try with_reducible rfl)
  (try simp only [Act.put]); (try simp only [List.setIfInBounds_toArray]); (repeat (first | simp only [List.set_cons_succ] | simp only [List.set_cons_zero]))
  refine wpTo_take (i := 3) (v := ?v3) (show _ = some _ by simp only [List.getElem?_toArray, List.getElem?_cons_succ, List.getElem?_cons_zero]; exact rfl) (by kernel_rfl) (by kernel_rfl) (by kernel_rfl) (by kernel_rfl) (by exact fun _ _ _ h => h) (Or.inl ⟨by rfl, ?hy3⟩) hS0 ?r3
  case hy3 => (intro w hSw; (try dsimp only at hSw); go_simp; try with_reducible rfl)
  (try simp only [Act.put]); (try simp only [List.setIfInBounds_toArray]); (repeat (first | simp only [List.set_cons_succ] | simp only [List.set_cons_zero]))
  refine wpTo_take (i := 5) (v := ?v5) (show _ = some _ by simp only [List.getElem?_toArray, List.getElem?_cons_succ, List.getElem?_cons_zero]; exact rfl) (by kernel_rfl) (by kernel_rfl) (by kernel_rfl) (by kernel_rfl) (by exact fun _ _ _ h => h) (Or.inl ⟨by rfl, ?hy5⟩) hS0 ?r5
  case hy5 => (intro w hSw; (try dsimp only at hSw); go_simp; try with_reducible rfl)
  (try simp only [Act.put]); (try simp only [List.setIfInBounds_toArray]); (repeat (first | simp only [List.set_cons_succ] | simp only [List.set_cons_zero]))
  refine wpTo_take (i := 6) (v := ?v6) (show _ = some _ by simp only [List.getElem?_toArray, List.getElem?_cons_succ, List.getElem?_cons_zero]; exact rfl) (by kernel_rfl) (by kernel_rfl) (by kernel_rfl) (by kernel_rfl) (by exact fun _ _ _ h => h) (Or.inl ⟨by rfl, ?hy6⟩) hS0 ?r6
  case hy6 => (intro w hSw; (try dsimp only at hSw); have hc0 := Blk.cell hSw.t 0 _ rfl; have hc1 := Blk.cell hSw.t 1 _ rfl; go_simp; try with_reducible rfl)
  (try simp only [Act.put]); (try simp only [List.setIfInBounds_toArray]); (repeat (first | simp only [List.set_cons_succ] | simp only [List.set_cons_zero]))
  refine wpTo_take (i := 7) (v := ?v7) (show _ = some _ by simp only [List.getElem?_toArray, List.getElem?_cons_succ, List.getElem?_cons_zero]; exact rfl) (by kernel_rfl) (by kernel_rfl) (by kernel_rfl) (by kernel_rfl) (by exact fun _ _ _ h => h) (Or.inl ⟨by rfl, ?hy7⟩) hS0 ?r7
  case hy7 => (intro w hSw; (try dsimp only at hSw); go_simp; try with_reducible rfl)
  (try simp only [Act.put]); (try simp only [List.setIfInBounds_toArray]); (repeat (first | simp only [List.set_cons_succ] | simp only [List.set_cons_zero]))
  refine wpTo_one (i := 4) (by kernel_rfl) (show _ = some _ by simp only [List.getElem?_toArray, List.getElem?_cons_succ, List.getElem?_cons_zero]; exact rfl) (fun K hK => ?_)
  go_simp
  go_at_call 109; refine (put32_nil L hL _).mono ?_; rintro e v1 ⟨ad, c, rfl, hsh, kb⟩
  (try simp only [])
  refine hK.out _ _ (HS.next hS0 kb) (fun hS1 => ?_)
  clear hK K
  (try simp only [Act.put]); (try simp only [List.setIfInBounds_toArray]); (repeat (first | simp only [List.set_cons_succ] | simp only [List.set_cons_zero]))
  refine wpTo_one (i := 8) (by kernel_rfl) (show _ = some _ by simp only [List.getElem?_toArray, List.getElem?_cons_succ, List.getElem?_cons_zero]; exact rfl) (fun K hK => ?_)
  go_simp
  go_at_call 109; refine (put32_on H hH ad 4 c (beb 4 L) (by omega) _ hsh).mono ?_; rintro e v2 ⟨ad2, c2, rfl, hsh2, kb2⟩
  (try simp only [])
  refine hK.out _ _ (HS.next hS1 kb2) (fun hS2 => ?_)
  clear hK K
  (try simp only [Act.put]); (try simp only [List.setIfInBounds_toArray]); (repeat (first | simp only [List.set_cons_succ] | simp only [List.set_cons_zero]))
  refine wpTo_last (by kernel_rfl) (show _ = some _ by simp only [List.getElem?_toArray, List.getElem?_cons_succ, List.getElem?_cons_zero]; exact rfl) (by kernel_rfl) (fun K hK => ?_)
  rw [if_pos (by rfl)]
  refine copy_in _ _ rfl (b + 1 + 1) 0 480 480 rfl ad2 8 c2 rfl 66 zp.l hS2.x (beb 4 L ++ beb 4 H) hsh2 (by omega) (by rw [zp.h]; omega) (fun w' hw' hb' => ?_)
  rw [hov] at hw' hb'
  have hfr : Fr (fun k => k = b + 1 + 1) v2 w' := by rw [hw']; exact (Fr.refl _ _).setRow _ _ (.inl rfl)
  have hr := hS2.r.fr hfr (by omega)
  have hbl : Below b w w' := hS2.below.trans (hfr.below (fun k e => by omega) (Nat.le_of_lt hS2.t.lt))
  have hTb := hS2.tabs.fr hfr (fun k e => by omega)
  clear hw' hS0 hS1 hS2 hov hsh hsh2 hfr kb kb2
  refine hK.out _ _ ?_
  clear hK K
  (try simp only [Act.put]); (try simp only [List.setIfInBounds_toArray]); (repeat (first | simp only [List.set_cons_succ] | simp only [List.set_cons_zero]))
  go_wp2_with (first
    | (refine load_pg rfl _ rfl (b + 1 + 1) pg hb' rfl ?_)
    | (go_at_call 101; refine (hc2 _ hTb).mono ?_; rintro e w1 ⟨rfl, kb⟩; have h3 := hr.next kb)
    | (refine store_sec rfl _ _ rfl (b + 1) zs fs h3 rfl rfl ?_; intro hA1))
  refine bodyPost_ret (ret64 rfl _ _ (b + 1) fs rfl hA1) rfl ⟨rfl, ?_⟩
  have hbz := HB.out
  rw [hbz] at hbl ⊢
  have hbl2 := hbl.trans (kb.mono hbl.size)
  exact hbl2.trans (Fr.below (X := fun k => k = w.heap.size + 1) ((Fr.refl _ _).setRow _ _ (.inl rfl)) (fun k e => by omega) hbl2.size)
end Go.Proofs.YtndfhmlcfaaaiaaGreatDoor
