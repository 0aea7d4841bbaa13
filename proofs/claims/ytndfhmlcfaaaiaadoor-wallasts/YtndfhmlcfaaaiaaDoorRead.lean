/- A sector read. -/
import Derived.Test.YtndfhmlcfaaaiaaDoorMake
namespace Go.Proofs.YtndfhmlcfaaaiaaDoor
open Go.RowKit

section
variable {w : World} {ops : Array Oper} {rest : List Oper} {o : Oper} {a : Act} {Q : Exit → Act → World → Prop}
/-- 's, ok := m[i]'. -/
theorem look_sec (hg : o.guard = none) (m x : Operand) (hop : o.op = Op.lookup 97 m x true) (b n : Nat) (D : DataW Sec) (W : Nat → Option Sec) (hown : w.ownsMap Tryd.prog 3 secR b n D) (hM : Mp D W)
    (hm : a.eval m = .map (some b)) (i : Int) (hx : a.eval x = .int .i64 i) (hwf : (Lit.int .i64 i).wf = true) (s : Sec) (hs : (wl W (.int .i64 i)).getD zs = s) (c : Bool) (hc : (wl W (.int .i64 i)).isSome = c)
    (h : wpList Tryd.prog ops Q rest (a.put o.dst (.tuple #[.agg (sb s).toArray, .bool c])) w) : wpList Tryd.prog ops Q (o :: rest) a w := by
  refine wpList_lookup_own_ok w hg m x 97 hop 3 64 law3 Tryd.underlying97 secR (zero39 w) _ _ (secR_mk zs) b n D hm hown _ _ hx (Maps.keyOf_int_mk Tryd.underlying3 hwf) ?_
  intro v ps hv
  obtain ⟨t, rfl, hz⟩ := secR_inv hv
  have h1 := hM.2 (.int .i64 i) (.held zs)
  rw [hM.has, hc]
  have h2 : t = s := by
    rw [h1] at hz
    cases hw : wl W (.int .i64 i) with
    | none => rw [hw] at hz hs; cases hz; exact hs
    | some u => rw [hw] at hz hs; cases hz; exact hs
  subst h2
  exact h
/-- 'api.Sector{}'. -/
theorem build_zero (hgd : o.guard = none) (ho : o.op = .build 64 #[]) (h : wpList Tryd.prog ops Q rest (a.put o.dst (.agg (sb zs).toArray)) w) : wpList Tryd.prog ops Q (o :: rest) a w := by
  have hb : Tryd.prog.built 64 ((#[] : Array (Nat × Operand)).map fun (i, x) => (i, a.eval x)).toList = some (sb zs).toArray := by
    unfold sb zs
    kernel_rfl
  exact wpList_build hgd 64 _ ho (by rw [hb]; rfl) (by rw [hb]; exact h)
end
/-- A sector and an error's number are handed back. -/
theorem ret_sec {fn : Func} {p u : Tmp} (h : fn.results = #[.cell p 64, .tmp u]) (tmps : Array Value) (w : World) (g : Nat) (s : Sec) (h2 : tmps.getD p undef = .pointer (some ⟨g, 0, none⟩)) (hB : Blk w g 64 (sb s)) :
    (results fn tmps).run Tryd.prog w = .ok (.tuple #[.agg (sb s).toArray, tmps.getD u undef]) w := by
  have hp' : tmps[p]?.getD undef = .pointer (some ⟨g, 0, none⟩) := by simpa using h2
  simp [results, h, hp', asAddr, run_loadVar_row w g 64 64 (sb s).toArray (0, 0) _ hB Tryd.underlying64 rfl (by rw [List.size_toArray, sb_length]; kernel_rfl)]

def St.at (d : St) (i : Nat) : Sec := (d.waits i).getD (d.lasts i)

set_option maxRecDepth 100000 in
set_option maxHeartbeats 400000 in
theorem read_nil (w : World) (i : Int) : Calls Tryd.prog 26 #[.pointer none, .int .i64 i] w fun e w' => e = .returned (.tuple #[.agg (sb zs).toArray, .int .i64 1]) ∧ Below w.heap.size w w' := by
  have hz := zero39
  have hA := Blk.new w 64 (sb zs)
  go_enter Tryd.func26, Tryd.ntmps26
  go_wp2_with (first | (go_at_call 49; refine (refusal_nil _ _).mono ?_; rintro e w' ⟨rfl, rfl⟩) | (refine build_zero rfl rfl ?_) | (refine store_sec rfl _ _ rfl w.heap.size zs zs hA rfl rfl ?_; intro hA1))
  refine bodyPost_ret (ret_sec rfl _ _ w.heap.size zs rfl hA1) rfl ⟨rfl, ?_⟩
  exact (Fr.below (X := fun k => k = w.heap.size) ((((Fr.refl _ w).alloc _)).setRow _ _ (.inr (Nat.le_refl _))) (fun k e => by omega) (Nat.le_refl _))
set_option maxRecDepth 100000 in
set_option maxHeartbeats 400000 in
theorem read_bad (w : World) (r f m cap : Nat) (d : St) (h : Lay w r f m cap d) (i E : Int) (hE : d.no i = E) (h0 : E ≠ 0) : Calls Tryd.prog 26 #[.pointer (some ⟨r, 0, none⟩), .int .i64 i] w fun e w' => e = .returned (.tuple #[.agg (sb zs).toArray, .int .i64 E]) ∧ Below w.heap.size w w' := by
  have hz := zero39
  have hA := Blk.new w 64 (sb zs)
  have hr := refusal_any _ r f m cap d (h.alloc (.cells (sb zs).toArray 64)) i
  rw [hE] at hr
  have h0b : (E == 0) = false := by simp [h0]
  go_enter Tryd.func26, Tryd.ntmps26
  go_wp2_with (first | (go_at_call 49; refine hr.mono ?_; rintro e w' ⟨rfl, rfl⟩) | (refine build_zero rfl rfl ?_) | (refine store_sec rfl _ _ rfl w.heap.size zs zs hA rfl rfl ?_; intro hA1))
  refine bodyPost_ret (ret_sec rfl _ _ w.heap.size zs rfl hA1) rfl ⟨rfl, ?_⟩
  exact (Fr.below (X := fun k => k = w.heap.size) ((((Fr.refl _ w).alloc _)).setRow _ _ (.inr (Nat.le_refl _))) (fun k e => by omega) (Nat.le_refl _))
theorem wf64 (i : Int) (h0 : 0 ≤ i) (h1 : i < 9223372036854775808) : (Lit.int .i64 i).wf = true := WalkArith.wf_i64 (by omega)
set_option maxRecDepth 100000 in
set_option maxHeartbeats 1000000 in
theorem read_good (w : World) (r f m cap : Nat) (d : St) (h : Lay w r f m cap d) (i : Nat) (hoff : d.off = false) (hi : i < d.n) : Calls Tryd.prog 26 #[.pointer (some ⟨r, 0, none⟩), .int .i64 i] w fun e w' => e = .returned (.tuple #[.agg (sb (d.at i)).toArray, .int .i64 0]) ∧ Below w.heap.size w w' := by
  have hz := zero39
  have hA := Blk.new w 64 (sb zs)
  have hno : d.no i = 0 := by unfold St.no; rw [hoff]; simp; omega
  have hL := h.alloc (.cells (sb zs).toArray 64)
  have hr := refusal_any _ r f m cap d hL i
  rw [hno] at hr
  have c1 := hL.c1
  have htop := h.top
  have hwf := wf64 i (by omega) (by omega)
  obtain ⟨D, hD, hM⟩ := hL.map
  have hwl : wl d.waits (.int .i64 (i : Int)) = d.waits i := wl_ky d.waits i
  have hB0 := Blk.new (w.alloc (.cells (sb zs).toArray 64)) 64 (sb zs)
  have hA0 := hA.alloc (.cells (sb zs).toArray 64)
  rw [World.size_alloc] at hB0
  have hne : w.heap.size ≠ w.heap.size + 1 := by omega
  cases hw : d.waits i with
  | some s =>
    have hat : d.at i = s := by unfold St.at; rw [hw]; rfl
    rw [hat]
    go_enter Tryd.func26, Tryd.ntmps26
    go_wp2_with (first
      | (go_at_call 49; refine hr.mono ?_; rintro e w' ⟨rfl, rfl⟩) | (at_lookup; refine look_sec rfl _ _ rfl m _ D d.waits hD hM rfl i rfl hwf s (by rw [hwl, hw]; rfl) true (by rw [hwl, hw]; rfl) ?_)
      | (refine store_sec rfl _ _ rfl (w.heap.size + 1) zs s hB0 rfl rfl ?_; intro hB1; have hA1 := hA0.fr (X := fun k => k = w.heap.size + 1) ((Fr.refl _ _).setRow (w.heap.size + 1) (sb s).toArray (.inl rfl)) hne)
      | (refine load_sec rfl _ rfl (w.heap.size + 1) s hB1 rfl ?_)
      | (refine store_sec rfl _ _ rfl w.heap.size zs s hA1 rfl rfl ?_; intro hA2))
    refine bodyPost_ret (ret_sec rfl _ _ w.heap.size s rfl hA2) rfl ⟨rfl, ?_⟩
    exact Fr.below (X := fun k => w.heap.size ≤ k) ((((((Fr.refl _ w).alloc _)).alloc _).setRow _ _ (.inr (by omega))).setRow _ _ (.inr (Nat.le_refl _))) (fun k e => e) (Nat.le_refl _)
  | none =>
    have hat : d.at i = d.lasts i := by unfold St.at; rw [hw]; rfl
    rw [hat]
    have hrow := (hL.row.same (heap_alloc_old _ (.cells (sb zs).toArray 64) hL.row.lt)).range hi
    have c0 := (hL.alloc (.cells (sb zs).toArray 64)).c0
    have hI : (i : Int) < d.n := by omega
    have hfA : ¬ f = w.heap.size + 1 := by have := h.row.lt; omega
    have hrA : ¬ r = w.heap.size + 1 := by have := h.blk.lt; omega
    go_enter Tryd.func26, Tryd.ntmps26
    go_wp2_with (first
      | (go_at_call 49; refine hr.mono ?_; rintro e w' ⟨rfl, rfl⟩) | (at_lookup; refine look_sec rfl _ _ rfl m _ D d.waits hD hM rfl i rfl hwf zs (by rw [hwl, hw]; rfl) false (by rw [hwl, hw]; rfl) ?_)
      | (refine store_sec rfl _ _ rfl (w.heap.size + 1) zs zs hB0 rfl rfl ?_; intro hB1
         have hfr := (Fr.refl (fun k => k = w.heap.size + 1) ((w.alloc (.cells (sb zs).toArray 64)).alloc (.cells (sb zs).toArray 64))).setRow (w.heap.size + 1) (sb zs).toArray (.inl rfl)
         have hA1 := hA0.fr hfr hne
         have c0 := ((hL.alloc (.cells (sb zs).toArray 64)).blk.fr hfr hrA).cell 0 _ rfl
         have hrow := ((hL.row.same (heap_alloc_old _ (.cells (sb zs).toArray 64) hL.row.lt)).fr hfr hfA).range hi)
      | (refine wpList_load_mid rfl 64 _ rfl f (i * 512) rfl (sb (d.lasts i)) _ hrow Tryd.underlying64 rfl (by rw [sb_length]; kernel_rfl) ?_)
      | (refine store_sec rfl _ _ rfl w.heap.size zs (d.lasts i) hA1 rfl rfl ?_; intro hA2))
    refine bodyPost_ret (ret_sec rfl _ _ w.heap.size (d.lasts i) rfl hA2) rfl ⟨rfl, ?_⟩
    exact Fr.below (X := fun k => w.heap.size ≤ k) ((((((Fr.refl _ w).alloc _)).alloc _).setRow _ _ (.inr (by omega))).setRow _ _ (.inr (Nat.le_refl _))) (fun k e => e) (Nat.le_refl _)
end Go.Proofs.YtndfhmlcfaaaiaaDoor

