import Derived.Test.YtndfhmlcfaaaiaaGreatDoorFmt
/- A map from numbers to pages. -/
namespace Go.Proofs.YtndfhmlcfaaaiaaGreatDoor
open Go.RowKit

/-- A page as the program's value. -/
abbrev pgv (x : Pg) : Value := .agg (pb x).toArray
theorem pgv_inj {s t : Pg} (h : pgv s = pgv t) : s = t := by
  unfold pgv at h
  injection h with h
  exact pb_inj (by simpa using congrArg Array.toList h)
open Classical in
/-- How a sector reads as a map's element. -/
noncomputable def pgR (v : Value) : Option (DataW Pg × List MemPlace) := if h : ∃ s : Pg, v = pgv s then some (.held (Classical.choose h), []) else none
theorem pgR_mk (s : Pg) : pgR (pgv s) = some (.held s, []) := by
  have h : ∃ t : Pg, pgv s = pgv t := ⟨s, rfl⟩
  unfold pgR
  rw [dif_pos h, ← pgv_inj (Classical.choose_spec h)]
theorem pgR_inv {v : Value} {z : DataW Pg × List MemPlace} (h : pgR v = some z) : ∃ s, v = pgv s ∧ z = (.held s, []) := by
  unfold pgR at h
  split at h
  · rename_i hx
    cases h
    exact ⟨_, Classical.choose_spec hx, rfl⟩
  · cases h
/-- The map that reads as D has at number i just what W has. -/
def wq (W : Nat → Option Pg) : Lit → Option Pg
  | .int .i64 i => if 0 ≤ i then W i.toNat else none
  | _ => none
theorem wq_ky (W : Nat → Option Pg) (i : Nat) : wq W (ky i) = W i := by simp [wq, ky]
theorem wq_neg (W : Nat → Option Pg) (i : Int) (h : i < 0) : wq W (.int .i64 i) = none := by simp [wq]; omega
def Mq (D : DataW Pg) (W : Nat → Option Pg) : Prop := Maps.IsMap D ∧ ∀ kl z, D.atKey kl z = match wq W kl with | some s => .held s | none => z
theorem Mq.has {D : DataW Pg} {W : Nat → Option Pg} (h : Mq D W) (kl : Lit) : Maps.has D kl = (wq W kl).isSome := by
  have h1 := h.2 kl
  cases hw : wq W kl with
  | none => rw [hw] at h1; exact Maps.has_false_of_atKey h1
  | some s => rw [hw] at h1; exact Maps.has_true_of_atKey h1
theorem mq_empty : Mq (.map []) (fun _ => none) := ⟨Maps.isMap_empty, fun kl z => by
  have : wq (fun _ => none) kl = none := by unfold wq; split <;> simp
  rw [this]
  rfl⟩
theorem wq_upd (W : Nat → Option Pg) (i : Nat) (s : Pg) (kl : Lit) (h : kl ≠ ky i) : wq (upd W i (some s)) kl = wq W kl := by
  unfold wq
  split
  · rename_i j
    split
    · rw [upd_ne]
      intro e
      apply h
      unfold ky
      congr 1
      omega
    · rfl
  · rfl
theorem Mq.put {D : DataW Pg} {W : Nat → Option Pg} (h : Mq D W) (i : Nat) (s : Pg) : Mq (D.put (ky i) (.held s)) (upd W i (some s)) := by
  refine ⟨h.1.put _ _, fun kl z => ?_⟩
  by_cases e : kl = ky i
  · subst e
    rw [Maps.atKey_put_same h.1 (by exact trivial), wq_ky, upd_same]
  · rw [Maps.atKey_put_other e, h.2 kl z, wq_upd _ _ _ _ e]
section
variable {w : World} {ops : Array Oper} {rest : List Oper} {o : Oper} {a : Act} {Q : Exit → Act → World → Prop}
theorem look_pg (hg : o.guard = none) (m x : Operand) (hop : o.op = Op.lookup 103 m x true) (b n : Nat) (D : DataW Pg) (W : Nat → Option Pg) (hown : w.ownsMap Tryz.prog 3 pgR b n D) (hM : Mq D W)
    (hm : a.eval m = .map (some b)) (i : Int) (hx : a.eval x = .int .i64 i) (hwf : (Lit.int .i64 i).wf = true) (s : Pg) (hs : (wq W (.int .i64 i)).getD zp = s) (c : Bool) (hc : (wq W (.int .i64 i)).isSome = c)
    (h : wpList Tryz.prog ops Q rest (a.put o.dst (.tuple #[pgv s, .bool c])) w) : wpList Tryz.prog ops Q (o :: rest) a w := by
  refine wpList_lookup_own_ok w hg m x 103 hop 3 66 law3 Tryz.underlying103 pgR (zero31 w) _ _ (pgR_mk zp) b n D hm hown _ _ hx (Maps.keyOf_int_mk Tryz.underlying3 hwf) ?_
  intro v ps hv
  obtain ⟨t, rfl, hz⟩ := pgR_inv hv
  have h1 := hM.2 (.int .i64 i) (.held zp)
  rw [hM.has, hc]
  have h2 : t = s := by
    rw [h1] at hz
    cases hw : wq W (.int .i64 i) with
    | none => rw [hw] at hz hs; cases hz; exact hs
    | some u => rw [hw] at hz hs; cases hz; exact hs
  subst h2
  exact h
end
theorem put_pgm {w : World} {o : Oper} {a : Act} {K : Act → World → Prop} {Q : Exit → Act → World → Prop} (m x y : Operand) (hop : o.op = Op.mapUpdate 103 m x y) (b n : Nat) (D : DataW Pg) (hown : w.ownsMap Tryz.prog 3 pgR b n D) (hn : n < maxLen)
    (hm : a.eval m = .map (some b)) (i : Nat) (hi : i < 9223372036854775808) (hx : a.eval x = .int .i64 (i : Int)) (s : Pg) (hy : a.eval y = pgv s)
    (h : ∀ w', w'.ownsMap Tryz.prog 3 pgR b (n + 1) (D.put (ky i) (.held s)) → w.grownBy w' (some b) → K (a.put o.dst undef) w') : o.wp Tryz.prog a w K Q := by
  obtain ⟨w', hrun, r1, r2⟩ := hown.update law3 Tryz.underlying103 hn (kl := ky i) (Maps.keyOf_int_mk Tryz.underlying3 (wf64 i (by omega) (by omega))) (pgR_mk s)
  unfold Oper.wp
  simp only [execOp, hop, hm, hx, hy]
  have hrun' : (Instr.mapUpdate 103 (.map (some b)) (.int .i64 (i : Int)) (pgv s)).run Tryz.prog w = .ok () w' := hrun
  simp [hrun', Result.andThen]
  exact h w' r1 r2

theorem ranges_pg {w w' : World} {b r n : Nat} {D : DataW Pg} {left : Lit → Bool} {cnt : Nat} (h : w.ranges Tryz.prog 3 pgR b r n D left cnt) (h1 : w'.heap[b]? = w.heap[b]?) (h2 : w'.heap[r]? = w.heap[r]?) : w'.ranges Tryz.prog 3 pgR b r n D left cnt := by
  obtain ⟨es, clock, since, seen, c0, hb, F, hs, hD, hr, rest⟩ := h
  exact ⟨es, clock, since, seen, c0, h1.trans hb, F, hs, hD, h2.trans hr, rest⟩
theorem next_pg {w : World} {ops : Array Oper} {rest : List Oper} {o : Oper} {a : Act} {Q : Exit → Act → World → Prop} (hg : o.guard = none) (it : Operand) (hop : o.op = Op.next it false) (b r n : Nat) (D : DataW Pg) (W : Nat → Option Pg) (left : Lit → Bool) (cnt : Nat)
    (hM : Mq D W) (h : w.ranges Tryz.prog 3 pgR b r n D left cnt) (hit : a.eval it = .pointer (some ⟨r, 0, none⟩))
    (hDone : (∀ kl, left kl = false) → wpList Tryz.prog ops Q rest (a.put o.dst (.tuple #[.bool false])) w)
    (hMore : ∀ (i : Nat) (s : Pg) (w' : World) (cnt' : Nat), W i = some s → left (ky i) = true → w'.ranges Tryz.prog 3 pgR b r n D (fun z => left z && !z.sameKey (ky i)) cnt' → cnt' < cnt → w.grownBy w' (some r) → w'.heap.size = w.heap.size →
      (Instr.entry (.pointer (some ⟨r, 0, none⟩))).run Tryz.prog w' = .ok (.tuple #[.int .i64 (i : Int), pgv s]) w' → wpList Tryz.prog ops Q rest (a.put o.dst (.tuple #[.bool true, .int .i64 (i : Int), pgv s])) w') :
    wpList Tryz.prog ops Q (o :: rest) a w := by
  refine wpList_next_ranges w hg it hop 3 law3 pgR (Value.int .i64) pgv (fun key kl hk => by obtain ⟨x, rfl, _⟩ := Maps.keyOf_int_inv Tryz.underlying3 hk; exact ⟨x, rfl⟩) (fun v y hv => by obtain ⟨s, rfl, _⟩ := pgR_inv hv; exact ⟨s, rfl⟩) b r n D left cnt hit h (fun _ hl => hDone hl) ?_
  intro x c kl y w' cnt' hkey hlk hv hat hrg hlt hgr hsz hen
  obtain ⟨x', ex, rfl, _⟩ := Maps.keyOf_int_inv Tryz.underlying3 hkey
  cases ex
  obtain ⟨s, es, rfl⟩ := pgR_inv hv
  have es' := pgv_inj (s := c) (t := s) es
  subst es'
  have h1 := hM.2 (.int .i64 x) .nil
  rw [hat] at h1
  cases hw : wq W (.int .i64 x) with
  | none => rw [hw] at h1; cases h1
  | some t =>
    rw [hw] at h1
    injection h1 with h1
    subst h1
    have h0 : 0 ≤ x := by
      rcases Int.lt_or_le x 0 with hn | hn
      · rw [wq_neg W x hn] at hw; cases hw
      · exact hn
    obtain ⟨i, rfl⟩ := Int.eq_ofNat_of_zero_le h0
    have hwi : W i = some c := (wq_ky W i).symm.trans hw
    exact hMore i c w' cnt' hwi hlk hrg hlt hgr hsz hen
end Go.Proofs.YtndfhmlcfaaaiaaGreatDoor

/- A log in memory, and the small calls on it. -/
namespace Go.Proofs.YtndfhmlcfaaaiaaGreatDoor
open Go.RowKit

/-- A log: its layout, its generation, the records in it; whether it is dead. -/
structure Lg where
  L : Nat
  H : Nat
  g : Nat
  ws : List (List Im)
  dead : Bool
def lgc (r mm : Nat) (x : Lg) : List Value := [.pointer (some ⟨r, 0, none⟩), .int .i64 (x.L : Int), .int .i64 (x.H : Int), .int .u64 (x.g : Int), .map (some mm), .int .u64 (x.ws.length : Int), .int .i64 (tot x.ws : Int), .bool x.dead]
/-- In w the log x of the disk r lies in the blocks q and mm. -/
structure LL (w : World) (q r mm : Nat) (x : Lg) : Prop where
  blk : Blk w q 105 (lgc r mm x)
  map : ∃ D, w.ownsMap Tryz.prog 3 pgR mm (tot x.ws) D ∧ Mq D (ov x.ws)
  low : ∀ p, x.H ≤ p → ov x.ws p = none
  L3 : 3 ≤ x.L
  L4 : x.L ≤ 4000
  H1 : 1 ≤ x.H
  H2 : x.H ≤ 16384
  used : tot x.ws ≤ x.L
  recs : x.ws.length ≤ tot x.ws
  gen : x.g < 18446744073709551615
/-- The blocks of a log. -/
def lp (q mm : Nat) (k : Nat) : Prop := k = q ∨ k = mm
section
variable {w w' : World} {q r mm : Nat} {x : Lg}
theorem LL.c0 (h : LL w q r mm x) : w.cell? ⟨q, 0, none⟩ = some (.pointer (some ⟨r, 0, none⟩)) := h.blk.cell 0 _ rfl
theorem LL.c1 (h : LL w q r mm x) : w.cell? ⟨q, 1, none⟩ = some (.int .i64 (x.L : Int)) := h.blk.cell 1 _ rfl
theorem LL.c2 (h : LL w q r mm x) : w.cell? ⟨q, 2, none⟩ = some (.int .i64 (x.H : Int)) := h.blk.cell 2 _ rfl
theorem LL.c3 (h : LL w q r mm x) : w.cell? ⟨q, 3, none⟩ = some (.int .u64 (x.g : Int)) := h.blk.cell 3 _ rfl
theorem LL.c4 (h : LL w q r mm x) : w.cell? ⟨q, 4, none⟩ = some (.map (some mm)) := h.blk.cell 4 _ rfl
theorem LL.c5 (h : LL w q r mm x) : w.cell? ⟨q, 5, none⟩ = some (.int .u64 (x.ws.length : Int)) := h.blk.cell 5 _ rfl
theorem LL.c6 (h : LL w q r mm x) : w.cell? ⟨q, 6, none⟩ = some (.int .i64 (tot x.ws : Int)) := h.blk.cell 6 _ rfl
theorem LL.c7 (h : LL w q r mm x) : w.cell? ⟨q, 7, none⟩ = some (.bool x.dead) := h.blk.cell 7 _ rfl
theorem LL.fz (h : LL w q r mm x) (j : Nat) : w.frozen? ⟨q, j, none⟩ = false := h.blk.fz j
theorem LL.ly (h : LL w q r mm x) : w.rangeAt q 1 (ly x.L x.H) := by
  intro j v hv
  match j with
  | 0 => simp [Go.Proofs.YtndfhmlcfaaaiaaGreatDoor.ly] at hv; subst hv; exact h.c1
  | 1 => simp [Go.Proofs.YtndfhmlcfaaaiaaGreatDoor.ly] at hv; subst hv; exact h.c2
  | j + 2 => simp [Go.Proofs.YtndfhmlcfaaaiaaGreatDoor.ly] at hv
theorem LL.mlt (h : LL w q r mm x) : mm < w.heap.size := by obtain ⟨D, hD, _⟩ := h.map; exact hD.lt
theorem LL.mq_ne (h : LL w q r mm x) : mm ≠ q := by
  obtain ⟨D, ⟨es, c, hb, _⟩, _⟩ := h.map
  intro e
  subst e
  have := h.blk
  unfold Blk at this
  rw [hb] at this
  cases this
theorem LL.keep (h : LL w q r mm x) (h1 : w'.heap[q]? = w.heap[q]?) (h3 : w'.heap[mm]? = w.heap[mm]?) : LL w' q r mm x := by
  obtain ⟨D, ⟨es, c, hb, e⟩, hM⟩ := h.map
  exact ⟨h1.trans h.blk, ⟨D, ⟨es, c, h3.trans hb, e⟩, hM⟩, h.low, h.L3, h.L4, h.H1, h.H2, h.used, h.recs, h.gen⟩
theorem LL.fr {X : Nat → Prop} (h : LL w q r mm x) (hf : Fr X w w') (hX : ∀ k, X k → ¬ lp q mm k) : LL w' q r mm x :=
  h.keep (hf.block q h.blk.lt (fun hx => hX q hx (.inl rfl))) (hf.block mm h.mlt (fun hx => hX mm hx (.inr rfl)))
theorem LL.next (h : LL w q r mm x) (hb : Below w.heap.size w w') : LL w' q r mm x :=
  h.fr (X := fun _ => False) (Fr.of_below hb (Nat.le_refl _)) (fun _ hx => hx.elim)
theorem LL.drew (h : LL w q r mm x) : LL w.drew q r mm x := h.keep rfl rfl
theorem LL.lt (h : LL w q r mm x) : ∀ k, lp q mm k → k < w.heap.size := by
  intro k hk
  rcases hk with rfl | rfl
  · exact h.blk.lt
  · exact h.mlt
/-- A log is dead from now on, or not. -/
theorem LL.die (h : LL w q r mm x) (b : Bool) : LL (w.setCell ⟨q, 7, none⟩ (.bool b)) q r mm { x with dead := b } := by
  obtain ⟨D, hD, hM⟩ := h.map
  exact ⟨h.blk.set 7 _, ⟨D, hD.setCell h.mq_ne _, hM⟩, h.low, h.L3, h.L4, h.H1, h.H2, h.used, h.recs, h.gen⟩
end
theorem pages_nil (w : World) : Calls Tryz.prog 24 #[.pointer none] w fun e w' => e = .returned (.int .i64 0) ∧ w = w' := by
  go_enter Tryz.func24, Tryz.ntmps24
  go_wp2
  go_ret
  exact ⟨rfl, rfl⟩
theorem room_nil (w : World) : Calls Tryz.prog 16 #[.pointer none] w fun e w' => e = .returned (.int .i64 0) ∧ w = w' := by
  go_enter Tryz.func16, Tryz.ntmps16
  go_wp2
  go_ret
  exact ⟨rfl, rfl⟩
theorem gen_nil (w : World) : Calls Tryz.prog 44 #[.pointer none] w fun e w' => e = .returned (.int .u64 0) ∧ w = w' := by
  go_enter Tryz.func44, Tryz.ntmps44
  go_wp2
  go_ret
  exact ⟨rfl, rfl⟩
theorem pages_any (w : World) (q r mm : Nat) (x : Lg) (h : LL w q r mm x) (hd : x.dead = false) : Calls Tryz.prog 24 #[.pointer (some ⟨q, 0, none⟩)] w fun e w' => e = .returned (.int .i64 (x.H : Int)) ∧ w = w' := by
  have c2 := h.c2
  have c7 := h.c7
  rw [hd] at c7
  go_enter Tryz.func24, Tryz.ntmps24
  go_wp2
  go_ret
  exact ⟨rfl, rfl⟩
theorem room_any (w : World) (q r mm : Nat) (x : Lg) (h : LL w q r mm x) (hd : x.dead = false) : Calls Tryz.prog 16 #[.pointer (some ⟨q, 0, none⟩)] w fun e w' => e = .returned (.int .i64 ((x.L - tot x.ws : Nat) : Int)) ∧ Below w.heap.size w w' := by
  have c1 := h.c1
  have c6 := h.c6
  have c7 := h.c7
  have hu := h.used
  have h4 := h.L4
  rw [hd] at c7
  obtain ⟨t, ht⟩ : ∃ t, t = tot x.ws := ⟨_, rfl⟩
  rw [← ht] at c6 hu ⊢
  obtain ⟨L, hL⟩ : ∃ L, L = x.L := ⟨_, rfl⟩
  rw [← hL] at c1 hu h4 ⊢
  have q1 : (L : Int) - (t : Int) = ((L - t : Nat) : Int) := by omega
  obtain ⟨u, hu2⟩ : ∃ u, u = L - t := ⟨_, rfl⟩
  rw [← hu2] at q1 ⊢
  have q2 : (L : Int) ≤ 4000 := by omega
  have q3 : (t : Int) ≤ (L : Int) := by omega
  have q4 : IntKind.i64.wrap (u : Int) = (u : Int) := by rw [IntKind.wrap_i64]; omega
  clear ht hL hu2
  go_enter Tryz.func16, Tryz.ntmps16
  go_wp2_with fail
  go_quiet (fail)
  go_wp2
  go_ret
  exact ⟨rfl, ⟨rfl, rfl, rfl, Nat.le_refl _, fun _ _ => rfl⟩⟩
/-- The error's number e is noted. -/
def Lg.noted (x : Lg) (e : Int) : Lg := { x with dead := x.dead || (e == 6) }
theorem noted_any (w : World) (q r mm : Nat) (x : Lg) (h : LL w q r mm x) (e : Int) : Calls Tryz.prog 52 #[.pointer (some ⟨q, 0, none⟩), .int .i64 e] w fun ex w' => ex = .returned (.int .i64 e) ∧ LL w' q r mm (x.noted e) ∧ Fr (lp q mm) w w' ∧ w'.heap.size = w.heap.size := by
  have c7 := h.c7
  have f7 := h.fz 7
  have h1 := h.die (x.dead || (e == 6))
  have h2 := (Fr.refl (lp q mm) w).setCell ⟨q, 7, none⟩ (.bool (x.dead || (e == 6))) (.inl (.inl rfl))
  unfold Lg.noted
  cases hd : x.dead
  · rw [hd] at h1 h2 c7
    by_cases he : e = 6
    · subst he
      go_enter Tryz.func52, Tryz.ntmps52
      go_wp2
      go_ret
      exact ⟨rfl, h1, h2, by simp⟩
    · have he2 : (e == 6) = false := by simp [he]
      rw [he2] at h1 h2 ⊢
      go_enter Tryz.func52, Tryz.ntmps52
      go_wp2
      go_ret
      exact ⟨rfl, h1, h2, by simp⟩
  · rw [hd] at h1 h2 c7
    simp only [Bool.true_or] at h1 h2 ⊢
    go_enter Tryz.func52, Tryz.ntmps52
    go_wp2
    go_ret
    exact ⟨rfl, h1, h2, by simp⟩
theorem empty_any (w : World) (q r mm : Nat) (x : Lg) (h : LL w q r mm x) : Calls Tryz.prog 73 #[.pointer (some ⟨q, 0, none⟩)] w fun e w' => e = .returned (.tuple #[]) ∧ ∃ mm', w.heap.size ≤ mm' ∧ LL w' q r mm' { x with ws := [] } ∧ Fr (lp q mm) w w' := by
  have hmm := @run_makeMap Tryz.prog
  have hA := h.next ((Below.refl _ w).alloc (Nat.le_refl _) (.map #[] 0))
  have g4 := h.fz 4
  have g5 := h.fz 5
  have g6 := h.fz 6
  have d4 := h.c4
  have d5 := h.c5
  have d6 := h.c6
  have f4 := hA.fz 4
  have f5 := hA.fz 5
  have f6 := hA.fz 6
  have c4 := hA.c4
  have c5 := hA.c5
  have c6 := hA.c6
  have hlt := h.blk.lt
  have hne : q ≠ w.heap.size := by omega
  obtain ⟨w0, hw0⟩ : ∃ w0, w0 = (((w.setCell ⟨q, 4, none⟩ (.map (some w.heap.size))).setCell ⟨q, 5, none⟩ (.int .u64 0)).setCell ⟨q, 6, none⟩ (.int .i64 0)) := ⟨_, rfl⟩
  have hsz : w0.heap.size = w.heap.size := by rw [hw0]; simp
  have h1 : LL (w0.alloc (.map #[] 0)) q r w.heap.size { x with ws := [] } := by
    have hm := World.ownsMap_made w0 Tryz.prog 3 pgR
    rw [hsz] at hm
    refine ⟨?_, ⟨.map [], hm.mono (Nat.zero_le _), mq_empty⟩, fun p _ => rfl, h.L3, h.L4, h.H1, h.H2, Nat.zero_le _, Nat.le_refl _, h.gen⟩
    rw [hw0]
    exact (((h.blk.set 4 (.map (some w.heap.size))).set 5 (.int .u64 0)).set 6 (.int .i64 0)).alloc _
  have h2 : Fr (lp q mm) w (w0.alloc (.map #[] 0)) := by
    rw [hw0]
    exact ((((Fr.refl _ w).setCell _ _ (.inl (.inl rfl))).setCell _ _ (.inl (.inl rfl))).setCell _ _ (.inl (.inl rfl))).alloc _
  rw [hw0] at h1 h2
  clear hw0
  go_enter Tryz.func73, Tryz.ntmps73
  go_wp2
  go_end0
  exact ⟨rfl, _, Nat.le_refl _, h1, h2⟩
end Go.Proofs.YtndfhmlcfaaaiaaGreatDoor
