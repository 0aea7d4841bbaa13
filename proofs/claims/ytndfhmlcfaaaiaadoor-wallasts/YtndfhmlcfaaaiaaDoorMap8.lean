/- A map from numbers to pages. -/
import Derived.Test.YtndfhmlcfaaaiaaDoorFmt
namespace Go.Proofs.YtndfhmlcfaaaiaaDoor
open Go.RowKit

/-- A page as the program's value. -/
abbrev pgv (x : Pg) : Value := .agg (pb x).toArray
theorem pgv_inj {s t : Pg} (h : pgv s = pgv t) : s = t := by
  unfold pgv at h
  injection h with h
  exact pb_inj (by simpa using congrArg Array.toList h)
open Classical in
/-- How a sector reads as a map's element. -/
noncomputable def pgR (v : Value) : Option (DataW Pg × List MemPlace) := if h : ∃ s : Pg, v = pgv s then some (.held (Classical.choose h), []) else none
theorem pgR_mk (s : Pg) : pgR (pgv s) = some (.held s, []) := by
  have h : ∃ t : Pg, pgv s = pgv t := ⟨s, rfl⟩
  unfold pgR
  rw [dif_pos h, ← pgv_inj (Classical.choose_spec h)]
theorem pgR_inv {v : Value} {z : DataW Pg × List MemPlace} (h : pgR v = some z) : ∃ s, v = pgv s ∧ z = (.held s, []) := by
  unfold pgR at h
  split at h
  · rename_i hx
    cases h
    exact ⟨_, Classical.choose_spec hx, rfl⟩
  · cases h
/-- The map that reads as D has at number i just what W has. -/
def wq (W : Nat → Option Pg) : Lit → Option Pg
  | .int .i64 i => if 0 ≤ i then W i.toNat else none
  | _ => none
theorem wq_ky (W : Nat → Option Pg) (i : Nat) : wq W (ky i) = W i := by simp [wq, ky]
theorem wq_neg (W : Nat → Option Pg) (i : Int) (h : i < 0) : wq W (.int .i64 i) = none := by simp [wq]; omega
def Mq (D : DataW Pg) (W : Nat → Option Pg) : Prop := Maps.IsMap D ∧ ∀ kl z, D.atKey kl z = match wq W kl with | some s => .held s | none => z
theorem Mq.has {D : DataW Pg} {W : Nat → Option Pg} (h : Mq D W) (kl : Lit) : Maps.has D kl = (wq W kl).isSome := by
  have h1 := h.2 kl
  cases hw : wq W kl with
  | none => rw [hw] at h1; exact Maps.has_false_of_atKey h1
  | some s => rw [hw] at h1; exact Maps.has_true_of_atKey h1
theorem mq_empty : Mq (.map []) (fun _ => none) := ⟨Maps.isMap_empty, fun kl z => by
  have : wq (fun _ => none) kl = none := by unfold wq; split <;> simp
  rw [this]
  rfl⟩
theorem wq_upd (W : Nat → Option Pg) (i : Nat) (s : Pg) (kl : Lit) (h : kl ≠ ky i) : wq (upd W i (some s)) kl = wq W kl := by
  unfold wq
  split
  · rename_i j
    split
    · rw [upd_ne]
      intro e
      apply h
      unfold ky
      congr 1
      omega
    · rfl
  · rfl
theorem Mq.put {D : DataW Pg} {W : Nat → Option Pg} (h : Mq D W) (i : Nat) (s : Pg) : Mq (D.put (ky i) (.held s)) (upd W i (some s)) := by
  refine ⟨h.1.put _ _, fun kl z => ?_⟩
  by_cases e : kl = ky i
  · subst e
    rw [Maps.atKey_put_same h.1 (by exact trivial), wq_ky, upd_same]
  · rw [Maps.atKey_put_other e, h.2 kl z, wq_upd _ _ _ _ e]
section
variable {w : World} {ops : Array Oper} {rest : List Oper} {o : Oper} {a : Act} {Q : Exit → Act → World → Prop}
theorem look_pg (hg : o.guard = none) (m x : Operand) (hop : o.op = Op.lookup 80 m x true) (b n : Nat) (D : DataW Pg) (W : Nat → Option Pg) (hown : w.ownsMap Tryd.prog 3 pgR b n D) (hM : Mq D W)
    (hm : a.eval m = .map (some b)) (i : Int) (hx : a.eval x = .int .i64 i) (hwf : (Lit.int .i64 i).wf = true) (s : Pg) (hs : (wq W (.int .i64 i)).getD zp = s) (c : Bool) (hc : (wq W (.int .i64 i)).isSome = c)
    (h : wpList Tryd.prog ops Q rest (a.put o.dst (.tuple #[pgv s, .bool c])) w) : wpList Tryd.prog ops Q (o :: rest) a w := by
  refine wpList_lookup_own_ok w hg m x 80 hop 3 31 law3 Tryd.underlying80 pgR (zero31 w) _ _ (pgR_mk zp) b n D hm hown _ _ hx (Maps.keyOf_int_mk Tryd.underlying3 hwf) ?_
  intro v ps hv
  obtain ⟨t, rfl, hz⟩ := pgR_inv hv
  have h1 := hM.2 (.int .i64 i) (.held zp)
  rw [hM.has, hc]
  have h2 : t = s := by
    rw [h1] at hz
    cases hw : wq W (.int .i64 i) with
    | none => rw [hw] at hz hs; cases hz; exact hs
    | some u => rw [hw] at hz hs; cases hz; exact hs
  subst h2
  exact h
end
theorem put_pgm {w : World} {o : Oper} {a : Act} {K : Act → World → Prop} {Q : Exit → Act → World → Prop} (m x y : Operand) (hop : o.op = Op.mapUpdate 80 m x y) (b n : Nat) (D : DataW Pg) (hown : w.ownsMap Tryd.prog 3 pgR b n D) (hn : n < maxLen)
    (hm : a.eval m = .map (some b)) (i : Nat) (hi : i < 9223372036854775808) (hx : a.eval x = .int .i64 (i : Int)) (s : Pg) (hy : a.eval y = pgv s)
    (h : ∀ w', w'.ownsMap Tryd.prog 3 pgR b (n + 1) (D.put (ky i) (.held s)) → w.grownBy w' (some b) → K (a.put o.dst undef) w') : o.wp Tryd.prog a w K Q := by
  obtain ⟨w', hrun, r1, r2⟩ := hown.update law3 Tryd.underlying80 hn (kl := ky i) (Maps.keyOf_int_mk Tryd.underlying3 (wf64 i (by omega) (by omega))) (pgR_mk s)
  unfold Oper.wp
  simp only [execOp, hop, hm, hx, hy]
  have hrun' : (Instr.mapUpdate 80 (.map (some b)) (.int .i64 (i : Int)) (pgv s)).run Tryd.prog w = .ok () w' := hrun
  simp [hrun', Result.andThen]
  exact h w' r1 r2

theorem ranges_pg {w w' : World} {b r n : Nat} {D : DataW Pg} {left : Lit → Bool} {cnt : Nat} (h : w.ranges Tryd.prog 3 pgR b r n D left cnt) (h1 : w'.heap[b]? = w.heap[b]?) (h2 : w'.heap[r]? = w.heap[r]?) : w'.ranges Tryd.prog 3 pgR b r n D left cnt := by
  obtain ⟨es, clock, since, seen, c0, hb, F, hs, hD, hr, rest⟩ := h
  exact ⟨es, clock, since, seen, c0, h1.trans hb, F, hs, hD, h2.trans hr, rest⟩
theorem next_pg {w : World} {ops : Array Oper} {rest : List Oper} {o : Oper} {a : Act} {Q : Exit → Act → World → Prop} (hg : o.guard = none) (it : Operand) (hop : o.op = Op.next it false) (b r n : Nat) (D : DataW Pg) (W : Nat → Option Pg) (left : Lit → Bool) (cnt : Nat)
    (hM : Mq D W) (h : w.ranges Tryd.prog 3 pgR b r n D left cnt) (hit : a.eval it = .pointer (some ⟨r, 0, none⟩))
    (hDone : (∀ kl, left kl = false) → wpList Tryd.prog ops Q rest (a.put o.dst (.tuple #[.bool false])) w)
    (hMore : ∀ (i : Nat) (s : Pg) (w' : World) (cnt' : Nat), W i = some s → left (ky i) = true → w'.ranges Tryd.prog 3 pgR b r n D (fun z => left z && !z.sameKey (ky i)) cnt' → cnt' < cnt → w.grownBy w' (some r) → w'.heap.size = w.heap.size →
      (Instr.entry (.pointer (some ⟨r, 0, none⟩))).run Tryd.prog w' = .ok (.tuple #[.int .i64 (i : Int), pgv s]) w' → wpList Tryd.prog ops Q rest (a.put o.dst (.tuple #[.bool true, .int .i64 (i : Int), pgv s])) w') :
    wpList Tryd.prog ops Q (o :: rest) a w := by
  refine wpList_next_ranges w hg it hop 3 law3 pgR (Value.int .i64) pgv (fun key kl hk => by obtain ⟨x, rfl, _⟩ := Maps.keyOf_int_inv Tryd.underlying3 hk; exact ⟨x, rfl⟩) (fun v y hv => by obtain ⟨s, rfl, _⟩ := pgR_inv hv; exact ⟨s, rfl⟩) b r n D left cnt hit h (fun _ hl => hDone hl) ?_
  intro x c kl y w' cnt' hkey hlk hv hat hrg hlt hgr hsz hen
  obtain ⟨x', ex, rfl, _⟩ := Maps.keyOf_int_inv Tryd.underlying3 hkey
  cases ex
  obtain ⟨s, es, rfl⟩ := pgR_inv hv
  have es' := pgv_inj (s := c) (t := s) es
  subst es'
  have h1 := hM.2 (.int .i64 x) .nil
  rw [hat] at h1
  cases hw : wq W (.int .i64 x) with
  | none => rw [hw] at h1; cases h1
  | some t =>
    rw [hw] at h1
    injection h1 with h1
    subst h1
    have h0 : 0 ≤ x := by
      rcases Int.lt_or_le x 0 with hn | hn
      · rw [wq_neg W x hn] at hw; cases hw
      · exact hn
    obtain ⟨i, rfl⟩ := Int.eq_ofNat_of_zero_le h0
    have hwi : W i = some c := (wq_ky W i).symm.trans hw
    exact hMore i c w' cnt' hwi hlk hrg hlt hgr hsz hen
end Go.Proofs.YtndfhmlcfaaaiaaDoor
