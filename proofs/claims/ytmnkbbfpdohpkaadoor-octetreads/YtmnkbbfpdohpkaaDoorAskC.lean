/- The document's reader, where enough bytes are left. -/
import Derived.Test.YtmnkbbfpdohpkaaDoorAskB
import Derived.Deep.RegionHeld3
import Derived.Deep.AppendLies
namespace Go.Proofs.YtmnkbbfpdohpkaaDoor
open Go.RowKit

/-- 'append(v, x...)' at a step of a region that draws its order. -/
theorem shows_drewC {w : World} {ao : Option Addr} {n : Nat} {xs : List Int} (h : Shows w ao n xs) : Shows w.drew ao n xs := ⟨h.len, h.bare, h.cell, h.rng⟩

/-- A step. -/
theorem step_append {w : World} {ops : Array Oper} {o : Oper} {a : Act} {K : Act → World → Prop} {Q : Exit → Act → World → Prop} {E : Prop} (hgd : o.guard = none) (s x : Operand)
    (ho : o.op = .call { callee := .builtin .append, args := #[s, x], argTypes := #[22, 22] }) (base : Nat) (v : Value) (n : Nat) (xs : List Int) (hv : a.eval s = v) (hown : w.ownsRow base 5 1 v n (u8s xs))
    (ao : Option Addr) (m c : Nat) (ys : List Int) (hx : a.eval x = .slice ao m c) (hs : Shows w ao m ys) (hc : ao = none → c = 0) (hbig : n + m ≤ 140737488355328) (hbase : base ≤ w.heap.size)
    (h : ∀ v' w', w'.ownsRow base 5 1 v' (n + m) (u8s (xs ++ ys)) → w.grownBy w' v.ownBlock → K (a.put o.dst v') w') : if Region.wanted o (yielded ops a.tmps) = true then Oper.wp Tryd.prog o a w K Q else E := by
  have hw : Region.wanted o (yielded ops a.tmps) = true := by simp [Region.wanted, hgd]
  rw [if_pos hw]
  obtain ⟨i0, hi, hz0, hz1, hz2⟩ := info_parts Tryd.info5
  have hl := hs.len
  cases ao with
  | none =>
    have hm := hs.bare rfl
    have hc0 := hc rfl
    subst hm hc0
    have hy : ys = [] := List.eq_nil_of_length_eq_zero hl
    subst hy
    have hrun := run_append_owned_none (P := Tryd.prog) (w := w) base 22 o.type 5 i0 1 Tryd.underlying22 hi v n (u8s xs) hown
    unfold Oper.wp
    simp [execOp, ho, resolve, invoke, builtin, hv, hx, hrun, Result.andThen]
    exact h v w (by simpa using hown) (World.grownBy.refl _ _)
  | some ad =>
    refine wp_append_own w s x 22 ho base 5 i0 (.int .u8 0) 1 1 Tryd.underlying22 hi hz0 hz1 hz2 rfl (by decide) v n (u8s xs) hv hown ad m c (u8s ys) hx (by simp [u8s_length, hl]) hs.cells (u8s_one ys) (by unfold maxLen; omega) (by omega) hbase ?_
    intro v' w' h1 h2 _
    exact h v' w' (by rw [u8s_append]; exact h1) h2

theorem own_ne_rr {w : World} {base : Nat} {sz : Nat} {v : Value} {n : Nat} {xs : List Value} {q : Nat} {bo : Option Addr} {N bc : Nat} {ys : List Int} {k : Nat} {er : Int} (h : w.ownsRow base 5 sz v n xs) (hr : RR w q bo N bc ys k er) : v.ownBlock ≠ some q := by
  rcases h.2 with ⟨rfl, _⟩ | ⟨g, cap, cur, rfl, _, hh, _⟩
  · simp [Value.ownBlock]
  · simp only [Value.ownBlock, ne_eq, Option.some.injEq]
    intro e
    subst e
    have := hr.blk
    rw [hh] at this
    simp at this

set_option maxRecDepth 100000 in
theorem slice_run (w : World) (bo : Option Addr) (N bc k m : Nat) (h : k + m ≤ bc) :
    (Instr.slice 22 (.slice bo N bc) (some (.int .i64 (k : Int))) (some (.int .i64 ((k : Int) + (m : Int)))) none).run Tryd.prog w = .ok (.slice (fromAt bo bc k) m (bc - k)) w := by
  have hz : (sizeOf (Tryd.prog.elem 22)).run Tryd.prog w = .ok 1 w := by kernel_rfl
  rw [run_slice_lh w 22 bo N bc (by kernel_rfl) .i64 .i64 k (k + m) (by omega) (by omega) (by omega), hz]
  have e1 : ((k : Int) + (m : Int)).toNat = k + m := by omega
  simp only [Result.andThen, sliced, Int.toNat_natCast, e1, Nat.mul_one, fromAt]
  congr 2
  omega

theorem wrap_sum (k m : Nat) (h : k + m ≤ 140737488355328) : IntKind.i64.wrap ((k : Int) + (m : Int)) = (k : Int) + (m : Int) := by
  simp only [IntKind.wrap, IntKind.bits, IntKind.signed]
  simp
  omega

set_option maxHeartbeats 1000000 in
set_option maxRecDepth 100000 in
theorem rraw_ok (q : Nat) (bo : Option Addr) (N bc : Nat) (ys : List Int) (k m : Nat) (w : World) (h : RR w q bo N bc ys k 0) (hm : k + m ≤ N) :
    Calls Tryd.prog 53 #[.pointer (some ⟨q, 0, none⟩), .int .i64 m] w fun x w' => ∃ v, x = .returned v ∧ w'.ownsRow w.heap.size 5 1 v m (u8s ((ys.drop k).take m)) ∧ RR w' q bo N bc ys (k + m) 0 ∧ Only q w w' := by
  have c2 := h.c2
  have hcap := h.cap
  have hlim := h.lim
  have hbig := h.big
  unfold maxLen at hbig
  have hkm : (k : Int) + m ≤ bc := by omega
  have hqs := lt_of_block h.blk
  have ksl := fun w => slice_run w bo N bc k m (by omega)
  have hwr := wrap_sum k m (by omega)
  have hcs : fromAt bo bc k = none → bc - k = 0 := by
    intro hh
    unfold fromAt at hh
    split at hh
    · omega
    · cases bo with
      | none => have := h.bare rfl; omega
      | some ad => simp at hh
  go_enter Tryd.func53, Tryd.ntmps53
  go_wp2_with (go_at_call 63; go_must (refine (rfits_ok q bo N bc ys k m w h (by omega)).mono ?_; rintro x w1 ⟨rfl, h1, ho1⟩; have d0 := h1.c0; have d1 := h1.c1; have d2 := h1.c2; have hz1 := ho1.size; have hsrc : Shows w1 (fromAt bo bc k) m ((ys.drop k).take m) := (h1.sh.drop (c := bc) (show k ≤ N by omega) hcap).take (show m ≤ N - k by omega)))
  go_region_held3 (fun w' => w'.cell? ⟨q, 0, none⟩ = some (.slice bo N bc) ∧ w'.cell? ⟨q, 1, none⟩ = some (.int .i64 k)) (first | go_keep | (go_split_ands; refine ⟨?_, ?_⟩ <;> (rw [hgrow.cell_far _ (by simp; omega) (by simp [Value.ownBlock])]; assumption))) ((first | (refine step_append (by rfl) _ _ (by rfl) w.heap.size _ 0 [] (by rfl) (World.ownsRow_nil _ _ _ _) _ m _ ((ys.drop k).take m) (by rfl) (shows_drewC hsrc) hcs (by omega) (by simp; omega) ?_; intro v2 w2 hown2 hgrow) | fail))
  have hb2 : Below w1.heap.size w1 w2 := ((Below.refl _ w1).drew).grown hgrow (Nat.le_refl _) (by intro b hb; simp [Value.ownBlock] at hb)
  have h2 := h1.later hb2
  have g1 := h2.c1
  have f1 := h2.fz 1
  go_wp2
  go_ret
  have h3 := h2.move (k + m) hm
  rw [Int.natCast_add] at h3
  refine ⟨_, rfl, ?_, h3, (ho1.trans (Only.of_below hb2)).trans (Only.set q 1 _ _)⟩
  have := ownsRow_setCell_other (a := ⟨q, 1, none⟩) hown2 (own_ne_rr hown2 h2) (.int .i64 ((k : Int) + m))
  simpa using this

end Go.Proofs.YtmnkbbfpdohpkaaDoor
