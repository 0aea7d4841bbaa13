/- Two arrays of the same 32 bytes are equal. -/
import Derived.Test.YtmnembhcfkcmnaaDoorWorks
import Derived.Laws.StructEq
namespace Go.Proofs.YtmnembhcfkcmnaaDoor
open Go.RowKit
theorem isAgg5 (w : World) : (isAgg 5).run Tryd.prog w = .ok false w := by kernel_rfl
theorem sizeOf5 (w : World) : (sizeOf 5).run Tryd.prog w = .ok 1 w := by kernel_rfl
theorem part5 (R : List Int) (i : Nat) (hi : i < R.length) (w : World) : (Go.part 5 (nums .u8 R) (i * 1)).run Tryd.prog w = .ok (.int .u8 (R.getD i 0)) w := by
  unfold Go.part
  rw [Sem.run_bind, isAgg5]
  simp only [Result.andThen_ok, Nat.mul_one, nums_get .u8 R i hi]
  simp
theorem eq_loop (R : List Int) (w : World) : ∀ l : List Nat, (∀ i ∈ l, i < R.length) →
    Sem.run Tryd.prog (forIn l ((none : Option Bool), ()) fun i __s => do
              let __do_lift ← Go.part 5 (nums IntKind.u8 R) (i * 1)
              let __do_lift_1 ← Go.part 5 (nums IntKind.u8 R) (i * 1)
              let __do_lift ← Op.equalIn 9999 5 __do_lift __do_lift_1
              if (!__do_lift) = true then pure (ForInStep.done (some false, ())) else pure (ForInStep.yield (none, ()))) w = .ok (none, ()) w
  | [], _ => by simp
  | i :: l, h => by
    have ih := eq_loop R w l (fun j hj => h j (by simp [hj]))
    rw [List.forIn_cons]
    simp only [Sem.run_bind, part5 R i (h i (by simp)) w, Result.andThen_ok, run_equalIn_int w 9998 5 .u8 .u8 _ _ Tryd.underlying5, beq_self_eq_true, Bool.not_true, Bool.false_eq_true, if_false, Sem.run_pure]
    exact ih
theorem eq25 (R : List Int) (hR : R.length = 32) (w : World) : (Op.equalIn 10000 25 (.agg (nums .u8 R)) (.agg (nums .u8 R))).run Tryd.prog w = .ok true w := by
  rw [show (10000 : Nat) = 9999 + 1 from rfl, Op.equalIn]
  simp only [Sem.run_bind, run_underlying Tryd.underlying25, Result.andThen_ok]
  simp only [Std.Legacy.Range.forIn_eq_forIn_range', Std.Legacy.Range.size, Nat.sub_zero, Nat.add_sub_cancel, Nat.div_one]
  rw [sizeOf5]
  simp only [Result.andThen_ok]
  rw [eq_loop R w (List.range' 0 32) (fun i hi => by simp at hi; omega)]
  simp
theorem guard25 : Tryd.prog.eqGuardType Tryd.prog.depth 25 = false := by kernel_rfl
end Go.Proofs.YtmnembhcfkcmnaaDoor
