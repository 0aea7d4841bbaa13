/- Two blocks are equal just if their bytes are. -/
import Derived.Test.YtjhkicfndbceoaaExp
import Derived.Laws.StructEq
namespace Go.Proofs.Ytjhkicfndbceoaa
open Go.RowKit
theorem v8_dec (x y : B) : (v8 x == v8 y) = decide (x = y) := v8_eq x y
theorem eq_loop (l m : List B) (w : World) : ∀ is : List Nat, (∀ i ∈ is, i < l.length ∧ i < m.length) →
    Sem.run Try.prog (forIn is ((none : Option Bool), ()) fun i __s => do
              let __do_lift ← Go.part 5 (bys l).toArray (i * 1)
              let __do_lift_1 ← Go.part 5 (bys m).toArray (i * 1)
              let __do_lift ← Op.equalIn 9999 5 __do_lift __do_lift_1
              if (!__do_lift) = true then pure (ForInStep.done (some false, ())) else pure (ForInStep.yield (none, ()))) w = .ok (if (∀ i ∈ is, l.getD i 0#8 = m.getD i 0#8) then none else some false, ()) w
  | [], _ => by simp
  | i :: is, h => by
    have ih := eq_loop l m w is (fun j hj => h j (by simp [hj]))
    obtain ⟨h1, h2⟩ := h i (by simp)
    rw [List.forIn_cons]
    simp only [Nat.mul_one] at ih ⊢
    simp only [Sem.run_bind, part5 l i h1 w, part5 m i h2 w, Result.andThen_ok, run_equalIn_int w 9998 5 .u8 .u8 _ _ Try.underlying5, v8_dec]
    by_cases e : l.getD i 0#8 = m.getD i 0#8
    · simp only [e, decide_true, Bool.not_true, Bool.false_eq_true, if_false, Sem.run_pure, Result.andThen_ok]
      rw [ih]
      have e2 : (∀ j ∈ i :: is, l.getD j 0#8 = m.getD j 0#8) ↔ (∀ j ∈ is, l.getD j 0#8 = m.getD j 0#8) := by
        simp only [List.mem_cons, forall_eq_or_imp]
        exact ⟨fun h => h.2, fun h => ⟨e, h⟩⟩
      simp only [e2]
    · simp only [e, decide_false, Bool.not_false, if_true, Sem.run_pure, Result.andThen_ok]
      rw [if_neg]
      intro h
      exact e (h i (by simp))
theorem same_of (l m : List B) (n : Nat) (hl : l.length = n) (hm : m.length = n) (h : ∀ i, i < n → l.getD i 0#8 = m.getD i 0#8) : l = m := by
  refine List.ext_getElem (by rw [hl, hm]) fun i h1 h2 => ?_
  have := h i (by omega)
  simpa [List.getD, List.getElem?_eq_getElem h1, List.getElem?_eq_getElem h2] using this
theorem eq37 (l m : List B) (hl : l.length = 16) (hm : m.length = 16) (w : World) : (Op.equalIn 10000 37 (.agg (bys l).toArray) (.agg (bys m).toArray)).run Try.prog w = .ok (decide (l = m)) w := by
  rw [show (10000 : Nat) = 9999 + 1 from rfl, Op.equalIn]
  simp only [Sem.run_bind, run_underlying Try.underlying37, Result.andThen_ok]
  simp only [Std.Legacy.Range.forIn_eq_forIn_range', Std.Legacy.Range.size, Nat.sub_zero, Nat.add_sub_cancel, Nat.div_one]
  rw [sizeOf5]
  simp only [Result.andThen_ok]
  rw [eq_loop l m w (List.range' 0 16) (fun i hi => by simp at hi; omega)]
  by_cases e : l = m
  · subst e
    simp
  · have hn : ¬ ∀ i ∈ List.range' 0 16, l.getD i 0#8 = m.getD i 0#8 := fun h => e (same_of l m 16 hl hm fun i hi => h i (by simp; omega))
    rw [if_neg hn]
    simp [e]
theorem guard37 : Try.prog.eqGuardType Try.prog.depth 37 = false := by kernel_rfl
end Go.Proofs.Ytjhkicfndbceoaa
