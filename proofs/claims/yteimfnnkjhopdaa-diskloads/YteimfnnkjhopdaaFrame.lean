/- What the rows of all statements need: how the arguments are opened. -/
import Derived.Test.YteimfnnkjhopdaaOps
import Derived.ProofKit
import Derived.OpenShut
import Derived.Deep.DeepHandedRow
import Derived.Deep.Strs
namespace Go.Proofs.Yteimfnnkjhopdaa
open Go.ChangeShapes Go.WideShapes Go.ChangeAt Go.RowKit

theorem own : ownKnob Try.prog.godebug = none := by kernel_rfl
theorem laidOut : laidOutB Try.prog = true := by kernel_rfl
theorem cells3 : Try.prog.cellsOf 3 = 1 := by kernel_rfl
theorem cells9 : Try.prog.cellsOf 9 = 1 := by kernel_rfl
theorem cells32 : Try.prog.cellsOf 32 = 1 := by kernel_rfl
theorem cells34 : Try.prog.cellsOf 34 = 4 := by kernel_rfl
theorem under34 : ∃ f0 f1 f2 f3 : Field, Try.prog.underlying 34 = some (.struct #[f0, f1, f2, f3]) ∧ (f0.type = 3 ∧ f1.type = 3 ∧ f2.type = 9 ∧ f3.type = 32) ∧ f0.offset = 0 ∧ f1.offset = 1 ∧ f2.offset = 2 ∧ f3.offset = 3 :=
  ⟨_, _, _, _, Try.underlying34, ⟨rfl, rfl, rfl, rfl⟩, rfl, rfl, rfl, rfl⟩
section
variable {H : Type} {enc : TypeId × Value → H} {W : World}
/-- A row of numbers that came in. -/
theorem open_nums {fuel : Nat} {v : Value} {y : DataW H × List MemPlace} (hf : DataW.trod enc Try.prog W 0 (fun _ => true) true fuel 32 [v] = some y) :
    ∃ ao n c, ∃ xs : List Int, v = .slice ao n c ∧ Ints W ao n xs ∧ n ≤ maxLen ∧ (ao = none → c = 0) := by
  rcases open_ints Try.underlying32 Try.underlying3 cells3 hf with ⟨hcs, hx⟩ | ⟨a, len, cap, zs, hcs, _, hl, hm, hz, hx, hcell, hwz⟩
  · have := List.cons.inj hcs
    exact ⟨none, 0, 0, [], this.1, ⟨rfl, fun _ => rfl, fun ad h => (by cases h), fun x hx => (by simp at hx)⟩, Nat.zero_le _, fun _ => rfl⟩
  · have he := List.cons.inj hcs
    rw [if_pos rfl] at hz
    refine ⟨some a, len, cap, zs.take len, he.1, ⟨by simp; omega, fun h => (by cases h), fun ad had j hj => ?_, fun x hx => hwz x (List.mem_of_mem_take hx)⟩, Nat.le_trans hl hm, fun h => (by cases h)⟩
    cases had
    rw [hcell j (by omega)]
    simp [List.getD, hj]
set_option maxRecDepth 100000 in
/-- An op's cells that came in. -/
theorem trod_op {fuel : Nat} {cs : List Value} {y : DataW H × List MemPlace} (hf : DataW.trod enc Try.prog W 0 (fun _ => true) true fuel 34 cs = some y) (hl4 : cs.length = 4) :
    ∃ o : OpD, cs = oc o.a o.i o.t o.ko o.kn o.kc ∧ o.Good W := by
  obtain ⟨f0, f1, f2, f3, hu, ⟨t0, t1, t2, t3⟩, o0, o1, o2, o3⟩ := under34
  obtain ⟨xs, k, _, _, hl, hlen, hfl⟩ := DataW.trod_struct hu hf
  match cs, hl4 with
  | [v0, v1, v2, v3], _ =>
  match xs, hlen with
  | [y0, y1, y2, y3], _ =>
    have g0 : DataW.trod enc Try.prog W 0 (fun _ => true) true k f0.type (([v0, v1, v2, v3].drop f0.offset).take (Try.prog.cellsOf f0.type)) = some y0 := by simpa using hfl 0 f0 rfl
    have g1 : DataW.trod enc Try.prog W 0 (fun _ => true) true k f1.type (([v0, v1, v2, v3].drop f1.offset).take (Try.prog.cellsOf f1.type)) = some y1 := by simpa using hfl 1 f1 rfl
    have g2 : DataW.trod enc Try.prog W 0 (fun _ => true) true k f2.type (([v0, v1, v2, v3].drop f2.offset).take (Try.prog.cellsOf f2.type)) = some y2 := by simpa using hfl 2 f2 rfl
    have g3 : DataW.trod enc Try.prog W 0 (fun _ => true) true k f3.type (([v0, v1, v2, v3].drop f3.offset).take (Try.prog.cellsOf f3.type)) = some y3 := by simpa using hfl 3 f3 rfl
    rw [t0, o0, cells3] at g0
    rw [t1, o1, cells3] at g1
    rw [t2, o2, cells9] at g2
    rw [t3, o3, cells32] at g3
    obtain ⟨a, e0, _, _⟩ := DataW.trod_int Try.underlying3 g0
    obtain ⟨i, e1, _, hi⟩ := DataW.trod_int Try.underlying3 g1
    obtain ⟨t, e2, _, ht⟩ := DataW.trod_string Try.underlying9 g2
    obtain ⟨ao, n, c, xs, e3, hx, hn, hc⟩ := open_nums g3
    simp at e0 e1 e2
    subst e0 e1 e2 e3
    exact ⟨⟨a, i, t, ao, n, c, xs⟩, rfl, ⟨ht, hx, hn, hi, hc⟩⟩
/-- An op that came in by itself. -/
theorem open_op {base : Nat} {v : Value} {d : DataW H} {ps : List MemPlace} (hval : Value.okWide Try.prog W .any base 34 v) (h : DataW.Trod enc Try.prog W 0 (fun _ => true) true 34 v d ps) :
    ∃ o : OpD, v = .agg (oc o.a o.i o.t o.ko o.kn o.kc).toArray ∧ o.Good W := by
  obtain ⟨f0, f1, f2, f3, hu, _⟩ := under34
  obtain ⟨cs, rfl, hsz⟩ := okWide_struct hu hval
  obtain ⟨fuel, hf⟩ := h
  simp only [Value.cells] at hf
  obtain ⟨o, ho, hg⟩ := trod_op hf (by rw [Array.length_toList, hsz]; exact cells34)
  refine ⟨o, ?_, hg⟩
  rw [← ho]
theorem open_numrow {base : Nat} {v : Value} {d : DataW H} {ps : List MemPlace} (hval : Value.okWide Try.prog W .any base 32 v) (h : DataW.Trod enc Try.prog W 0 (fun _ => true) true 32 v d ps) :
    ∃ ao n c, ∃ xs : List Int, v = .slice ao n c ∧ Ints W ao n xs ∧ n ≤ maxLen ∧ (ao = none → c = 0) := by
  obtain ⟨a0, len, cap, rfl⟩ := okWide_slice Try.underlying32 hval
  obtain ⟨fuel, hf⟩ := h
  exact open_nums (v := .slice a0 len cap) hf
theorem open_num {base : Nat} {v : Value} {d : DataW H} {ps : List MemPlace} (hval : Value.okWide Try.prog W .any base 3 v) (h : DataW.Trod enc Try.prog W 0 (fun _ => true) true 3 v d ps) :
    ∃ n : Int, v = .int .i64 n ∧ (Lit.int .i64 n).wf = true := by
  obtain ⟨n, rfl⟩ := okWide_int Try.underlying3 hval
  obtain ⟨fuel, hf⟩ := h
  obtain ⟨m, e, _, hm⟩ := DataW.trod_int Try.underlying3 hf
  simp [Value.cells] at e
  subst e
  exact ⟨n, rfl, hm⟩
theorem cells4_open {w : World} {base : Nat} {a : Addr} {cs : List Value} (h : w.cells? base a 4 = some cs) : ∃ c0 c1 c2 c3, cs = [c0, c1, c2, c3] ∧ w.cell? a = some c0 ∧ w.cell? (a.add 1) = some c1 ∧ w.cell? (a.add 2) = some c2 ∧ w.cell? (a.add 3) = some c3 := by
  unfold World.cells? at h
  split at h
  · have e : List.range 4 = [0, 1, 2, 3] := by decide
    rw [e] at h
    simp only [List.mapM_cons, List.mapM_nil, Option.bind_eq_bind, Option.bind_eq_some_iff, Option.pure_def, Option.some.injEq] at h
    obtain ⟨c0, h0, l1, ⟨c1, h1, l2, ⟨c2, h2, l3, ⟨c3, h3, l4, rfl, rfl⟩, rfl⟩, rfl⟩, rfl⟩ := h
    refine ⟨c0, c1, c2, c3, rfl, ?_, h1, h2, h3⟩
    have : a.add 0 = a := by unfold Addr.add; simp
    rwa [this] at h0
  · cases h
set_option maxRecDepth 100000 in
/-- A list of ops that came in. -/
theorem open_ops {base : Nat} {v : Value} {d : DataW H} {ps : List MemPlace} (hval : Value.okWide Try.prog W .any base 22 v) (h : DataW.Trod enc Try.prog W 0 (fun _ => true) true 22 v d ps) :
    ∃ ao n c O, v = .slice ao n c ∧ n ≤ maxLen ∧ Ops W ao n O := by
  obtain ⟨a0, len, cap, rfl⟩ := okWide_slice Try.underlying22 hval
  obtain ⟨fuel, hf⟩ := h
  rcases DataW.trod_slice Try.underlying22 hf with ⟨hcs, hx⟩ | ⟨a, len', cap', elems, rest, n, _, hcs, hx, _, hl, hm, hlen, hel, _, _⟩
  · simp [Value.cells] at hcs
    obtain ⟨rfl, rfl, rfl⟩ := hcs
    exact ⟨none, 0, 0, fun _ => OpD.none, rfl, Nat.zero_le _, ⟨fun _ => rfl, fun ad h => (by cases h), fun i hi => absurd hi (by simp)⟩⟩
  · simp [Value.cells] at hcs
    obtain ⟨rfl, rfl, rfl⟩ := hcs
    have each : ∀ i, ∃ o : OpD, i < len → (W.cell? (a.add (i * 4)) = some (.int .i64 o.a) ∧ W.cell? ((a.add (i * 4)).add 1) = some (.int .i64 o.i) ∧ W.cell? ((a.add (i * 4)).add 2) = some (.string o.t) ∧ W.cell? ((a.add (i * 4)).add 3) = some (.slice o.ko o.kn o.kc)) ∧ o.Good W := by
      intro i
      by_cases hi : i < len
      · have h1 := hel i hi
        rw [cells34, List.getElem?_eq_getElem (by omega)] at h1
        obtain ⟨cs, hcs, htr⟩ := Option.bind_eq_some_iff.1 h1
        obtain ⟨c0, c1, c2, c3, rfl, hc0, hc1, hc2, hc3⟩ := cells4_open hcs
        obtain ⟨o, ho, hg⟩ := trod_op htr rfl
        unfold oc at ho
        simp only [List.cons.injEq, and_true] at ho
        obtain ⟨rfl, rfl, rfl, rfl⟩ := ho
        exact ⟨o, fun _ => ⟨⟨hc0, hc1, hc2, hc3⟩, hg⟩⟩
      · exact ⟨OpD.none, fun h => absurd h hi⟩
    classical
    have sp := fun i (hi : i < len) => (each i).choose_spec hi
    refine ⟨some a, len, cap, fun i => (each i).choose, rfl, Nat.le_trans hl hm, ⟨fun h => (by cases h), fun ad had i hi => ?_, fun i hi => (sp i hi).2⟩⟩
    cases had
    obtain ⟨h0, h1, h2, h3⟩ := (sp i hi).1
    exact ⟨h0, h1, h2, h3⟩
end
end Go.Proofs.Yteimfnnkjhopdaa
