/- DigestStates: the calls that came in, opened. -/
import Derived.Test.YtmnembhcfkcmnaaDoorStatesB
import Derived.Test.YtmnembhcfkcmnaaDoorFrame
import Derived.Deep.Strs
namespace Go.Proofs.YtmnembhcfkcmnaaDoor
open Go.ChangeShapes Go.WideShapes Go.ChangeAt Go.RowKit

theorem cells32 : Tryd.prog.cellsOf 32 = 4 := by kernel_rfl
theorem cells3' : Tryd.prog.cellsOf 3 = 1 := by kernel_rfl
theorem cells22 : Tryd.prog.cellsOf 22 = 1 := by kernel_rfl
theorem under32 : ∃ f0 f1 f2 f3 : Field, Tryd.prog.underlying 32 = some (.struct #[f0, f1, f2, f3]) ∧ f0.type = 3 ∧ f1.type = 3 ∧ f2.type = 3 ∧ f3.type = 22 ∧ f0.offset = 0 ∧ f1.offset = 1 ∧ f2.offset = 2 ∧ f3.offset = 3 :=
  ⟨_, _, _, _, Tryd.underlying32, rfl, rfl, rfl, rfl, rfl, rfl, rfl, rfl⟩
theorem cells4_open {w : World} {base : Nat} {a : Addr} {cs : List Value} (h : w.cells? base a 4 = some cs) : ∃ c0 c1 c2 c3, cs = [c0, c1, c2, c3] ∧ w.cell? a = some c0 ∧ w.cell? (a.add 1) = some c1 ∧ w.cell? (a.add 2) = some c2 ∧ w.cell? (a.add 3) = some c3 := by
  unfold World.cells? at h
  split at h
  · have e : List.range 4 = [0, 1, 2, 3] := by decide
    rw [e] at h
    simp only [List.mapM_cons, List.mapM_nil, Option.bind_eq_bind, Option.bind_eq_some_iff, Option.pure_def, Option.some.injEq] at h
    obtain ⟨c0, h0, l1, ⟨c1, h1, l2, ⟨c2, h2, l3, ⟨c3, h3, l4, rfl, rfl⟩, rfl⟩, rfl⟩, rfl⟩ := h
    refine ⟨c0, c1, c2, c3, rfl, ?_, h1, h2, h3⟩
    have : a.add 0 = a := by unfold Addr.add; simp
    rwa [this] at h0
  · cases h

theorem open_row {H : Type} {enc : TypeId × Value → H} {W : World} {fuel : Nat} {c3 : Value} {x : DataW H × List MemPlace} (h : DataW.trod enc Tryd.prog W 0 (fun _ => true) true fuel 22 [c3] = some x) :
    ∃ ao n c xs, c3 = .slice ao n c ∧ Shows W ao n xs ∧ (ao = none → c = 0) ∧ n ≤ c ∧ c ≤ maxLen := by
  rcases open_ints Tryd.underlying22 Tryd.underlying5 cells5 h with ⟨hcs, hx⟩ | ⟨a, len, cap, zs, hcs, _, hl, hm, hz, hx, hcell, hwz⟩
  · have := List.cons.inj hcs
    exact ⟨none, 0, 0, [], this.1, ⟨rfl, fun _ => rfl, fun ad h => (by cases h), fun x hx => (by simp at hx)⟩, fun _ => rfl, Nat.le_refl _, Nat.zero_le _⟩
  · have he := List.cons.inj hcs
    rw [if_pos rfl] at hz
    refine ⟨some a, len, cap, zs.take len, he.1, ⟨by simp; omega, fun h => (by cases h), fun ad had j hj => ?_, fun x hx => ?_⟩, fun h => (by cases h), hl, hm⟩
    · cases had
      rw [hcell j (by omega)]
      simp [List.getD, hj]
    · have := hwz x (List.mem_of_mem_take hx)
      have := bounds_u8 this
      omega

theorem trod_four {H : Type} {enc : TypeId × Value → H} {W : World} {f0 f1 f2 f3 : Field} {fuel : Nat} {cs : List Value} {x : DataW H × List MemPlace} (ht : Tryd.prog.underlying 32 = some (.struct #[f0, f1, f2, f3])) (h : DataW.trod enc Tryd.prog W 0 (fun _ => true) true fuel 32 cs = some x) :
    ∃ y0 y1 y2 y3 n, DataW.trod enc Tryd.prog W 0 (fun _ => true) true n f0.type ((cs.drop f0.offset).take (Tryd.prog.cellsOf f0.type)) = some y0 ∧ DataW.trod enc Tryd.prog W 0 (fun _ => true) true n f1.type ((cs.drop f1.offset).take (Tryd.prog.cellsOf f1.type)) = some y1 ∧ DataW.trod enc Tryd.prog W 0 (fun _ => true) true n f2.type ((cs.drop f2.offset).take (Tryd.prog.cellsOf f2.type)) = some y2 ∧ DataW.trod enc Tryd.prog W 0 (fun _ => true) true n f3.type ((cs.drop f3.offset).take (Tryd.prog.cellsOf f3.type)) = some y3 := by
  obtain ⟨xs, n, _, rfl, hl, hlen, hf⟩ := DataW.trod_struct ht h
  match xs, hlen with
  | [y0, y1, y2, y3], _ => exact ⟨y0, y1, y2, y3, n, by simpa using hf 0 f0 rfl, by simpa using hf 1 f1 rfl, by simpa using hf 2 f2 rfl, by simpa using hf 3 f3 rfl⟩

set_option maxRecDepth 100000 in
theorem open_ops {H : Type} {enc : TypeId × Value → H} {W : World} {base : Nat} {v : Value} {d : DataW H} {ps : List MemPlace} (hval : Value.okWide Tryd.prog W .any base 30 v) (h : DataW.Trod enc Tryd.prog W 0 (fun _ => true) true 30 v d ps) :
    ∃ ao n c, v = .slice ao n c ∧ n ≤ maxLen ∧ ∃ K Wh T B BN BC BS, Ops W ao n K Wh T B BN BC BS := by
  obtain ⟨a0, len, cap, rfl⟩ := okWide_slice Tryd.underlying30 hval
  obtain ⟨fuel, hf⟩ := h
  rcases DataW.trod_slice Tryd.underlying30 hf with ⟨hcs, hx⟩ | ⟨a, len', cap', elems, rest, n, _, hcs, hx, _, hl, hm, hlen, hel, _, _⟩
  · simp [Value.cells] at hcs
    obtain ⟨rfl, rfl, rfl⟩ := hcs
    exact ⟨none, 0, 0, rfl, Nat.zero_le _, fun _ => 0, fun _ => 0, fun _ => 0, fun _ => none, fun _ => 0, fun _ => 0, fun _ => [], ⟨fun _ => rfl, fun ad h => (by cases h), fun i hi => absurd hi (by simp)⟩⟩
  · simp [Value.cells] at hcs
    obtain ⟨rfl, rfl, rfl⟩ := hcs
    obtain ⟨f0, f1, f2, f3, hu, t0, t1, t2, t3, o0, o1, o2, o3⟩ := under32
    have each : ∀ i, ∃ (q : Int × Int × Int × Option Addr × Nat × Nat × List Int), i < len → W.cell? (a.add (i * 4)) = some (.int .i64 q.1) ∧ W.cell? ((a.add (i * 4)).add 1) = some (.int .i64 q.2.1) ∧ W.cell? ((a.add (i * 4)).add 2) = some (.int .i64 q.2.2.1) ∧ W.cell? ((a.add (i * 4)).add 3) = some (.slice q.2.2.2.1 q.2.2.2.2.1 q.2.2.2.2.2.1) ∧ Shows W q.2.2.2.1 q.2.2.2.2.1 q.2.2.2.2.2.2 ∧ (q.2.2.2.1 = none → q.2.2.2.2.2.1 = 0) ∧ q.2.2.2.2.1 ≤ q.2.2.2.2.2.1 ∧ q.2.2.2.2.2.1 ≤ maxLen := by
      intro i
      by_cases hi : i < len
      · have h1 := hel i hi
        rw [cells32, List.getElem?_eq_getElem (by omega)] at h1
        obtain ⟨cs, hcs, htr⟩ := Option.bind_eq_some_iff.1 h1
        obtain ⟨c0, c1, c2, c3, rfl, hc0, hc1, hc2, hc3⟩ := cells4_open hcs
        obtain ⟨y0, y1, y2, y3, m, g0, g1, g2, g3⟩ := trod_four hu htr
        rw [t0, o0, cells3'] at g0
        rw [t1, o1, cells3'] at g1
        rw [t2, o2, cells3'] at g2
        rw [t3, o3, cells22] at g3
        obtain ⟨x0, e0, _, _⟩ := DataW.trod_int Tryd.underlying3 g0
        obtain ⟨x1, e1, _, _⟩ := DataW.trod_int Tryd.underlying3 g1
        obtain ⟨x2, e2, _, _⟩ := DataW.trod_int Tryd.underlying3 g2
        obtain ⟨bo, bn, bc, bs, e3, s1, s2, s3, s4⟩ := open_row g3
        simp at e0 e1 e2
        subst e0 e1 e2 e3
        exact ⟨(x0, x1, x2, bo, bn, bc, bs), fun _ => ⟨hc0, hc1, hc2, hc3, s1, s2, s3, s4⟩⟩
      · exact ⟨(0, 0, 0, none, 0, 0, []), fun h => absurd h hi⟩
    classical
    have sp := fun i (hi : i < len) => (each i).choose_spec hi
    refine ⟨some a, len, cap, rfl, Nat.le_trans hl hm, fun i => (each i).choose.1, fun i => (each i).choose.2.1, fun i => (each i).choose.2.2.1, fun i => (each i).choose.2.2.2.1, fun i => (each i).choose.2.2.2.2.1, fun i => (each i).choose.2.2.2.2.2.1, fun i => (each i).choose.2.2.2.2.2.2, ⟨fun h => (by cases h), fun ad had i hi => ?_, fun i hi => ?_⟩⟩
    · cases had
      obtain ⟨h0, h1, h2, h3, _⟩ := sp i hi
      exact ⟨h0, h1, h2, h3⟩
    · obtain ⟨_, _, _, _, h4, h5, h6, h7⟩ := sp i hi
      exact ⟨h4, h5, h6, h7⟩
end Go.Proofs.YtmnembhcfkcmnaaDoor
