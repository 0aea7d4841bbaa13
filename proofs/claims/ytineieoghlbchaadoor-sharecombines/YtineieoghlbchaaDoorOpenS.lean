/- How a list of shares that came in is opened. -/
import Derived.Test.YtineieoghlbchaaDoorFrame
namespace Go.Proofs.YtineieoghlbchaaDoor
open Go.ChangeShapes Go.WideShapes Go.ChangeAt Go.RowKit

theorem cells2_open {w : World} {base : Nat} {a : Addr} {cs : List Value} (h : w.cells? base a 2 = some cs) : ∃ c0 c1, cs = [c0, c1] ∧ w.cell? a = some c0 ∧ w.cell? (a.add 1) = some c1 := by
  unfold World.cells? at h
  split at h
  · have e : List.range 2 = [0, 1] := by decide
    rw [e] at h
    simp only [List.mapM_cons, List.mapM_nil, Option.bind_eq_bind, Option.bind_eq_some_iff, Option.pure_def, Option.some.injEq] at h
    obtain ⟨c0, h0, l1, ⟨c1, h1, l2, rfl, rfl⟩, rfl⟩ := h
    refine ⟨c0, c1, rfl, ?_, h1⟩
    have : a.add 0 = a := by unfold Addr.add; simp
    rwa [this] at h0
  · cases h
theorem under44 : ∃ f0 f1 : Field, Tryd.prog.underlying 44 = some (.struct #[f0, f1]) ∧ f0.type = 5 ∧ f1.type = 22 ∧ f0.offset = 0 ∧ f1.offset = 1 :=
  ⟨_, _, Tryd.underlying44, rfl, rfl, rfl, rfl⟩
theorem trod_two {H : Type} {enc : TypeId × Value → H} {W : World} {f0 f1 : Field} {fuel : Nat} {cs : List Value} {x : DataW H × List MemPlace} (ht : Tryd.prog.underlying 44 = some (.struct #[f0, f1])) (h : DataW.trod enc Tryd.prog W 0 (fun _ => true) true fuel 44 cs = some x) :
    ∃ y0 y1 n, DataW.trod enc Tryd.prog W 0 (fun _ => true) true n f0.type ((cs.drop f0.offset).take (Tryd.prog.cellsOf f0.type)) = some y0 ∧ DataW.trod enc Tryd.prog W 0 (fun _ => true) true n f1.type ((cs.drop f1.offset).take (Tryd.prog.cellsOf f1.type)) = some y1 := by
  obtain ⟨xs, n, _, rfl, hl, hlen, hf⟩ := DataW.trod_struct ht h
  match xs, hlen with
  | [y0, y1], _ => exact ⟨y0, y1, n, by simpa using hf 0 f0 rfl, by simpa using hf 1 f1 rfl⟩

set_option maxRecDepth 100000 in
theorem open_shares {H : Type} {enc : TypeId × Value → H} {W : World} {base : Nat} {v : Value} {d : DataW H} {ps : List MemPlace} (hval : Value.okWide Tryd.prog W .any base 27 v) (h : DataW.Trod enc Tryd.prog W 0 (fun _ => true) true 27 v d ps) :
    ∃ ao n c L, v = .slice ao n c ∧ n ≤ maxLen ∧ Shs W ao n L := by
  obtain ⟨a0, len, cap, rfl⟩ := okWide_slice Tryd.underlying27 hval
  obtain ⟨fuel, hf⟩ := h
  rcases DataW.trod_slice Tryd.underlying27 hf with ⟨hcs, hx⟩ | ⟨a, len', cap', elems, rest, n, _, hcs, hx, _, hl, hm, hlen, hel, _, _⟩
  · simp [Value.cells] at hcs
    obtain ⟨rfl, rfl, rfl⟩ := hcs
    exact ⟨none, 0, 0, [], rfl, Nat.zero_le _, ⟨rfl, fun _ => rfl, fun ad h => (by cases h), fun ad h => (by cases h), fun s hs => (by simp at hs)⟩⟩
  · simp [Value.cells] at hcs
    obtain ⟨rfl, rfl, rfl⟩ := hcs
    obtain ⟨f0, f1, hu, t0, t1, o0, o1⟩ := under44
    have each : ∀ i, ∃ s : Sh, i < len → W.cell? (a.add (i * 2)) = some (.int .u8 (v8 s.x)) ∧ W.cell? ((a.add (i * 2)).add 1) = some (.slice s.ao s.n s.c) ∧ ShOk W s := by
      intro i
      by_cases hi : i < len
      · have h1 := hel i hi
        rw [cells44, List.getElem?_eq_getElem (by omega)] at h1
        obtain ⟨cs, hcs, htr⟩ := Option.bind_eq_some_iff.1 h1
        obtain ⟨c0, c1, rfl, hc0, hc1⟩ := cells2_open hcs
        obtain ⟨y0, y1, m, g0, g1⟩ := trod_two hu htr
        rw [t0, o0, cells5] at g0
        rw [t1, o1, cells22] at g1
        obtain ⟨x, e0⟩ := open_byte1 (v := c0) g0
        obtain ⟨bo, bn, bc, bs, e1, s1, s2, s3, s4⟩ := open_elems (v := c1) g1
        subst e0 e1
        exact ⟨⟨x, bo, bn, bc, bs⟩, fun _ => ⟨hc0, hc1, ⟨s1, s2, s3, s4⟩⟩⟩
      · exact ⟨⟨0#8, none, 0, 0, []⟩, fun h => absurd h hi⟩
    classical
    have sp := fun i (hi : i < len) => (each i).choose_spec hi
    have at_ : ∀ i s, ((List.range len).map (fun i => (each i).choose))[i]? = some s → i < len ∧ s = (each i).choose := fun i s hs => by
      rw [List.getElem?_map] at hs
      by_cases hi : i < len
      · rw [List.getElem?_range hi] at hs
        simp at hs
        exact ⟨hi, hs.symm⟩
      · rw [List.getElem?_eq_none (by simp; omega)] at hs
        cases hs
    refine ⟨some a, len, cap, (List.range len).map (fun i => (each i).choose), rfl, Nat.le_trans hl hm, ⟨by simp, fun h => (by cases h), fun ad had i s hs => ?_, fun ad had i s hs => ?_, fun s hs => ?_⟩⟩
    · cases had
      obtain ⟨hi, rfl⟩ := at_ i s hs
      exact (sp i hi).1
    · cases had
      obtain ⟨hi, rfl⟩ := at_ i s hs
      exact (sp i hi).2.1
    · obtain ⟨i, hj⟩ := List.mem_iff_getElem?.1 hs
      obtain ⟨hi, he⟩ := at_ i s hj
      rw [he]
      exact (sp i hi).2.2
end Go.Proofs.YtineieoghlbchaaDoor
