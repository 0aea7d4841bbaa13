/- A list of items that came in, opened: each item's three cells. -/
import Derived.Test.YtmnkbbfpdohpkaaDoorFrame
import Derived.Deep.Strs
namespace Go.Proofs.YtmnkbbfpdohpkaaDoor
open Go.ChangeShapes Go.WideShapes Go.ChangeAt Go.RowKit

theorem cells66 : Tryd.prog.cellsOf 66 = 3 := by kernel_rfl
theorem cells3 : Tryd.prog.cellsOf 3 = 1 := by kernel_rfl
theorem cells23 : Tryd.prog.cellsOf 23 = 1 := by kernel_rfl
theorem cells9 : Tryd.prog.cellsOf 9 = 1 := by kernel_rfl

/-- In the world w a slice at ao shows the items its. -/
structure Items (w : World) (ao : Option Addr) (n : Nat) (its : List (Int × Int × ByteArray)) : Prop where
  len : its.length = n
  bare : ao = none → n = 0
  cell : ∀ ad, ao = some ad → ∀ i (h : i < its.length), w.cell? (ad.add (i * 3)) = some (.int .i64 its[i].1) ∧ w.cell? ((ad.add (i * 3)).add 1) = some (.int .u64 its[i].2.1) ∧ w.cell? ((ad.add (i * 3)).add 2) = some (.string its[i].2.2)
  rng : ∀ i (h : i < its.length), 0 ≤ its[i].2.1 ∧ its[i].2.1 ≤ 18446744073709551615
  wk : ∀ i (h : i < its.length), -9223372036854775808 ≤ its[i].1 ∧ its[i].1 ≤ 9223372036854775807
  ws : ∀ i (h : i < its.length), its[i].2.2.size ≤ maxLen

theorem cells3_open {w : World} {base : Nat} {a : Addr} {cs : List Value} (h : w.cells? base a 3 = some cs) : ∃ c0 c1 c2, cs = [c0, c1, c2] ∧ w.cell? a = some c0 ∧ w.cell? (a.add 1) = some c1 ∧ w.cell? (a.add 2) = some c2 := by
  unfold World.cells? at h
  split at h
  · have e : List.range 3 = [0, 1, 2] := by decide
    rw [e] at h
    simp only [List.mapM_cons, List.mapM_nil, Option.bind_eq_bind, Option.bind_eq_some_iff, Option.pure_def, Option.some.injEq] at h
    obtain ⟨c0, h0, l1, ⟨c1, h1, l2, ⟨c2, h2, l3, rfl, rfl⟩, rfl⟩, rfl⟩ := h
    refine ⟨c0, c1, c2, rfl, ?_, h1, h2⟩
    have : a.add 0 = a := by unfold Addr.add; simp
    rwa [this] at h0
  · cases h

theorem under66 : ∃ f0 f1 f2 : Field, Tryd.prog.underlying 66 = some (.struct #[f0, f1, f2]) ∧ f0.type = 3 ∧ f1.type = 23 ∧ f2.type = 9 ∧ f0.offset = 0 ∧ f1.offset = 1 ∧ f2.offset = 2 :=
  ⟨_, _, _, Tryd.underlying66, rfl, rfl, rfl, rfl, rfl, rfl⟩

set_option maxRecDepth 100000 in
theorem open_items {H : Type} {enc : TypeId × Value → H} {W : World} {base : Nat} {v : Value} {d : DataW H} {ps : List MemPlace} (hval : Value.okWide Tryd.prog W .any base 64 v) (h : DataW.Trod enc Tryd.prog W 0 (fun _ => true) true 64 v d ps) :
    ∃ ao n c its, v = .slice ao n c ∧ Items W ao n its ∧ n ≤ c ∧ c ≤ maxLen := by
  obtain ⟨a0, len, cap, rfl⟩ := okWide_slice Tryd.underlying64 hval
  obtain ⟨fuel, hf⟩ := h
  rcases DataW.trod_slice Tryd.underlying64 hf with ⟨hcs, hx⟩ | ⟨a, len', cap', elems, rest, n, _, hcs, hx, _, hl, hm, hlen, hel, _, _⟩
  · simp [Value.cells] at hcs
    obtain ⟨rfl, rfl, rfl⟩ := hcs
    exact ⟨none, 0, 0, [], rfl, ⟨rfl, fun _ => rfl, fun ad h => (by cases h), fun i hi => absurd hi (by simp), fun i hi => absurd hi (by simp), fun i hi => absurd hi (by simp)⟩, Nat.le_refl _, Nat.zero_le _⟩
  · simp [Value.cells] at hcs
    obtain ⟨rfl, rfl, rfl⟩ := hcs
    obtain ⟨f0, f1, f2, hu, t0, t1, t2, o0, o1, o2⟩ := under66
    have each : ∀ i, i < len → ∃ (k u : Int) (s : ByteArray), W.cell? (a.add (i * 3)) = some (.int .i64 k) ∧ W.cell? ((a.add (i * 3)).add 1) = some (.int .u64 u) ∧ W.cell? ((a.add (i * 3)).add 2) = some (.string s) ∧ (0 ≤ u ∧ u ≤ 18446744073709551615) ∧ (-9223372036854775808 ≤ k ∧ k ≤ 9223372036854775807) ∧ s.size ≤ maxLen := by
      intro i hi
      have h1 := hel i hi
      rw [cells66, List.getElem?_eq_getElem (by omega)] at h1
      obtain ⟨cs, hcs, htr⟩ := Option.bind_eq_some_iff.1 h1
      obtain ⟨c0, c1, c2, rfl, hc0, hc1, hc2⟩ := cells3_open hcs
      obtain ⟨y0, y1, y2, m, _, _, g0, g1, g2⟩ := Go.Deep.trod_struct3 hu htr
      rw [t0, o0, cells3] at g0
      rw [t1, o1, cells23] at g1
      rw [t2, o2, cells9] at g2
      obtain ⟨k, e0, _, wk⟩ := DataW.trod_int Tryd.underlying3 g0
      obtain ⟨u, e1, _, wu⟩ := DataW.trod_int Tryd.underlying23 g1
      obtain ⟨s, e2, _, hs⟩ := DataW.trod_string Tryd.underlying9 g2
      simp at e0 e1 e2
      subst e0 e1 e2
      exact ⟨k, u, s, hc0, hc1, hc2, bounds_u64 wu, bounds_i64 wk, hs⟩
    classical
    let its : List (Int × Int × ByteArray) := (List.range len).map fun i => if hi : i < len then ((each i hi).choose, (each i hi).choose_spec.choose, (each i hi).choose_spec.choose_spec.choose) else (0, 0, ByteArray.empty)
    have hits : its.length = len := by simp [its]
    have hat : ∀ i (hi : i < its.length), its[i] = ((each i (by omega)).choose, (each i (by omega)).choose_spec.choose, (each i (by omega)).choose_spec.choose_spec.choose) := by
      intro i hi
      have : i < len := by omega
      simp [its, this]
    have hsp : ∀ i (hi : i < its.length), W.cell? (a.add (i * 3)) = some (.int .i64 its[i].1) ∧ W.cell? ((a.add (i * 3)).add 1) = some (.int .u64 its[i].2.1) ∧ W.cell? ((a.add (i * 3)).add 2) = some (.string its[i].2.2) ∧ (0 ≤ its[i].2.1 ∧ its[i].2.1 ≤ 18446744073709551615) ∧ (-9223372036854775808 ≤ its[i].1 ∧ its[i].1 ≤ 9223372036854775807) ∧ its[i].2.2.size ≤ maxLen := by
      intro i hi
      rw [hat i hi]
      exact (each i (by omega)).choose_spec.choose_spec.choose_spec
    refine ⟨some a, len, cap, its, rfl, ⟨hits, fun h => (by cases h), fun ad had i hi => ?_, fun i hi => (hsp i hi).2.2.2.1, fun i hi => (hsp i hi).2.2.2.2.1, fun i hi => (hsp i hi).2.2.2.2.2⟩, hl, hm⟩
    cases had
    exact ⟨(hsp i hi).1, (hsp i hi).2.1, (hsp i hi).2.2.1⟩

end Go.Proofs.YtmnkbbfpdohpkaaDoor
