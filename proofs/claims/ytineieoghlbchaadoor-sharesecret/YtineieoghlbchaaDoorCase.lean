/- How a Case that came in is opened. -/
import Derived.Test.YtineieoghlbchaaDoorFrame
import Derived.Test.YtineieoghlbchaaDoorTakenB
namespace Go.Proofs.YtineieoghlbchaaDoor
open Go.ChangeShapes Go.WideShapes Go.ChangeAt Go.RowKit

theorem cells51 : Tryd.prog.cellsOf 51 = 6 := by kernel_rfl
theorem cells3 : Tryd.prog.cellsOf 3 = 1 := by kernel_rfl
theorem cells49 : Tryd.prog.cellsOf 49 = 1 := by kernel_rfl
theorem under51 : ∃ f0 f1 f2 f3 f4 f5 : Field, Tryd.prog.underlying 51 = some (.struct #[f0, f1, f2, f3, f4, f5]) ∧ (f0.type = 22 ∧ f1.type = 22 ∧ f2.type = 3 ∧ f3.type = 3 ∧ f4.type = 22 ∧ f5.type = 49) ∧ f0.offset = 0 ∧ f1.offset = 1 ∧ f2.offset = 2 ∧ f3.offset = 3 ∧ f4.offset = 4 ∧ f5.offset = 5 :=
  ⟨_, _, _, _, _, _, Tryd.underlying51, ⟨rfl, rfl, rfl, rfl, rfl, rfl⟩, rfl, rfl, rfl, rfl, rfl, rfl⟩

theorem open_nums {H : Type} {enc : TypeId × Value → H} {W : World} {fuel : Nat} {v : Value} {y : DataW H × List MemPlace} (hf : DataW.trod enc Tryd.prog W 0 (fun _ => true) true fuel 49 [v] = some y) :
    ∃ ao n c xs, v = .slice ao n c ∧ IShows W ao n xs := by
  rcases open_ints Tryd.underlying49 Tryd.underlying3 cells3 hf with ⟨hcs, hx⟩ | ⟨a, len, cap, zs, hcs, _, hl, hm, hz, hx, hcell, hwz⟩
  · have := List.cons.inj hcs
    exact ⟨none, 0, 0, [], this.1, ⟨rfl, fun _ => rfl, fun ad h => (by cases h)⟩⟩
  · have he := List.cons.inj hcs
    rw [if_pos rfl] at hz
    refine ⟨some a, len, cap, zs.take len, he.1, ⟨by simp; omega, fun h => (by cases h), fun ad had j x hj => ?_⟩⟩
    cases had
    rw [List.getElem?_take] at hj
    split at hj
    · rw [hcell j (by omega)]
      simp [List.getD, hj]
    · cases hj

theorem array6 {α : Type} {cs : Array α} (h : cs.size = 6) : ∃ a b c d e f, cs = #[a, b, c, d, e, f] := by
  match cs, h with
  | ⟨[a, b, c, d, e, f]⟩, _ => exact ⟨a, b, c, d, e, f, rfl⟩

theorem trod_six {H : Type} {enc : TypeId × Value → H} {W : World} {f0 f1 f2 f3 f4 f5 : Field} {fuel : Nat} {cs : List Value} {x : DataW H × List MemPlace} (ht : Tryd.prog.underlying 51 = some (.struct #[f0, f1, f2, f3, f4, f5])) (h : DataW.trod enc Tryd.prog W 0 (fun _ => true) true fuel 51 cs = some x) :
    ∃ y0 y1 y2 y3 y4 y5 n, DataW.trod enc Tryd.prog W 0 (fun _ => true) true n f0.type ((cs.drop f0.offset).take (Tryd.prog.cellsOf f0.type)) = some y0 ∧ DataW.trod enc Tryd.prog W 0 (fun _ => true) true n f1.type ((cs.drop f1.offset).take (Tryd.prog.cellsOf f1.type)) = some y1 ∧ DataW.trod enc Tryd.prog W 0 (fun _ => true) true n f2.type ((cs.drop f2.offset).take (Tryd.prog.cellsOf f2.type)) = some y2 ∧ DataW.trod enc Tryd.prog W 0 (fun _ => true) true n f3.type ((cs.drop f3.offset).take (Tryd.prog.cellsOf f3.type)) = some y3 ∧ DataW.trod enc Tryd.prog W 0 (fun _ => true) true n f4.type ((cs.drop f4.offset).take (Tryd.prog.cellsOf f4.type)) = some y4 ∧ DataW.trod enc Tryd.prog W 0 (fun _ => true) true n f5.type ((cs.drop f5.offset).take (Tryd.prog.cellsOf f5.type)) = some y5 := by
  obtain ⟨xs, n, _, rfl, hl, hlen, hf⟩ := DataW.trod_struct ht h
  match xs, hlen with
  | [y0, y1, y2, y3, y4, y5], _ => exact ⟨y0, y1, y2, y3, y4, y5, n, by simpa using hf 0 f0 rfl, by simpa using hf 1 f1 rfl, by simpa using hf 2 f2 rfl, by simpa using hf 3 f3 rfl, by simpa using hf 4 f4 rfl, by simpa using hf 5 f5 rfl⟩

set_option maxRecDepth 100000 in
theorem open_case {H : Type} {enc : TypeId × Value → H} {W : World} {base : Nat} {v : Value} {d : DataW H} {ps : List MemPlace} (hval : Value.okWide Tryd.prog W .any base 51 v) (h : DataW.Trod enc Tryd.prog W 0 (fun _ => true) true 51 v d ps) :
    ∃ (so : Option Addr) (m sc : Nat) (S : List B) (xo : Option Addr) (xn xc : Nat) (X : List B) (N K : Int) (ro : Option Addr) (dn rc : Nat) (D : List B) (oo : Option Addr) (on oc : Nat) (os : List Int), v = .agg #[.slice so m sc, .slice xo xn xc, .int .i64 N, .int .i64 K, .slice ro dn rc, .slice oo on oc] ∧ (Shows W so m (S.map v8) ∧ (so = none → sc = 0) ∧ m ≤ sc ∧ sc ≤ maxLen) ∧ (Shows W xo xn (X.map v8) ∧ (xo = none → xc = 0) ∧ xn ≤ xc ∧ xc ≤ maxLen) ∧ (Shows W ro dn (D.map v8) ∧ (ro = none → rc = 0) ∧ dn ≤ rc ∧ rc ≤ maxLen) ∧ IShows W oo on os := by
  obtain ⟨f0, f1, f2, f3, f4, f5, hu, ⟨t0, t1, t2, t3, t4, t5⟩, o0, o1, o2, o3, o4, o5⟩ := under51
  obtain ⟨cs, rfl, hsz⟩ := okWide_struct hu hval
  obtain ⟨v0, v1, v2, v3, v4, v5, rfl⟩ := array6 (hsz.trans cells51)
  obtain ⟨fuel, hf⟩ := h
  obtain ⟨y0, y1, y2, y3, y4, y5, n, g0, g1, g2, g3, g4, g5⟩ := trod_six hu hf
  rw [t0, o0, cells22] at g0
  rw [t1, o1, cells22] at g1
  rw [t2, o2, cells3] at g2
  rw [t3, o3, cells3] at g3
  rw [t4, o4, cells22] at g4
  rw [t5, o5, cells49] at g5
  obtain ⟨so, m, sc, S, e0, h0⟩ := open_elems (v := v0) g0
  obtain ⟨xo, xn, xc, X, e1, h1⟩ := open_elems (v := v1) g1
  obtain ⟨N, e2, _⟩ := open_num1 (v := v2) g2
  obtain ⟨K, e3, _⟩ := open_num1 (v := v3) g3
  obtain ⟨ro, dn, rc, D, e4, h4⟩ := open_elems (v := v4) g4
  obtain ⟨oo, on, oc, os, e5, h5⟩ := open_nums (v := v5) g5
  subst e0 e1 e2 e3 e4 e5
  exact ⟨so, m, sc, S, xo, xn, xc, X, N, K, ro, dn, rc, D, oo, on, oc, os, rfl, h0, h1, h4, h5⟩
end Go.Proofs.YtineieoghlbchaaDoor
