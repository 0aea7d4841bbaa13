/- How what is turned is opened. -/
import Derived.Test.YtjhkicfndbceoaaFrame
import Derived.Test.YtjhkicfndbceoaaLawT
namespace Go.Proofs.Ytjhkicfndbceoaa
open Go.ChangeShapes Go.WideShapes Go.ChangeAt Go.RowKit

theorem under39 : ∃ f0 f1 f2 : Field, Try.prog.underlying 39 = some (.struct #[f0, f1, f2]) ∧ (f0.type = 3 ∧ f1.type = 3 ∧ f2.type = 37) ∧ f0.offset = 0 ∧ f1.offset = 1 ∧ f2.offset = 2 :=
  ⟨_, _, _, Try.underlying39, ⟨rfl, rfl, rfl⟩, rfl, rfl, rfl⟩
theorem open_int {H : Type} {enc : TypeId × Value → H} {W : World} {fuel : Nat} {v : Value} {y : DataW H × List MemPlace} (hf : DataW.trod enc Try.prog W 0 (fun _ => true) true fuel 3 [v] = some y) : ∃ n : Int, v = .int .i64 n := by
  obtain ⟨x, e, _, wx⟩ := DataW.trod_int Try.underlying3 hf
  simp at e
  exact ⟨x, e⟩
set_option maxRecDepth 100000 in
theorem open_turn {H : Type} {enc : TypeId × Value → H} {W : World} {base : Nat} {v : Value} {d : DataW H} {ps : List MemPlace} (hval : Value.okWide Try.prog W .any base 39 v) (h : DataW.Trod enc Try.prog W 0 (fun _ => true) true 39 v d ps) :
    ∃ (WH AT : Int) (mk : List B), v = .agg (tc WH AT mk).toArray ∧ mk.length = 16 := by
  obtain ⟨f0, f1, f2, hu, ⟨t0, t1, t2⟩, o0, o1, o2⟩ := under39
  obtain ⟨cs, rfl, hsz⟩ := okWide_struct hu hval
  obtain ⟨fuel, hf⟩ := h
  simp only [Value.cells] at hf
  obtain ⟨xs, k, _, _, hl, hlen, hfl⟩ := DataW.trod_struct hu hf
  have hcl : cs.toList.length = 18 := by rw [hl]; exact cells39
  match xs, hlen with
  | [y0, y1, y2], _ =>
    have g0 : DataW.trod enc Try.prog W 0 (fun _ => true) true k f0.type ((cs.toList.drop f0.offset).take (Try.prog.cellsOf f0.type)) = some y0 := by simpa using hfl 0 f0 rfl
    have g1 : DataW.trod enc Try.prog W 0 (fun _ => true) true k f1.type ((cs.toList.drop f1.offset).take (Try.prog.cellsOf f1.type)) = some y1 := by simpa using hfl 1 f1 rfl
    have g2 : DataW.trod enc Try.prog W 0 (fun _ => true) true k f2.type ((cs.toList.drop f2.offset).take (Try.prog.cellsOf f2.type)) = some y2 := by simpa using hfl 2 f2 rfl
    rw [t0, o0, cells3] at g0
    rw [t1, o1, cells3] at g1
    rw [t2, o2, cells37] at g2
    match e : cs.toList, hcl with
    | a :: b :: r, hr =>
      rw [e] at g0 g1 g2
      obtain ⟨WH, rfl⟩ := open_int (v := a) g0
      obtain ⟨AT, rfl⟩ := open_int (v := b) g1
      have hr16 : r.length = 16 := by simp at hr; omega
      have e2 : ((Value.int .i64 WH :: Value.int .i64 AT :: r).drop 2).take 16 = r := by
        show r.take 16 = r
        rw [List.take_of_length_le (by omega)]
      rw [e2] at g2
      obtain ⟨mk, hm, rfl⟩ := arr_of Try.underlying37 cells37 g2
      refine ⟨WH, AT, mk, ?_, hm⟩
      unfold tc
      rw [← e]
end Go.Proofs.Ytjhkicfndbceoaa
