/- Steps that ShareSecret takes: a byte put behind a row, a row without its first byte. -/
import Derived.Test.YtineieoghlbchaaDoorSecN
import Derived.Test.YtineieoghlbchaaDoorBackA
namespace Go.Proofs.YtineieoghlbchaaDoor
open Go.RowKit

/-- One byte more behind a row of the call's own; where the row lies then. -/
theorem law_one {w : World} {ops : Array Oper} {rest : List Oper} {o : Oper} {a : Act} {Q : Exit → Act → World → Prop} (hgd : o.guard = none) (s x : Operand)
    (ho : o.op = .call { callee := .builtin .append, args := #[s, x], argTypes := #[22, 22] }) (base : Nat) (v : Value) (n : Nat) (xs : List Int) (hs : a.eval s = v) (hown : Own5 base w v n xs)
    (g0 : Nat) (y : Int) (hx : a.eval x = .slice (some ⟨g0, 0, none⟩) 1 1) (hnew : w.heap[g0]? = some (.cells #[.int .u8 y] 5 (0, 0))) (hbig : n ≤ 1000000) (hbase : base ≤ w.heap.size)
    (h : ∀ g cap w', Own5 base w' (.slice (some ⟨g, 0, none⟩) (n + 1) cap) (n + 1) (xs ++ [y]) → w.grownBy w' v.ownBlock → (v.ownBlock = some g ∨ g = w.heap.size) → g < w'.heap.size → wpList Tryd.prog ops Q rest (a.put o.dst (.slice (some ⟨g, 0, none⟩) (n + 1) cap)) w') :
    wpList Tryd.prog ops Q (o :: rest) a w := by
  obtain ⟨g, cap, w', h1, h2, h3, h4, h5, h6⟩ := run_one o.type base v n xs hown g0 y hnew hbig hbase
  refine wpList_plain hgd fun K hK => ?_
  unfold Oper.wp execOp
  simp only [ho, resolve, invoke, builtin, Sem.run_bind, Sem.run_pure, Result.andThen_ok, List.map_toArray, List.map_cons, List.map_nil, hs, hx, h1]
  exact hK _ _ (h g cap w' h2 h4 h5 h6)

/-- 'p[1:]' of a row of its own block. -/
theorem law_tail {w : World} {ops : Array Oper} {rest : List Oper} {o : Oper} {a : Act} {Q : Exit → Act → World → Prop} (hgd : o.guard = none) (x l : Operand)
    (ho : o.op = .slice 22 x (some l) none none) (g n : Nat) (hx : a.eval x = .slice (some ⟨g, 0, none⟩) n n) (hl : a.eval l = .int .i64 1) (hn : 1 ≤ n) (fo : Option Addr) (hfo : Hid (fo = fromAt (some ⟨g, 0, none⟩) n 1)) (r : Nat) (hr0 : n - 1 = r)
    (h : wpList Tryd.prog ops Q rest (a.put o.dst (.slice fo r r)) w) :
    wpList Tryd.prog ops Q (o :: rest) a w := by
  rw [hfo.out, ← hr0] at h
  have hr := run_slice_l (P := Tryd.prog) w 22 (some ⟨g, 0, none⟩) n n Tryd.underlying22 .i64 1 (by omega) (by omega)
  have hz : (sizeOf (Tryd.prog.elem 22)).run Tryd.prog w = .ok 1 w := by kernel_rfl
  have hq : sliced (some ⟨g, 0, none⟩) 1 n n 1 = .slice (fromAt (some ⟨g, 0, none⟩) n 1) (n - 1) (n - 1) := by
    unfold sliced fromAt
    simp
  rw [hz] at hr
  simp only [Result.andThen, Int.toNat_one, hq] at hr
  have hs := (run_sliceAt_slice (P := Tryd.prog) w 22 (.slice (some ⟨g, 0, none⟩) n n) (some (.int .i64 1)) none none Tryd.underlying22).trans hr
  refine wpList_plain hgd fun K hK => ?_
  unfold Oper.wp
  simp [execOp, ho, hx, hl, hs, Result.andThen]
  exact hK _ _ h

theorem shows_lit {w : World} {base n c : Nat} {ao : Option Addr} {xs : List Int} (h : w.ownsRow base 5 1 (.slice ao n c) n (u8s xs)) (hr : ∀ x ∈ xs, 0 ≤ x ∧ x ≤ 255) : Shows w ao n xs := by
  obtain ⟨ao', c', e, hs, _⟩ := shows_of_own h hr
  cases e
  exact hs
theorem v8_place (p : Nat) (h : p < 16) : v8 (BitVec.ofNat 8 (p + 1)) = (p : Int) + 1 := by
  unfold v8
  rw [BitVec.toNat_ofNat, Nat.mod_eq_of_lt (by omega)]
  omega
end Go.Proofs.YtineieoghlbchaaDoor
