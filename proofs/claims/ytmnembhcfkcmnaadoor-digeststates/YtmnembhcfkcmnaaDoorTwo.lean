/- The Mac of a key and bytes, as the document's answer has it. -/
import Derived.Test.YtmnembhcfkcmnaaDoorMacC
import Derived.Test.YtmnembhcfkcmnaaDoorRefE
import Derived.Deep.AppendLies
namespace Go.Proofs.YtmnembhcfkcmnaaDoor
open Go.RowKit

/-- Two rows that lie apart. -/
def Ap (v u : Value) : Prop := ∀ g, v.ownBlock = some g → u.ownBlock ≠ some g

theorem take_next (L : List Int) (j : Nat) (h : j < L.length) : L.take (j + 1) = L.take j ++ [L.getD j 0] := by
  rw [List.take_add_one, List.getElem?_eq_getElem h]
  simp [List.getD, List.getElem?_eq_getElem h]

/-- 'append(v, x...)', v the call's own, beside u, which is the call's own too. -/
theorem law_two {w : World} {ops : Array Oper} {rest : List Oper} {o : Oper} {a : Act} {Q : Exit → Act → World → Prop} (hgd : o.guard = none) (s x : Operand)
    (ho : o.op = .call { callee := .builtin .append, args := #[s, x], argTypes := #[22, 22] }) (base : Nat) (v u : Value) (n k : Nat) (xs ys : List Int) (hv : a.eval s = v) (hown : w.ownsRow base 5 1 v n (u8s xs)) (hoth : w.ownsRow base 5 1 u k (u8s ys)) (hap : Ap v u)
    (ad : Addr) (news : List Int) (m c : Nat) (hx : a.eval x = .slice (some ad) m c) (hs : Shows w (some ad) m news) (hm : 0 < m) (hbig : n + m ≤ 140737488355328) (hbase : base ≤ w.heap.size)
    (h : ∀ v' w', w'.ownsRow base 5 1 v' (n + m) (u8s (xs ++ news)) → w'.ownsRow base 5 1 u k (u8s ys) → Ap v' u → w.grownBy w' v.ownBlock → wpList Tryd.prog ops Q rest (a.put o.dst v') w') : wpList Tryd.prog ops Q (o :: rest) a w := by
  obtain ⟨i0, hi, hz0, hz1, hz2⟩ := info_parts Tryd.info5
  have hl := hs.len
  refine wpList_append_lies w hgd s x 22 ho base 5 i0 (.int .u8 0) 1 1 Tryd.underlying22 hi hz0 hz1 hz2 rfl (by decide) v n (u8s xs) hv hown ad m c (u8s news) hx (by simp [u8s_length, hl]) hs.cells (u8s_one news) hm (by unfold maxLen; omega) (by omega) hbase w.heap.size rfl ?_
  intro g cap w' h1 h2 h3 h4
  have hne : u.ownBlock = none ∨ u.ownBlock ≠ v.ownBlock := by
    by_cases hu : u.ownBlock = none
    · exact Or.inl hu
    · right
      intro e
      obtain ⟨b, hb⟩ := Option.ne_none_iff_exists'.1 hu
      exact hap b (by rw [← e, hb]) hb
  refine h _ w' (by rw [u8s_append]; exact h1) (hoth.kept h2 hne) ?_ h2
  intro g' hg' hu
  have eg : g = g' := by simpa [Value.ownBlock] using hg'
  subst eg
  rcases h3 with h3 | h3
  · exact hap g h3 hu
  · have := (hoth.lt g hu).2
    omega
/-- An array below the rows stands. -/
theorem Arr.far {w w' : World} {base g : Nat} {v : Value} {n : Nat} {xs : List Value} {k : IntKind} {t : TypeId} {ys : List Int} (h : Arr w g k t ys) (hg : w.grownBy w' v.ownBlock) (hown : w.ownsRow base 5 1 v n xs) (hlt : g < base) : Arr w' g k t ys :=
  (hg.block g h.lt (fun e => by have := (hown.lt g e.symm).1; omega)).trans h
end Go.Proofs.YtmnembhcfkcmnaaDoor
