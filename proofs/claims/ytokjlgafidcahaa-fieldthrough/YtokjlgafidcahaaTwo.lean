/- Two rows that grow side by side, and marks beside them. -/
import Derived.Test.YtokjlgafidcahaaLagr
import Derived.Test.YtokjlgafidcahaaPlaces
import Derived.Test.YtokjlgafidcahaaRoom
import Derived.Deep.AppendLies
namespace Go.Proofs.Ytokjlgafidcahaa
open Go.RowKit

/-- Two rows that lie apart. -/
def Ap (v u : Value) : Prop := ∀ g, v.ownBlock = some g → u.ownBlock ≠ some g

/-- 'append(v, x...)', v the call's own, beside u, which is the call's own too. -/
theorem law_two {w : World} {ops : Array Oper} {rest : List Oper} {o : Oper} {a : Act} {Q : Exit → Act → World → Prop} (hgd : o.guard = none) (s x : Operand)
    (ho : o.op = .call { callee := .builtin .append, args := #[s, x], argTypes := #[30, 30] }) (base : Nat) (v u : Value) (n k : Nat) (xs ys : List Int) (hv : a.eval s = v) (hown : w.ownsRow base 5 1 v n (u8s xs)) (hoth : w.ownsRow base 5 1 u k (u8s ys)) (hap : Ap v u)
    (ad : Addr) (news : List Int) (m c : Nat) (hx : a.eval x = .slice (some ad) m c) (hs : Shows w (some ad) m news) (hm : 0 < m) (hbig : n + m ≤ 140737488355328) (hbase : base ≤ w.heap.size)
    (h : ∀ v' w', w'.ownsRow base 5 1 v' (n + m) (u8s (xs ++ news)) → w'.ownsRow base 5 1 u k (u8s ys) → Ap v' u → w.grownBy w' v.ownBlock → wpList Try.prog ops Q rest (a.put o.dst v') w') : wpList Try.prog ops Q (o :: rest) a w := by
  obtain ⟨i0, hi, hz0, hz1, hz2⟩ := info_parts Try.info5
  have hl := hs.len
  refine wpList_append_lies w hgd s x 30 ho base 5 i0 (.int .u8 0) 1 1 Try.underlying30 hi hz0 hz1 hz2 rfl (by decide) v n (u8s xs) hv hown ad m c (u8s news) hx (by simp [u8s_length, hl]) hs.cells (u8s_one news) hm (by unfold maxLen; omega) (by omega) hbase w.heap.size rfl ?_
  intro g cap w' h1 h2 h3 h4
  have hne : u.ownBlock = none ∨ u.ownBlock ≠ v.ownBlock := by
    by_cases hu : u.ownBlock = none
    · exact Or.inl hu
    · right
      intro e
      obtain ⟨b, hb⟩ := Option.ne_none_iff_exists'.1 hu
      exact hap b (by rw [← e, hb]) hb
  refine h _ w' (by rw [u8s_append]; exact h1) (hoth.kept h2 hne) ?_ h2
  intro g' hg' hu
  have eg : g = g' := by simpa [Value.ownBlock] using hg'
  subst eg
  rcases h3 with h3 | h3
  · exact hap g h3 hu
  · have := (hoth.lt g hu).2
    omega

/-- A block below the rows stands. -/
theorem Blk.far {w w' : World} {base g : Nat} {v : Value} {n : Nat} {xs : List Value} {t : TypeId} {ys : List Value} (h : Blk w g t ys) (hg : w.grownBy w' v.ownBlock) (hown : w.ownsRow base 5 1 v n xs) (hlt : g < base) : Blk w' g t ys :=
  (hg.block g h.lt (fun e => by have := (hown.lt g e.symm).1; omega)).trans h
/-- A store below the rows leaves them. -/
theorem own_beside {w : World} {base n : Nat} {v : Value} {xs : List Value} (h : w.ownsRow base 5 1 v n xs) (a : Addr) (u : Value) (ha : a.block < base) : (w.setCell a u).ownsRow base 5 1 v n xs := by
  obtain ⟨h1, h2⟩ := h
  refine ⟨h1, ?_⟩
  rcases h2 with h2 | ⟨g, cap, cur, hv, hg, hh, r⟩
  · exact Or.inl h2
  · exact Or.inr ⟨g, cap, cur, hv, hg, (heap_setCell_other w a g u (by omega)).trans hh, r⟩
/-- A store into another row leaves this one. -/
theorem own_apart {w : World} {base n : Nat} {v : Value} {xs : List Value} (h : w.ownsRow base 5 1 v n xs) (a : Addr) (u : Value) (ha : v.ownBlock ≠ some a.block) : (w.setCell a u).ownsRow base 5 1 v n xs := by
  obtain ⟨h1, h2⟩ := h
  refine ⟨h1, ?_⟩
  rcases h2 with h2 | ⟨g, cap, cur, hv, hg, hh, r⟩
  · exact Or.inl h2
  · exact Or.inr ⟨g, cap, cur, hv, hg, (heap_setCell_other w a g u (fun e => ha (by rw [hv, ← e]; rfl))).trans hh, r⟩
/-- The first value of a row is another one. -/
theorem own_set {w : World} {base g n cap : Nat} {xs : List Int} (h : w.ownsRow base 5 1 (.slice (some ⟨g, 0, none⟩) n cap) n (u8s xs)) (v : Int) : (w.setCell ⟨g, 0, none⟩ (.int .u8 v)).ownsRow base 5 1 (.slice (some ⟨g, 0, none⟩) n cap) n (u8s (xs.set 0 v)) := by
  obtain ⟨h1, h2⟩ := h
  refine ⟨by rw [u8s_length] at *; rw [List.length_set]; exact h1, ?_⟩
  rcases h2 with ⟨h3, _⟩ | ⟨g', cap', cur, hv, hg, hh, hn', hm, hsz, ht⟩
  · cases h3
  · cases hv
    refine Or.inr ⟨g, cap, cur.setIfInBounds 0 (.int .u8 v), rfl, hg, heap_setCell_same w g 0 _ 5 _ hh, hn', hm, by simp [hsz], ?_⟩
    rw [Array.toList_setIfInBounds, List.take_set, ht]
    simp [u8s, List.map_set]
theorem own_first {w : World} {base g n cap : Nat} {xs : List Value} (h : w.ownsRow base 5 1 (.slice (some ⟨g, 0, none⟩) n cap) n xs) : w.frozen? ⟨g, 0, none⟩ = false := by
  rcases h.2 with ⟨h3, _⟩ | ⟨g', cap', cur, hv, hg, hh, r⟩
  · cases h3
  · cases hv
    exact frozen_of_row w g 0 _ 5 hh

/-- The marks of the elements ps. -/
def markB (ps : List B) (a : Nat) : Bool := ps.any (fun p => p.toNat == a)
def markV (ps : List B) : List Value := (List.range 256).map (fun a => Value.bool (markB ps a))
theorem markV_length (ps : List B) : (markV ps).length = 256 := by simp [markV]
theorem markV_at (ps : List B) (a : Nat) (h : a < 256) : (markV ps)[a]? = some (.bool (markB ps a)) := by
  unfold markV
  rw [List.getElem?_map, List.getElem?_range h]
  rfl
theorem markV_snoc (ps : List B) (x : B) : (markV ps).set x.toNat (.bool true) = markV (ps ++ [x]) := by
  apply List.ext_getElem?
  intro a
  by_cases ha : a < 256
  · rw [markV_at _ a ha]
    by_cases e : x.toNat = a
    · rw [e, List.getElem?_set_self (by rw [markV_length]; exact ha)]
      simp [markB, e]
    · rw [List.getElem?_set_ne e, markV_at _ a ha]
      have : (x.toNat == a) = false := by simp [e]
      simp [markB, this]
  · rw [List.getElem?_eq_none (by rw [List.length_set, markV_length]; omega), List.getElem?_eq_none (by rw [markV_length]; omega)]
theorem markV_nil : List.replicate 256 (Value.bool false) = markV [] := by
  apply List.ext_getElem?
  intro a
  by_cases ha : a < 256
  · rw [markV_at _ a ha, List.getElem?_replicate, if_pos ha]
    rfl
  · rw [List.getElem?_eq_none (by rw [List.length_replicate]; omega), List.getElem?_eq_none (by rw [markV_length]; omega)]
theorem markB_iff (ps : List B) (x : B) : markB ps x.toNat = true ↔ x ∈ ps := by
  unfold markB
  rw [List.any_eq_true]
  constructor
  · rintro ⟨p, hp, h⟩
    have : p = x := BitVec.eq_of_toNat_eq (by simpa using h)
    exact this ▸ hp
  · exact fun h => ⟨x, h, by simp⟩

/-- The first k places, each once, without 0. -/
def uqT (ps : List B) : Nat → List B
  | 0 => []
  | k + 1 => if ps.getD k 0#8 = 0#8 ∨ ps.getD k 0#8 ∈ uqT ps k then uqT ps k else uqT ps k ++ [ps.getD k 0#8]
theorem uqT_good (ps : List B) (k : Nat) : Good (uqT ps k) := by
  induction k with
  | zero => exact ⟨List.nodup_nil, by simp [uqT]⟩
  | succ k ih =>
    simp only [uqT]
    split
    · exact ih
    · rename_i h
      exact (good_snoc _ _).2 ⟨ih, fun hm => h (Or.inr hm), fun e => h (Or.inl e)⟩
end Go.Proofs.Ytokjlgafidcahaa
