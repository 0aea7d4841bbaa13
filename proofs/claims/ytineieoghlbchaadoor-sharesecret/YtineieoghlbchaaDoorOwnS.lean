/- Lists of shares that a call makes. -/
import Derived.Test.YtineieoghlbchaaDoorWorks
import Derived.Test.YtineieoghlbchaaDoorApartB
namespace Go.Proofs.YtineieoghlbchaaDoor
open Go.RowKit

/-- A list of shares of the call's own, with their bytes. -/
structure OwnS (B : Nat) (w : World) (v : Value) (n : Nat) (L : List Sh) : Prop where
  own : w.ownsRow B 44 2 v n (shv L)
  rows : ∀ s ∈ L, w.ownsRow B 5 1 (.slice s.ao s.n s.c) s.n (u8s (s.ys.map v8))

theorem type_ne {w : World} {b b' e e' sz sz' : Nat} {v u : Value} {n m : Nat} {xs ys : List Value} (he : e ≠ e') (h : w.ownsRow b e sz v n xs) (k : w.ownsRow b' e' sz' u m ys) : v.ownBlock = none ∨ v.ownBlock ≠ u.ownBlock := by
  rcases h.2 with ⟨rfl, _⟩ | ⟨g, cap, cur, rfl, _, hg, _⟩
  · exact Or.inl rfl
  · right
    rcases k.2 with ⟨rfl, _⟩ | ⟨g', cap', cur', rfl, _, hg', _⟩
    · simp [Value.ownBlock]
    · simp only [Value.ownBlock]
      intro e1
      cases e1
      rw [hg] at hg'
      simp at hg'
      exact he hg'.2

section
variable {B n : Nat} {w w' : World} {v : Value} {L : List Sh}
theorem OwnS.nil (B : Nat) (w : World) : OwnS B w (.slice none 0 0) 0 [] := ⟨World.ownsRow_nil _ _ _ _, fun s hs => (by simp at hs)⟩
theorem OwnS.later (h : OwnS B w v n L) (hb : Below w.heap.size w w') : OwnS B w' v n L := ⟨own_below h.own hb, fun s hs => own_below (h.rows s hs) hb⟩
theorem OwnS.alloc (h : OwnS B w v n L) (o : Obj) : OwnS B (w.alloc o) v n L := ⟨h.own.alloc o, fun s hs => (h.rows s hs).alloc o⟩
theorem OwnS.len (h : OwnS B w v n L) : L.length = n := by have := h.own.1; rw [shv_length] at this; omega
theorem OwnS.base {B' : Nat} (h : OwnS B w v n L) (hb : B' ≤ B) : OwnS B' w v n L := ⟨own_base' h.own hb, fun s hs => own_base' (h.rows s hs) hb⟩
/-- What is owned is shown. -/
theorem OwnS.shs (h : OwnS B w v n L) : ∃ ao c, v = .slice ao n c ∧ Shs w ao n L ∧ n ≤ c ∧ c ≤ maxLen ∧ (ao = none → c = 0) ∧ (0 < n → ∃ g, ao = some ⟨g, 0, none⟩ ∧ B ≤ g ∧ g < w.heap.size) := by
  have hok : ∀ s ∈ L, ShOk w s := fun s hs => by
    obtain ⟨ao, c, e, hsh, hc, hm, hb, _⟩ := own_shape (h.rows s hs) (v8s_rng _)
    cases e
    exact ⟨hsh, hb, hc, hm⟩
  rcases h.own.2 with ⟨rfl, rfl⟩ | ⟨g, cap, cur, rfl, hg, hh, hn, hm, hsz, ht⟩
  · exact ⟨none, 0, rfl, ⟨h.len, fun _ => rfl, fun ad e => (by cases e), fun ad e => (by cases e), hok⟩, Nat.le_refl _, Nat.zero_le _, fun _ => rfl, fun h => by omega⟩
  · refine ⟨some ⟨g, 0, none⟩, cap, rfl, shs_of_cells h.len (fun i u hu => ?_) hok, hn, hm, fun e => (by cases e), fun _ => ⟨g, rfl, hg, lt_of_block hh⟩⟩
    have := h.own.cellAt i (by
      have h1 := (List.getElem?_eq_some_iff.1 hu).1
      rw [shv_length, h.len] at h1
      exact h1)
    rw [this, hu]
end

/-- 'append(l, api.Share{..})', l a list of the call's own. -/
theorem law_pushS {w : World} {ops : Array Oper} {rest : List Oper} {o : Oper} {a : Act} {Q : Exit → Act → World → Prop} (hgd : o.guard = none) (s x : Operand)
    (ho : o.op = .call { callee := .builtin .append, args := #[s, x], argTypes := #[27, 27] }) (base : Nat) (v : Value) (n : Nat) (L : List Sh) (hv : a.eval s = v) (hown : OwnS base w v n L)
    (g : Nat) (t : Sh) (hx : a.eval x = .slice (some ⟨g, 0, none⟩) 1 1) (hc : w.heap[g]? = some (.cells #[.int .u8 (v8 t.x), .slice t.ao t.n t.c] 44 (0, 0))) (hrow : w.ownsRow base 5 1 (.slice t.ao t.n t.c) t.n (u8s (t.ys.map v8))) (hbig : n ≤ 1000000) (hbase : base ≤ w.heap.size)
    (h : ∀ v' w', OwnS base w' v' (n + 1) (L ++ [t]) → Below base w w' → wpList Tryd.prog ops Q rest (a.put o.dst v') w') : wpList Tryd.prog ops Q (o :: rest) a w := by
  obtain ⟨i0, hi, hz0, hz1, hz2⟩ := info_parts Tryd.info44
  refine wpList_append_own w hgd s x 27 ho base 44 i0 _ 2 32 Tryd.underlying27 hi hz0 hz1 hz2 rfl (by decide) v n (shv L) hv hown.own ⟨g, 0, none⟩ 1 1 (shv [t]) hx rfl (World.news_of_block (cs := #[.int .u8 (v8 t.x), .slice t.ao t.n t.c]) hc) (shv_one' [t]) (by unfold maxLen; omega) (by omega) hbase ?_
  intro v' w' h1 h2 _
  have h3 : w'.ownsRow base 44 2 v' (n + 1) (shv (L ++ [t])) := by rw [shv_append]; exact h1
  refine h v' w' ⟨h3, fun u hu => ?_⟩ ((Below.refl _ w).grown h2 hbase (fun b hb => (hown.own.lt b hb).1))
  rcases List.mem_append.1 hu with hu | hu
  · exact (hown.rows u hu).kept h2 (type_ne (by decide) (hown.rows u hu) hown.own)
  · rw [List.mem_singleton] at hu
    subst hu
    exact hrow.kept h2 (type_ne (by decide) hrow hown.own)

/-- What of shares is compared. -/
def key (L : List Sh) : List (B × List B) := L.map (fun s => (s.x, s.ys))
end Go.Proofs.YtineieoghlbchaaDoor
