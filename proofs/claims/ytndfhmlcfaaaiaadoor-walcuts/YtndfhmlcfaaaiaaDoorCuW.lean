import Derived.Test.YtndfhmlcfaaaiaaDoorTouch
import Derived.Test.YtndfhmlcfaaaiaaDoorLawF8
/- A log, the pages behind each of its Commits, and how much of it they took: how they lie. -/
namespace Go.Proofs.YtndfhmlcfaaaiaaDoor
open Go.RowKit

theorem ty_ne {u : World} {a b : Nat} {C D : Array Value} {t t' : TypeId} {x y : Nat × Nat} (h1 : u.heap[a]? = some (.cells C t x)) (h2 : u.heap[b]? = some (.cells D t' y)) (h : t ≠ t') : a ≠ b := by
  intro e
  subst e
  rw [h1] at h2
  injection h2 with h3
  injection h3 with _ h4
  exact h h4
section
variable {B : Nat} {w u u' : World} {q r mm f m cap : Nat} {x : Lg} {d : St}
theorem LB.apart_ty (h : LB B w u q r mm f m cap x d) {b : Nat} {C : Array Value} {t : TypeId} (hb : u.heap[b]? = some (.cells C t (0, 0))) (h1 : t ≠ 99) (h2 : t ≠ 64) (h3 : t ≠ 82) : ¬ fp r f m b ∧ ¬ lp q mm b := by
  obtain ⟨D1, ⟨es1, c1, hm1, _⟩, _⟩ := h.dl.k.map
  obtain ⟨D2, ⟨es2, c2, hm2, _⟩, _⟩ := h.dl.l.map
  obtain ⟨C3, hC3, _⟩ := h.dl.k.row
  refine ⟨?_, ?_⟩
  · rintro (e | e | e)
    · exact ty_ne hb h.dl.k.blk h1 e
    · exact ty_ne hb hC3 h2 e
    · rw [e, hm1] at hb; cases hb
  · rintro (e | e)
    · exact ty_ne hb h.dl.l.blk h3 e
    · rw [e, hm2] at hb; cases hb
theorem LB.off (h : LB B w u q r mm f m cap x d) {X : Nat → Prop} (hf : Fr X u u') (hX : ∀ b, X b → (¬ fp r f m b ∧ ¬ lp q mm b) ∧ B ≤ b) : LB B w u' q r mm f m cap x d := by
  have hs := h.size
  refine ⟨⟨h.dl.l.fr hf (fun k hk => (hX k hk).1.2), h.dl.k.fr hf (fun k hk => (hX k hk).1.1), h.dl.n, h.dl.t.fr hf (fun k hk => Nat.le_trans h.two (hX k hk).2), h.dl.apart, h.dl.fp2, h.dl.lp2⟩, h.fpB, h.lpB, h.below.trans (hf.below (fun k hk => (hX k hk).2) hs), h.two⟩
end
def stC (H : Nat) (Nf cf : Nat → Nat) (n : Nat) : List Value := (List.range n).map fun i => .slice (some ⟨Nf i, 0, none⟩) H (cf i)
def enC (sl : List (List Im)) (n : Nat) : List Value := (List.range n).map fun i => .int .i64 (tot (sl.take i) : Int)
theorem stC_succ (H : Nat) (Nf cf : Nat → Nat) (n : Nat) : stC H Nf cf (n + 1) = stC H Nf cf n ++ [.slice (some ⟨Nf n, 0, none⟩) H (cf n)] := by simp [stC, List.range_succ]
theorem stC_congr {H : Nat} {Nf cf Nf' cf' : Nat → Nat} {n : Nat} (h : ∀ i, i < n → Nf i = Nf' i ∧ cf i = cf' i) : stC H Nf cf n = stC H Nf' cf' n := by
  unfold stC
  refine List.map_congr_left fun i hi => ?_
  obtain ⟨h1, h2⟩ := h i (List.mem_range.1 hi)
  rw [h1, h2]
theorem enC_succ (sl : List (List Im)) (n : Nat) : enC sl (n + 1) = enC sl n ++ [.int .i64 (tot (sl.take n) : Int)] := by simp [enC, List.range_succ]
theorem enC_congr {sl sl' : List (List Im)} {n : Nat} (h : ∀ i, i < n → sl.take i = sl'.take i) : enC sl n = enC sl' n := by
  unfold enC
  refine List.map_congr_left fun i hi => ?_
  rw [h i (List.mem_range.1 hi)]
theorem cell_shape {u : World} {base t n : Nat} {v : Value} {cs : List Value} (h : u.ownsRow base t 1 v n cs) (hn : 0 < n) : ∃ g cp C, v = .slice (some ⟨g, 0, none⟩) n cp ∧ base ≤ g ∧ u.heap[g]? = some (.cells C t (0, 0)) ∧ ∀ (i : Nat) x, cs[i]? = some x → u.cell? ⟨g, i, none⟩ = some x := by
  obtain ⟨hl, ⟨_, h0⟩ | ⟨g, cp, C, rfl, hg, hC, h2, h3, h4, ht⟩⟩ := h
  · omega
  · refine ⟨g, cp, C, rfl, hg, hC, fun i x hx => ?_⟩
    have hi : i < n := by have := (List.getElem?_eq_some_iff.1 hx).1; omega
    rw [cell_of_row u g i _ t _ hC]
    rw [← ht, List.getElem?_take, if_pos (by omega)] at hx
    simpa using hx
theorem own1 (u : World) (base : Nat) (t : TypeId) (x : Value) (hb : base ≤ u.heap.size) : (u.alloc (.cells #[x] t)).ownsRow base t 1 (.slice (some ⟨u.heap.size, 0, none⟩) 1 1) 1 [x] :=
  ⟨rfl, .inr ⟨u.heap.size, 1, #[x], rfl, hb, heap_alloc_new u _, Nat.le_refl _, by decide, rfl, rfl⟩⟩
/-- The log x with the Commits sl behind each of which a row of pages lies, and el of which the ends are noted. -/
structure CU (B : Nat) (w u : World) (r f cap L H q mm m : Nat) (x : Lg) (d : St) (k : Nat) (sl el : List (List Im)) (vs ve : Value) (Nf cf : Nat → Nat) (BU : Nat) (us : List Value) : Prop where
  lb : LB B w u q r mm f m cap x d
  z : Zl d x (onL (fun _ => zp) x.ws)
  wk : Wk d k
  eL : x.L = L
  eH : x.H = H
  st : u.ownsRow B 52 1 vs (sl.length + 1) (stC H Nf cf (sl.length + 1))
  en : u.ownsRow B 3 1 ve (el.length + 1) (enC el (el.length + 1))
  rows : ∀ i, i ≤ sl.length → PRw u (Nf i) H (onL (fun _ => zp) (sl.take i))
  ub : Blk u BU 61 us
section
variable {B : Nat} {w u u' : World} {r f cap L H q mm m k BU : Nat} {x : Lg} {d : St} {sl el : List (List Im)} {vs ve : Value} {Nf cf : Nat → Nat} {us : List Value}
theorem CU.next (h : CU B w u r f cap L H q mm m x d k sl el vs ve Nf cf BU us) (hb : Below u.heap.size u u') : CU B w u' r f cap L H q mm m x d k sl el vs ve Nf cf BU us := by
  have hf : Fr (fun _ => False) u u' := Fr.of_below hb (Nat.le_refl _)
  exact ⟨h.lb.next hb, h.z, h.wk, h.eL, h.eH, own_fr h.st hf (fun _ _ e => e), own_fr h.en hf (fun _ _ e => e), fun i hi => (h.rows i hi).next hb, h.ub.next hb⟩
theorem CU.le {k' : Nat} (h : CU B w u r f cap L H q mm m x d k sl el vs ve Nf cf BU us) (hk : k ≤ k') : CU B w u r f cap L H q mm m x d k' sl el vs ve Nf cf BU us := ⟨h.lb, h.z, h.wk.le hk, h.eL, h.eH, h.st, h.en, h.rows, h.ub⟩
/-- The log turns. -/
theorem CU.com {mm' m' k' : Nat} {x' : Lg} {d' : St} (h : CU B w u r f cap L H q mm m x d k sl el vs ve Nf cf BU us) (hF : Fr (fun k => fp r f m k ∨ lp q mm k) u u') (hL : LB B w u' q r mm' f m' cap x' d') (hz : Zl d' x' (onL (fun _ => zp) x'.ws)) (hW : Wk d' k') (eL : x'.L = x.L) (eH : x'.H = x.H) : CU B w u' r f cap L H q mm' m' x' d' k' sl el vs ve Nf cf BU us := by
  have hn : ∀ {b : Nat} {C : Array Value} {t : TypeId}, u.heap[b]? = some (.cells C t (0, 0)) → t ≠ 99 → t ≠ 64 → t ≠ 82 → ¬ (fp r f m b ∨ lp q mm b) := fun h0 h1 h2 h3 => by
    have := h.lb.apart_ty h0 h1 h2 h3
    exact fun e => e.elim this.1 this.2
  obtain ⟨g1, cp1, C1, e1, _, hC1, _⟩ := cell_shape h.st (Nat.succ_pos _)
  obtain ⟨g2, cp2, C2, e2, _, hC2, _⟩ := cell_shape h.en (Nat.succ_pos _)
  refine ⟨hL, hz, hW, eL.trans h.eL, eH.trans h.eH, own_fr h.st hF (fun b hb => ?_), own_fr h.en hF (fun b hb => ?_), fun i hi => ?_, h.ub.fr hF (hn h.ub (by decide) (by decide) (by decide))⟩
  · rw [e1] at hb
    have : g1 = b := by simpa [Value.ownBlock] using hb
    subst this
    exact hn hC1 (by decide) (by decide) (by decide)
  · rw [e2] at hb
    have : g2 = b := by simpa [Value.ownBlock] using hb
    subst this
    exact hn hC2 (by decide) (by decide) (by decide)
  · obtain ⟨C, hC, hh⟩ := h.rows i hi
    exact PRw.fr ⟨C, hC, hh⟩ hF (hn hC (by decide) (by decide) (by decide))
/-- The pages behind the last Commit are noted. -/
theorem CU.push_st (h : CU B w u r f cap L H q mm m x d k sl el vs ve Nf cf BU us) {vs' : Value} {G c : Nat} {W : List Im} (hG : PRw u G H (on1 (onL (fun _ => zp) sl) W)) (hg : u.grownBy u' vs.ownBlock) (ho : u'.ownsRow B 52 1 vs' (sl.length + 1 + 1) (stC H Nf cf (sl.length + 1) ++ [.slice (some ⟨G, 0, none⟩) H c])) :
    CU B w u' r f cap L H q mm m x d k (sl ++ [W]) el vs' ve (upd Nf (sl.length + 1) G) (upd cf (sl.length + 1) c) BU us := by
  obtain ⟨g1, cp1, C1, e1, hg1, hC1, _⟩ := cell_shape h.st (Nat.succ_pos _)
  obtain ⟨g2, cp2, C2, e2, _, hC2, _⟩ := cell_shape h.en (Nat.succ_pos _)
  have hob : vs.ownBlock = some g1 := by rw [e1]; rfl
  rw [hob] at hg
  have hf : Fr (fun b => b = g1) u u' := (Fr.refl _ u).grown hg (fun j hj => .inl (by cases hj; rfl))
  have ha1 := h.lb.apart_ty hC1 (by decide) (by decide) (by decide)
  have hrow : ∀ {n : Nat} {F : Nat → Pg}, PRw u n H F → PRw u' n H F := fun hr => by
    obtain ⟨C, hC, hh⟩ := hr
    exact PRw.fr ⟨C, hC, hh⟩ hf (ty_ne hC hC1 (by decide))
  refine ⟨h.lb.off hf (fun b hb => by subst hb; exact ⟨ha1, hg1⟩), h.z, h.wk, h.eL, h.eH, ?_, own_fr h.en hf (fun b hb => ?_), fun i hi => ?_, h.ub.fr hf (ty_ne h.ub hC1 (by decide))⟩
  · rw [List.length_append, List.length_singleton, stC_succ, upd_same, upd_same]
    rw [stC_congr (Nf' := Nf) (cf' := cf) (fun i hi => ⟨upd_ne _ _ _ _ (by omega), upd_ne _ _ _ _ (by omega)⟩)]
    exact ho
  · rw [e2] at hb
    have : g2 = b := by simpa [Value.ownBlock] using hb
    subst this
    exact ty_ne hC2 hC1 (by decide)
  · rw [List.length_append, List.length_singleton] at hi
    by_cases e : i = sl.length + 1
    · subst e
      rw [upd_same, List.take_of_length_le (by simp), onL_snoc]
      exact hrow hG
    · rw [upd_ne _ _ _ _ e, List.take_append_of_le_length (by omega)]
      exact hrow (h.rows i (by omega))
/-- And how much of the log they took. -/
theorem CU.push_en (h : CU B w u r f cap L H q mm m x d k sl el vs ve Nf cf BU us) {ve' : Value} {W : List Im} (hg : u.grownBy u' ve.ownBlock) (ho : u'.ownsRow B 3 1 ve' (el.length + 1 + 1) (enC el (el.length + 1) ++ [.int .i64 (tot (el ++ [W]) : Int)])) :
    CU B w u' r f cap L H q mm m x d k sl (el ++ [W]) vs ve' Nf cf BU us := by
  obtain ⟨g1, cp1, C1, e1, _, hC1, _⟩ := cell_shape h.st (Nat.succ_pos _)
  obtain ⟨g2, cp2, C2, e2, hg2, hC2, _⟩ := cell_shape h.en (Nat.succ_pos _)
  have hob : ve.ownBlock = some g2 := by rw [e2]; rfl
  rw [hob] at hg
  have hf : Fr (fun b => b = g2) u u' := (Fr.refl _ u).grown hg (fun j hj => .inl (by cases hj; rfl))
  have ha2 := h.lb.apart_ty hC2 (by decide) (by decide) (by decide)
  refine ⟨h.lb.off hf (fun b hb => by subst hb; exact ⟨ha2, hg2⟩), h.z, h.wk, h.eL, h.eH, own_fr h.st hf (fun b hb => ?_), ?_, fun i hi => ?_, h.ub.fr hf (ty_ne h.ub hC2 (by decide))⟩
  · rw [e1] at hb
    have : g1 = b := by simpa [Value.ownBlock] using hb
    subst this
    exact ty_ne hC1 hC2 (by decide)
  · rw [List.length_append, List.length_singleton, enC_succ, List.take_of_length_le (by simp)]
    rw [enC_congr (sl' := el) (fun i hi => List.take_append_of_le_length (by omega))]
    exact ho
  · obtain ⟨C, hC, hh⟩ := h.rows i hi
    exact PRw.fr ⟨C, hC, hh⟩ hf (ty_ne hC hC2 (by decide))
end
theorem info52 : (Tryd.prog.info? 52).map (fun i => (i.zero, i.size, i.bytes)) = some (some (.slice none 0 0), 1, 24) := by kernel_rfl
theorem info3i : (Tryd.prog.info? 3).map (fun i => (i.zero, i.size, i.bytes)) = some (some (.int .i64 0), 1, 8) := by kernel_rfl
section
variable {w : World} {ops : Array Oper} {rest : List Oper} {o : Oper} {a : Act} {Q : Exit → Act → World → Prop}
/-- 'append(l, x)', l a row of the call's own of cells, x one. -/
theorem push_cell (hg : o.guard = none) (s x : Operand) (t e : TypeId) (zv : Value) (by8 : Nat) (ho : o.op = .call { callee := .builtin .append, args := #[s, x], argTypes := #[t, t] }) (hu : Tryd.prog.underlying t = some (.slice e)) (hinf : (Tryd.prog.info? e).map (fun i => (i.zero, i.size, i.bytes)) = some (some zv, 1, by8)) (hzs : zv.cells.size = 1) (h8 : by8 ≤ 24)
    (base : Nat) (v : Value) (n : Nat) (cs : List Value) (hv : a.eval s = v) (hown : w.ownsRow base e 1 v n cs) (g : Nat) (y : Value) (hx : a.eval x = .slice (some ⟨g, 0, none⟩) 1 1) (hc : w.cell? ⟨g, 0, none⟩ = some y) (hy : y.oneCell' = true) (hbig : n ≤ 100000) (hbase : base ≤ w.heap.size)
    (h : ∀ v' w', w'.ownsRow base e 1 v' (n + 1) (cs ++ [y]) → w.grownBy w' v.ownBlock → wpList Tryd.prog ops Q rest (a.put o.dst v') w') : wpList Tryd.prog ops Q (o :: rest) a w := by
  obtain ⟨i0, hi, hz0, hz1, hz2⟩ := info_parts hinf
  refine wpList_append_own w hg s x t ho base e i0 zv 1 by8 hu hi hz0 hz1 hz2 hzs (by decide) v n cs hv hown ⟨g, 0, none⟩ 1 1 [y] hx rfl (fun j u hj => ?_) (fun u hu => by simp only [List.mem_singleton] at hu; rw [hu]; exact hy) (by unfold maxLen; omega) ?_ hbase ?_
  · cases j with
    | zero =>
      simp only [List.getElem?_cons_zero, Option.some.injEq] at hj
      subst hj
      rw [add_zero_block]
      exact hc
    | succ j => simp at hj
  · have : (n + 1) * by8 ≤ (n + 1) * 24 := Nat.mul_le_mul_left _ h8
    omega
  · intro v' w' h1 h2 _
    exact h v' w' h1 h2
end
end Go.Proofs.YtndfhmlcfaaaiaaDoor

/- The log and its states at the start; which pages the Commits have written. -/
namespace Go.Proofs.YtndfhmlcfaaaiaaDoor
open Go.RowKit

theorem CU.start {B : Nat} {w u : World} {r f cap L H q mm m k BU N0 c0 : Nat} {x : Lg} {d : St} {us : List Value} (hL : LB B w u q r mm f m cap x d) (hz : Zt d x) (hW : Wk d k) (eL : x.L = L) (eH : x.H = H) (hR : PRw u N0 H (fun _ => zp)) (hb : Blk u BU 61 us) :
    CU B w ((u.alloc (.cells #[.slice (some ⟨N0, 0, none⟩) H c0] 52)).alloc (.cells #[.int .i64 0] 3)) r f cap L H q mm m x d k x.ws x.ws (.slice (some ⟨u.heap.size, 0, none⟩) 1 1) (.slice (some ⟨u.heap.size + 1, 0, none⟩) 1 1) (fun _ => N0) (fun _ => c0) BU us := by
  have hs := hL.size
  have k1 : Below u.heap.size u (u.alloc (.cells #[.slice (some ⟨N0, 0, none⟩) H c0] 52)) := (Below.refl _ u).alloc (Nat.le_refl _) _
  have k2 := k1.alloc k1.size (.cells #[.int .i64 0] 3)
  have o1 := own1 u B 52 (.slice (some ⟨N0, 0, none⟩) H c0) hs
  have o2 := own1 (u.alloc (.cells #[.slice (some ⟨N0, 0, none⟩) H c0] 52)) B 3 (.int .i64 0) (Nat.le_trans hs k1.size)
  have hsz : (u.alloc (.cells #[.slice (some ⟨N0, 0, none⟩) H c0] 52)).heap.size = u.heap.size + 1 := by simp
  rw [hsz] at o2
  refine ⟨hL.next k2, by rw [← hz.z.pg]; exact hz.z, hW, eL, eH, ?_, ?_, fun i hi => ?_, hb.next k2⟩
  · rw [hz.ws]
    exact own_fr o1 (X := fun _ => False) ((Fr.refl _ _).alloc _) (fun _ _ e => e)
  · rw [hz.ws]
    exact o2
  · rw [hz.ws]
    rw [show ([] : List (List Im)).take i = [] by simp]
    exact (hR.next k2)
/-- Which pages the Commits have written. -/
def TI (H L : Nat) (O : Nat → Op8) (j : Nat) (ws : List (List Im)) : Prop := qn H L O j = ws.length ∧ ∀ p, p < H → ((ov ws p).isSome = true ↔ ∃ i, i < j ∧ qual H L (O i) ∧ (p : Int) ∈ pgs (imsOf (O i)))
theorem TI.start (H L : Nat) (O : Nat → Op8) : TI H L O 0 [] := by
  refine ⟨rfl, fun p _ => ?_⟩
  constructor
  · intro h
    have h1 : (none : Option Pg).isSome = true := h
    cases h1
  · rintro ⟨i, hi, _⟩
    omega
theorem TI.skip {H L : Nat} {O : Nat → Op8} {j : Nat} {ws : List (List Im)} (h : TI H L O j ws) (hq : ¬ qual H L (O j)) : TI H L O (j + 1) ws := by
  refine ⟨?_, fun p hp => ?_⟩
  · show (if _ then _ else _) = _
    rw [if_neg hq]
    exact h.1
  · rw [h.2 p hp]
    constructor
    · rintro ⟨i, hi, h1, h2⟩
      exact ⟨i, by omega, h1, h2⟩
    · rintro ⟨i, hi, h1, h2⟩
      by_cases e : i = j
      · subst e; exact absurd h1 hq
      · exact ⟨i, by omega, h1, h2⟩
theorem ov1_some (W0 : Nat → Option Pg) (p : Nat) : ∀ (W : List Im), ((ov1 W0 W p).isSome = true ↔ (W0 p).isSome = true ∨ ∃ y ∈ W, y.1 = p) := by
  intro W
  induction W generalizing W0 with
  | nil => simp [ov1]
  | cons y W ih =>
    have e : ov1 W0 (y :: W) = ov1 (upd W0 y.1 (some y.2)) W := rfl
    rw [e, ih]
    by_cases hp : p = y.1
    · subst hp
      rw [upd_same]
      constructor
      · intro _
        exact .inr ⟨y, List.mem_cons_self, rfl⟩
      · intro _
        exact .inl rfl
    · rw [upd_ne _ _ _ _ hp]
      constructor
      · rintro (h | ⟨z, hz, h⟩)
        · exact .inl h
        · exact .inr ⟨z, by simp [hz], h⟩
      · rintro (h | ⟨z, hz, h⟩)
        · exact .inl h
        · rcases List.mem_cons.1 hz with e | e
          · subst e; exact absurd h.symm hp
          · exact .inr ⟨z, e, h⟩
theorem TI.com {H L : Nat} {O : Nat → Op8} {j : Nat} {ws : List (List Im)} (h : TI H L O j ws) (hq : qual H L (O j)) : TI H L O (j + 1) (ws ++ [fromI (imsOf (O j))]) := by
  have hto := toI_fromI hq.2.2.1
  refine ⟨?_, fun p hp => ?_⟩
  · show (if _ then _ else _) = _
    rw [if_pos hq, h.1, List.length_append]
    rfl
  · rw [ov_snoc, ov1_some, h.2 p hp]
    have hm : (∃ y ∈ fromI (imsOf (O j)), y.1 = p) ↔ (p : Int) ∈ pgs (imsOf (O j)) := by
      conv => rhs; rw [← hto]
      rw [pgs_toI]
      constructor
      · rintro ⟨y, hy, rfl⟩
        exact List.mem_map.2 ⟨y, hy, rfl⟩
      · intro hm
        obtain ⟨y, hy, hyp⟩ := List.mem_map.1 hm
        exact ⟨y, hy, by omega⟩
    rw [hm]
    constructor
    · rintro (⟨i, hi, h1, h2⟩ | h2)
      · exact ⟨i, by omega, h1, h2⟩
      · exact ⟨j, by omega, hq, h2⟩
    · rintro ⟨i, hi, h1, h2⟩
      by_cases e : i = j
      · subst e; exact .inr h2
      · exact .inl ⟨i, by omega, h1, h2⟩
/-- Behind the loop: touched is written. -/
theorem TI.touch {H L : Nat} {O : Nat → Op8} {j n : Nat} {ws : List (List Im)} (h : TI H L O j ws) (hj : j ≤ n) (p : Nat) (hp : p < H) : Touch H L O (p : Int) ws.length n ↔ (ov ws p).isSome = true := by
  rw [h.2 p hp, ← h.1]
  constructor
  · rintro ⟨i, hi, h1, h2, h3⟩
    refine ⟨i, ?_, h1, h3⟩
    by_cases e : i < j
    · exact e
    · have := qn_mono H L O j i (by omega)
      omega
  · rintro ⟨i, hi, h1, h3⟩
    refine ⟨i, by omega, h1, ?_, h3⟩
    have h4 := qn_mono H L O (i + 1) j (by omega)
    have h5 : qn H L O (i + 1) = qn H L O i + 1 := by
      show (if _ then _ else _) = _
      rw [if_pos h1]
    omega
theorem cell_own {u : World} {base t n g cp : Nat} {cs : List Value} (h : u.ownsRow base t 1 (.slice (some ⟨g, 0, none⟩) n cp) n cs) {i : Nat} {x : Value} (hx : cs[i]? = some x) : u.cell? ⟨g, i, none⟩ = some x := by
  have hn : 0 < n := by
    have h1 := (List.getElem?_eq_some_iff.1 hx).1
    have h2 := h.1
    omega
  obtain ⟨g', cp', C, e, _, _, hc⟩ := cell_shape h hn
  cases e
  exact hc i x hx
theorem stC_at (H : Nat) (Nf cf : Nat → Nat) (k i : Nat) (h : i < k) : (stC H Nf cf k)[i]? = some (.slice (some ⟨Nf i, 0, none⟩) H (cf i)) := by simp [stC, List.getElem?_range h]
theorem enC_at (sl : List (List Im)) (k i : Nat) (h : i < k) : (enC sl k)[i]? = some (.int .i64 (tot (sl.take i) : Int)) := by simp [enC, List.getElem?_range h]
end Go.Proofs.YtndfhmlcfaaaiaaDoor

/- The log and the states behind its Commits, the disk whatever it holds. -/
namespace Go.Proofs.YtndfhmlcfaaaiaaDoor
open Go.RowKit

structure CV (B : Nat) (w u : World) (r f cap L H q mm m : Nat) (x : Lg) (d : St) (k : Nat) (sl el : List (List Im)) (vs ve : Value) (Nf cf : Nat → Nat) : Prop where
  lb : LB B w u q r mm f m cap x d
  wk : Wk d k
  eL : x.L = L
  eH : x.H = H
  st : u.ownsRow B 52 1 vs (sl.length + 1) (stC H Nf cf (sl.length + 1))
  en : u.ownsRow B 3 1 ve (el.length + 1) (enC el (el.length + 1))
  rows : ∀ i, i ≤ sl.length → PRw u (Nf i) H (onL (fun _ => zp) (sl.take i))
section
variable {B : Nat} {w u u' : World} {r f cap L H q mm m k BU : Nat} {x : Lg} {d : St} {sl el : List (List Im)} {vs ve : Value} {Nf cf : Nat → Nat} {us : List Value}
theorem CU.cv (h : CU B w u r f cap L H q mm m x d k sl el vs ve Nf cf BU us) : CV B w u r f cap L H q mm m x d k sl el vs ve Nf cf := ⟨h.lb, h.wk, h.eL, h.eH, h.st, h.en, h.rows⟩
theorem CV.next (h : CV B w u r f cap L H q mm m x d k sl el vs ve Nf cf) (hb : Below u.heap.size u u') : CV B w u' r f cap L H q mm m x d k sl el vs ve Nf cf := by
  have hf : Fr (fun _ => False) u u' := Fr.of_below hb (Nat.le_refl _)
  exact ⟨h.lb.next hb, h.wk, h.eL, h.eH, own_fr h.st hf (fun _ _ e => e), own_fr h.en hf (fun _ _ e => e), fun i hi => (h.rows i hi).next hb⟩
theorem CV.turn {mm' m' k' : Nat} {x' : Lg} {d' : St} (h : CV B w u r f cap L H q mm m x d k sl el vs ve Nf cf) (hF : Fr (fun k => fp r f m k ∨ lp q mm k) u u') (hL : LB B w u' q r mm' f m' cap x' d') (hW : Wk d' k') (eL : x'.L = x.L) (eH : x'.H = x.H) : CV B w u' r f cap L H q mm' m' x' d' k' sl el vs ve Nf cf := by
  have hn : ∀ {b : Nat} {C : Array Value} {t : TypeId}, u.heap[b]? = some (.cells C t (0, 0)) → t ≠ 99 → t ≠ 64 → t ≠ 82 → ¬ (fp r f m b ∨ lp q mm b) := fun h0 h1 h2 h3 => by
    have := h.lb.apart_ty h0 h1 h2 h3
    exact fun e => e.elim this.1 this.2
  obtain ⟨g1, cp1, C1, e1, _, hC1, _⟩ := cell_shape h.st (Nat.succ_pos _)
  obtain ⟨g2, cp2, C2, e2, _, hC2, _⟩ := cell_shape h.en (Nat.succ_pos _)
  refine ⟨hL, hW, eL.trans h.eL, eH.trans h.eH, own_fr h.st hF (fun b hb => ?_), own_fr h.en hF (fun b hb => ?_), fun i hi => ?_⟩
  · rw [e1] at hb
    have : g1 = b := by simpa [Value.ownBlock] using hb
    subst this
    exact hn hC1 (by decide) (by decide) (by decide)
  · rw [e2] at hb
    have : g2 = b := by simpa [Value.ownBlock] using hb
    subst this
    exact hn hC2 (by decide) (by decide) (by decide)
  · obtain ⟨C, hC, hh⟩ := h.rows i hi
    exact PRw.fr ⟨C, hC, hh⟩ hF (hn hC (by decide) (by decide) (by decide))
end
/-- A disk is flushed under a log: its blocks stay. -/
theorem fl_b (B : Nat) (w v : World) (q r mm f m cap : Nat) (x : Lg) (d : St) (k : Nat) (h : LB B w v q r mm f m cap x d) (hwk : Wk d k) (hk : k ≤ 10000) (hon : d.off = false) (ha : d.armed = 0) :
    Calls Tryd.prog 29 #[.pointer (some ⟨r, 0, none⟩)] v fun e v' => e = .returned (.int .i64 0) ∧ ∃ mm' m' d', (mm' = mm ∨ v.heap.size ≤ mm') ∧ (m' = m ∨ v.heap.size ≤ m') ∧ Fr (fun k => fp r f m k ∨ lp q mm k) v v' ∧ LB B w v' q r mm' f m' cap x d' ∧ d'.at = d.at ∧ d'.waits = (fun _ => none) ∧ d'.off = false ∧ d'.armed = 0 ∧ Wk d' (k + 1) ∧ d'.n = d.n := by
  unfold Wk at hwk
  have hop : d.tick.op = (d.tick, 0) := by
    unfold St.op
    rw [if_pos (show d.tick.armed = 0 from ha)]
  have e : d.fl = (d.tick.all, 0) := by
    unfold St.fl
    rw [if_neg (by rw [hon]; simp), hop, if_pos rfl]
  have hc := fl_any v r f m cap d h.dl.k (by omega)
  rw [e] at hc
  refine hc.mono ?_
  rintro e v' ⟨rfl, hT⟩
  obtain ⟨mm', m', h1, h2, hD, hF⟩ := h.dl.turn hT rfl
  refine ⟨rfl, mm', m', _, h1, h2, hF, h.turn hD h1 h2 hF, ?_, rfl, hon, ha, ?_, rfl⟩
  · rw [at_flushed (d := d.tick.all) rfl]
    rfl
  · unfold Wk
    show d.writes ≤ _ ∧ d.flushes + 1 ≤ _
    omega
end Go.Proofs.YtndfhmlcfaaaiaaDoor
