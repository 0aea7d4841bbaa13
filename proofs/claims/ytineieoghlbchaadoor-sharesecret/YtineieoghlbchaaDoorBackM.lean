/- What follows: any k shares of a Split, or more, come to the secret. How many are needed. -/
import Derived.Test.YtineieoghlbchaaDoorTakenB
import Derived.Test.YtineieoghlbchaaDoorSplitAll
import Derived.Test.YtineieoghlbchaaDoorLagr
namespace Go.Proofs.YtineieoghlbchaaDoor
open Go.RowKit

/-- How many more are needed. -/
def nd (d : Nat) (k : Int) : Int := if k ≤ d then 0 else k - d

theorem need_any (ao : Option Addr) (n c : Nat) (k : Int) (L : List Sh) (w : World) (hs : Shs w ao n L) (hn : (n : Int) ≤ 140737488355328) (hk : k ≤ 9223372036854775807) :
    Calls Tryd.prog 22 #[.slice ao n c, .int .i64 k] w fun e w' => e = .returned (.int .i64 (nd (ded (L.map Sh.x)).length k)) ∧ Below w.heap.size w w' := by
  have hp := placesN_any ao n c L w hs hn
  have hd := ded_le (L.map Sh.x)
  rw [List.length_map, hs.len] at hd
  obtain ⟨d, ed⟩ : ∃ d, d = (ded (L.map Sh.x)).length := ⟨_, rfl⟩
  rw [← ed] at hp hd ⊢
  clear ed
  by_cases h : k ≤ d
  · have HN : Hid (nd d k = 0) := if_pos h
    go_enter Tryd.func22, Tryd.ntmps22
    go_wp2_with (go_at_call 39; refine hp.mono ?_; rintro e w1 ⟨rfl, hb⟩)
    go_ret
    exact ⟨by rw [HN.out]; rfl, hb⟩
  · have HN : Hid (nd d k = k - d) := if_neg h
    go_enter Tryd.func22, Tryd.ntmps22
    go_wp2_with (go_at_call 39; refine hp.mono ?_; rintro e w1 ⟨rfl, hb⟩)
    go_ret
    exact ⟨by rw [HN.out]; rfl, hb⟩

theorem Shs.take {w : World} {ao : Option Addr} {n q : Nat} {L : List Sh} (h : Shs w ao n L) (hq : q ≤ n) : Shs w ao q (L.take q) := by
  have hl := h.len
  refine ⟨by rw [List.length_take]; omega, fun e => by have := h.bare e; omega, fun ad had i s hi => ?_, fun ad had i s hi => ?_, fun s hs => h.ok s (List.mem_of_mem_take hs)⟩
  · rw [List.getElem?_take] at hi
    split at hi
    · exact h.cx ad had i s hi
    · cases hi
  · rw [List.getElem?_take] at hi
    split at hi
    · exact h.cy ad had i s hi
    · cases hi

/-- A list of shares of the call's own, of bytes that lie anywhere. -/
structure OwnL (B : Nat) (w : World) (v : Value) (n : Nat) (L : List Sh) : Prop where
  own : w.ownsRow B 44 2 v n (shv L)
  rows : ∀ s ∈ L, w.ownsRow 0 5 1 (.slice s.ao s.n s.c) s.n (u8s (s.ys.map v8))
section
variable {B n : Nat} {w w' : World} {v : Value} {L : List Sh}
theorem OwnL.nil (B : Nat) (w : World) : OwnL B w (.slice none 0 0) 0 [] := ⟨World.ownsRow_nil _ _ _ _, fun s hs => (by simp at hs)⟩
theorem OwnL.later (h : OwnL B w v n L) (hb : Below w.heap.size w w') : OwnL B w' v n L := ⟨own_below h.own hb, fun s hs => own_below (h.rows s hs) hb⟩
theorem OwnL.alloc (h : OwnL B w v n L) (o : Obj) : OwnL B (w.alloc o) v n L := ⟨h.own.alloc o, fun s hs => (h.rows s hs).alloc o⟩
theorem OwnL.len (h : OwnL B w v n L) : L.length = n := by have := h.own.1; rw [shv_length] at this; omega
theorem OwnL.shs (h : OwnL B w v n L) : ∃ ao c, v = .slice ao n c ∧ Shs w ao n L ∧ n ≤ c ∧ c ≤ maxLen := by
  have hok : ∀ s ∈ L, ShOk w s := fun s hs => by
    obtain ⟨ao, c, e, hsh, hc, hm, hb, _⟩ := own_shape (h.rows s hs) (v8s_rng _)
    cases e
    exact ⟨hsh, hb, hc, hm⟩
  rcases h.own.2 with ⟨rfl, rfl⟩ | ⟨g, cap, cur, rfl, hg, hh, hn, hm, hsz, ht⟩
  · exact ⟨none, 0, rfl, ⟨h.len, fun _ => rfl, fun ad e => (by cases e), fun ad e => (by cases e), hok⟩, Nat.le_refl _, Nat.zero_le _⟩
  · refine ⟨some ⟨g, 0, none⟩, cap, rfl, shs_of_cells h.len (fun i u hu => ?_) hok, hn, hm⟩
    have := h.own.cellAt i (by
      have h1 := (List.getElem?_eq_some_iff.1 hu).1
      rw [shv_length, h.len] at h1
      exact h1)
    rw [this, hu]
end

/-- 'append(l, s)', l a list of the call's own. -/
theorem law_pushL {w : World} {ops : Array Oper} {rest : List Oper} {o : Oper} {a : Act} {Q : Exit → Act → World → Prop} (hgd : o.guard = none) (s x : Operand)
    (ho : o.op = .call { callee := .builtin .append, args := #[s, x], argTypes := #[27, 27] }) (base : Nat) (v : Value) (n : Nat) (L : List Sh) (hv : a.eval s = v) (hown : OwnL base w v n L)
    (g : Nat) (t : Sh) (hx : a.eval x = .slice (some ⟨g, 0, none⟩) 1 1) (hc : w.heap[g]? = some (.cells #[.int .u8 (v8 t.x), .slice t.ao t.n t.c] 44 (0, 0))) (hrow : w.ownsRow 0 5 1 (.slice t.ao t.n t.c) t.n (u8s (t.ys.map v8))) (hbig : n ≤ 1000000) (hbase : base ≤ w.heap.size)
    (h : ∀ v' w', OwnL base w' v' (n + 1) (L ++ [t]) → Below base w w' → wpList Tryd.prog ops Q rest (a.put o.dst v') w') : wpList Tryd.prog ops Q (o :: rest) a w := by
  obtain ⟨i0, hi, hz0, hz1, hz2⟩ := info_parts Tryd.info44
  refine wpList_append_own w hgd s x 27 ho base 44 i0 _ 2 32 Tryd.underlying27 hi hz0 hz1 hz2 rfl (by decide) v n (shv L) hv hown.own ⟨g, 0, none⟩ 1 1 (shv [t]) hx rfl (World.news_of_block (cs := #[.int .u8 (v8 t.x), .slice t.ao t.n t.c]) hc) (shv_one' [t]) (by unfold maxLen; omega) (by omega) hbase ?_
  intro v' w' h1 h2 _
  have h3 : w'.ownsRow base 44 2 v' (n + 1) (shv (L ++ [t])) := by rw [shv_append]; exact h1
  refine h v' w' ⟨h3, fun u hu => ?_⟩ ((Below.refl _ w).grown h2 hbase (fun b hb => (hown.own.lt b hb).1))
  rcases List.mem_append.1 hu with hu | hu
  · exact (hown.rows u hu).kept h2 (type_ne (by decide) (hown.rows u hu) hown.own)
  · rw [List.mem_singleton] at hu
    subst hu
    exact hrow.kept h2 (type_ne (by decide) hrow hown.own)

/-- The shares at so many places. -/
def pick (G m : Nat) (Y : Nat → List B) (P : List Nat) : List Sh := P.map (shareAt G m Y)
theorem byte_inj {a b : Nat} (ha : a < 255) (hb : b < 255) (h : BitVec.ofNat 8 (a + 1) = BitVec.ofNat 8 (b + 1)) : a = b := by
  have := congrArg BitVec.toNat h
  rw [BitVec.toNat_ofNat, BitVec.toNat_ofNat, Nat.mod_eq_of_lt (by omega), Nat.mod_eq_of_lt (by omega)] at this
  omega
theorem byte_ne {a : Nat} (ha : a < 255) : BitVec.ofNat 8 (a + 1) ≠ 0#8 := by
  intro h
  have := congrArg BitVec.toNat h
  rw [BitVec.toNat_ofNat, Nat.mod_eq_of_lt (by omega)] at this
  simp at this
theorem pick_good (G m : Nat) (Y : Nat → List B) (P : List Nat) (hnd : P.Nodup) (hlt : ∀ p ∈ P, p < 16) : Good ((pick G m Y P).map Sh.x) := by
  have e : (pick G m Y P).map Sh.x = P.map (fun p => BitVec.ofNat 8 (p + 1)) := by
    unfold pick
    rw [List.map_map]
    rfl
  rw [e]
  constructor
  · unfold List.Nodup at *
    rw [List.pairwise_map]
    refine List.Pairwise.imp_of_mem ?_ hnd
    intro a b ha hb hne h
    exact hne (byte_inj (by have := hlt a ha; omega) (by have := hlt b hb; omega) h)
  · intro h
    obtain ⟨p, hp, e⟩ := List.mem_map.1 h
    exact byte_ne (by have := hlt p hp; omega) e
theorem pol_length (S D : List B) (k j m : Nat) (hk : 1 ≤ k) (hD : D.length = (k - 1) * m) (hj : j < m) : (pol S D k j).length = k := by
  unfold pol
  rw [List.length_cons, List.length_take, List.length_drop, hD]
  have := mul_bound k j m hj
  omega
theorem yRow_at (S D : List B) (k m i j : Nat) (hj : j < m) : (yRow S D k m i).getD j 0#8 = ev (pol S D k j) (BitVec.ofNat 8 (i + 1)) := by
  unfold yRow
  simp only [List.getD, List.getElem?_map, List.getElem?_range hj]
  rfl
/-- The theorem of this stage: enough shares tell the secret. -/
theorem back_at (S D : List B) (k m G j : Nat) (P : List Nat) (hk : 1 ≤ k) (hD : D.length = (k - 1) * m) (hj : j < m) (hnd : P.Nodup) (hlt : ∀ p ∈ P, p < 16) (hP : k ≤ P.length) :
    atJ (pick G m (yRow S D k m) P) j = S.getD j 0#8 := by
  unfold atJ
  have e : (pick G m (yRow S D k m) P).map (fun s => s.ys.getD j 0#8) = ((pick G m (yRow S D k m) P).map Sh.x).map (ev (pol S D k j)) := by
    unfold pick
    rw [List.map_map, List.map_map, List.map_map]
    apply List.map_congr_left
    intro p _
    exact yRow_at S D k m p j hj
  rw [e, atZ_AZ, AZ_ev _ _ (pick_good G m _ P hnd hlt) (by rw [List.length_map]; unfold pick; rw [List.length_map]; omega) (by rw [pol_length S D k j m hk hD hj, List.length_map]; unfold pick; rw [List.length_map]; exact hP)]
  rfl
theorem back_all (S D : List B) (k m G : Nat) (P : List Nat) (hk : 1 ≤ k) (hS : S.length = m) (hD : D.length = (k - 1) * m) (hnd : P.Nodup) (hlt : ∀ p ∈ P, p < 16) (hP : k ≤ P.length) :
    (List.range m).map (atJ (pick G m (yRow S D k m) P)) = S := by
  apply List.ext_getElem?
  intro j
  by_cases hj : j < m
  · rw [List.getElem?_map, List.getElem?_range hj]
    show some (atJ (pick G m (yRow S D k m) P) j) = _
    rw [back_at S D k m G j P hk hD hj hnd hlt hP]
    simp [List.getD, List.getElem?_eq_getElem (show j < S.length by omega)]
  · rw [List.getElem?_eq_none (by simp; omega), List.getElem?_eq_none (by omega)]
end Go.Proofs.YtineieoghlbchaaDoor
