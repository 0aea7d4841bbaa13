/- Rows of pages of the call's own; pages behind images. -/
import Derived.Test.YtndfhmlcfaaaiaaDoorImgs
namespace Go.Proofs.YtndfhmlcfaaaiaaDoor
open Go.RowKit

def flatP (n : Nat) (F : Nat → Pg) : List Value := (List.range n).flatMap fun i => pb (F i)
theorem flatP_succ (n : Nat) (F : Nat → Pg) : flatP (n + 1) F = flatP n F ++ pb (F n) := by simp [flatP, List.range_succ]
theorem flatP_length (n : Nat) (F : Nat → Pg) : (flatP n F).length = n * 480 := by
  induction n with
  | zero => rfl
  | succ n ih => rw [flatP_succ, List.length_append, ih, pb_length]; omega
theorem flatP_at (F : Nat → Pg) (i j : Nat) (hj : j < 480) : ∀ n, i < n → (flatP n F)[i * 480 + j]? = (pb (F i))[j]?
  | 0, h => by omega
  | n + 1, h => by
    rw [flatP_succ]
    by_cases hi : i = n
    · subst hi
      rw [List.getElem?_append_right (by rw [flatP_length]; omega), flatP_length]
      congr 1
      omega
    · rw [List.getElem?_append_left (by rw [flatP_length]; omega)]
      exact flatP_at F i j hj n (by omega)
theorem flatP_one (n : Nat) (F : Nat → Pg) : ∀ v ∈ flatP n F, v.oneCell' = true := by
  intro v hv
  obtain ⟨i, _, h⟩ := List.mem_flatMap.1 hv
  exact bys_one' _ v h
theorem flatP_congr {n : Nat} {F G : Nat → Pg} (h : ∀ i, i < n → F i = G i) : flatP n F = flatP n G := by
  induction n with
  | zero => rfl
  | succ n ih => rw [flatP_succ, flatP_succ, ih (fun i hi => h i (by omega)), h n (by omega)]

/-- In block f lie the sectors F 0 .. F (n - 1), one behind the other. -/
def PRw (w : World) (f n : Nat) (F : Nat → Pg) : Prop := ∃ C : Array Value, w.heap[f]? = some (.cells C 31 (0, 0)) ∧ ∀ i, i < n → ∀ j v, (pb (F i))[j]? = some v → C[i * 480 + j]? = some v
section
variable {w w' : World} {f n : Nat} {F : Nat → Pg}
theorem PRw.lt (h : PRw w f n F) : f < w.heap.size := by obtain ⟨C, hC, _⟩ := h; exact lt_of_block hC
theorem PRw.same (h : PRw w f n F) (he : w'.heap[f]? = w.heap[f]?) : PRw w' f n F := by obtain ⟨C, hC, h⟩ := h; exact ⟨C, he.trans hC, h⟩
theorem PRw.fr {X : Nat → Prop} (h : PRw w f n F) (hf : Fr X w w') (hn : ¬ X f) : PRw w' f n F := h.same (hf.block f h.lt hn)
theorem PRw.range (h : PRw w f n F) {i : Nat} (hi : i < n) : w.rangeAt f (i * 480) (pb (F i)) := by
  obtain ⟨C, hC, h⟩ := h
  intro j v hv
  rw [cell_of_row w f _ _ 31 _ hC]
  exact h i hi j v hv
theorem PRw.there (h : PRw w f n F) {i : Nat} (hi : i < n) : w.there f (i * 480) 480 := by
  have hr := h.range hi
  obtain ⟨C, hC, h⟩ := h
  intro j hj
  refine ⟨?_, frozen_of_row w f _ _ 31 hC⟩
  rw [hr j _ (List.getElem?_eq_getElem (by rw [pb_length]; exact hj))]
  rfl
theorem PRw.congr {G : Nat → Pg} (h : PRw w f n F) (e : ∀ i, i < n → F i = G i) : PRw w f n G := by
  obtain ⟨C, hC, h⟩ := h
  exact ⟨C, hC, fun i hi => by rw [← e i hi]; exact h i hi⟩
theorem PRw.ne {g : Nat} {t : TypeId} {vs : List Value} (h : PRw w f n F) (hb : Blk w g t vs) (ht : t ≠ 31) : f ≠ g := by
  obtain ⟨C, hC, _⟩ := h
  intro e
  subst e
  unfold Blk at hb
  rw [hC] at hb
  cases hb
  exact ht rfl
/-- A sector is put at number i. -/
theorem PRw.put (h : PRw w f n F) {i : Nat} (hi : i < n) (s : Pg) : PRw (w.setCells f (i * 480) (pb s)) f n (upd F i s) := by
  obtain ⟨C, hC, h⟩ := h
  have hsz : i * 480 + (pb s).length ≤ C.size := by
    have := h i hi 479 _ (List.getElem?_eq_getElem (by rw [pb_length]; omega))
    have := (Array.getElem?_eq_some_iff.1 this).1
    rw [pb_length]
    omega
  obtain ⟨C', a, _, c⟩ := heap_setCells f 31 (pb s) (i * 480) w C hC hsz
  refine ⟨C', a, fun k hk j v hv => ?_⟩
  have hj : j < 480 := by have := (List.getElem?_eq_some_iff.1 hv).1; rwa [pb_length] at this
  rw [c, pb_length]
  by_cases e : k = i
  · subst e
    rw [upd_same] at hv
    rw [if_pos (by omega), show k * 480 + j - k * 480 = j by omega]
    exact hv
  · rw [upd_ne _ _ _ _ e] at hv
    rw [if_neg (by omega)]
    exact h k hk j v hv
/-- What is owned as cells is a row. -/
theorem pr_of_flat {C : Array Value} (hC : w.heap[f]? = some (.cells C 31 (0, 0))) (ht : C.toList.take (n * 480) = flatP n F) : PRw w f n F := by
  refine ⟨C, hC, fun i hi j v hv => ?_⟩
  have hj : j < 480 := by have := (List.getElem?_eq_some_iff.1 hv).1; rwa [pb_length] at this
  have h1 := flatP_at F i j hj n hi
  rw [← ht, List.getElem?_take, if_pos (by omega), hv] at h1
  simpa using h1
end
theorem made_flatP (n : Nat) : (madeCells (pb zp).toArray (n * 480)).toList = flatP n (fun _ => zp) := by
  refine List.ext_getElem? fun k => ?_
  by_cases hk : k < n * 480
  · have e : k = (k / 480) * 480 + k % 480 := by omega
    have h1 := flatP_at (fun _ => zp) (k / 480) (k % 480) (by omega) n (by omega)
    rw [← e] at h1
    have hs : (pb zp).toArray.size = 480 := by rw [List.size_toArray, pb_length]
    have hlt : k % 480 < (pb zp).length := by rw [pb_length]; omega
    rw [h1, List.getElem?_eq_getElem hlt]
    unfold madeCells
    simp only [hs, Array.toList_map, Array.toList_range, List.getElem?_map]
    rw [List.getElem?_range hk]
    simp only [Option.map_some]
    rw [getElem!_pos _ _ (by rw [hs]; omega)]
    simp
  · rw [List.getElem?_eq_none (by rw [Array.length_toList, size_madeCells]; omega), List.getElem?_eq_none (by rw [flatP_length]; omega)]

/-- An image is put at number i of a row. -/
theorem put_pgr {w : World} {o : Oper} {a : Act} {K : Act → World → Prop} {Q : Exit → Act → World → Prop} (x y : Operand) (ho : o.op = .store 31 x y) (f n : Nat) (F : Nat → Pg) (hR : PRw w f n F) (i : Nat) (hi : i < n) (s : Pg)
    (hx : a.eval x = .pointer (some ⟨f, i * 480, none⟩)) (hy : a.eval y = .agg (pb s).toArray) (h : PRw (w.setCells f (i * 480) (pb s)) f n (upd F i s) → K (a.put o.dst undef) (w.setCells f (i * 480) (pb s))) : o.wp Tryd.prog a w K Q :=
  wp_store_mid 31 x y ho f (i * 480) (pb s).toArray hx hy (by rw [List.size_toArray, pb_length]; exact hR.there hi) (by rw [List.size_toArray, pb_length]; kernel_rfl) (by rw [List.all_toArray, List.all_eq_true]; exact fun u hu => bys_one' _ u hu) (h (hR.put hi s))


theorem PRw.cell {w : World} {f n : Nat} {F : Nat → Pg} (h : PRw w f n F) (j : Nat) (u : Value) (hu : (flatP n F)[j]? = some u) : w.cell? ⟨f, j, none⟩ = some u := by
  have hj : j < n * 480 := by have := (List.getElem?_eq_some_iff.1 hu).1; rwa [flatP_length] at this
  have e : j = (j / 480) * 480 + j % 480 := by omega
  have h1 := flatP_at F (j / 480) (j % 480) (by omega) n (by omega)
  rw [← e, hu] at h1
  have h2 := h.range (i := j / 480) (by omega) (j % 480) u h1.symm
  rwa [← e] at h2
section
variable {w : World} {ops : Array Oper} {rest : List Oper} {o : Oper} {a : Act} {Q : Exit → Act → World → Prop}
/-- 'append(nil, l...)', l a row of pages. -/
theorem copy_pages (hg : o.guard = none) (s x : Operand) (ho : o.op = .call { callee := .builtin .append, args := #[s, x], argTypes := #[52, 52] }) (base : Nat) (hv : a.eval s = .slice none 0 0)
    (g n cp : Nat) (F : Nat → Pg) (hx : a.eval x = .slice (some ⟨g, 0, none⟩) n cp) (hR : PRw w g n F) (h1 : 1 ≤ n) (hbig : n ≤ 100000) (hbase : base ≤ w.heap.size)
    (h : ∀ G c w', base ≤ G → PRw w' G n F → w.grownBy w' none → wpList Tryd.prog ops Q rest (a.put o.dst (.slice (some ⟨G, 0, none⟩) n c)) w') : wpList Tryd.prog ops Q (o :: rest) a w := by
  obtain ⟨i0, hi, hz0, hz1, hz2⟩ := info_parts info31
  refine wpList_append_own w hg s x 52 ho base 31 i0 (.agg (pb zp).toArray) 480 480 Tryd.underlying52 hi hz0 hz1 hz2 (by show (pb zp).toArray.size = 480; rw [List.size_toArray, pb_length]) (by decide) (.slice none 0 0) 0 [] hv (World.ownsRow_nil _ _ _ _) ⟨g, 0, none⟩ n cp (flatP n F) hx (by rw [flatP_length]) (fun j u hj => by rw [add_zero_block]; exact hR.cell j u hj) (flatP_one n F) (by unfold maxLen; omega) (by omega) hbase ?_
  intro v' w' h2 h3 _
  rw [Nat.zero_add, List.nil_append] at h2
  obtain ⟨hl, ⟨_, h0⟩ | ⟨G, c, C, rfl, hG, hC, _, _, _, ht⟩⟩ := h2
  · omega
  · exact h G c w' hG (pr_of_flat hC ht) h3
end
theorem ImR.num {v : World} {g : Nat} {l : List (Int × Pg)} (h : ImR v g l) {k : Nat} {x : Int × Pg} (hk : l[k]? = some x) : v.cell? ⟨g, k * 481, none⟩ = some (.int .i64 x.1) := by
  have := h.range hk 0 (.int .i64 x.1) rfl
  simpa using this
theorem ImR.page {v : World} {g : Nat} {l : List (Int × Pg)} (h : ImR v g l) {k : Nat} {x : Int × Pg} (hk : l[k]? = some x) : v.rangeAt g (k * 481 + 1) (pb x.2) := by
  intro j u hu
  have := h.range hk (1 + j) u (by rw [Nat.add_comm]; exact hu)
  rwa [show k * 481 + 1 + j = k * 481 + (1 + j) by omega]
structure OV (v : World) (B : Nat) (w : World) (G H : Nat) (F : Nat → Pg) (ao : Option Addr) (W : List Im) : Prop where
  r : PRw v G H F
  i : Ims v ao (toI W)
  k : Below B w v
section
variable {v v' : World} {B : Nat} {w : World} {G H : Nat} {F : Nat → Pg} {ao : Option Addr} {W : List Im}
theorem OV.drew (h : OV v B w G H F ao W) : OV v.drew B w G H F ao W := ⟨h.r.same rfl, h.i.next (below_drw v), ⟨h.k.os, h.k.tape, h.k.output, h.k.size, h.k.block⟩⟩
theorem OV.put (h : OV v B w G H F ao W) (hG : w.heap.size ≤ G ∧ B = w.heap.size ∧ ∀ g, ao = some ⟨g, 0, none⟩ → g < G) (n : Nat) (p : Pg) (hR : PRw (v.setCells G (n * 480) (pb p)) G H (upd F n p)) : OV (v.setCells G (n * 480) (pb p)) B w G H (upd F n p) ao W := by
  have hf := Fr.setCells G (n * 480) (pb p) (Fr.refl (fun j => j = G) v) (.inl rfl)
  obtain ⟨h1, h2, h3⟩ := hG
  refine ⟨hR, h.i.fr hf (fun g hg e => by have := h3 g hg; omega), h.k.trans (hf.below (fun j e => by omega) (by have := h.k.size; omega))⟩
end
theorem on1_take {pg : Nat → Pg} {W : List Im} {k : Nat} {x : Im} (h : W[k]? = some x) : on1 pg (W.take (k + 1)) = upd (on1 pg (W.take k)) x.1 x.2 := by
  rw [List.take_add_one, h]
  simp [on1]
set_option maxRecDepth 100000 in
set_option maxHeartbeats 800000 in
theorem over8_any (w : World) (g H cp : Nat) (F : Nat → Pg) (ao : Option Addr) (c : Nat) (W : List Im) (hR : PRw w g H F) (h1 : 1 ≤ H) (hH : H ≤ 100000) (hI : Ims w ao (toI W)) (hW : W.length ≤ 1000) (hlt : ∀ y ∈ W, y.1 < H) :
    Calls Tryd.prog 20 #[.slice (some ⟨g, 0, none⟩) H cp, .slice ao W.length c] w fun e w' => ∃ G c', e = .returned (.slice (some ⟨G, 0, none⟩) H c') ∧ w.heap.size ≤ G ∧ PRw w' G H (on1 F W) ∧ Below w.heap.size w w' := by
  obtain ⟨B, hB⟩ : ∃ B, B = w.heap.size := ⟨_, rfl⟩
  have hBw : B ≤ w.heap.size := by omega
  rw [← hB]
  have HB : Hid (B = w.heap.size) := hB
  clear hB
  go_enter Tryd.func20, Tryd.ntmps20
  go_wp2_with (at_builtin; refine copy_pages rfl _ _ rfl B rfl g H cp F rfl hR h1 hH hBw ?_; intro G c1 w1 hG hR1 hg1)
  have hb1 : Below B w w1 := (Below.refl B w).grown hg1 hBw (by intro k hk; cases hk)
  have hI1 : Ims w1 ao (toI W) := hI.next (by rw [← HB.out]; exact hb1)
  have hBe := HB.out
  have hIlt : ∀ j, ao = some ⟨j, 0, none⟩ → j < G := by
    intro j hj
    rcases hI with ⟨h0, _⟩ | ⟨j2, he, hi2⟩
    · rw [h0] at hj; cases hj
    · rw [he] at hj
      cases hj
      have := hi2.lt
      omega
  have hGw : w.heap.size ≤ G ∧ B = w.heap.size ∧ ∀ j, ao = some ⟨j, 0, none⟩ → j < G := ⟨by omega, HB.out, hIlt⟩
  have hS1 : OV w1 B w G H (on1 F (W.take 0)) ao W := ⟨hR1, hI1, hb1⟩
  have HGw : Hid (w.heap.size ≤ G) := hGw.1
  clear hR hI hR1 hI1 hb1 hg1 hIlt hBe
  go_loopw [6] (fun i wr => ∃ k : Nat, k ≤ W.length ∧ i = .int .i64 (k : Int) ∧ OV wr B w G H (on1 F (W.take k)) ao W) (fun i _ => W.length - (intOf i).toNat)
  case atStart => exact ⟨0, by omega, rfl, hS1⟩
  case round =>
    obtain ⟨k, hk, rfl, hS⟩ := hrel
    clear hS1
    by_cases hlt2 : k < W.length
    · have hkI : (k : Int) < (W.length : Int) := by omega
      obtain ⟨x, hx⟩ : ∃ x, W[k]? = some x := ⟨_, List.getElem?_eq_getElem hlt2⟩
      have hxH := hlt x (List.mem_of_getElem? hx)
      obtain ⟨gi, rfl, hgi⟩ := hS.i.at (toI_at hx)
      have HT : Hid (upd (on1 F (W.take k)) x.1 x.2 = on1 F (W.take (k + 1))) := (on1_take hx).symm
      have hImR : ∀ v Fk, OV v B w G H Fk (some ⟨gi, 0, none⟩) W → ImR v gi (toI W) := fun v Fk h => by
        rcases h.i with ⟨h0, _⟩ | ⟨j2, he, hi2⟩
        · cases h0
        · cases he; exact hi2
      obtain ⟨Fk, hFk⟩ : ∃ Fk, Fk = on1 F (W.take k) := ⟨_, rfl⟩
      rw [← hFk] at hS HT
      clear hFk
      have CW : Hid (∀ v, OV v B w G H Fk (some ⟨gi, 0, none⟩) W → v.cell? ⟨gi, k * 481, none⟩ = some (.int .i64 (x.1 : Int))) := fun v h => (hImR v Fk h).num (toI_at hx)
      have CP : Hid (∀ v, OV v B w G H Fk (some ⟨gi, 0, none⟩) W → v.rangeAt gi (k * 481 + 1) (pb x.2)) := fun v h => (hImR v Fk h).page (toI_at hx)
      obtain ⟨yn, hyn⟩ : ∃ yn, yn = x.1 := ⟨_, rfl⟩
      obtain ⟨yp, hyp⟩ : ∃ yp, yp = x.2 := ⟨_, rfl⟩
      rw [← hyn] at CW HT hxH
      rw [← hyp] at CP HT
      have hyH : yn < H := hxH
      have hyI : (yn : Int) < (H : Int) := by omega
      have hyI0 : (0 : Int) ≤ (yn : Int) := by omega
      clear hyn hyp hx hxH hgi hImR
      obtain ⟨ao, hao⟩ : ∃ ao, ao = (some ⟨gi, 0, none⟩ : Option Addr) := ⟨_, rfl⟩
      clear hao ao
      go_upto_region 6 with fail
      have hS0 := hS.drew
      clear hS
      refine wp_region_to (fun v => OV v B w G H Fk (some ⟨gi, 0, none⟩) W) 12 (by kernel_rfl) ?_
      refine wpTo_take (i := 0) (v := ?v0z1) (show _ = some _ by simp only [List.getElem?_toArray, List.getElem?_cons_zero]; exact rfl) (by kernel_rfl) (by kernel_rfl) (by kernel_rfl) (by kernel_rfl) (by exact fun _ _ _ h => h) (Or.inl ⟨by rfl, ?hy0z1⟩) hS0 ?r0z1
      case hy0z1 => (intro w hSw; (try dsimp only at hSw); go_simp; try with_reducible rfl)
      (try simp only [Act.put]); (try simp only [List.setIfInBounds_toArray]); (repeat (first | simp only [List.set_cons_succ] | simp only [List.set_cons_zero]))
      refine wpTo_take (i := 1) (v := ?v1z2) (show _ = some _ by simp only [List.getElem?_toArray, List.getElem?_cons_succ, List.getElem?_cons_zero]; exact rfl) (by kernel_rfl) (by kernel_rfl) (by kernel_rfl) (by kernel_rfl) (by exact fun _ _ _ h => h) (Or.inl ⟨by rfl, ?hy1z2⟩) hS0 ?r1z2
      case hy1z2 => (intro w hSw; (try dsimp only at hSw); go_simp; try with_reducible rfl)
      (try simp only [Act.put]); (try simp only [List.setIfInBounds_toArray]); (repeat (first | simp only [List.set_cons_succ] | simp only [List.set_cons_zero]))
      refine wpTo_take (i := 2) (v := ?v2z3) (show _ = some _ by simp only [List.getElem?_toArray, List.getElem?_cons_succ, List.getElem?_cons_zero]; exact rfl) (by kernel_rfl) (by kernel_rfl) (by kernel_rfl) (by kernel_rfl) (by exact fun _ _ _ h => h) (Or.inl ⟨by rfl, ?hy2z3⟩) hS0 ?r2z3
      case hy2z3 => (intro w hSw; (try dsimp only at hSw); go_simp; try with_reducible rfl)
      (try simp only [Act.put]); (try simp only [List.setIfInBounds_toArray]); (repeat (first | simp only [List.set_cons_succ] | simp only [List.set_cons_zero]))
      refine wpTo_take (i := 6) (v := ?v6z4) (show _ = some _ by simp only [List.getElem?_toArray, List.getElem?_cons_succ, List.getElem?_cons_zero]; exact rfl) (by kernel_rfl) (by kernel_rfl) (by kernel_rfl) (by kernel_rfl) (by exact fun _ _ _ h => h) (Or.inl ⟨by rfl, ?hy6z4⟩) hS0 ?r6z4
      case hy6z4 => (intro w hSw; (try dsimp only at hSw); go_simp; try with_reducible rfl)
      (try simp only [Act.put]); (try simp only [List.setIfInBounds_toArray]); (repeat (first | simp only [List.set_cons_succ] | simp only [List.set_cons_zero]))
      refine wpTo_take (i := 7) (v := ?v7z5) (show _ = some _ by simp only [List.getElem?_toArray, List.getElem?_cons_succ, List.getElem?_cons_zero]; exact rfl) (by kernel_rfl) (by kernel_rfl) (by kernel_rfl) (by kernel_rfl) (by exact fun _ _ _ h => h) (Or.inl ⟨by rfl, ?hy7z5⟩) hS0 ?r7z5
      case hy7z5 => (intro w hSw; (try dsimp only at hSw); go_simp; try with_reducible rfl)
      (try simp only [Act.put]); (try simp only [List.setIfInBounds_toArray]); (repeat (first | simp only [List.set_cons_succ] | simp only [List.set_cons_zero]))
      refine wpTo_take (i := 3) (v := ?v3z6) (show _ = some _ by simp only [List.getElem?_toArray, List.getElem?_cons_succ, List.getElem?_cons_zero]; exact rfl) (by kernel_rfl) (by kernel_rfl) (by kernel_rfl) (by kernel_rfl) (by exact fun _ _ _ h => h) (Or.inl ⟨by rfl, ?hy3z6⟩) hS0 ?r3z6
      case hy3z6 => (intro w hSw; (try dsimp only at hSw); go_simp; try with_reducible rfl)
      (try simp only [Act.put]); (try simp only [List.setIfInBounds_toArray]); (repeat (first | simp only [List.set_cons_succ] | simp only [List.set_cons_zero]))
      refine wpTo_take (i := 4) (v := ?v4z7) (show _ = some _ by simp only [List.getElem?_toArray, List.getElem?_cons_succ, List.getElem?_cons_zero]; exact rfl) (by kernel_rfl) (by kernel_rfl) (by kernel_rfl) (by kernel_rfl) (by exact fun _ _ _ h => h) (Or.inl ⟨by rfl, ?hy4z7⟩) hS0 ?r4z7
      case hy4z7 => (intro w hSw; (try dsimp only at hSw); go_simp; try with_reducible rfl)
      (try simp only [Act.put]); (try simp only [List.setIfInBounds_toArray]); (repeat (first | simp only [List.set_cons_succ] | simp only [List.set_cons_zero]))
      refine wpTo_take (i := 5) (v := ?v5z8) (show _ = some _ by simp only [List.getElem?_toArray, List.getElem?_cons_succ, List.getElem?_cons_zero]; exact rfl) (by kernel_rfl) (by kernel_rfl) (by kernel_rfl) (by kernel_rfl) (by exact fun _ _ _ h => h) (Or.inl ⟨by rfl, ?hy5z8⟩) hS0 ?r5z8
      case hy5z8 => (intro w hSw; (try dsimp only at hSw); have hc5 := CW.out _ hSw; go_simp; try with_reducible rfl)
      (try simp only [Act.put]); (try simp only [List.setIfInBounds_toArray]); (repeat (first | simp only [List.set_cons_succ] | simp only [List.set_cons_zero]))
      refine wpTo_take (i := 8) (v := ?v8z9) (show _ = some _ by simp only [List.getElem?_toArray, List.getElem?_cons_succ, List.getElem?_cons_zero]; exact rfl) (by kernel_rfl) (by kernel_rfl) (by kernel_rfl) (by kernel_rfl) (by exact fun _ _ _ h => h) (Or.inl ⟨by rfl, ?hy8z9⟩) hS0 ?r8z9
      case hy8z9 => (intro w hSw; (try dsimp only at hSw); go_simp; try with_reducible rfl)
      (try simp only [Act.put]); (try simp only [List.setIfInBounds_toArray]); (repeat (first | simp only [List.set_cons_succ] | simp only [List.set_cons_zero]))
      refine wpTo_take (i := 9) (v := ?v9z10) (show _ = some _ by simp only [List.getElem?_toArray, List.getElem?_cons_succ, List.getElem?_cons_zero]; exact rfl) (by kernel_rfl) (by kernel_rfl) (by kernel_rfl) (by kernel_rfl) (by exact fun _ _ _ h => h) (Or.inl ⟨by rfl, ?hy9z10⟩) hS0 ?r9z10
      case hy9z10 => (intro w hSw; (try dsimp only at hSw); go_simp; try with_reducible rfl)
      (try simp only [Act.put]); (try simp only [List.setIfInBounds_toArray]); (repeat (first | simp only [List.set_cons_succ] | simp only [List.set_cons_zero]))
      refine wpTo_take (i := 10) (show _ = some _ by simp only [List.getElem?_toArray, List.getElem?_cons_succ, List.getElem?_cons_zero]; exact rfl) (by kernel_rfl) (by kernel_rfl) (by kernel_rfl) (by kernel_rfl) (by exact fun _ _ _ h => h) (yieldsIf_load_mid (by rfl) 31 (.tmp 25) rfl gi (k * 481 + 1) rfl (pb yp) _ (fun v h => CP.out _ h) Tryd.underlying31 rfl (by rw [pb_length]; kernel_rfl)) hS0 ?_
      (try simp only [Act.put]); (try simp only [List.setIfInBounds_toArray]); (repeat (first | simp only [List.set_cons_succ] | simp only [List.set_cons_zero]))
      refine wpTo_take (i := 11) (v := ?v11z11) (show _ = some _ by simp only [List.getElem?_toArray, List.getElem?_cons_succ, List.getElem?_cons_zero]; exact rfl) (by kernel_rfl) (by kernel_rfl) (by kernel_rfl) (by kernel_rfl) (by exact fun _ _ _ h => h) (Or.inl ⟨by rfl, ?hy11z11⟩) hS0 ?r11z11
      case hy11z11 => (intro w hSw; (try dsimp only at hSw); go_simp; try with_reducible rfl)
      (try simp only [Act.put]); (try simp only [List.setIfInBounds_toArray]); (repeat (first | simp only [List.set_cons_succ] | simp only [List.set_cons_zero]))
      refine wpTo_last (by kernel_rfl) (show _ = some _ by simp only [List.getElem?_toArray, List.getElem?_cons_succ, List.getElem?_cons_zero]; exact rfl) (by kernel_rfl) (fun K hK => ?_)
      rw [if_pos (by rfl)]
      refine put_pgr _ _ rfl G H Fk hS0.r yn hyH yp rfl rfl (fun hR2 => ?_)
      have hS1 := hS0.put hGw yn yp hR2
      refine hK.out _ _ ?_
      clear hK K
      (try simp only [Act.put]); (try simp only [List.setIfInBounds_toArray]); (repeat (first | simp only [List.set_cons_succ] | simp only [List.set_cons_zero]))
      rw [HT.out] at hS1
      go_wp2_with fail
      exact ⟨⟨k + 1, by omega, by go_num, hS1⟩, by simp only [intOf]; omega⟩
    · have hkI : ¬ (k : Int) < (W.length : Int) := by omega
      have ek : W.take k = W := List.take_of_length_le (by omega)
      rw [ek] at hS
      clear ek
      go_wp2_with fail
      go_ret
      refine ⟨G, ⟨_, rfl⟩, HGw.out, hS.r, ?_⟩
      rw [← HB.out]
      exact hS.k
end Go.Proofs.YtndfhmlcfaaaiaaDoor
