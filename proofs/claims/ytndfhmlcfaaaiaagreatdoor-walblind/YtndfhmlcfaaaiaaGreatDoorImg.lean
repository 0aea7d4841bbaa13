/- Images, and whether their pages may be named. -/
import Derived.Test.YtndfhmlcfaaaiaaGreatDoorCkp2
namespace Go.Proofs.YtndfhmlcfaaaiaaGreatDoor
open Go.RowKit

/-- An image as cells: which page, and what. -/
def ic (x : Int × Pg) : List Value := .int .i64 x.1 :: pb x.2
theorem ic_length (x : Int × Pg) : (ic x).length = 481 := by simp [ic, bys_length, x.2.h]
theorem ic_one (x : Int × Pg) : ∀ u ∈ ic x, u.oneCell' = true := by
  intro u hu
  rcases List.mem_cons.1 hu with rfl | hu
  · rfl
  · exact bys_one' _ u hu
theorem ic_one' (x : Int × Pg) : (ic x).toArray.all (·.oneCell') = true := by
  rw [List.all_toArray, List.all_eq_true]
  exact ic_one x
theorem zero74 (w : World) : (zeroValue 82).run Tryz.prog w = .ok (.agg (ic (0, zp)).toArray) w := by
  unfold ic pb zp
  kernel_rfl
/-- In v the images lie one behind the other in block g. -/
def ImR (v : World) (g : Nat) (l : List (Int × Pg)) : Prop := ∃ C : Array Value, v.heap[g]? = some (.cells C 82 (0, 0)) ∧ ∀ (k : Nat) x, l[k]? = some x → ∀ (j : Nat) u, (ic x)[j]? = some u → C[k * 481 + j]? = some u
/-- How a list of images is handed in. -/
def Ims (v : World) (ao : Option Addr) (l : List (Int × Pg)) : Prop := (ao = none ∧ l = []) ∨ ∃ g, ao = some ⟨g, 0, none⟩ ∧ ImR v g l
theorem ImR.lt {v : World} {g : Nat} {l : List (Int × Pg)} (h : ImR v g l) : g < v.heap.size := by obtain ⟨C, hC, _⟩ := h; exact lt_of_block hC
theorem ImR.same {v v' : World} {g : Nat} {l : List (Int × Pg)} (h : ImR v g l) (he : v'.heap[g]? = v.heap[g]?) : ImR v' g l := by obtain ⟨C, hC, h⟩ := h; exact ⟨C, he.trans hC, h⟩
theorem ImR.next {v v' : World} {g : Nat} {l : List (Int × Pg)} (h : ImR v g l) (hb : Below v.heap.size v v') : ImR v' g l := h.same (hb.block g h.lt)
theorem ImR.range {v : World} {g : Nat} {l : List (Int × Pg)} (h : ImR v g l) {k : Nat} {x : Int × Pg} (hk : l[k]? = some x) : v.rangeAt g (k * 481) (ic x) := by
  obtain ⟨C, hC, h⟩ := h
  intro j u hu
  rw [cell_of_row v g _ _ 82 _ hC]
  exact h k x hk j u hu
theorem Ims.next {v v' : World} {ao : Option Addr} {l : List (Int × Pg)} (h : Ims v ao l) (hb : Below v.heap.size v v') : Ims v' ao l :=
  h.imp id (fun ⟨g, he, hi⟩ => ⟨g, he, hi.next hb⟩)
theorem Ims.fr {X : Nat → Prop} {v v' : World} {ao : Option Addr} {l : List (Int × Pg)} (h : Ims v ao l) (hf : Fr X v v') (hX : ∀ g, ao = some ⟨g, 0, none⟩ → ¬ X g) : Ims v' ao l :=
  h.imp id (fun ⟨g, he, hi⟩ => ⟨g, he, hi.same (hf.block g hi.lt (hX g he))⟩)
theorem Ims.at {v : World} {ao : Option Addr} {l : List (Int × Pg)} (h : Ims v ao l) {k : Nat} {x : Int × Pg} (hk : l[k]? = some x) : ∃ g, ao = some ⟨g, 0, none⟩ ∧ ImR v g l := by
  rcases h with ⟨_, rfl⟩ | h
  · simp at hk
  · exact h
section
variable {w : World} {ops : Array Oper} {rest : List Oper} {o : Oper} {a : Act} {Q : Exit → Act → World → Prop}
/-- A whole image is stored into a block of its own. -/
theorem store_im (hgd : o.guard = none) (x y : Operand) (ho : o.op = .store 82 x y) (g : Nat) (s0 s : Int × Pg) (hA : Blk w g 82 (ic s0)) (hx : a.eval x = .pointer (some ⟨g, 0, none⟩)) (hy : a.eval y = .agg (ic s).toArray)
    (h : Blk (w.setRow g (ic s).toArray) g 82 (ic s) → wpList Tryz.prog ops Q rest (a.put o.dst undef) (w.setRow g (ic s).toArray)) : wpList Tryz.prog ops Q (o :: rest) a w :=
  wpList_store_row hgd 82 x y ho g (ic s).toArray hx hy 82 (ic s0).toArray hA (by rw [List.size_toArray, ic_length]; kernel_rfl) (by simp [ic_length]) (ic_one' _)
    (h (setRow_heap w g _ _ 82 _ hA))
/-- 'at[z] = i'. -/
theorem put_at (hgd : o.guard = none) (m x y : Operand) (hop : o.op = Op.mapUpdate 142 m x y) (b n : Nat) (D : DataW Unit) (hown : w.ownsMap Tryz.prog 3 (plainElem Tryz.prog 3) b n D) (hn : n < maxLen)
    (hm : a.eval m = .map (some b)) (z : Int) (hz : (Lit.int .i64 z).wf = true) (hx : a.eval x = .int .i64 z) (c : Int) (hc : (Lit.int .i64 c).wf = true) (hy : a.eval y = .int .i64 c)
    (h : ∀ w', w'.ownsMap Tryz.prog 3 (plainElem Tryz.prog 3) b (n + 1) (D.put (.int .i64 z) (.lit (.int .i64 c))) → w.grownBy w' (some b) → wpList Tryz.prog ops Q rest (a.put o.dst undef) w') : wpList Tryz.prog ops Q (o :: rest) a w := by
  obtain ⟨w', hrun, r1, r2⟩ := hown.update law3 Tryz.underlying142 hn (kl := .int .i64 z) (Maps.keyOf_int_mk Tryz.underlying3 hz) (plainElem_int Tryz.underlying3 hc)
  refine wpList_plain hgd fun K hK => ?_
  unfold Oper.wp
  simp only [execOp, hop, hm, hx, hy]
  simp [hrun, Result.andThen]
  exact hK _ _ (h w' r1 r2)
end
theorem zero3 (w : World) : (zeroValue 3).run Tryz.prog w = .ok (.int .i64 0) w := by kernel_rfl
/-- The pages of images. -/
def pgs (l : List (Int × Pg)) : List Int := l.map (·.1)
def okP (H : Nat) (l : List (Int × Pg)) : Prop := (∀ z ∈ pgs l, 0 ≤ z ∧ z < H) ∧ (pgs l).Nodup
instance (H : Nat) (l : List (Int × Pg)) : Decidable (okP H l) := by unfold okP; exact inferInstance
theorem pgs_take {l : List (Int × Pg)} {k : Nat} {x : Int × Pg} (h : l[k]? = some x) : pgs (l.take (k + 1)) = pgs (l.take k) ++ [x.1] := by
  unfold pgs
  rw [List.take_add_one, h]
  simp
theorem okP_no {H : Nat} {l : List (Int × Pg)} {k : Nat} {x : Int × Pg} (h : l[k]? = some x) (hb : x.1 ∈ pgs (l.take k) ∨ ¬ (0 ≤ x.1 ∧ x.1 < H)) : ¬ okP H l := by
  intro ho
  rcases hb with hb | hb
  · have h1 := ho.2
    have e : l = l.take (k + 1) ++ l.drop (k + 1) := (List.take_append_drop _ _).symm
    have e2 : pgs l = pgs (l.take k) ++ [x.1] ++ pgs (l.drop (k + 1)) := by
      rw [← pgs_take h]
      unfold pgs
      rw [← List.map_append, List.take_append_drop]
    rw [e2] at h1
    have h3 := (List.nodup_append.1 h1).1
    have h4 := (List.nodup_append.1 h3).2.2
    exact h4 x.1 hb x.1 (by simp) rfl
  · exact hb (ho.1 x.1 (List.mem_map.2 ⟨x, List.mem_of_getElem? h, rfl⟩))
set_option maxRecDepth 100000 in
set_option maxHeartbeats 8000000 in
theorem names_any (w : World) (L H : Nat) (ao : Option Addr) (cp : Nat) (l : List (Int × Pg)) (h : Ims w ao l) (hl : l.length ≤ 100000) (hwf : ∀ x ∈ l, (Lit.int .i64 x.1).wf = true) :
    Calls Tryz.prog 50 #[.agg (ly L H).toArray, .slice ao l.length cp] w fun e w' => e = .returned (.bool (decide (okP H l))) ∧ Below w.heap.size w w' := by
  have hmm := @run_makeMap Tryz.prog
  have hz74 := zero74
  have hly := (Blk.new w 102 (ly L H)).alloc (.map #[] 0)
  obtain ⟨E0, hE0⟩ : ∃ E0, E0 = w.heap.size := ⟨_, rfl⟩
  have kk := ((Below.refl w.heap.size w).alloc (Nat.le_refl _) (.cells (ly L H).toArray 102)).alloc (by simp) (.map #[] 0)
  have hmap := World.ownsMap_made (w.alloc (.cells (ly L H).toArray 102)) Tryz.prog 3 (plainElem (H := Unit) Tryz.prog 3)
  rw [World.size_alloc] at hmap
  have hI1 := h.next kk
  rw [← hE0] at hly hmap
  obtain ⟨w0, hw0⟩ : ∃ w0, w0 = (w.alloc (.cells (ly L H).toArray 102)).alloc (.map #[] 0) := ⟨_, rfl⟩
  rw [← hw0] at hly hmap hI1 kk
  have hsz : w0.heap.size = E0 + 2 := by rw [hw0, World.size_alloc, World.size_alloc, hE0]
  obtain ⟨R, hR⟩ : ∃ R, R = decide (okP H l) := ⟨_, rfl⟩
  rw [← hR]
  have HR : Hid (R = decide (okP H l)) := hR
  clear hR
  go_enter Tryz.func50, Tryz.ntmps50
  go_wp2_with fail
  rw [← hE0, ← hw0]
  have HB : Hid (E0 = w.heap.size) := hE0
  clear hw0 hE0
  go_loopw [13] (fun i wr => ∃ (k : Nat) (D : DataW Unit), k ≤ l.length ∧ i = .int .i64 (k : Int) ∧ Below E0 w0 wr ∧ E0 + 2 ≤ wr.heap.size ∧ Blk wr E0 102 (ly L H) ∧ Ims wr ao l ∧ wr.ownsMap Tryz.prog 3 (plainElem Tryz.prog 3) (E0 + 1) k D ∧ Maps.IsMap D ∧ (∀ z, Maps.has D (.int .i64 z) = decide (z ∈ pgs (l.take k))) ∧ (∀ z ∈ pgs (l.take k), 0 ≤ z ∧ z < H) ∧ (pgs (l.take k)).Nodup) (fun i _ => l.length - (intOf i).toNat)
  case atStart => exact ⟨0, .map [], by omega, rfl, Below.refl _ _, by omega, hly, hI1, hmap, Maps.isMap_empty, fun z => by simp [pgs, Maps.has_eq], fun z hz => by simp [pgs] at hz, by simp [pgs]⟩
  case round =>
    obtain ⟨k, D, hk, rfl, hb, hbs, hE, hI, hM, hD, hhas, hin, hnd⟩ := hrel
    clear hI1 hmap hly
    by_cases hlt : k < l.length
    · have hkI : (k : Int) < (l.length : Int) := by omega
      obtain ⟨x, hx⟩ : ∃ x, l[k]? = some x := ⟨_, List.getElem?_eq_getElem hlt⟩
      obtain ⟨g, rfl, hg⟩ := hI.at hx
      have hrg := hg.range hx
      have hwx := hwf x (List.mem_of_getElem? hx)
      have hN := Blk.new wr 82 (ic (0, zp))
      obtain ⟨z, hzx⟩ : ∃ z, z = x.1 := ⟨_, rfl⟩
      have hmem := hhas z
      rw [← hzx] at hwx
      have hpt := pgs_take hx
      rw [← hzx] at hpt
      have hno := fun hb => okP_no (H := H) hx hb
      rw [← hzx] at hno
      have hX : ∀ U : World, Blk U wr.heap.size 82 (ic x) → U.cell? ⟨wr.heap.size, 0, none⟩ = some (.int .i64 z) := fun U hU => by rw [hzx]; exact hU.cell 0 _ rfl
      have HNO : Hid (z ∈ pgs (l.take k) ∨ ¬ (0 ≤ z ∧ z < H) → ¬ okP H l) := hno
      have HPT : Hid (pgs (l.take (k + 1)) = pgs (l.take k) ++ [z]) := hpt
      clear hno hpt hzx
      have hst := (Fr.refl (fun j => j = wr.heap.size) (wr.alloc (.cells (ic (0, zp)).toArray 82))).setRow wr.heap.size (ic x).toArray (.inl rfl)
      have kA := (Below.refl wr.heap.size wr).alloc (Nat.le_refl _) (.cells (ic (0, zp)).toArray 82)
      have kU : Below wr.heap.size wr ((wr.alloc (.cells (ic (0, zp)).toArray 82)).setRow wr.heap.size (ic x).toArray) := kA.trans (hst.below (fun j e => by omega) kA.size)
      obtain ⟨U, hU⟩ : ∃ U, U = ((wr.alloc (.cells (ic (0, zp)).toArray 82)).setRow wr.heap.size (ic x).toArray) := ⟨_, rfl⟩
      rw [← hU] at kU
      have HU : Hid (U = ((wr.alloc (.cells (ic (0, zp)).toArray 82)).setRow wr.heap.size (ic x).toArray)) := hU
      have hEU := hE.next kU
      have e0 := hEU.cell 0 _ rfl
      have e1 := hEU.cell 1 _ rfl
      have hMU := hM.kept (grown_of_below kU) (by simp)
      have hbU := hb.trans (kU.mono (by omega))
      have hcU := hX U
      have HX : Hid (∀ U : World, Blk U wr.heap.size 82 (ic x) → U.cell? ⟨wr.heap.size, 0, none⟩ = some (.int .i64 z)) := hX
      have hkey := Maps.keyOf_int_mk Tryz.underlying3 hwx
      have hhas1 := has_any L H z U
      have HHS : Hid (∀ y, Maps.has D (.int .i64 y) = decide (y ∈ pgs (l.take k))) := hhas
      clear hU hst kA hX hhas
      by_cases hseen : z ∈ pgs (l.take k)
      · have hn := HNO.out (.inl hseen)
        rw [decide_eq_true hseen] at hmem
        have hres : R = false := by rw [HR.out, decide_eq_false hn]
        clear hseen hn hin hnd
        go_wp2_with (first
          | (refine wpList_load_mid rfl 82 _ rfl g (k * 481) rfl (ic x) _ hrg Tryz.underlying82 rfl (by rw [ic_length]; kernel_rfl) ?_)
          | (refine store_im rfl _ _ rfl wr.heap.size (0, zp) x hN rfl rfl ?_; intro hA; rw [← HU.out] at hA ⊢; have c0 := hcU hA)
          | (at_lookup; refine wpList_lookup_own_ok_int U rfl _ _ 142 rfl 3 3 .i64 law3 Tryz.underlying142 Tryz.underlying3 (zero3 _) (E0 + 1) k D rfl hMU _ _ rfl hkey ?_; intro c hc1 hc2))
        go_ret
        try rw [hres]
        exact ⟨rfl, kk.trans (hbU.mono (by have := HB.out; omega))⟩
      · rw [decide_eq_false hseen] at hmem
        have HSE : Hid (¬ z ∈ pgs (l.take k)) := hseen
        by_cases hz : 0 ≤ z ∧ z < H
        · rw [decide_eq_true hz] at hhas1
          have hzw := hwx
          have hkw : (Lit.int .i64 (k : Int)).wf = true := wf64 k (by omega) (by omega)
          go_wp2_with (first
            | (refine wpList_load_mid rfl 82 _ rfl g (k * 481) rfl (ic x) _ hrg Tryz.underlying82 rfl (by rw [ic_length]; kernel_rfl) ?_)
            | (refine store_im rfl _ _ rfl wr.heap.size (0, zp) x hN rfl rfl ?_; intro hA; rw [← HU.out] at hA ⊢; have c0 := hcU hA)
            | (at_lookup; refine wpList_lookup_own_ok_int U rfl _ _ 142 rfl 3 3 .i64 law3 Tryz.underlying142 Tryz.underlying3 (zero3 _) (E0 + 1) k D rfl hMU _ _ rfl hkey ?_; intro c hc1 hc2)
            | (go_at_call 45; refine hhas1.mono ?_; rintro e w1 ⟨rfl, kb1⟩; have c1 := HX.out w1 (hA.next kb1); have hMV := hMU.kept (grown_of_below kb1) (by simp))
            | (refine put_at rfl _ _ _ rfl (E0 + 1) k D hMV (by unfold maxLen; omega) rfl z hzw rfl k hkw rfl ?_; intro w2 hM2 hg2))
          have hUs := kU.size
          have k1s := kb1.size
          have kV := hbU.trans (kb1.mono (by omega))
          have hgb : ∀ j, j < w1.heap.size → j ≠ E0 + 1 → w2.heap[j]? = w1.heap[j]? := fun j hj hne => hg2.block j hj (by intro e; injection e with e; exact hne e)
          have kW : Below E0 w0 w2 := kV.trans ⟨hg2.os, hg2.tape, hg2.output, by have := hg2.size; omega, fun j hj => hgb j (by omega) (by omega)⟩
          have hglt : g < E0 := by
            rcases h with ⟨h, _⟩ | ⟨g', h, hh⟩
            · exact absurd h (by simp)
            · injection h with h
              injection h with h
              subst h
              have := HB.out
              rw [this]
              exact hh.lt
          have hImU : Ims w1 (some ⟨g, 0, none⟩) l := (hI.next kU).next kb1
          refine ⟨⟨k + 1, D.put (.int .i64 z) (.lit (.int .i64 (k : Int))), by omega, by push_cast; rfl, kW, by have := hg2.size; omega, ?_, ?_, hM2, hD.put _ _, fun y => ?_, ?_, ?_⟩, by simp only [intOf]; omega⟩
          · exact (hgb _ (by omega) (by omega)).trans (hEU.next kb1)
          · rcases hImU with ⟨h, _⟩ | ⟨g', h, hh⟩
            · exact absurd h (by simp)
            · refine .inr ⟨g', h, hh.same ?_⟩
              injection h with h
              injection h with h
              subst h
              exact hgb _ (by omega) (by omega)
          · have hP := HPT.out
            rw [hP]
            by_cases hyz : y = z
            · subst hyz
              rw [Maps.has_put_same hD (k := .int .i64 y) True.intro]
              simp
            · rw [Maps.has_put_other (by intro e; injection e with _ e; exact hyz e)]
              rw [HHS.out y]
              simp [hyz]
          · rw [HPT.out]
            intro y hy
            rcases List.mem_append.1 hy with hy | hy
            · exact hin y hy
            · rw [List.mem_singleton.1 hy]
              exact hz
          · rw [HPT.out]
            exact List.nodup_append.2 ⟨hnd, by simp, fun a ha b hb => by
              rw [List.mem_singleton.1 hb]
              intro e
              rw [e] at ha
              exact HSE.out ha⟩
        · rw [decide_eq_false hz] at hhas1
          have hn := HNO.out (.inr hz)
          have hres : R = false := by rw [HR.out, decide_eq_false hn]
          clear hn hin hnd hz
          go_wp2_with (first
            | (refine wpList_load_mid rfl 82 _ rfl g (k * 481) rfl (ic x) _ hrg Tryz.underlying82 rfl (by rw [ic_length]; kernel_rfl) ?_)
            | (refine store_im rfl _ _ rfl wr.heap.size (0, zp) x hN rfl rfl ?_; intro hA; rw [← HU.out] at hA ⊢; have c0 := hcU hA)
            | (at_lookup; refine wpList_lookup_own_ok_int U rfl _ _ 142 rfl 3 3 .i64 law3 Tryz.underlying142 Tryz.underlying3 (zero3 _) (E0 + 1) k D rfl hMU _ _ rfl hkey ?_; intro c hc1 hc2)
            | (go_at_call 45; refine hhas1.mono ?_; rintro e w1 ⟨rfl, kb1⟩))
          go_ret
          try rw [hres]
          exact ⟨rfl, kk.trans ((hbU.trans (kb1.mono (by have := kU.size; omega))).mono (by have := HB.out; omega))⟩
    · have hkI : ¬ (k : Int) < (l.length : Int) := by omega
      have ek : l.take k = l := List.take_of_length_le (by omega)
      rw [ek] at hin hnd
      have hyes : okP H l := ⟨hin, hnd⟩
      have hres : R = true := by rw [HR.out, decide_eq_true hyes]
      clear hyes hin hnd ek
      go_wp2_with fail
      go_ret
      try rw [hres]
      exact ⟨rfl, kk.trans (hb.mono (by have := HB.out; omega))⟩
end Go.Proofs.YtndfhmlcfaaaiaaGreatDoor
