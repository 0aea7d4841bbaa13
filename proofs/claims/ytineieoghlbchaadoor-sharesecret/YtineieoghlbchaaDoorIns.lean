/- A byte put ahead of bytes that have no room: a new row. -/
import Derived.Test.YtineieoghlbchaaDoorPts
import Derived.Shelf.Spec.SlicesInsertGrow
namespace Go.Proofs.YtineieoghlbchaaDoor
open Go.RowKit Go.Lib Go.Shelf

theorem setCells_row (b : Nat) : ∀ (vs : List Value) (o : Nat) (W : World) (cur : List Value) (t : TypeId), W.heap[b]? = some (.cells cur.toArray t (0, 0)) → o + vs.length ≤ cur.length →
    (W.setCells b o vs).heap[b]? = some (.cells (cur.take o ++ vs ++ cur.drop (o + vs.length)).toArray t (0, 0))
  | [], o, W, cur, t, h, _ => by
    rw [World.setCells, h]
    simp
  | v :: r, o, W, cur, t, h, hl => by
    simp only [List.length_cons] at hl
    rw [World.setCells]
    have h1 : (W.setCell ⟨b, o, none⟩ v).heap[b]? = some (.cells (cur.set o v).toArray t (0, 0)) := by
      rw [heap_setCell_same W b o _ t _ h]
      simp
    rw [setCells_row b r (o + 1) _ _ t h1 (by rw [List.length_set]; omega)]
    congr 3
    have e1 : (cur.set o v).take (o + 1) = cur.take o ++ [v] := by
      rw [take_next' (show (cur.set o v)[o]? = some v from List.getElem?_set_self (by omega)), List.take_set_of_le (Nat.le_refl _)]
    have e2 : (cur.set o v).drop (o + 1 + r.length) = cur.drop (o + (v :: r).length) := by
      rw [List.drop_set_of_lt (by omega), List.length_cons]
      congr 1
      omega
    rw [e1, e2]
    simp
theorem below_cells {B : Nat} {a : World} (b : Nat) (hb : B ≤ b) : ∀ (vs : List Value) (o : Nat) {w : World}, Below B a w → Below B a (w.setCells b o vs)
  | [], _, _, h => h
  | _ :: r, o, _, h => by rw [World.setCells]; exact below_cells b hb r (o + 1) (h.setCell hb _)

theorem insert_none (so : Option Addr) (vb : Nat) (y : Int) (w : World) (hv : w.heap[vb]? = some (.cells #[.int .u8 y] 5 (0, 0))) :
    Calls Tryd.prog 50 #[.slice so 0 0, .int .i64 0, .slice (some ⟨vb, 0, none⟩) 1 1] w fun e w' => ∃ v, e = .returned v ∧ Own5 w.heap.size w' v 1 [y] ∧ Below w.heap.size w w' := by
  obtain ⟨i0, hi, hz0, hz1, hz2⟩ := info_parts Tryd.info5
  have hn := World.news_of_block (cs := #[.int .u8 y]) hv
  go_enter Tryd.func50, Tryd.ntmps50
  go_wp2_with (at_builtin; refine wpList_append_grows _ rfl _ _ 22 rfl 5 i0 (.int .u8 0) 1 1 Tryd.underlying22 hi hz0 hz1 hz2 rfl (by decide) so 0 0 [] rfl (fun _ => by first | rfl | exact ⟨rfl, rfl⟩) rfl (fun b hb j u hj => by simp at hj) ⟨vb, 0, none⟩ 1 1 [.int .u8 y] rfl rfl hn (by simp [Value.oneCell']) (by omega) (by unfold maxLen; omega) (by omega) ?_)
  intro v' w' h1 h2
  go_wp2
  go_ret
  exact ⟨v', rfl, ⟨h1⟩, (Below.refl _ w).grown h2 (Nat.le_refl _) (fun b hb => by cases hb)⟩

set_option maxHeartbeats 4000000 in
set_option maxRecDepth 100000 in
theorem insert_grow (sd : Addr) (n vb : Nat) (ys : List Int) (y : Int) (w : World) (hn0 : 0 < n) (hbig : n ≤ 1000) (hl : ys.length = n)
    (hcs : ∀ (j : Nat) v, (u8s ys)[j]? = some v → w.cell? (sd.add j) = some v) (hv : w.heap[vb]? = some (.cells #[.int .u8 y] 5 (0, 0))) :
    Calls Tryd.prog 50 #[.slice (some sd) n n, .int .i64 0, .slice (some ⟨vb, 0, none⟩) 1 1] w fun e w' => ∃ v, e = .returned v ∧ Own5 w.heap.size w' v (n + 1) (y :: ys) ∧ Below w.heap.size w w' := by
  obtain ⟨i0, hi0, hz0, hzs, hzb⟩ := info_parts Tryd.info5
  have hvs : ∀ (j : Nat) v, [Value.int .u8 y][j]? = some v → w.cell? ⟨vb, 0 + j, none⟩ = some v := fun j v hj => by
    have := World.news_of_block (cs := #[.int .u8 y]) hv j v hj
    rwa [Addr.add_lit] at this
  have hcl : (u8s ys).length = n := by rw [u8s_length]; exact hl
  have hz2 : ¬ ((0 : Int) = (n : Int)) := by omega
  have hz3 : (n : Int) < (n : Int) + 1 := by omega
  have hsz : (Tryd.prog.info? 5).map (·.size) = some 1 := sz5
  have hbw : sd.block < w.heap.size := by
    have := block_lt_of_cell (hcs 0 _ (List.getElem?_eq_getElem (by omega)))
    rwa [add_block] at this
  have hvw : vb < w.heap.size := lt_of_block hv
  have hkk : (n : Int) + 1 = ((n + 1 : Nat) : Int) := by omega
  have hold : (Builtin.firstCells i0.size 0 (.slice (some sd) 0 n)).run Tryd.prog w.drew = .ok ([] : List Value).toArray w.drew := by
    rw [hzs]
    exact run_firstCells_some w.drew 1 0 sd 0 n [] rfl (fun j v hj => by simp at hj)
  have hrz : ∀ ty, (Builtin.append_ #[22, 3] ty #[.slice (some sd) 0 n, .int .i64 ((n : Int) + 1)]).run Tryd.prog w =
      .ok (.slice (some ⟨w.heap.size, 0, none⟩) (n + 1) (grownCap w (n + 1) n 5)) (w.drew.alloc (.cells (([] : List Value).toArray ++ Builtin.zeroCells (Value.int .u8 0).cells (n + 1) ++ Builtin.zeroCells (Value.int .u8 0).cells (grownCap w (n + 1) n 5 - (n + 1))) 5)) := fun ty => by
    have h := Lib.run_append_grow_zeros w 22 3 ty 5 i0 _ .i64 .i64 Tryd.underlying22 Tryd.underlying3 hi0 hz0 (some sd) 0 n [] hold (n + 1) (by omega) (by omega) (by omega) (by omega) (by rw [hzb]; omega) (by rw [hzb, Nat.zero_add]; exact growslice_fits (by omega) (by omega))
    rw [Nat.zero_add] at h
    rw [hkk]
    exact h
  have hGn : n + 1 ≤ grownCap w (n + 1) n 5 := grownCap_ge w _ _ _
  have hGm : grownCap w (n + 1) n 5 ≤ maxLen := grownCap_le_maxLen w (n + 1) n 5 (by unfold maxLen; omega)
  obtain ⟨G, hG⟩ : ∃ G, G = grownCap w (n + 1) n 5 := ⟨_, rfl⟩
  rw [← hG] at hrz hGn hGm
  obtain ⟨ROW, hROW⟩ : ∃ ROW : Array Value, ROW = ([] : List Value).toArray ++ Builtin.zeroCells (Value.int .u8 0).cells (n + 1) ++ Builtin.zeroCells (Value.int .u8 0).cells (G - (n + 1)) := ⟨_, rfl⟩
  rw [← hROW] at hrz
  have hRl : ROW.size = G := by
    rw [hROW]
    simp [Builtin.zeroCells, Value.cells]
    omega
  obtain ⟨W1, hW1⟩ : ∃ W1, W1 = w.drew.alloc (.cells ROW 5) := ⟨_, rfl⟩
  rw [← hW1] at hrz
  have hN : ∀ j, j < n + 1 → (W1.cell? ⟨w.heap.size, j, none⟩).isSome = true := fun j hj => by
    rw [hW1, World.cell?_alloc_at (w := w.drew) ROW _ w.heap.size j rfl, Array.getElem?_eq_getElem (by omega)]; rfl
  have hNf : ∀ j, W1.frozen? ⟨w.heap.size, j, none⟩ = false := fun j => by rw [hW1]; exact World.frozen?_alloc_at (w := w.drew) ROW _ w.heap.size j rfl
  have hOb : ∀ (x : Addr) v, w.cell? x = some v → W1.cell? x = some v := fun x v h => by rw [hW1]; exact cellA (w := w.drew) h _
  have hOv : ∀ j v, w.cell? ⟨vb, j, none⟩ = some v → W1.cell? ⟨vb, j, none⟩ = some v := fun j v h => by rw [hW1, World.cell?_alloc_past (w := w.drew) _ vb j hvw]; exact h
  have hcpA : ∀ (W : World), (∀ x, W.cell? x = W1.cell? x) → (∀ x, W.frozen? x = W1.frozen? x) → ∀ ty dc, (Builtin.copy_ #[22, 22] ty #[.slice (some ⟨w.heap.size, 0, none⟩) (n + 1) dc, .slice (some ⟨vb, 0, none⟩) 1 1]).run Tryd.prog W = .ok (goInt [Value.int .u8 y].length) (W.setCells w.heap.size 0 [.int .u8 y]) := fun W hWc hWf ty dc =>
    run_copy_cells W _ _ ty 5 w.heap.size 0 (n + 1) dc ⟨vb, 0, none⟩ 1 1 [.int .u8 y] Tryd.underlying22 hsz (by simp only [List.length_singleton, Nat.min_def]; split <;> omega)
      (fun j v hj => by rw [Addr.add_lit, hWc]; exact hOv _ v (hvs j v hj))
      (fun j hj => by simp only [List.length_singleton] at hj; rw [hWc]; exact hN _ (by omega)) (fun j hj => by rw [hWf]; exact hNf _) (by simp [Value.oneCell'])
  have hGi : ¬ (G = 0) := by omega
  have hGim : ¬ (G = 1) := by omega
  have hci : ¬ (n = 0) := by omega
  have hbN : sd.block ≠ w.heap.size := by omega
  have hcpB : ∀ (W : World), (∀ x, W.cell? x = (W1.setCells w.heap.size 0 [.int .u8 y]).cell? x) → (∀ x, W.frozen? x = (W1.setCells w.heap.size 0 [.int .u8 y]).frozen? x) → ∀ ty dc sc, (Builtin.copy_ #[22, 22] ty #[.slice (some ⟨w.heap.size, 1, none⟩) n dc, .slice (some sd) n sc]).run Tryd.prog W = .ok (goInt (u8s ys).length) (W.setCells w.heap.size 1 (u8s ys)) := fun W hWc hWf ty dc sc =>
    run_copy_cells W _ _ ty 5 w.heap.size 1 n dc sd n sc (u8s ys) Tryd.underlying22 hsz (by rw [hcl]; simp only [Nat.min_def]; split <;> omega)
      (fun j v hj => by
        rw [hWc, World.cell?_setCells_out _ _ _ _ _ (fun h _ => absurd (by rw [add_block] at h; exact h) hbN)]
        exact hOb _ v (hcs j v hj))
      (fun j hj => by rw [hWc]; exact isSome_setCells _ _ _ _ (fun t ht => hN _ (by simp only [List.length_singleton] at ht; omega)) _ (hN _ (by omega)))
      (fun j hj => by rw [hWf, World.frozen?_setCells]; exact hNf _) (u8s_one ys)
  subst hW1
  have hE1 : ∀ x, ((w.alloc (.cells ROW 5)).drew).cell? x = (w.drew.alloc (.cells ROW 5)).cell? x := fun x => rfl
  have hE2 : ∀ x, ((w.alloc (.cells ROW 5)).drew).frozen? x = (w.drew.alloc (.cells ROW 5)).frozen? x := fun x => rfl
  have hF1 : ∀ x, (((w.alloc (.cells ROW 5)).drew.setCells w.heap.size 0 [.int .u8 y]).drew).cell? x = ((w.drew.alloc (.cells ROW 5)).setCells w.heap.size 0 [.int .u8 y]).cell? x := fun x => rfl
  have hF2 : ∀ x, (((w.alloc (.cells ROW 5)).drew.setCells w.heap.size 0 [.int .u8 y]).drew).frozen? x = ((w.drew.alloc (.cells ROW 5)).setCells w.heap.size 0 [.int .u8 y]).frozen? x := fun x => rfl
  clear hkk hold hROW hG
  have hw1 : IntKind.i64.wrap 1 = 1 := by decide
  have hb1 : (1 : Int) ≤ (n : Int) + 1 := by omega
  have mixed : Tryd.prog.follows .mixedOrders = true := by kernel_rfl
  go_enter Tryd.func50, Tryd.ntmps50
  go_wp2_with (first
    | (at_builtin; refine Lib.wpList_append_run _ rfl _ _ _ _ rfl _ _ rfl rfl _ _ (hrz _) ?_)
    | (at_builtin; refine wpList_copy_runI _ rfl _ _ 22 22 rfl _ _ rfl rfl (hcpA _ hE1 hE2 _ _) ?_)
    | (at_builtin; refine wpList_copy_runI _ rfl _ _ 22 22 rfl _ _ rfl rfl (hcpB _ (fun _ => rfl) (fun _ => rfl) _ _ _) ?_))
  go_region_law_o (refine step_copy_runI rfl _ _ 22 22 rfl (.slice (some ⟨w.heap.size, 1, none⟩) n (G - 1)) (.slice (some sd) n n) (by simp [Act.eval, Act.put]) (by simp [Act.eval, Act.put]) (hcpB _ hF1 hF2 3 (G - 1) n) ?_)
  go_wp2
  go_ret
  have hrow : ((w.alloc (.cells ROW 5)).drew.setCells w.heap.size 0 [.int .u8 y]).drew.heap[w.heap.size]? = some (.cells (ROW.toList.take 0 ++ [Value.int .u8 y] ++ ROW.toList.drop (0 + 1)).toArray 5 (0, 0)) :=
    setCells_row w.heap.size [.int .u8 y] 0 (w.alloc (.cells ROW 5)).drew ROW.toList 5 (by rw [Array.toArray_toList]; exact heap_alloc_new w _) (by simp; omega)
  have hrow2 := setCells_row w.heap.size (u8s ys) 1 _ _ 5 hrow (by simp [u8s_length]; omega)
  refine ⟨_, rfl, ⟨⟨by simp [u8s_length]; omega, .inr ⟨w.heap.size, G, _, rfl, Nat.le_refl _, hrow2, hGn, hGm, ?_, ?_⟩⟩⟩, ?_⟩
  · simp [u8s_length]; omega
  · simp only [Nat.mul_one, List.take_zero, List.nil_append, List.take_succ_cons, List.cons_append]
    rw [List.take_append_of_le_length (by omega), List.take_of_length_le (by omega)]
    rfl
  · exact below_cells _ (Nat.le_refl _) _ _ (Below.drew (below_cells _ (Nat.le_refl _) _ _ (((Below.refl _ w).alloc (Nat.le_refl _) _).drew)))
end Go.Proofs.YtineieoghlbchaaDoor
