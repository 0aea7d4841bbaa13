/- A list of its own, with a mark behind its end. -/
import Derived.Test.YteimfnnkjhopdaaRNew
namespace Go.Proofs.Yteimfnnkjhopdaa
open Go.RowKit

/-- A list of its own with a mark behind its end. -/
def Marked (w : World) (B g cap n : Nat) (xs : List Int) : Prop := w.ownsRow B 3 1 (.slice (some ⟨g, 0, none⟩) (n + 1) cap) (n + 1) (ivs (xs ++ [-77]))
section
variable {w w' : World} {B g cap n : Nat} {xs : List Int}
theorem add_zero_block (g j : Nat) : (⟨g, 0, none⟩ : Addr).add j = ⟨g, j, none⟩ := by unfold Addr.add; split <;> simp_all
theorem Marked.len (h : Marked w B g cap n xs) : xs.length = n := by
  have := h.1
  rw [ivs_length, List.length_append, List.length_singleton] at this
  omega
theorem Marked.room (h : Marked w B g cap n xs) : n + 1 ≤ cap := by
  obtain ⟨_, h2 | ⟨g', cap', cur, h3, _, _, hn, _⟩⟩ := h
  · cases h2.1
  · cases h3
    exact hn
theorem Marked.ge (h : Marked w B g cap n xs) : B ≤ g ∧ g < w.heap.size := h.lt g rfl
theorem Marked.at (h : Marked w B g cap n xs) (j : Nat) (v : Int) (hj : (xs ++ [-77])[j]? = some v) : w.cell? ⟨g, j, none⟩ = some (.int .i64 v) := by
  have h1 := h.cells (g := g) rfl j (.int .i64 v) (by unfold ivs; rw [List.getElem?_map, hj]; rfl)
  rwa [add_zero_block] at h1
theorem Marked.ints (h : Marked w B g cap n xs) (hw : ∀ x ∈ xs, (Lit.int .i64 x).wf = true) : Ints w (some ⟨g, 0, none⟩) n xs := by
  have hl := h.len
  refine ⟨hl, fun e => (by cases e), fun ad had j hj => ?_, hw⟩
  cases had
  rw [add_zero_block]
  refine h.at j _ ?_
  rw [List.getElem?_append_left (by omega), List.getD, List.getElem?_eq_getElem (by omega)]
  rfl
theorem Marked.mark (h : Marked w B g cap n xs) : w.cell? ⟨g, n, none⟩ = some (.int .i64 (-77)) := by
  have hl := h.len
  refine h.at n _ ?_
  rw [List.getElem?_append_right (by omega), hl]
  simp
theorem Marked.fr {X : Nat → Prop} (h : Marked w B g cap n xs) (hf : Fr X w w') (hX : ¬ X g) : Marked w' B g cap n xs := by
  obtain ⟨h1, h2 | ⟨g', cap', cur, h3, h4, h5, h6⟩⟩ := h
  · cases h2.1
  · cases h3
    exact ⟨h1, .inr ⟨g, cap, cur, rfl, h4, (hf.block g (lt_of_block h5) hX).trans h5, h6⟩⟩
end
theorem own_some {w : World} {B n : Nat} {v : Value} {vs : List Value} (h : w.ownsRow B 3 1 v (n + 1) vs) : ∃ g cap, v = .slice (some ⟨g, 0, none⟩) (n + 1) cap := by
  obtain ⟨_, h2 | ⟨g, cap, cur, rfl, _⟩⟩ := h
  · exact absurd h2.2 (by omega)
  · exact ⟨g, cap, rfl⟩
set_option maxRecDepth 100000 in
set_option maxHeartbeats 2000000 in
theorem twin_any (w : World) (ao : Option Addr) (n c : Nat) (xs : List Int) (hx : Ints w ao n xs) (hb : ao = none → c = 0) (hn : n ≤ 17592186043904) :
    Calls Try.prog 38 #[.slice ao n c] w fun e w' => ∃ g cap, e = .returned (.slice (some ⟨g, 0, none⟩) n cap) ∧ Marked w' w.heap.size g cap n xs ∧ Below w.heap.size w w' := by
  obtain ⟨i0, hi, hz0, hz1, hz2⟩ := info_parts info3
  have hl := hx.len
  have hnI : (n : Int) ≤ 17592186043904 := by omega
  cases ao with
  | none =>
    have hn0 := hx.bare rfl
    have hc0 := hb rfl
    have hx0 : xs = [] := List.length_eq_zero_iff.1 (hl.trans hn0)
    subst hn0 hc0 hx0
    have hO2 : (w.alloc (.cells #[.int .i64 (-77)] 3)).ownsRow w.heap.size 3 1 (.slice none 0 0) 0 (ivs []) := World.ownsRow_nil _ _ _ _
    have hB2 : Below w.heap.size w (w.alloc (.cells #[.int .i64 (-77)] 3)) := (Below.refl _ w).alloc (Nat.le_refl _) _
    have hC2 : (w.alloc (.cells #[.int .i64 (-77)] 3)).heap[w.heap.size]? = some (.cells #[.int .i64 (-77)] 3 (0, 0)) := heap_alloc_new w _
    have hS2 := hB2.size
    clear hl hx hb
    go_enter Try.func38, Try.ntmps38
    go_wp2_with (first
      | (at_builtin; refine wpList_append_own_none rfl _ _ 32 rfl w.heap.size 3 i0 1 Try.underlying32 hi _ 0 [] rfl (World.ownsRow_nil _ _ _ _) rfl ?_)
      | (at_builtin; refine push_num rfl _ _ rfl w.heap.size _ 0 [] rfl hO2 w.heap.size (-77) rfl hC2 (by omega) hS2 ?_; intro u3 w3 hO3 hg3
         obtain ⟨g, cap, hu⟩ := own_some hO3
         subst hu
         have hcap := Marked.room (n := 0) (xs := []) hO3
         have hc1 : (0 : Int) ≤ cap := by omega))
    have hB3 := hB2.grown hg3 hS2 (fun k hk => (hO2.lt k hk).1)
    go_ret
    exact ⟨g, cap, rfl, hO3, hB3⟩
  | some ad =>
    have hcells : ∀ j u, (ivs xs)[j]? = some u → w.cell? (ad.add j) = some u := by
      intro j u hj
      have hjl := (List.getElem?_eq_some_iff.1 hj).1
      rw [ivs_length] at hjl
      have h1 := hx.cell ad rfl j (by omega)
      unfold ivs at hj
      rw [List.getElem?_map, List.getElem?_eq_getElem hjl] at hj
      rw [List.getD, List.getElem?_eq_getElem hjl] at h1
      rw [h1]
      exact hj
    have hlen : (ivs xs).length = n * 1 := by rw [ivs_length]; omega
    have hone := ivs_one xs
    have HL : Hid (xs.length = n) := hl
    clear hl hx hb
    go_enter Try.func38, Try.ntmps38
    have tok0 : True := trivial
    go_wp2_with (first
      | (have _t := tok0; at_builtin; refine wpList_append_own _ rfl _ _ 32 rfl w.heap.size 3 i0 (.int .i64 0) 1 8 Try.underlying32 hi hz0 hz1 hz2 rfl (by decide) _ 0 [] rfl (World.ownsRow_nil _ _ _ _) ad n c (ivs xs) rfl hlen hcells hone (by unfold maxLen; omega) (by omega) (Nat.le_refl _) ?_; intro v1 w1 hO1 hg1 hn1
         (try simp only [Nat.zero_add, List.nil_append] at hO1)
         have hB1 : Below w.heap.size w w1 := (Below.refl _ w).grown hg1 (Nat.le_refl _) (by intro k hk; cases hk)
         have hO2 : (w1.alloc (.cells #[.int .i64 (-77)] 3)).ownsRow w.heap.size 3 1 v1 n (ivs xs) := hO1.alloc _
         have hB2 : Below w.heap.size w (w1.alloc (.cells #[.int .i64 (-77)] 3)) := hB1.alloc hB1.size _
         have hC2 : (w1.alloc (.cells #[.int .i64 (-77)] 3)).heap[w1.heap.size]? = some (.cells #[.int .i64 (-77)] 3 (0, 0)) := heap_alloc_new w1 _
         have hS2 := hB2.size
         clear tok0 _t hg1 hn1 hB1 hO1 hlen hcells hone)
      | (at_builtin; refine push_num rfl _ _ rfl w.heap.size _ n xs rfl hO2 w1.heap.size (-77) rfl hC2 (by omega) hS2 ?_; intro u3 w3 hO3 hg3
         obtain ⟨g, cap, hu⟩ := own_some hO3
         subst hu
         have hcap := Marked.room (xs := xs) hO3
         have hc1 : (n : Int) ≤ cap := by omega))
    have hB3 := hB2.grown hg3 hS2 (fun k hk => (hO2.lt k hk).1)
    go_ret
    exact ⟨g, cap, rfl, hO3, hB3⟩
end Go.Proofs.Yteimfnnkjhopdaa
