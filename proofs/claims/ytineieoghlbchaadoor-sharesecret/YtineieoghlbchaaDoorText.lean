/- A share's text, by the program and by the document's answer. -/
import Derived.Test.YtineieoghlbchaaDoorSplit
namespace Go.Proofs.YtineieoghlbchaaDoor
open Go.RowKit

/-- A row of one byte that was just laid. -/
theorem built_own {w : World} {g base : Nat} {x : Int} (h : w.heap[g]? = some (.cells #[.int .u8 x] 5 (0, 0))) (hb : base ≤ g) : w.ownsRow base 5 1 (.slice (some ⟨g, 0, none⟩) 1 1) 1 (u8s [x]) :=
  ⟨rfl, .inr ⟨g, 1, #[.int .u8 x], rfl, hb, h, Nat.le_refl _, by unfold maxLen; omega, rfl, rfl⟩⟩

set_option maxHeartbeats 1000000 in
theorem text_any (x : Int) (ao : Option Addr) (n c : Nat) (xs : List Int) (w : World) (hx0 : 0 ≤ x) (hx1 : x ≤ 255) (hs : Shows w ao n xs) (hc : ao = none → c = 0) (hn : n ≤ 1000000) (ht : Tab w) (h0 : 0 < w.heap.size) :
    Calls Tryd.prog 24 #[.agg #[.int .u8 x, .slice ao n c]] w fun e w' => e = .returned (.string (strOfNums (hexl (x :: xs)))) ∧ Below w.heap.size w w' := by
  have hr : ∀ y ∈ [x] ++ xs, 0 ≤ y ∧ y ≤ 255 := by
    intro y hy
    rcases List.mem_append.1 hy with h | h
    · rw [List.mem_singleton] at h; omega
    · exact hs.rng y h
  have hbA : Below w.heap.size w ((w.alloc (.cells #[.int .u8 x, .slice ao n c] 44)).alloc (.cells #[.int .u8 x] 5)) := ((Below.refl _ w).alloc (Nat.le_refl _) _).alloc (by simp) _
  have hown : ((w.alloc (.cells #[.int .u8 x, .slice ao n c] 44)).alloc (.cells #[.int .u8 x] 5)).ownsRow w.heap.size 5 1 (.slice (some ⟨w.heap.size + 1, 0, none⟩) 1 1) 1 (u8s [x]) := built_own (new_at (by simp)) (by omega)
  have hsA := hs.later hbA
  go_enter Tryd.func24, Tryd.ntmps24
  go_wp2_with (first
    | (at_builtin; go_must (refine law_append rfl _ _ rfl w.heap.size _ _ _ rfl hown ao n c xs rfl hsA hc (by omega) (by simp; omega) ?_)))
  intro v w1 hv hg _
  obtain ⟨vo, vc, rfl, hsv, -⟩ := own_shape hv hr
  have hb1 : Below w.heap.size w w1 := hbA.grown hg (by simp; omega) (fun b hb => by simp [Value.ownBlock] at hb; omega)
  have hz1 := hb1.size
  go_wp2_with (go_at_call 44; refine (hex_any vo _ vc _ w1 hsv (by omega) (ht.later hb1) (by omega)).mono ?_; rintro e w2 ⟨rfl, hb2⟩)
  go_ret
  exact ⟨rfl, hb1.trans (hb2.mono hz1)⟩

set_option maxHeartbeats 1000000 in
theorem refText_any (x : Int) (ao : Option Addr) (n c : Nat) (xs : List Int) (w : World) (hx0 : 0 ≤ x) (hx1 : x ≤ 255) (hs : Shows w ao n xs) (hc : ao = none → c = 0) (hn : n ≤ 1000000) :
    Calls Tryd.prog 25 #[.agg #[.int .u8 x, .slice ao n c]] w fun e w' => e = .returned (.string (strOfNums (hexl (x :: xs)))) ∧ Below w.heap.size w w' := by
  have hr : ∀ y ∈ [x] ++ xs, 0 ≤ y ∧ y ≤ 255 := by
    intro y hy
    rcases List.mem_append.1 hy with h | h
    · rw [List.mem_singleton] at h; omega
    · exact hs.rng y h
  have hbA : Below w.heap.size w ((w.alloc (.cells #[.int .u8 x, .slice ao n c] 44)).alloc (.cells #[.int .u8 x] 5)) := ((Below.refl _ w).alloc (Nat.le_refl _) _).alloc (by simp) _
  have hown : ((w.alloc (.cells #[.int .u8 x, .slice ao n c] 44)).alloc (.cells #[.int .u8 x] 5)).ownsRow w.heap.size 5 1 (.slice (some ⟨w.heap.size + 1, 0, none⟩) 1 1) 1 (u8s [x]) := built_own (new_at (by simp)) (by omega)
  have hsA := hs.later hbA
  go_enter Tryd.func25, Tryd.ntmps25
  go_wp2_with (first
    | (at_builtin; go_must (refine law_append rfl _ _ rfl w.heap.size _ _ _ rfl hown ao n c xs rfl hsA hc (by omega) (by simp; omega) ?_)))
  intro v w1 hv hg _
  obtain ⟨vo, vc, rfl, hsv, -⟩ := own_shape hv hr
  have hb1 : Below w.heap.size w w1 := hbA.grown hg (by simp; omega) (fun b hb => by simp [Value.ownBlock] at hb; omega)
  have hz1 := hb1.size
  go_wp2_with (go_at_call 45; refine (hexRef_any vo _ vc _ w1 hsv (by omega)).mono ?_; rintro e w2 ⟨rfl, hb2⟩)
  go_ret
  exact ⟨rfl, hb1.trans (hb2.mono hz1)⟩
end Go.Proofs.YtineieoghlbchaaDoor
