/- FieldEvals: a polynomial's values are the document's; the coefficients stay as they are, the room behind them too. -/
import Derived.Test.YtokjlgafidcahaaEvalA
import Derived.Test.YtokjlgafidcahaaRoom
import Derived.Test.YtokjlgafidcahaaWorks
namespace Go.Proofs.Ytokjlgafidcahaa
open Go.RowKit

theorem own_next {w w' : World} {base : Nat} {v : Value} {n : Nat} {xs : List Value} (h : w.ownsRow base 5 1 v n xs) (hb : Below w.heap.size w w') : w'.ownsRow base 5 1 v n xs := by
  obtain ⟨h1, h2⟩ := h
  refine ⟨h1, ?_⟩
  rcases h2 with h2 | ⟨g, cap, cur, hv, hg, hh, r⟩
  · exact Or.inl h2
  · exact Or.inr ⟨g, cap, cur, hv, hg, (hb.block g (lt_of_block hh)).trans hh, r⟩

set_option maxRecDepth 100000 in
set_option maxHeartbeats 1000000 in
theorem evals_walk (ao : Option Addr) (n c : Nat) (cs : List B) (x : B) (w : World) (hs : Shows w ao n (cs.map v8)) (hc : ao = none → c = 0) (hn : (n : Int) ≤ 16384) :
    Calls Try.prog 4 #[.slice ao n c, .int .u8 (v8 x)] w fun e w' => e = .returned (.bool true) ∧ Below w.heap.size w w' := by
  go_enter Try.func4, Try.ntmps4
  go_wp2_with fail
  go_at_call 19
  refine (roomy_any ao n c (cs.map v8) w hs hc (by omega)).mono ?_
  rintro e w1 ⟨g, cap, rfl, hown, hb1⟩
  have hs1 := shows_first hown hs.len (by omega) hs.rng
  have hcap : n + 7 ≤ cap ∧ cap ≤ maxLen := by
    rcases hown.2 with ⟨h3, _⟩ | ⟨g', cap', cur, h3, _, _, hn', hm, _⟩
    · cases h3
    · cases h3; exact ⟨hn', hm⟩
  have hrest : ∀ w2 : World, Below w1.heap.size w1 w2 → w2.ownsRow w.heap.size 5 1 (.slice (some ⟨g, 0, none⟩) (n + 7) cap) (n + 7) (u8s (cs.map v8 ++ marks)) ∧ Shows w2 ao n (cs.map v8) ∧ Below w.heap.size w w2 := fun w2 hb2 =>
    ⟨own_next hown hb2, hs.later (hb1.trans (hb2.mono hb1.size)), hb1.trans (hb2.mono hb1.size)⟩
  clear hown
  go_wp2_with (first
    | (go_at_call 20; refine (eval_any _ n cap cs x _ hs1 (by omega)).mono ?_; rintro e w2 ⟨rfl, hb2⟩; obtain ⟨ho2, hs2, hB2⟩ := hrest w2 hb2)
    | (go_at_call 21; refine (refEval_any ao n c cs x _ hs2 (by omega)).mono ?_; rintro e w3 ⟨rfl, rfl⟩)
    | (go_at_call 22; refine (kept_any g n cap w.heap.size c ao (cs.map v8) _ ho2 hs2 (by omega)).mono ?_; rintro e w3 ⟨rfl, rfl⟩)
    | (go_at_call 18; refine (works_any _).mono ?_; rintro e w4 ⟨rfl, hb4⟩))
  go_ret
  exact ⟨rfl, hB2.trans (hb4.mono hB2.size)⟩

set_option maxRecDepth 100000 in
theorem evals_big (ao : Option Addr) (n c : Nat) (x : B) (w : World) (hn : (16384 : Int) < n) :
    Calls Try.prog 4 #[.slice ao n c, .int .u8 (v8 x)] w fun e w' => e = .returned (.bool true) ∧ Below w.heap.size w w' := by
  go_enter Try.func4, Try.ntmps4
  go_wp2_with (go_at_call 18; refine (works_any w).mono ?_; rintro e w' ⟨rfl, hb⟩)
  go_ret
  exact ⟨rfl, hb⟩
end Go.Proofs.Ytokjlgafidcahaa
