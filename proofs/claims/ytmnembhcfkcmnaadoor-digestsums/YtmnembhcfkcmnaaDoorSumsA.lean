/- DigestSums: for every b its sum is the document's, and b stays as it is, the room behind it too. -/
import Derived.Test.YtmnembhcfkcmnaaDoorRefE
namespace Go.Proofs.YtmnembhcfkcmnaaDoor
open Go.RowKit

set_option maxHeartbeats 1000000 in
set_option maxRecDepth 100000 in
theorem sums_walk (ao : Option Addr) (n c : Nat) (xs : List Int) (w : World) (hs : Shows w ao n xs) (hc : ao = none → c = 0) (hT : Tabs w) (hn : (n : Int) ≤ 65536) :
    Calls Tryd.prog 3 #[.slice ao n c] w fun e w' => e = .returned (.bool true) ∧ Below w.heap.size w w' := by
  go_enter Tryd.func3, Tryd.ntmps3
  go_wp2_with fail
  go_at_call 9
  refine (roomy_any ao n c xs w hs hc (by omega)).mono ?_
  rintro e w1 ⟨g, cap, rfl, hown, hb1⟩
  have hs1 := shows_first hown hs.len (by omega) hs.rng
  have hcap : n + 7 ≤ cap ∧ cap ≤ maxLen := by
    rcases hown.2 with ⟨h3, _⟩ | ⟨g', cap', cur, h3, _, _, hn', hm, _⟩
    · cases h3
    · cases h3; exact ⟨hn', hm⟩
  have hRl := sumOf_length xs
  have hcs := digestSum_any (some ⟨g, 0, none⟩) n cap xs w1 hs1 (by omega) hcap.2 (by omega) (hT.later hb1 hT.sz)
  have hcr : ∀ w2 : World, Below w.heap.size w w2 → _ := fun w2 hb => refSum_any ao n c xs w2 (hs.later hb) hc (by omega)
  obtain ⟨R, eR⟩ : ∃ x, x = sumOf xs := ⟨_, rfl⟩
  rw [← eR] at hRl hcs hcr
  clear eR
  have heq := eq25 R hRl
  have hgd := guard25
  go_wp2_with fail
  go_at_call 10
  refine hcs.mono ?_
  rintro e w2 ⟨rfl, hb2⟩
  have hB2 : Below w.heap.size w w2 := hb1.trans (hb2.mono hb1.size)
  go_wp2_with fail
  go_at_call 11
  refine (hcr w2 hB2).mono ?_
  rintro e w3 ⟨rfl, hb3⟩
  have hB3 : Below w.heap.size w w3 := hB2.trans (hb3.mono hB2.size)
  have hown3 := own_next (own_next hown hb2) hb3
  go_wp2_with fail
  go_at_call 12
  refine (kept_any g n cap w.heap.size c ao xs w3 hown3 (hs.later hB3) (by omega)).mono ?_
  rintro e w' ⟨rfl, rfl⟩
  go_wp2_with fail
  go_at_call 8
  refine (works_any w3 (hT.later hB3 hT.sz)).mono ?_
  rintro e w4 ⟨rfl, hb4⟩
  go_wp2
  go_ret
  exact ⟨rfl, hB3.trans (hb4.mono hB3.size)⟩

set_option maxHeartbeats 400000 in
theorem sums_big (ao : Option Addr) (n c : Nat) (w : World) (hT : Tabs w) (hn : (65536 : Int) < n) :
    Calls Tryd.prog 3 #[.slice ao n c] w fun e w' => e = .returned (.bool true) ∧ Below w.heap.size w w' := by
  go_enter Tryd.func3, Tryd.ntmps3
  go_wp2_with (go_at_call 8; refine (works_any w hT).mono ?_; rintro e w' ⟨rfl, hb⟩)
  go_ret
  exact ⟨rfl, hb⟩
end Go.Proofs.YtmnembhcfkcmnaaDoor
