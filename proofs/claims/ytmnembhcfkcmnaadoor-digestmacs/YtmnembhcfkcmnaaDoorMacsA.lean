/- DigestMacs: for every key and b the program's Mac is the document's; key and b stay as they are, the room behind them too. -/
import Derived.Test.YtmnembhcfkcmnaaDoorRefM
namespace Go.Proofs.YtmnembhcfkcmnaaDoor
open Go.RowKit

theorem own_caps {w : World} {base g n cap : Nat} {xs : List Value} (hown : w.ownsRow base 5 1 (.slice (some ⟨g, 0, none⟩) (n + 7) cap) (n + 7) xs) : n + 7 ≤ cap ∧ cap ≤ maxLen := by
  rcases hown.2 with ⟨h3, _⟩ | ⟨g', cap', cur, h3, _, _, hn', hm, _⟩
  · cases h3
  · cases h3; exact ⟨hn', hm⟩

set_option maxHeartbeats 1000000 in
set_option maxRecDepth 100000 in
theorem macs_walk (ka bo : Option Addr) (kn kc n c : Nat) (ks xs : List Int) (w : World) (hk : Shows w ka kn ks) (hkc : ka = none → kc = 0) (hknc : kn ≤ kc) (hkm : kc ≤ maxLen) (hs : Shows w bo n xs) (hc : bo = none → c = 0) (hT : Tabs w) (hkb : (kn : Int) ≤ 32768) (hn : (n : Int) ≤ 32768) :
    Calls Tryd.prog 4 #[.slice ka kn kc, .slice bo n c] w fun e w' => e = .returned (.bool true) ∧ Below w.heap.size w w' := by
  go_enter Tryd.func4, Tryd.ntmps4
  go_wp2_with fail
  go_at_call 9
  refine (roomy_any ka kn kc ks w hk hkc (by omega)).mono ?_
  rintro e w1 ⟨g1, cap1, rfl, hown1, hb1⟩
  go_wp2_with fail
  go_at_call 9
  refine (roomy_any bo n c xs w1 (hs.later hb1) hc (by omega)).mono ?_
  rintro e w2 ⟨g2, cap2, rfl, hown2, hb2⟩
  have hB2 : Below w.heap.size w w2 := hb1.trans (hb2.mono hb1.size)
  have hown1' := own_next hown1 hb2
  have hs1 := shows_first hown1' hk.len (by omega) hk.rng
  have hs2 := shows_first hown2 hs.len (by omega) hs.rng
  have hcap1 := own_caps hown1
  have hcap2 := own_caps hown2
  have hcs := mac_any (some ⟨g1, 0, none⟩) (some ⟨g2, 0, none⟩) kn cap1 n cap2 ks xs w2 hs1 (by omega) hcap1.2 (by omega) hs2 (by omega) hcap2.2 (by omega) (hT.later hB2 hT.sz)
  have hcr : ∀ w3 : World, Below w.heap.size w w3 → _ := fun w3 hb => refMac_any ka bo kn kc n c ks xs w3 (hk.later hb) hkc hknc hkm (by omega) (hs.later hb) hc (by omega)
  have hRl : (macOf ks xs).length = 32 := sumOf_length _
  obtain ⟨R, eR⟩ : ∃ x, x = macOf ks xs := ⟨_, rfl⟩
  rw [← eR] at hRl hcs hcr
  clear eR
  have heq := eq25 R hRl
  have hgd := guard25
  go_wp2_with fail
  go_at_call 13
  refine hcs.mono ?_
  rintro e w3 ⟨rfl, hb3⟩
  have hB3 : Below w.heap.size w w3 := hB2.trans (hb3.mono hB2.size)
  go_wp2_with fail
  go_at_call 14
  refine (hcr w3 hB3).mono ?_
  rintro e w4 ⟨rfl, hb4⟩
  have hB4 : Below w.heap.size w w4 := hB3.trans (hb4.mono hB3.size)
  have ho1 := own_next (own_next hown1' hb3) hb4
  have ho2 := own_next (own_next hown2 hb3) hb4
  go_wp2_with fail
  go_at_call 12
  refine (kept_any g1 kn cap1 w.heap.size kc ka ks w4 ho1 (hk.later hB4) (by omega)).mono ?_
  rintro e w' ⟨rfl, rfl⟩
  go_wp2_with fail
  go_at_call 12
  refine (kept_any g2 n cap2 w1.heap.size c bo xs w4 ho2 (hs.later hB4) (by omega)).mono ?_
  rintro e w' ⟨rfl, rfl⟩
  go_wp2_with fail
  go_at_call 8
  refine (works_any w4 (hT.later hB4 hT.sz)).mono ?_
  rintro e w5 ⟨rfl, hb5⟩
  go_wp2
  go_ret
  exact ⟨rfl, hB4.trans (hb5.mono hB4.size)⟩

set_option maxHeartbeats 400000 in
theorem macs_big1 (ka bo : Option Addr) (kn kc n c : Nat) (w : World) (hT : Tabs w) (hn : (32768 : Int) < kn) :
    Calls Tryd.prog 4 #[.slice ka kn kc, .slice bo n c] w fun e w' => e = .returned (.bool true) ∧ Below w.heap.size w w' := by
  go_enter Tryd.func4, Tryd.ntmps4
  go_wp2_with (go_at_call 8; refine (works_any w hT).mono ?_; rintro e w' ⟨rfl, hb⟩)
  go_ret
  exact ⟨rfl, hb⟩
set_option maxHeartbeats 400000 in
theorem macs_big2 (ka bo : Option Addr) (kn kc n c : Nat) (w : World) (hT : Tabs w) (hk : (kn : Int) ≤ 32768) (hn : (32768 : Int) < n) :
    Calls Tryd.prog 4 #[.slice ka kn kc, .slice bo n c] w fun e w' => e = .returned (.bool true) ∧ Below w.heap.size w w' := by
  go_enter Tryd.func4, Tryd.ntmps4
  go_wp2_with (go_at_call 8; refine (works_any w hT).mono ?_; rintro e w' ⟨rfl, hb⟩)
  go_ret
  exact ⟨rfl, hb⟩
end Go.Proofs.YtmnembhcfkcmnaaDoor
