/- FieldPoints: the value at 0 of any points, or the error, is the document's; the points stay as they are, the room behind them too. -/
import Derived.Test.YtokjlgafidcahaaAtZ
import Derived.Test.YtokjlgafidcahaaRefZ
import Derived.Test.YtokjlgafidcahaaEvalB
namespace Go.Proofs.Ytokjlgafidcahaa
open Go.RowKit

def zAll (cs ds : List B) : B := if cs.length = 0 ∨ cs.length ≠ ds.length then 0#8 else zOf cs ds
def eAll (cs ds : List B) : Int := if cs.length = 0 ∨ cs.length ≠ ds.length then 31 else eOf cs

theorem len_of {w : World} {ao : Option Addr} {n : Nat} {cs : List B} (h : Shows w ao n (cs.map v8)) : cs.length = n := by have := h.len; rwa [List.length_map] at this

theorem atz_all (ao bo : Option Addr) (n c m d : Nat) (cs ds : List B) (w : World) (hs : Shows w ao n (cs.map v8)) (ht : Shows w bo m (ds.map v8)) (hn : (n : Int) ≤ 140737488355328) :
    Calls Try.prog 23 #[.slice ao n c, .slice bo m d] w fun e w' => e = .returned (.tuple #[.int .u8 (v8 (zAll cs ds)), .int .i64 (eAll cs ds)]) ∧ Below w.heap.size w w' := by
  have hl := len_of hs
  have hm := len_of ht
  unfold zAll eAll
  by_cases h : cs.length = 0 ∨ cs.length ≠ ds.length
  · rw [if_pos h, if_pos h, v8_zero]
    exact atz_bad ao bo n c m d cs w hs hn (by rw [hl, hm] at h; rcases h with h | h; exact Or.inl h; exact Or.inr (Or.inl h))
  · rw [if_neg h, if_neg h]
    rw [hl, hm] at h
    by_cases hG : Good cs
    · rw [zOf_good cs ds hG, eOf_good cs hG]
      obtain rfl : n = m := Decidable.byContradiction fun e => h (Or.inr e)
      exact atz_good ao bo n c d cs ds w hs ht hn (by have : n ≠ 0 := fun e => h (Or.inl e); omega) hG
    · rw [zOf_bad cs ds hG, eOf_bad cs hG, v8_zero]
      exact atz_bad ao bo n c m d cs w hs hn (Or.inr (Or.inr hG))

set_option maxRecDepth 100000 in
theorem refz_all (ao bo : Option Addr) (n c m d : Nat) (cs ds : List B) (w : World) (hs : Shows w ao n (cs.map v8)) (ht : Shows w bo m (ds.map v8)) :
    Calls Try.prog 24 #[.slice ao n c, .slice bo m d] w fun e w' => e = .returned (.tuple #[.int .u8 (v8 (zAll cs ds)), .int .i64 (eAll cs ds)]) ∧ Below w.heap.size w w' := by
  have hl := len_of hs
  have hm := len_of ht
  unfold zAll eAll
  by_cases h : cs.length = 0 ∨ cs.length ≠ ds.length
  · rw [if_pos h, if_pos h, v8_zero]
    rw [hl, hm] at h
    by_cases h0 : n = 0
    · subst h0
      clear h
      go_enter Try.func24, Try.ntmps24
      go_wp2
      go_ret2
      exact ⟨rfl, Below.refl _ _⟩
    · have hnm : n ≠ m := by
        rcases h with h | h
        · exact absurd h h0
        · exact h
      have h0' : ((n : Int) == 0) = false := by simp; omega
      have hnm' : ((n : Int) == (m : Int)) = false := by simp; omega
      have hnm2 : ¬ (n : Int) = (m : Int) := by omega
      clear h
      go_enter Try.func24, Try.ntmps24
      go_wp2
      go_ret2
      exact ⟨rfl, Below.refl _ _⟩
  · rw [if_neg h, if_neg h]
    rw [hl, hm] at h
    obtain rfl : n = m := Decidable.byContradiction fun e => h (Or.inr e)
    have h0 : 0 < n := by have : n ≠ 0 := fun e => h (Or.inl e); omega
    by_cases h255 : (n : Int) ≤ 255
    · obtain ⟨ad, rfl⟩ := hs.some h0
      obtain ⟨bd, rfl⟩ := ht.some h0
      exact refz_walk ad bd n c d cs ds w hs ht h255 h0
    · have hG : ¬ Good cs := fun hg => by have := good_short cs hg; omega
      rw [zOf_bad cs ds hG, eOf_bad cs hG, v8_zero]
      have h0' : ((n : Int) == 0) = false := by simp; omega
      have hgt : (255 : Int) < (n : Int) := by omega
      clear h hG
      go_enter Try.func24, Try.ntmps24
      go_wp2
      go_ret2
      exact ⟨rfl, Below.refl _ _⟩

theorem cap_of {w : World} {base g n cap : Nat} {xs : List Value} (hown : w.ownsRow base 5 1 (.slice (some ⟨g, 0, none⟩) (n + 7) cap) (n + 7) xs) : n + 7 ≤ cap ∧ cap ≤ maxLen := by
  rcases hown.2 with ⟨h3, _⟩ | ⟨g', cap', cur, h3, _, _, hn', hm, _⟩
  · cases h3
  · cases h3; exact ⟨hn', hm⟩

set_option maxRecDepth 100000 in
set_option maxHeartbeats 2000000 in
theorem points_walk (ao bo : Option Addr) (n c m d : Nat) (cs ds : List B) (w : World) (hs : Shows w ao n (cs.map v8)) (hc : ao = none → c = 0) (ht : Shows w bo m (ds.map v8)) (hd : bo = none → d = 0) (hn : (n : Int) ≤ 300) (hm : (m : Int) ≤ 300) :
    Calls Try.prog 5 #[.slice ao n c, .slice bo m d] w fun e w' => e = .returned (.bool true) ∧ Below w.heap.size w w' := by
  have hn' : decide ((300 : Int) < (n : Int)) = false := by simp; omega
  have hm' : decide ((300 : Int) < (m : Int)) = false := by simp; omega
  go_enter Try.func5, Try.ntmps5
  go_wp2_with fail
  go_at_call 19
  refine (roomy_any ao n c (cs.map v8) w hs hc (by omega)).mono ?_
  rintro e w1 ⟨g, cap, rfl, hown, hb1⟩
  have hcap := cap_of hown
  go_wp2_with fail
  go_at_call 19
  refine (roomy_any bo m d (ds.map v8) w1 (ht.later hb1) hd (by omega)).mono ?_
  rintro e w2 ⟨g2, cap2, rfl, hown2, hb2⟩
  have hcap2 := cap_of hown2
  have hB2 : Below w.heap.size w w2 := hb1.trans (hb2.mono hb1.size)
  have hownA := own_next hown hb2
  have hs1 := shows_first hownA hs.len (by omega) hs.rng
  have hs2 := shows_first hown2 ht.len (by omega) ht.rng
  clear hown
  obtain ⟨base2, eb⟩ : ∃ b, b = w1.heap.size := ⟨_, rfl⟩
  rw [← eb] at hown2
  clear hb1 hb2 eb
  have cA := atz_all (some ⟨g, 0, none⟩) (some ⟨g2, 0, none⟩) n cap m cap2 cs ds w2 hs1 hs2 (by omega)
  have cR : ∀ W, Below w2.heap.size w2 W → _ := fun W hW => refz_all ao bo n c m d cs ds W (hs.later (hB2.trans (hW.mono hB2.size))) (ht.later (hB2.trans (hW.mono hB2.size)))
  have cK1 : ∀ W, Below w2.heap.size w2 W → _ := fun W hW => kept_any g n cap w.heap.size c ao (cs.map v8) W (own_next hownA hW) (hs.later (hB2.trans (hW.mono hB2.size))) (by omega)
  have cK2 : ∀ W, Below w2.heap.size w2 W → _ := fun W hW => kept_any g2 m cap2 base2 d bo (ds.map v8) W (own_next hown2 hW) (ht.later (hB2.trans (hW.mono hB2.size))) (by omega)
  obtain ⟨z, ez⟩ : ∃ z, z = zAll cs ds := ⟨_, rfl⟩
  obtain ⟨er, ee⟩ : ∃ z, z = eAll cs ds := ⟨_, rfl⟩
  rw [← ez, ← ee] at cA cR
  clear ez ee hownA hown2 hs1 hs2
  go_wp2_with fail
  go_at_call 23
  refine cA.mono ?_
  rintro e w3 ⟨rfl, hb3⟩
  clear cA
  go_wp2_with fail
  go_at_call 24
  refine (cR w3 hb3).mono ?_
  rintro e w4 ⟨rfl, hb4⟩
  have hb4' : Below w2.heap.size w2 w4 := hb3.trans (hb4.mono hb3.size)
  have k1 := cK1 w4 hb4'
  have k2 := cK2 w4 hb4'
  clear cR cK1 cK2 hb3 hb4
  go_wp2_with fail
  go_at_call 22
  refine k1.mono ?_
  rintro e w5 ⟨rfl, rfl⟩
  clear k1
  go_wp2_with fail
  go_at_call 22
  refine k2.mono ?_
  rintro e w5 ⟨rfl, rfl⟩
  clear k2
  go_wp2_with (go_at_call 18; refine (works_any _).mono ?_; rintro e w6 ⟨rfl, hb6⟩)
  go_ret
  have hB4 : Below w.heap.size w w4 := hB2.trans (hb4'.mono hB2.size)
  exact ⟨rfl, hB4.trans (hb6.mono hB4.size)⟩

set_option maxRecDepth 100000 in
theorem points_big1 (ao bo : Option Addr) (n c m d : Nat) (w : World) (hn : (300 : Int) < n) :
    Calls Try.prog 5 #[.slice ao n c, .slice bo m d] w fun e w' => e = .returned (.bool true) ∧ Below w.heap.size w w' := by
  go_enter Try.func5, Try.ntmps5
  go_wp2_with (go_at_call 18; refine (works_any w).mono ?_; rintro e w' ⟨rfl, hb⟩)
  go_ret
  exact ⟨rfl, hb⟩
set_option maxRecDepth 100000 in
theorem points_big2 (ao bo : Option Addr) (n c m d : Nat) (w : World) (hn : (n : Int) ≤ 300) (hm : (300 : Int) < m) :
    Calls Try.prog 5 #[.slice ao n c, .slice bo m d] w fun e w' => e = .returned (.bool true) ∧ Below w.heap.size w w' := by
  have hn' : decide ((300 : Int) < (n : Int)) = false := by simp; omega
  go_enter Try.func5, Try.ntmps5
  go_wp2_with (go_at_call 18; refine (works_any w).mono ?_; rintro e w' ⟨rfl, hb⟩)
  go_ret
  exact ⟨rfl, hb⟩
end Go.Proofs.Ytokjlgafidcahaa
