/- The value at 0, by the program. -/
import Derived.Test.YtineieoghlbchaaDoorWeight
namespace Go.Proofs.YtineieoghlbchaaDoor
open Go.RowKit

set_option maxRecDepth 100000 in
set_option maxHeartbeats 1000000 in
theorem atz_bad (ao bo : Option Addr) (n c m d : Nat) (cs : List B) (w : World) (hs : Shows w ao n (cs.map v8)) (hn : (n : Int) ≤ 140737488355328) (hbad : n = 0 ∨ n ≠ m ∨ ¬ Good cs) :
    Calls Tryd.prog 41 #[.slice ao n c, .slice bo m d] w fun e w' => e = .returned (.tuple #[.int .u8 0, .int .i64 31]) ∧ Below w.heap.size w w' := by
  by_cases h0 : n = 0
  · subst h0
    go_enter Tryd.func41, Tryd.ntmps41
    go_wp2
    go_ret2
    exact ⟨rfl, Below.refl _ _⟩
  · have h0' : ((n : Int) == 0) = false := by simp; omega
    by_cases hnm : n = m
    · subst hnm
      have hG : ¬ Good cs := by
        rcases hbad with h | h | h
        · exact absurd h h0
        · exact absurd rfl h
        · exact h
      have hp := places_no ao n c cs w hs hn hG
      clear hbad hG
      go_enter Tryd.func41, Tryd.ntmps41
      go_wp2_with (go_at_call 54; refine hp.mono ?_; rintro e w' ⟨rfl, hb⟩)
      go_ret2
      exact ⟨rfl, hb⟩
    · have hnm' : ((n : Int) == (m : Int)) = false := by simp; omega
      have hnm2 : ¬ (n : Int) = (m : Int) := by omega
      clear hbad
      go_enter Tryd.func41, Tryd.ntmps41
      go_wp2
      go_ret2
      exact ⟨rfl, Below.refl _ _⟩

set_option maxRecDepth 100000 in
set_option maxHeartbeats 1000000 in
theorem atz_good (ao bo : Option Addr) (n c d : Nat) (cs ds : List B) (w : World) (hs : Shows w ao n (cs.map v8)) (ht : Shows w bo n (ds.map v8)) (hn : (n : Int) ≤ 140737488355328) (h0 : 0 < n) (hG : Good cs) :
    Calls Tryd.prog 41 #[.slice ao n c, .slice bo n d] w fun e w' => e = .returned (.tuple #[.int .u8 (v8 (atZ cs ds)), .int .i64 0]) ∧ Below w.heap.size w w' := by
  have h0' : ((n : Int) == 0) = false := by simp; omega
  have hp := places_yes ao n c cs w hs hn hG
  have hl : cs.length = n := by have := hs.len; rwa [List.length_map] at this
  have HL : Hid (cs.length = n) := hl
  clear hl
  obtain ⟨ad, rfl⟩ := hs.some h0
  obtain ⟨bd, rfl⟩ := ht.some h0
  go_enter Tryd.func41, Tryd.ntmps41
  go_wp2_with (first
    | (go_at_call 54; refine hp.mono ?_; rintro e w1 ⟨rfl, hb1⟩)
    | (go_at_call 55; refine (newTables_any _).mono ?_; rintro e w2 ⟨rfl, hT2, hb2⟩))
  have hB2 : Below w.heap.size w w2 := hb1.trans (hb2.mono hb1.size)
  obtain ⟨g, eg⟩ : ∃ g, g = w1.heap.size := ⟨_, rfl⟩
  rw [← eg] at hT2 ⊢
  have hBS : Below w2.heap.size w2 w2 := Below.refl _ _
  clear hp hb1 hb2 eg
  go_loopw [4, 27] (fun y i wr => ∃ j : Nat, j ≤ n ∧ i = .int .i64 j ∧ y = .int .u8 (v8 (azT cs ds j)) ∧ Below w2.heap.size w2 wr) (fun _ i _ => n - (intOf i).toNat)
  case atStart => exact ⟨0, Nat.zero_le _, rfl, rfl, hBS⟩
  case round =>
    obtain ⟨k, hk, rfl, rfl, hb⟩ := hrel
    have hBr : Below w.heap.size w wr := hB2.trans (hb.mono hB2.size)
    by_cases hlt : k < n
    · have hx := (hs.later hBr).elem k hlt
      have hy := (ht.later hBr).elem k hlt
      have hsr := hs.later hBr
      have hTr := hT2.later hb
      have HS : Hid (azT cs ds (k + 1) = azT cs ds k ^^^ mul (ds.getD k 0#8) (wtT cs (cs.getD k 0#8) cs.length)) := rfl
      obtain ⟨x, ex⟩ : ∃ d, d = cs.getD k 0#8 := ⟨_, rfl⟩
      obtain ⟨y, ey⟩ : ∃ d, d = ds.getD k 0#8 := ⟨_, rfl⟩
      obtain ⟨s, es⟩ : ∃ d, d = azT cs ds k := ⟨_, rfl⟩
      rw [← ex] at hx HS
      rw [← ey] at hy HS
      rw [← es] at HS ⊢
      clear ex ey es
      have hkn : (k : Int) < (n : Int) := by omega
      have hN : ∀ N, Below wr.heap.size wr (wr.drewN N) := fun N => ⟨rfl, rfl, rfl, Nat.le_refl _, fun _ _ => rfl⟩
      have cw := fun N => weight_any g (some ad) n c cs x (wr.drewN N) (hTr.later (hN N)) (hsr.later (hN N)) hn hG.2
      clear hN
      clear hTr hsr
      go_wp2_with fail
      go_quiet ((first | (go_at_call 52; exact Calls.quiet_of_same ((mul_any _ _ _ _ _ rfl rfl).mono (fun e w' h => ⟨h.1, h.2.symm⟩))) | (go_at_call 51; exact Calls.quiet_of_same ((add_any _ _ _ _ _ rfl rfl).mono (fun e w' h => ⟨h.1, h.2.symm⟩))) | (go_at_call 56; exact Calls.quiet_of_same ((cw _).mono (fun e w' h => ⟨h.1, h.2.symm⟩)))))
      go_wp2
      go_roundw
      case rel => exact ⟨k + 1, by omega, by go_num, by rw [HS.out], ⟨hb.os, hb.tape, hb.output, hb.size, hb.block⟩⟩
      case measure => simp [intOf]; omega
    · have hkn : k = n := by omega
      subst hkn
      have HZ : Hid (atZ cs ds = azT cs ds k) := by unfold atZ; rw [HL.out]; exact rfl
      go_wp2
      go_ret2
      exact ⟨by rw [HZ.out]; rfl, hBr⟩
end Go.Proofs.YtineieoghlbchaaDoor
