/- A text that is whole is read as itself. -/
import Derived.Test.YtmnkbbfpdohpkaaDoorOnly
namespace Go.Proofs.YtmnkbbfpdohpkaaDoor
open Go.RowKit

set_option maxHeartbeats 400000 in
theorem text_at (r : Nat) (ao : Option Addr) (n c m : Nat) (xs : List Int) (w : World) (h : Rd w r ao n c xs 0) (h2 : 2 ≤ n) (hm : beval (xs.take 2) = m) (hn : 2 + m ≤ n) :
    Calls Tryd.prog 38 #[.pointer (some ⟨r, 0, none⟩)] w fun e w' => e = .returned (.string (strOfNums ((xs.drop 2).take m))) ∧ (∃ ao' c', Rd w' r ao' (n - 2 - m) c' ((xs.drop 2).drop m) 0) ∧ Only r w w' := by
  have c0 := h.c0
  have hbd := num_bd h 2 h2
  rw [hm] at hbd
  have hm2 : (m : Int) ≤ 65535 := by omega
  have HM : Hid (beval (xs.take 2) = m) := hm
  have h' : Rd w r ao n c xs 0 := h
  clear hm hbd h
  go_enter Tryd.func38, Tryd.ntmps38
  go_wp2_with (first
    | (go_at_call 34; go_must (refine (u16_at r ao n c xs w h' h2).mono ?_; rintro e w2 ⟨he, hw2⟩; rw [HM.out] at he; subst he; have hrd2 := h'.takes h2 hw2; have hon2 : Only r w w2 := hw2 ▸ Only.set r 0 _ w; clear hw2))
    | (go_at_call 58; go_must (refine (take_ok r _ _ _ _ m w2 hrd2 (by omega)).mono ?_; rintro e w3 ⟨rfl, hw3⟩; have hrd3 := hrd2.takes (show m ≤ n - 2 by omega) hw3; have hon3 : Only r w2 w3 := hw3 ▸ Only.set r 0 _ w2; have hsh3 : Shows w3 (fromAt ao c 2) m ((xs.drop 2).take m) := hw3 ▸ ((hrd2.sh.take (show m ≤ n - 2 by omega)).beside (fun ad had => hrd2.apart ad had) _); clear hw3; have k3 := run_string_of _ _ (c - 2) _ _ hsh3; have d1 := hrd3.c1)))
  go_ret
  exact ⟨rfl, ⟨_, _, hrd3⟩, hon2.trans hon3⟩

end Go.Proofs.YtmnkbbfpdohpkaaDoor
