/- A polynomial's values, by the program and by the document's answer. -/
import Derived.Test.YtineieoghlbchaaDoorPoly
import Derived.Test.YtineieoghlbchaaDoorRef
import Derived.Test.YtineieoghlbchaaDoorBase
import Derived.Deep.QuietTactic
import Derived.BigQuiet
namespace Go.Proofs.YtineieoghlbchaaDoor
open Go.RowKit

theorem v8_ne {x y : B} (h : x ≠ y) : ¬ v8 x = v8 y := fun e => h (v8_inj e)
theorem elems_of (xs : List Int) (h : ∀ x ∈ xs, 0 ≤ x ∧ x ≤ 255) : ∃ cs : List B, xs = cs.map v8 := by
  induction xs with
  | nil => exact ⟨[], rfl⟩
  | cons x xs ih =>
    obtain ⟨cs, hc⟩ := ih (fun y hy => h y (by simp [hy]))
    have hx := h x (by simp)
    exact ⟨BitVec.ofNat 8 x.toNat :: cs, by rw [List.map_cons, ← v8_of x hx.1 hx.2, hc]⟩
theorem getD_map (cs : List B) (k : Nat) (h : k < cs.length) : (cs.map v8).getD k 0 = v8 (cs.getD k 0#8) := by
  simp [List.getD, List.getElem?_eq_getElem h]
theorem Shows.elem {w : World} {ad : Addr} {n : Nat} {cs : List B} (h : Shows w (some ad) n (cs.map v8)) (k : Nat) (hk : k < n) : w.cell? (ad.add k) = some (.int .u8 (v8 (cs.getD k 0#8))) := by
  have hl := h.len
  rw [List.length_map] at hl
  rw [h.cell ad rfl k hk, getD_map cs k (by omega)]
theorem Shows.some {w : World} {ao : Option Addr} {n : Nat} {xs : List Int} (h : Shows w ao n xs) (hn : 0 < n) : ∃ ad, ao = some ad := by
  cases ao with
  | none => have := h.bare rfl; omega
  | some ad => exact ⟨ad, rfl⟩

set_option maxRecDepth 100000 in
set_option maxHeartbeats 1000000 in
theorem eval_any (ao : Option Addr) (n c : Nat) (cs : List B) (x : B) (w : World) (hs : Shows w ao n (cs.map v8)) (hn : (n : Int) ≤ 140737488355328) :
    Calls Tryd.prog 35 #[.slice ao n c, .int .u8 (v8 x)] w fun e w' => e = .returned (.int .u8 (v8 (ev cs x))) ∧ Below w.heap.size w w' := by
  have hl : cs.length = n := by have := hs.len; rwa [List.length_map] at this
  have HL : Hid (cs.length = n) := hl
  clear hl
  go_enter Tryd.func35, Tryd.ntmps35
  go_wp2
  go_loopw [5, 6] (fun y i wr => ∃ j : Nat, j ≤ n ∧ i = .int .i64 ((j : Int) - 1) ∧ y = .int .u8 (v8 (ev (cs.drop j) x)) ∧ Below w.heap.size w wr) (fun _ i _ => (intOf i + 1).toNat)
  case atStart => exact ⟨n, Nat.le_refl _, rfl, by rw [ev_none cs n (by rw [HL.out]; exact Nat.le_refl _)]; rfl, Below.refl _ _⟩
  case round =>
    obtain ⟨j, hj, rfl, rfl, hb⟩ := hrel
    cases j with
    | zero =>
      rw [show ((0 : Nat) : Int) - 1 = -1 from rfl]
      go_wp2
      go_ret
      exact ⟨rfl, hb⟩
    | succ k =>
      rw [show ((k + 1 : Nat) : Int) - 1 = (k : Int) by omega]
      obtain ⟨ad, rfl⟩ := hs.some (by omega)
      have hc := (hs.later hb).elem k (by omega)
      have HE : Hid (ev (cs.drop k) x = mul (ev (cs.drop (k + 1)) x) x ^^^ cs.getD k 0#8) := ev_drop cs k (by rw [HL.out]; omega) x
      obtain ⟨d, ed⟩ : ∃ d, d = cs.getD k 0#8 := ⟨_, rfl⟩
      rw [← ed] at hc HE
      clear ed
      obtain ⟨p, ep⟩ : ∃ p, p = ev (cs.drop (k + 1)) x := ⟨_, rfl⟩
      rw [← ep] at HE ⊢
      clear ep
      have hkn : (k : Int) < (n : Int) := by omega
      go_wp2_with fail
      go_quiet ((first | (go_at_call 52; exact Calls.quiet_of_same ((mul_any _ _ _ _ _ rfl rfl).mono (fun e w' h => ⟨h.1, h.2.symm⟩))) | (go_at_call 51; exact Calls.quiet_of_same ((add_any _ _ _ _ _ rfl rfl).mono (fun e w' h => ⟨h.1, h.2.symm⟩)))))
      go_wp2
      go_roundw
      case rel => exact ⟨k, by omega, rfl, by rw [HE.out], ⟨hb.os, hb.tape, hb.output, hb.size, hb.block⟩⟩
      case measure => simp [intOf]

theorem ev_take (cs : List B) (k : Nat) (h : k < cs.length) (x : B) : ev (cs.take (k + 1)) x = ev (cs.take k) x ^^^ mul (cs.getD k 0#8) (pow x k) := by
  rw [List.take_succ_eq_append_getElem h, ev_snoc, List.length_take, Nat.min_eq_left (by omega)]
  simp [List.getD, List.getElem?_eq_getElem h]

set_option maxRecDepth 100000 in
set_option maxHeartbeats 1000000 in
theorem refEval_any (ao : Option Addr) (n c : Nat) (cs : List B) (x : B) (w : World) (hs : Shows w ao n (cs.map v8)) (hn : (n : Int) ≤ 140737488355328) :
    Calls Tryd.prog 36 #[.slice ao n c, .int .u8 (v8 x)] w fun e w' => e = .returned (.int .u8 (v8 (ev cs x))) ∧ w = w' := by
  have hl : cs.length = n := by have := hs.len; rwa [List.length_map] at this
  have HL : Hid (cs.length = n) := hl
  clear hl
  go_enter Tryd.func36, Tryd.ntmps36
  go_wp2
  go_loop [5, 6, 7] (fun y p i => ∃ j : Nat, j ≤ n ∧ i = .int .i64 j ∧ y = .int .u8 (v8 (ev (cs.take j) x)) ∧ p = .int .u8 (v8 (pow x j))) (fun _ _ i => n - (intOf i).toNat)
  case atStart => exact ⟨0, Nat.zero_le _, rfl, rfl, rfl⟩
  case round =>
    obtain ⟨k, hj, rfl, rfl, rfl⟩ := hrel
    by_cases hlt : k < n
    · obtain ⟨ad, rfl⟩ := hs.some (by omega)
      have hc := hs.elem k (by omega)
      have HE : Hid (ev (cs.take (k + 1)) x = ev (cs.take k) x ^^^ mul (cs.getD k 0#8) (pow x k)) := ev_take cs k (by rw [HL.out]; omega) x
      have HP : Hid (pow x (k + 1) = mul (pow x k) x) := rfl
      obtain ⟨d, ed⟩ : ∃ d, d = cs.getD k 0#8 := ⟨_, rfl⟩
      rw [← ed] at hc HE
      clear ed
      obtain ⟨s, es⟩ : ∃ p, p = ev (cs.take k) x := ⟨_, rfl⟩
      rw [← es] at HE ⊢
      clear es
      obtain ⟨p, ep⟩ : ∃ p, p = pow x k := ⟨_, rfl⟩
      rw [← ep] at HE HP ⊢
      clear ep
      have hkn : (k : Int) < (n : Int) := by omega
      go_wp2_with (go_at_call 49; refine (refMul_any _ _ _ _ _ rfl rfl).mono ?_; rintro e w' ⟨rfl, rfl⟩)
      go_round
      case rel => exact ⟨k + 1, by omega, by go_num, by rw [HE.out, v8_xor], by rw [HP.out]⟩
      case measure => simp [intOf]; omega
    · have hkn : k = n := by omega
      subst hkn
      have HT : Hid (cs.take k = cs) := List.take_of_length_le (by rw [HL.out]; exact Nat.le_refl _)
      go_wp2
      go_ret
      exact ⟨by rw [HT.out]; rfl, rfl⟩
end Go.Proofs.YtineieoghlbchaaDoor
