/- The document's digits of a number. -/
import Derived.Test.YtmnkbbfpdohpkaaDoorFmt
import Derived.Lib.ItoaLen
namespace Go.Proofs.YtmnkbbfpdohpkaaDoor
open Go.RowKit

theorem last_digit (x : Int) (d : Nat) (h : d < 10) (hx : x = 48 + (d : Int)) : strOfNums [x] = ⟨#[UInt8.ofNat (48 + d)]⟩ := by
  subst hx
  have : (48 + (d : Int)).toNat = 48 + d := by omega
  simp [strOfNums, this]

set_option maxHeartbeats 1000000 in
set_option maxRecDepth 100000 in
theorem refDigits_any : ∀ (u : Nat), u < 18446744073709551616 → ∀ (w : World),
    Calls Tryd.prog 29 #[.int .u64 u] w fun e w' => e = .returned (.string ⟨(Lib.decDigits u).toArray⟩) ∧ Below w.heap.size w w' := by
  intro u
  induction u using Nat.strongRecOn with
  | _ u ih =>
  intro hu w
  have hm : 0 ≤ (u : Int) % 10 ∧ (u : Int) % 10 < 10 := by omega
  have hsh := shows_new w [48 + (u : Int) % 10] (by simp; omega)
  have hcv : (convert 22 9 (.slice (some ⟨w.heap.size, 0, none⟩) 1 1)).run Tryd.prog (w.alloc (.cells #[.int .u8 (48 + (u : Int) % 10)] 5)) = .ok (.string (strOfNums [48 + (u : Int) % 10])) (w.alloc (.cells #[.int .u8 (48 + (u : Int) % 10)] 5)) := run_string_of _ _ 1 _ _ hsh
  clear hsh
  have hld := last_digit (48 + (u : Int) % 10) (u % 10) (by omega) (by omega)
  rw [hld] at hcv
  clear hld
  obtain ⟨b, hb⟩ : ∃ b : UInt8, Hid (UInt8.ofNat (48 + u % 10) = b) := ⟨_, rfl⟩
  rw [hb.out] at hcv
  have hbA : Below w.heap.size w (w.alloc (.cells #[.int .u8 (48 + (u : Int) % 10)] 5)) := (Below.refl _ w).alloc (Nat.le_refl _) _
  by_cases hs : (u : Int) < 10
  · go_enter Tryd.func29, Tryd.ntmps29
    go_wp2
    go_ret
    refine ⟨?_, hbA⟩
    have e := hb.out
    rw [Nat.mod_eq_of_lt (by omega)] at e
    rw [Lib.decDigits_one (by omega), e]
    rfl
  · have HD : Hid (Lib.decDigits u = Lib.decDigits (u / 10) ++ [b]) := by
      show _ = _
      rw [Lib.decDigits, dif_neg (by omega), hb.out]
    have hq : (((u / 10 : Nat)) : Int) = (u : Int) / 10 := by omega
    have ih2 := ih (u / 10) (by omega) (by omega)
    rw [hq] at ih2
    clear ih hq
    have hl : (Lib.decDigits (u / 10)).length ≤ 20 := by rw [Lib.decDigits_length]; exact Lib.nDigits_le20 _ (by omega)
    go_enter Tryd.func29, Tryd.ntmps29
    go_wp2_with (go_at_call 29; refine (ih2 _).mono ?_; rintro e w' ⟨rfl, hbB⟩)
    go_ret
    refine ⟨?_, hbA.trans (hbB.mono (by simp))⟩
    rw [HD.out]
    show Ending.returned (.string _) = Ending.returned (.string _)
    congr 2
end Go.Proofs.YtmnkbbfpdohpkaaDoor
