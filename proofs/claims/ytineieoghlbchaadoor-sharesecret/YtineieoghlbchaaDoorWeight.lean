/- What the value at a place counts for at 0, and the value at 0, by the program. -/
import Derived.Test.YtineieoghlbchaaDoorPlaces
import Derived.Test.YtineieoghlbchaaDoorElem
namespace Go.Proofs.YtineieoghlbchaaDoor
open Go.RowKit

theorem mem_getD (cs : List B) (k : Nat) (h : k < cs.length) : cs.getD k 0#8 ∈ cs := by
  simp [List.getD, List.getElem?_eq_getElem h]

set_option maxRecDepth 100000 in
set_option maxHeartbeats 1000000 in
theorem weight_any (g : Nat) (ao : Option Addr) (n c : Nat) (cs : List B) (x : B) (w : World) (hT : Tabs w g) (hs : Shows w ao n (cs.map v8)) (hn : (n : Int) ≤ 140737488355328) (h0 : 0#8 ∉ cs) :
    Calls Tryd.prog 56 #[.pointer (some ⟨g, 0, none⟩), .slice ao n c, .int .u8 (v8 x)] w fun e w' => e = .returned (.int .u8 (v8 (wtT cs x cs.length))) ∧ w = w' := by
  have hl : cs.length = n := by have := hs.len; rwa [List.length_map] at this
  have HL : Hid (cs.length = n) := hl
  have HE : Hid (E (lsT cs x n) = wtT cs x cs.length) := by rw [hl]; exact E_lsT cs x n (by omega) h0
  clear hl
  go_enter Tryd.func56, Tryd.ntmps56
  go_wp2
  go_loop [7, 12] (fun s i => ∃ j : Nat, j ≤ n ∧ i = .int .i64 j ∧ s = .int .i64 (lsT cs x j)) (fun _ i => n - (intOf i).toNat)
  case atStart => exact ⟨0, Nat.zero_le _, rfl, rfl⟩
  case round =>
    obtain ⟨k, hk, rfl, rfl⟩ := hrel
    have hle := lsT_le cs x k
    by_cases hlt : k < n
    · obtain ⟨ad, rfl⟩ := hs.some (by omega)
      have hc := hs.elem k (by omega)
      have HS : Hid (lsT cs x (k + 1) = lsT cs x k + lpart x (cs.getD k 0#8)) := rfl
      have hne : cs.getD k 0#8 ≠ 0#8 := fun e => h0 (e ▸ mem_getD cs k (by rw [HL.out]; omega))
      obtain ⟨d, ed⟩ : ∃ d, d = cs.getD k 0#8 := ⟨_, rfl⟩
      rw [← ed] at hc HS hne
      clear ed
      have hkn : (k : Int) < (n : Int) := by omega
      by_cases hdx : d = x
      · subst hdx
        go_wp2
        go_round
        case rel => exact ⟨k + 1, by omega, by go_num, by rw [HS.out, lpart, if_pos rfl]; rfl⟩
        case measure => simp [intOf]; omega
      · have hvx := v8_ne hdx
        have hx0 := xor_ne hdx
        have l1 := lg_lt d
        have l2 := lg_lt (d ^^^ x)
        have HP : Hid (lpart x d = 255 + lg d - lg (d ^^^ x)) := by unfold lpart; rw [if_neg hdx]; exact rfl
        obtain ⟨a, ea⟩ : ∃ a, a = lg d := ⟨_, rfl⟩
        obtain ⟨b, eb⟩ : ∃ b, b = lg (d ^^^ x) := ⟨_, rfl⟩
        obtain ⟨s, es⟩ : ∃ s, s = lsT cs x k := ⟨_, rfl⟩
        have c1 := log_any d (v8 d) g w rfl hne hT
        have c2 := log_any (d ^^^ x) (v8 (d ^^^ x)) g w rfl hx0 hT
        rw [← ea] at l1 HP c1
        rw [← eb] at l2 HP c2
        rw [← es] at hle HS ⊢
        clear ea eb es hne hx0
        go_wp2_with fail
        refine c1.mono ?_
        rintro e w' ⟨rfl, rfl⟩
        clear c1
        go_wp2_with fail
        go_at_call 51
        refine (add_any _ _ _ _ _ rfl rfl).mono ?_
        rintro e w' ⟨rfl, rfl⟩
        go_wp2_with fail
        go_at_call 65
        refine c2.mono ?_
        rintro e w' ⟨rfl, rfl⟩
        clear c2
        go_wp2
        go_round
        case rel => exact ⟨k + 1, by omega, by go_num, by rw [HS.out, HP.out]; congr 1; omega⟩
        case measure => simp [intOf]; omega
    · have hkn : k = n := by omega
      subst hkn
      go_wp2_with (go_at_call 66; refine (power_any (lsT cs x k) _ _ _ rfl (by omega) hT).mono ?_; rintro e w' ⟨rfl, rfl⟩)
      go_ret
      exact ⟨by rw [HE.out]; rfl, rfl⟩
end Go.Proofs.YtineieoghlbchaaDoor
