/- Digits read as a number: the document's way. -/
import Derived.Test.YtmnkbbfpdohpkaaDoorParse
namespace Go.Proofs.YtmnkbbfpdohpkaaDoor
open Go.RowKit

theorem val_take_succ (l : List UInt8) (j : Nat) (h : j < l.length) : valFrom 0 (l.take (j + 1)) = valFrom 0 (l.take j) * 10 + (l[j].toNat - 48) := by
  rw [List.take_succ_eq_append_getElem h]
  unfold valFrom
  rw [List.foldl_append]
  rfl

theorem val_take_le (l : List UInt8) (j : Nat) : valFrom 0 (l.take j) ≤ valFrom 0 l := by
  have h : valFrom 0 l = valFrom (valFrom 0 (l.take j)) (l.drop j) := by
    unfold valFrom
    rw [← List.foldl_append, List.take_append_drop]
  rw [h, valFrom_eq (l.drop j)]
  have : 1 ≤ 10 ^ (l.drop j).length := Nat.one_le_pow _ _ (by decide)
  have := Nat.mul_le_mul_left (valFrom 0 (l.take j)) this
  omega

set_option maxHeartbeats 1000000 in
set_option maxRecDepth 100000 in
theorem refNumber_any (s : ByteArray) (w : World) (hbig : s.size ≤ 281474976710656) :
    Calls Tryd.prog 27 #[.string s] w fun e w' => e = .returned (.tuple #[.int .u64 (nV s.data.toList), .int .i64 (nE s.data.toList)]) ∧ w = w' := by
  by_cases h0 : s.size = 0
  · have hnil : s.data.toList = [] := List.eq_nil_of_length_eq_zero (by simpa using h0)
    have HE : Hid (nE s.data.toList = 10 ∧ nV s.data.toList = 0) := by rw [hnil]; exact ⟨rfl, rfl⟩
    clear hnil
    go_enter Tryd.func27, Tryd.ntmps27
    go_wp2
    go_ret2
    exact ⟨by rw [HE.out.1, HE.out.2]; rfl, rfl⟩
  · have hne : s.data.toList ≠ [] := by
      intro e
      apply h0
      have := congrArg List.length e
      simpa using this
    have hpos : 0 < s.size := by omega
    have HNE : Hid (s.data.toList ≠ []) := hne
    have hlen : s.data.toList.length = s.size := by simp
    have hposi : (0 : Int) < s.size := by omega
    have hb0 := s[0].toNat_lt
    have e0 : s.data.toList[0]? = some s[0] := by rw [List.getElem?_eq_getElem (by omega), at_data s 0 hpos]
    have HL : Hid (s.data.toList.length = s.size) := hlen
    have HE0 : Hid (s.data.toList[0]? = some s[0]) := e0
    clear e0 hlen hne
    go_enter Tryd.func27, Tryd.ntmps27
    go_wp2
    go_loop [4] (fun i => ∃ j : Nat, j ≤ s.size ∧ i = .int .i64 j ∧ Hid (digs (s.data.toList.take j))) (fun i => s.size - (intOf i).toNat)
    case atStart => exact ⟨0, by omega, rfl, by show digs _; simp [digs]⟩
    case round =>
      obtain ⟨j, hj, rfl, HA⟩ := hrel
      by_cases hlt : j < s.size
      · have hjs : (j : Int) < s.size := by omega
        have hb := s[j].toNat_lt
        have hjl : j < s.data.toList.length := by have := HL.out; omega
        have HJ : Hid (s.data.toList[j] = s[j]) := at_data s j hlt
        have HJL : Hid (j < s.data.toList.length) := hjl
        by_cases hlo : s[j].toNat < 48
        · have HB2 : Hid (nE s.data.toList = 11 ∧ nV s.data.toList = 0) := nE_bad HNE.out (Or.inl (badB_at j hjl (by rw [HJ.out]; omega)))
          clear HJ hjl
          go_wp2
          go_ret2
          exact ⟨by rw [HB2.out.1, HB2.out.2]; rfl, rfl⟩
        · by_cases hhi : 57 < s[j].toNat
          · have HB2 : Hid (nE s.data.toList = 11 ∧ nV s.data.toList = 0) := nE_bad HNE.out (Or.inl (badB_at j hjl (by rw [HJ.out]; omega)))
            clear HJ hjl
            go_wp2
            go_ret2
            exact ⟨by rw [HB2.out.1, HB2.out.2]; rfl, rfl⟩
          · clear HJ hjl
            go_wp2
            go_round
            case rel =>
              refine ⟨_, _, .int .i64 ((j + 1 : Nat) : Int), ⟨j + 1, by omega, rfl, ?_⟩, rfl, rfl, by go_num⟩
              show digs _
              rw [List.take_succ_eq_append_getElem HJL.out]
              intro c hc
              rcases List.mem_append.1 hc with h | h
              · exact HA.out c h
              · rw [List.mem_singleton.1 h, at_data s j hlt]; omega
            case measure => simp [intOf]; omega
      · have hjs : j = s.size := by omega
        subst hjs
        have hdg : digs s.data.toList := by
          have := HA.out
          rw [List.take_of_length_le (by have := HL.out; omega)] at this
          exact this
        have HDG : Hid (digs s.data.toList) := hdg
        by_cases hld : s[0].toNat = 48 ∧ 1 < s.size
        · have hB : leadB s.data.toList = true := by
            unfold leadB
            rw [HE0.out, HL.out]
            have : s[0] = 48 := UInt8.toNat_inj.1 hld.1
            simp [this, hld.2]
          have HB : Hid (nE s.data.toList = 11 ∧ nV s.data.toList = 0) := nE_bad HNE.out (Or.inr hB)
          have h1 := hld.1
          have h2 : (1 : Int) < s.size := by omega
          clear hB hdg
          go_wp2
          go_ret2
          exact ⟨by rw [HB.out.1, HB.out.2]; rfl, rfl⟩
        · have hB : leadB s.data.toList = false := by
            unfold leadB
            rw [HE0.out, HL.out]
            by_cases h1 : s[0].toNat = 48
            · simp; intro _; omega
            · have : ¬ s[0] = 48 := fun e => h1 (by rw [e]; rfl)
              simp [this]
          have HB : Hid (leadB s.data.toList = false) := hB
          clear hB hdg
          by_cases hval : valFrom 0 s.data.toList ≤ 18446744073709551615
          · have HG : Hid (nE s.data.toList = 0 ∧ nV s.data.toList = valFrom 0 s.data.toList) := nE_good HNE.out (badB_false.2 HDG.out) HB.out hval
            have hcase : (s.size : Int) ≤ 1 ∨ ((1 : Int) < s.size ∧ ¬ s[0].toNat = 48 ∧ (s.size : Int) < 20) ∨ ((1 : Int) < s.size ∧ ¬ s[0].toNat = 48 ∧ (s.size : Int) = 20) := by
              have : (s.size : Int) ≤ 20 := by
                rcases Int.lt_or_le 20 (s.size : Int) with h | h
                · have := len_big s.data.toList HDG.out (by rw [HL.out]; omega) (fun c hc => by rw [HE0.out] at hc; cases hc; omega)
                  omega
                · exact h
              omega
            have hcmp : (s.size : Int) = 20 → (!(Op.bytesLess s.toList most || s.toList == most)) = false := by
              intro h
              rw [ByteArray.toList_eq, more_val s.data.toList HDG.out (by rw [HL.out]; omega)]
              simp; omega
            have hcase4 : (s.size : Int) ≤ 1 ∨ ((1 : Int) < s.size ∧ ¬ s[0].toNat = 48 ∧ (s.size : Int) < 20) ∨ ((1 : Int) < s.size ∧ ¬ s[0].toNat = 48 ∧ (s.size : Int) = 20 ∧ Op.bytesLess s.toList [49, 56, 52, 52, 54, 55, 52, 52, 48, 55, 51, 55, 48, 57, 53, 53, 49, 54, 49, 53] = true) ∨
                ((1 : Int) < s.size ∧ ¬ s[0].toNat = 48 ∧ (s.size : Int) = 20 ∧ Op.bytesLess s.toList [49, 56, 52, 52, 54, 55, 52, 52, 48, 55, 51, 55, 48, 57, 53, 53, 49, 54, 49, 53] = false ∧ (s.toList == [49, 56, 52, 52, 54, 55, 52, 52, 48, 55, 51, 55, 48, 57, 53, 53, 49, 54, 49, 53]) = true) := by
              rcases hcase with hc1 | ⟨hc1, hc2, hc3⟩ | ⟨hc1, hc2, hc3⟩
              · exact Or.inl hc1
              · exact Or.inr (Or.inl ⟨hc1, hc2, hc3⟩)
              · have hc4 := hcmp hc3
                unfold most at hc4
                cases hlt2 : Op.bytesLess s.toList [49, 56, 52, 52, 54, 55, 52, 52, 48, 55, 51, 55, 48, 57, 53, 53, 49, 54, 49, 53] with
                | true => exact Or.inr (Or.inr (Or.inl ⟨hc1, hc2, hc3, rfl⟩))
                | false =>
                  rw [hlt2] at hc4
                  exact Or.inr (Or.inr (Or.inr ⟨hc1, hc2, hc3, rfl, by simpa using hc4⟩))
            have HVAL : Hid (valFrom 0 s.data.toList ≤ 18446744073709551615) := hval
            clear hcase hcmp hval
            rcases hcase4 with hc1 | ⟨hc1, hc2, hc3⟩ | ⟨hc1, hc2, hc3, hlt2⟩ | ⟨hc1, hc2, hc3, hlt2, heq2⟩
            all_goals
              go_wp2
              go_loop [5, 6] (fun x i => ∃ j v : Nat, j ≤ s.size ∧ i = .int .i64 j ∧ x = .int .u64 v ∧ Hid (valFrom 0 (s.data.toList.take j) = v)) (fun _ i => s.size - (intOf i).toNat)
              case atStart => exact ⟨0, 0, by omega, rfl, rfl, by show _ = _; simp [valFrom]⟩
              case round =>
                obtain ⟨j, v, hj, rfl, rfl, HV⟩ := hrel
                by_cases hlt : j < s.size
                · have hjs : (j : Int) < s.size := by omega
                  have hb := s[j].toNat_lt
                  have hjl : j < s.data.toList.length := by have := HL.out; omega
                  have hdj := HDG.out _ (List.getElem_mem hjl)
                  rw [at_data s j hlt] at hdj
                  have hvs := val_take_succ s.data.toList j hjl
                  rw [at_data s j hlt, HV.out] at hvs
                  have HVS : Hid (valFrom 0 (s.data.toList.take (j + 1)) = v * 10 + ((s[j]'hlt).toNat - 48)) := hvs
                  have hle := val_take_le s.data.toList (j + 1)
                  rw [hvs] at hle
                  have hmx : v * 10 + ((s[j]'hlt).toNat - 48) ≤ 18446744073709551615 := Nat.le_trans hle HVAL.out
                  have hd0 := hdj.1
                  have hd1 := hdj.2
                  clear hjl hdj hvs hle
                  go_wp2
                  go_round
                  case rel => exact ⟨j + 1, v * 10 + ((s[j]'hlt).toNat - 48), by omega, by go_num, by go_num, HVS⟩
                  case measure => simp [intOf]; omega
                · have HF : Hid (v = valFrom 0 s.data.toList) := by
                    show _ = _
                    rw [← HV.out, List.take_of_length_le (by have := HL.out; omega)]
                  go_wp2
                  go_ret2
                  exact ⟨by rw [HG.out.1, HG.out.2, ← HF.out]; rfl, rfl⟩
          · have HG : Hid (nE s.data.toList = 12 ∧ nV s.data.toList = 0) := nE_wide HNE.out (badB_false.2 HDG.out) HB.out (by omega)
            have h19 : ¬ (s.size : Int) < 20 := fun h => hval (len_small _ HDG.out (by rw [HL.out]; omega))
            have hc1 : (1 : Int) < s.size := by omega
            have hc2 : ¬ s[0].toNat = 48 := by omega
            rcases Int.lt_or_le 20 (s.size : Int) with h20 | h20
            · go_wp2
              go_ret2
              exact ⟨by rw [HG.out.1, HG.out.2]; rfl, rfl⟩
            · have h20' : (s.size : Int) = 20 := by omega
              have hcmp : (!(Op.bytesLess s.toList most || s.toList == most)) = true := by
                rw [ByteArray.toList_eq, more_val s.data.toList HDG.out (by rw [HL.out]; omega)]
                simp; omega
              unfold most at hcmp
              rw [Bool.not_eq_true', Bool.or_eq_false_iff] at hcmp
              obtain ⟨hlt2, heq2⟩ := hcmp
              go_wp2
              go_ret2
              exact ⟨by rw [HG.out.1, HG.out.2]; rfl, rfl⟩
end Go.Proofs.YtmnkbbfpdohpkaaDoor
