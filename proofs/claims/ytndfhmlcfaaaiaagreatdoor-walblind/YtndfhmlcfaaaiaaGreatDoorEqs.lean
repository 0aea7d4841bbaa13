/- Numbers and sectors held against one another; a list with a mark behind its end. -/
import Derived.Test.YtndfhmlcfaaaiaaGreatDoorPend
import Derived.Deep.AppendLies
namespace Go.Proofs.YtndfhmlcfaaaiaaGreatDoor
open Go.RowKit

theorem Ints.heap {w w' : World} {ao : Option Addr} {n : Nat} {xs : List Int} (h : Ints w ao n xs) (he : w'.heap = w.heap) : Ints w' ao n xs :=
  ⟨h.len, h.bare, fun ad had j hj => (World.cell?_of_block (by rw [he])).trans (h.cell ad had j hj), h.wf⟩
/-- What is owned is shown. -/
theorem ints_of_own {w : World} {base : Nat} {v : Value} {n : Nat} {xs : List Int} (h : w.ownsRow base 3 1 v n (xs.map encZ)) (hw : ∀ x ∈ xs, (Lit.int .i64 x).wf = true) :
    ∃ ao c, v = .slice ao n c ∧ Ints w ao n xs ∧ n ≤ c ∧ (∀ ad, ao = some ad → base ≤ ad.block) ∧ n ≤ maxLen := by
  have h0 := h
  obtain ⟨h1, h2⟩ := h
  have hl : xs.length = n := by simpa using h1
  rcases h2 with ⟨rfl, rfl⟩ | ⟨g, cap, cur, rfl, hg, hh, hn, hm, hsz, ht⟩
  · exact ⟨none, 0, rfl, ⟨hl, fun _ => rfl, fun ad h => (by cases h), hw⟩, Nat.le_refl _, fun ad h => (by cases h), Nat.zero_le _⟩
  · refine ⟨some ⟨g, 0, none⟩, cap, rfl, ⟨hl, fun h => (by cases h), ?_, hw⟩, hn, fun ad h => (by cases h; exact hg), Nat.le_trans hn hm⟩
    intro ad had j hj
    cases had
    have := h0.cellAt j (by omega)
    have hadd : (⟨g, 0, none⟩ : Addr).add j = ⟨g, j, none⟩ := by unfold Addr.add; split <;> simp_all
    rw [hadd, this]
    simp [List.getD, List.getElem?_eq_getElem (show j < xs.length by omega)]

set_option maxHeartbeats 1000000 in
theorem eqInts_same (w : World) (ao bo : Option Addr) (n c d : Nat) (xs : List Int) (ha : Ints w ao n xs) (hb : Ints w bo n xs) (hn : n ≤ maxLen) :
    Calls Tryz.prog 20 #[.slice ao n c, .slice bo n d] w fun e w' => e = .returned (.bool true) ∧ Below w.heap.size w w' := by
  have hnI : (n : Int) ≤ 9223372036854775807 := by unfold maxLen at hn; omega
  go_enter Tryz.func20, Tryz.ntmps20
  go_wp2
  go_loopw [5] (fun v wr => ∃ j : Nat, j ≤ n ∧ v = .int .i64 (j : Int) ∧ Hid (wr.heap = w.heap) ∧ Below w.heap.size w wr) (fun v _ => n - (intOf v).toNat)
  case atStart => exact ⟨0, by omega, rfl, (show w.heap = w.heap from rfl), Below.refl _ _⟩
  case round =>
    obtain ⟨j, hj, rfl, hH, hB⟩ := hrel
    by_cases hlt : j < n
    · have hjI : (j : Int) < n := by omega
      cases ao with
      | none => have := ha.bare rfl; omega
      | some ad =>
        cases bo with
        | none => have := hb.bare rfl; omega
        | some bd =>
          have x1 := (ha.heap hH.out).cell ad rfl j hlt
          have x2 := (hb.heap hH.out).cell bd rfl j hlt
          obtain ⟨x, ex⟩ : ∃ x, x = xs.getD j 0 := ⟨_, rfl⟩
          rw [← ex] at x1 x2
          clear ex
          go_wp2_with fail
          go_quiet (fail)
          go_wp2_with fail
          go_roundw
          case rel => exact ⟨j + 1, by omega, by go_num, (show (wr.drewN nq).heap = w.heap by exact hH.out), below_drewN hB _⟩
          case measure => simp [intOf]; omega
    · have hjI : ¬ (j : Int) < n := by omega
      go_wp2
      go_ret
      exact ⟨rfl, hB⟩
set_option maxHeartbeats 1000000 in
set_option maxRecDepth 100000 in
theorem eqSectors_same (w : World) (f g n c d : Nat) (F : Nat → Sec) (hf : Rw w f n F) (hg : Rw w g n F) (hn : n ≤ 16384) :
    Calls Tryz.prog 10 #[.slice (some ⟨f, 0, none⟩) n c, .slice (some ⟨g, 0, none⟩) n d] w fun e w' => e = .returned (.bool true) ∧ Below w.heap.size w w' := by
  have hnI : (n : Int) ≤ 16384 := by omega
  go_enter Tryz.func10, Tryz.ntmps10
  go_wp2
  go_loopw [5] (fun v wr => ∃ j : Nat, j ≤ n ∧ v = .int .i64 (j : Int) ∧ Hid (wr.heap = w.heap) ∧ Below w.heap.size w wr) (fun v _ => n - (intOf v).toNat)
  case atStart => exact ⟨0, by omega, rfl, (show w.heap = w.heap from rfl), Below.refl _ _⟩
  case round =>
    obtain ⟨j, hj, rfl, hH, hB⟩ := hrel
    by_cases hlt : j < n
    · have hjI : (j : Int) < n := by omega
      have r1 : ∀ v : World, Sm wr v → v.rangeAt f (j * 512) (sb (F j)) := fun v h => (h.row (hf.same (by rw [hH.out]))).range hlt
      have r2 : ∀ v : World, Sm wr v → v.rangeAt g (j * 512) (sb (F j)) := fun v h => (h.row (hg.same (by rw [hH.out]))).range hlt
      have hR1 : Hid (∀ v : World, Sm wr v → v.rangeAt f (j * 512) (sb (F j))) := r1
      have hR2 : Hid (∀ v : World, Sm wr v → v.rangeAt g (j * 512) (sb (F j))) := r2
      clear r1 r2
      have hq0 : Hid (∀ v : World, (Op.equalIn 10000 26 (.agg (sb (F j)).toArray) (.agg (sb (F j)).toArray)).run Tryz.prog v = .ok true v) := fun v => by
        have := eq39 (F j) (F j) v
        rw [decide_eq_true rfl] at this
        exact this
      obtain ⟨S, hS⟩ : ∃ S, S = F j := ⟨_, rfl⟩
      rw [← hS] at hR1 hR2 hq0
      clear hS
      have h0j : (0 : Int) ≤ j := by omega
      go_wp2_with fail
      refine wp_region_to (fun v => Sm wr v) 9 (by kernel_rfl) ?_
      have hS0 := Sm.drew wr
      refine wpTo_take (i := 0) (v := ?v0q) (show _ = some _ by simp only [List.getElem?_toArray, List.getElem?_cons_zero]; exact rfl) (by kernel_rfl) (by kernel_rfl) (by kernel_rfl) (by kernel_rfl) (by exact fun _ _ _ h => h) (Or.inl ⟨by rfl, ?hy0q⟩) hS0 ?r0q
      case hy0q => (intro w hSw; (try dsimp only at hSw); go_simp; try with_reducible rfl)
      (try simp only [Act.put]); (try simp only [List.setIfInBounds_toArray]); (repeat (first | simp only [List.set_cons_succ] | simp only [List.set_cons_zero]))
      refine wpTo_take (i := 1) (v := ?v1q) (show _ = some _ by simp only [List.getElem?_toArray, List.getElem?_cons_succ, List.getElem?_cons_zero]; exact rfl) (by kernel_rfl) (by kernel_rfl) (by kernel_rfl) (by kernel_rfl) (by exact fun _ _ _ h => h) (Or.inl ⟨by rfl, ?hy1q⟩) hS0 ?r1q
      case hy1q => (intro w hSw; (try dsimp only at hSw); go_simp; try with_reducible rfl)
      (try simp only [Act.put]); (try simp only [List.setIfInBounds_toArray]); (repeat (first | simp only [List.set_cons_succ] | simp only [List.set_cons_zero]))
      refine wpTo_take (i := 2) (v := ?v2q) (show _ = some _ by simp only [List.getElem?_toArray, List.getElem?_cons_succ, List.getElem?_cons_zero]; exact rfl) (by kernel_rfl) (by kernel_rfl) (by kernel_rfl) (by kernel_rfl) (by exact fun _ _ _ h => h) (Or.inl ⟨by rfl, ?hy2q⟩) hS0 ?r2q
      case hy2q => (intro w hSw; (try dsimp only at hSw); go_simp; try with_reducible rfl)
      (try simp only [Act.put]); (try simp only [List.setIfInBounds_toArray]); (repeat (first | simp only [List.set_cons_succ] | simp only [List.set_cons_zero]))
      refine wpTo_take (i := 4) (v := ?v4q) (show _ = some _ by simp only [List.getElem?_toArray, List.getElem?_cons_succ, List.getElem?_cons_zero]; exact rfl) (by kernel_rfl) (by kernel_rfl) (by kernel_rfl) (by kernel_rfl) (by exact fun _ _ _ h => h) (Or.inl ⟨by rfl, ?hy4q⟩) hS0 ?r4q
      case hy4q => (intro w hSw; (try dsimp only at hSw); go_simp; try with_reducible rfl)
      (try simp only [Act.put]); (try simp only [List.setIfInBounds_toArray]); (repeat (first | simp only [List.set_cons_succ] | simp only [List.set_cons_zero]))
      refine wpTo_take (i := 5) (v := ?v5q) (show _ = some _ by simp only [List.getElem?_toArray, List.getElem?_cons_succ, List.getElem?_cons_zero]; exact rfl) (by kernel_rfl) (by kernel_rfl) (by kernel_rfl) (by kernel_rfl) (by exact fun _ _ _ h => h) (Or.inl ⟨by rfl, ?hy5q⟩) hS0 ?r5q
      case hy5q => (intro w hSw; (try dsimp only at hSw); go_simp; try with_reducible rfl)
      (try simp only [Act.put]); (try simp only [List.setIfInBounds_toArray]); (repeat (first | simp only [List.set_cons_succ] | simp only [List.set_cons_zero]))
      refine wpTo_take (i := 6) (v := ?v6q) (show _ = some _ by simp only [List.getElem?_toArray, List.getElem?_cons_succ, List.getElem?_cons_zero]; exact rfl) (by kernel_rfl) (by kernel_rfl) (by kernel_rfl) (by kernel_rfl) (by exact fun _ _ _ h => h) (Or.inl ⟨by rfl, ?hy6q⟩) hS0 ?r6q
      case hy6q => (intro w hSw; (try dsimp only at hSw); go_simp; try with_reducible rfl)
      (try simp only [Act.put]); (try simp only [List.setIfInBounds_toArray]); (repeat (first | simp only [List.set_cons_succ] | simp only [List.set_cons_zero]))
      refine wpTo_take (i := 3) (show _ = some _ by simp only [List.getElem?_toArray, List.getElem?_cons_succ, List.getElem?_cons_zero]; exact rfl) (by kernel_rfl) (by kernel_rfl) (by kernel_rfl) (by kernel_rfl) (by exact fun _ _ _ h => h) (yieldsIf_load_mid (by rfl) 26 (.tmp 19) rfl f (j * 512) rfl (sb S) _ (fun v h => hR1.out v h) Tryz.underlying26 rfl (by rw [sb_length]; kernel_rfl)) hS0 ?_
      (try simp only [Act.put]); (try simp only [List.setIfInBounds_toArray]); (repeat (first | simp only [List.set_cons_succ] | simp only [List.set_cons_zero]))
      refine wpTo_take (i := 7) (show _ = some _ by simp only [List.getElem?_toArray, List.getElem?_cons_succ, List.getElem?_cons_zero]; exact rfl) (by kernel_rfl) (by kernel_rfl) (by kernel_rfl) (by kernel_rfl) (by exact fun _ _ _ h => h) (yieldsIf_load_mid (by rfl) 26 (.tmp 23) rfl g (j * 512) rfl (sb S) _ (fun v h => hR2.out v h) Tryz.underlying26 rfl (by rw [sb_length]; kernel_rfl)) hS0 ?_
      (try simp only [Act.put]); (try simp only [List.setIfInBounds_toArray]); (repeat (first | simp only [List.set_cons_succ] | simp only [List.set_cons_zero]))
      refine wpTo_take (i := 8) (v := ?v8q) (show _ = some _ by simp only [List.getElem?_toArray, List.getElem?_cons_succ, List.getElem?_cons_zero]; exact rfl) (by kernel_rfl) (by kernel_rfl) (by kernel_rfl) (by kernel_rfl) (by exact fun _ _ _ h => h) (Or.inl ⟨by rfl, ?hy8q⟩) hS0 ?r8q
      case hy8q => (intro w hSw; (try dsimp only at hSw); have hq := hq0.out; have hgd := guard39; go_simp; try with_reducible rfl)
      (try simp only [Act.put]); (try simp only [List.setIfInBounds_toArray]); (repeat (first | simp only [List.set_cons_succ] | simp only [List.set_cons_zero]))
      refine wpTo_done (by kernel_rfl) ?_
      go_wp2_with fail
      go_roundw
      case rel => exact ⟨j + 1, by omega, by go_num, (show wr.drew.heap = w.heap by exact hH.out), below_drewN hB 1⟩
      case measure => simp [intOf]; omega
    · have hjI : ¬ (j : Int) < n := by omega
      go_wp2
      go_ret
      exact ⟨rfl, hB⟩
end Go.Proofs.YtndfhmlcfaaaiaaGreatDoor

