/- Bytes with seven more behind them in the same memory, and the look whether they are as they were. -/
import Derived.Test.YtmnkbbfpdohpkaaDoorWorks
namespace Go.Proofs.YtmnkbbfpdohpkaaDoor
open Go.RowKit

def marks : List Int := [201, 202, 203, 204, 205, 206, 207]
theorem marks_at (j : Nat) (h : j < 7) : marks.take (j + 1) = marks.take j ++ [201 + (j : Int)] := by
  have : ∀ j, j < 7 → marks.take (j + 1) = marks.take j ++ [201 + (j : Int)] := by decide
  exact this j h
theorem marks_rng : ∀ x ∈ marks, 0 ≤ x ∧ x ≤ 255 := by decide

set_option maxHeartbeats 1000000 in
theorem roomy_any (ao : Option Addr) (n c : Nat) (xs : List Int) (w : World) (hs : Shows w ao n xs) (hc : ao = none → c = 0) (hbig : n ≤ 140737488355300) :
    Calls Tryd.prog 10 #[.slice ao n c] w fun e w' => ∃ g cap, e = .returned (.slice (some ⟨g, 0, none⟩) n cap) ∧ w'.ownsRow w.heap.size 5 1 (.slice (some ⟨g, 0, none⟩) (n + 7) cap) (n + 7) (u8s (xs ++ marks)) ∧ Below w.heap.size w w' := by
  have HL : Hid (xs.length = n) := hs.len
  go_enter Tryd.func10, Tryd.ntmps10
  go_wp2_with (go_at_call 25; refine (copyBytes_any ao n c xs w hs hc (by omega)).mono ?_; rintro e w1 ⟨v, rfl, hown0, hb0⟩)
  go_loopw [3, 4] (fun v i wr => ∃ j : Nat, j ≤ 7 ∧ i = .int .i64 j ∧ wr.ownsRow w.heap.size 5 1 v (n + j) (u8s (xs ++ marks.take j)) ∧ Below w.heap.size w wr) (fun _ i _ => 7 - (intOf i).toNat)
  case atStart => exact ⟨0, by omega, rfl, by simpa using hown0, hb0⟩
  case round =>
    obtain ⟨j, hj, rfl, hown, hbr⟩ := hrel
    by_cases hlt : j < 7
    · have hsz := hbr.size
      have hsrc := shows_new wr [201 + (j : Int)] (by simp; omega)
      go_wp2_with (at_builtin; go_must (refine law_append rfl _ _ rfl w.heap.size _ _ _ rfl (hown.alloc _) _ 1 1 _ rfl hsrc (by intro h; cases h) (by omega) (by simp; omega) ?_))
      intro v' w2 hown2 hgrow _
      go_wp2
      go_roundw
      case rel =>
        refine ⟨j + 1, by omega, by go_num, ?_, ?_⟩
        · rw [marks_at j hlt]
          simpa [Nat.add_assoc] using hown2
        · exact (hbr.alloc hsz _).grown hgrow (by simp; omega) (fun b hb => (hown.lt b hb).1)
      case measure => simp [intOf]; omega
    · have hj7 : j = 7 := by omega
      subst hj7
      obtain ⟨g, cap, hv, _, _⟩ := hown.form (by omega)
      subst hv
      have hcap : n + 7 ≤ cap := by
        rcases hown.2 with ⟨h3, _⟩ | ⟨g', cap', cur, h3, _, _, hn, _⟩
        · cases h3
        · cases h3; exact hn
      have hmax : cap ≤ maxLen := by
        rcases hown.2 with ⟨h3, _⟩ | ⟨g', cap', cur, h3, _, _, _, hm, _⟩
        · cases h3
        · cases h3; exact hm
      unfold maxLen at hmax
      have hcap0 : cap ≠ 0 := by omega
      go_wp2
      go_ret
      rw [show marks.take 7 = marks from rfl] at hown
      exact ⟨g, cap, rfl, hown, hbr⟩

/-- A row that is owned shows its first bytes. -/
theorem shows_first {w : World} {base g n m cap : Nat} {xs ys : List Int} (h : w.ownsRow base 5 1 (.slice (some ⟨g, 0, none⟩) m cap) m (u8s (xs ++ ys))) (hl : xs.length = n) (hm : n ≤ m) (hr : ∀ x ∈ xs, 0 ≤ x ∧ x ≤ 255) : Shows w (some ⟨g, 0, none⟩) n xs := by
  refine ⟨hl, fun e => (by cases e), fun ad had j hj => ?_, hr⟩
  cases had
  have hadd : (⟨g, 0, none⟩ : Addr).add j = ⟨g, j, none⟩ := by unfold Addr.add; split <;> simp_all
  rw [hadd, h.cellAt j (by omega)]
  rw [u8s_append, List.getElem?_append_left (by rw [u8s_length]; omega)]
  simp [u8s, List.getD, List.getElem?_eq_getElem (show j < xs.length by omega)]

set_option maxHeartbeats 1000000 in
theorem kept_any (g n cap base c : Nat) (ao : Option Addr) (xs : List Int) (w : World) (hown : w.ownsRow base 5 1 (.slice (some ⟨g, 0, none⟩) (n + 7) cap) (n + 7) (u8s (xs ++ marks))) (hs : Shows w ao n xs) (hbig : n ≤ 140737488355300) :
    Calls Tryd.prog 18 #[.slice (some ⟨g, 0, none⟩) n cap, .slice ao n c] w fun e w' => e = .returned (.bool true) ∧ w = w' := by
  have HL : Hid (xs.length = n) := hs.len
  have hs1 := shows_first hown hs.len (by omega) hs.rng
  have hcap : n + 7 ≤ cap := by
    rcases hown.2 with ⟨h3, _⟩ | ⟨g', cap', cur, h3, _, _, hn, _⟩
    · cases h3
    · cases h3; exact hn
  have hmax : cap ≤ maxLen := by
    rcases hown.2 with ⟨h3, _⟩ | ⟨g', cap', cur, h3, _, _, _, hm, _⟩
    · cases h3
    · cases h3; exact hm
  unfold maxLen at hmax
  have hcap0 : cap ≠ 0 := by omega
  go_enter Tryd.func18, Tryd.ntmps18
  go_wp2_with (go_at_call 16; refine (eqBytes_any _ _ _ _ _ _ _ _ _ hs1 hs).mono ?_; rintro e w' ⟨rfl, rfl⟩)
  go_loop [6] (fun i => ∃ j : Nat, j ≤ 7 ∧ i = .int .i64 j) (fun i => 7 - (intOf i).toNat)
  case atStart => exact ⟨0, by omega, rfl⟩
  case round =>
    obtain ⟨j, hj, rfl⟩ := hrel
    by_cases hlt : j < 7
    · have hcx : w.cell? ⟨g, n + j, none⟩ = some (.int .u8 (201 + (j : Int))) := by
        rw [hown.cellAt (n + j) (by omega)]
        have := HL.out
        subst this
        have : ∀ j : Nat, j < 7 → marks[j]? = some (201 + (j : Int)) := by decide
        rw [u8s_append, List.getElem?_append_right (by rw [u8s_length]; omega), u8s_length, Nat.add_sub_cancel_left]
        simp [u8s, this j hlt]
      go_wp2
      go_round
      case rel => exact ⟨j + 1, by omega, by go_num⟩
      case measure => simp [intOf]; omega
    · go_wp2
      go_ret
      exact ⟨rfl, rfl⟩

end Go.Proofs.YtmnkbbfpdohpkaaDoor
