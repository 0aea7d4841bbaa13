/- Bytes with seven more behind them in the same memory, and the look whether they are as they were. -/
import Derived.Test.YtjhkicfndbceoaaBase
import Derived.Outline
import Derived.Deep.AppendLies
namespace Go.Proofs.Ytjhkicfndbceoaa
open Go.RowKit

theorem cell?_of_other {w : World} {a p : Addr} {u : Value} (h : p.block ≠ a.block) : (w.setCell a u).cell? p = w.cell? p := World.cell?_of_block (heap_setCell_other w a p.block u h)

theorem add_add (ad : Addr) (i j : Nat) : (ad.add i).add j = ad.add (i + j) := by
  unfold Addr.add
  by_cases hi : i = 0
  · subst hi; simp
  · by_cases hj : j = 0
    · subst hj; simp [hi]
    · simp [hi, hj, Nat.add_assoc]

theorem Shows.beside {w : World} {ao : Option Addr} {n : Nat} {xs : List Int} (h : Shows w ao n xs) {a : Addr} (hne : ∀ ad, ao = some ad → ad.block ≠ a.block) (u : Value) : Shows (w.setCell a u) ao n xs :=
  ⟨h.len, h.bare, fun ad had j hj => by
    rw [cell?_of_other (by have := hne ad had; unfold Addr.add; split <;> simpa using this)]
    exact h.cell ad had j hj, h.rng⟩

def fromAt (ao : Option Addr) (c k : Nat) : Option Addr := if c = k then ao else ao.map (·.add k)

theorem Shows.drop {w : World} {ao : Option Addr} {n c k : Nat} {xs : List Int} (h : Shows w ao n xs) (hk : k ≤ n) (hc : n ≤ c) : Shows w (fromAt ao c k) (n - k) (xs.drop k) := by
  have hl := h.len
  refine ⟨by simp; omega, ?_, ?_, fun x hx => h.rng x (List.mem_of_mem_drop hx)⟩
  · intro e
    unfold fromAt at e
    split at e
    · omega
    · cases ao with
      | none => have := h.bare rfl; omega
      | some ad => simp at e
  · intro ad had j hj
    unfold fromAt at had
    split at had
    · omega
    · cases ao with
      | none => simp at had
      | some a0 =>
        simp only [Option.map_some, Option.some.injEq] at had
        subst had
        rw [add_add, h.cell a0 rfl (k + j) (by omega)]
        simp [List.getD]

theorem Shows.take {w : World} {ao : Option Addr} {n k : Nat} {xs : List Int} (h : Shows w ao n xs) (hk : k ≤ n) : Shows w ao k (xs.take k) := by
  have hl := h.len
  refine ⟨by simp; omega, fun e => by have := h.bare e; omega, fun ad had j hj => ?_, fun x hx => h.rng x (List.mem_of_mem_take hx)⟩
  rw [h.cell ad had j (by omega)]
  simp [List.getD, hj]

theorem own_shape {w : World} {base : Nat} {v : Value} {n : Nat} {xs : List Int} (h : w.ownsRow base 5 1 v n (u8s xs)) (hr : ∀ x ∈ xs, 0 ≤ x ∧ x ≤ 255) :
    ∃ ao c, v = .slice ao n c ∧ Shows w ao n xs ∧ n ≤ c ∧ c ≤ maxLen ∧ (ao = none → c = 0) ∧ ∀ ad, ao = some ad → base ≤ ad.block ∧ ad.block < w.heap.size := by
  obtain ⟨ao, c, hv, hs, hc⟩ := shows_of_own h hr
  refine ⟨ao, c, hv, hs, hc, ?_⟩
  rcases h.2 with ⟨h3, _⟩ | ⟨g, cap, cur, h3, hg, hh, hn, hm, hsz, ht⟩
  · rw [hv] at h3; cases h3
    exact ⟨Nat.zero_le _, fun _ => rfl, fun ad h => (by cases h)⟩
  · rw [hv] at h3; cases h3
    exact ⟨hm, fun h => (by cases h), fun ad h => by cases h; exact ⟨hg, lt_of_block hh⟩⟩

theorem shows_new (w : World) (xs : List Int) (hr : ∀ x ∈ xs, 0 ≤ x ∧ x ≤ 255) : Shows (w.alloc (.cells (u8s xs).toArray 5)) (some ⟨w.heap.size, 0, none⟩) xs.length xs := by
  refine ⟨rfl, fun h => (by cases h), fun ad had j hj => ?_, hr⟩
  cases had
  have hadd : (⟨w.heap.size, 0, none⟩ : Addr).add j = ⟨w.heap.size, j, none⟩ := by unfold Addr.add; split <;> simp_all
  rw [hadd, cell_of_row _ _ j _ 5 _ (heap_alloc_new w _)]
  simp [u8s, List.getD, List.getElem?_eq_getElem hj]

def marks : List Int := [201, 202, 203, 204, 205, 206, 207]
theorem marks_at (j : Nat) (h : j < 7) : marks.take (j + 1) = marks.take j ++ [201 + (j : Int)] := by
  have : ∀ j, j < 7 → marks.take (j + 1) = marks.take j ++ [201 + (j : Int)] := by decide
  exact this j h
theorem marks_rng : ∀ x ∈ marks, 0 ≤ x ∧ x ≤ 255 := by decide

set_option maxHeartbeats 1000000 in
theorem roomy_any (ao : Option Addr) (n c : Nat) (xs : List Int) (w : World) (hs : Shows w ao n xs) (hc : ao = none → c = 0) (hbig : n ≤ 140737488355300) :
    Calls Try.prog 9 #[.slice ao n c] w fun e w' => ∃ g cap, e = .returned (.slice (some ⟨g, 0, none⟩) n cap) ∧ w'.ownsRow w.heap.size 5 1 (.slice (some ⟨g, 0, none⟩) (n + 7) cap) (n + 7) (u8s (xs ++ marks)) ∧ Below w.heap.size w w' := by
  have HL : Hid (xs.length = n) := hs.len
  go_enter Try.func9, Try.ntmps9
  go_wp2_with (go_at_call 17; refine (copyBytes_any ao n c xs w hs hc (by omega)).mono ?_; rintro e w1 ⟨v, rfl, hown0, hb0⟩)
  go_loopw [3, 4] (fun v i wr => ∃ j : Nat, j ≤ 7 ∧ i = .int .i64 j ∧ wr.ownsRow w.heap.size 5 1 v (n + j) (u8s (xs ++ marks.take j)) ∧ Below w.heap.size w wr) (fun _ i _ => 7 - (intOf i).toNat)
  case atStart => exact ⟨0, by omega, rfl, by simpa using hown0, hb0⟩
  case round =>
    obtain ⟨j, hj, rfl, hown, hbr⟩ := hrel
    by_cases hlt : j < 7
    · have hsz := hbr.size
      have hsrc := shows_new wr [201 + (j : Int)] (by simp; omega)
      go_wp2_with (at_builtin; go_must (refine law_append rfl _ _ rfl w.heap.size _ _ _ rfl (hown.alloc _) _ 1 1 _ rfl hsrc (by intro h; cases h) (by omega) (by simp; omega) ?_))
      intro v' w2 hown2 hgrow _
      go_wp2
      go_roundw
      case rel =>
        refine ⟨j + 1, by omega, by go_num, ?_, ?_⟩
        · rw [marks_at j hlt]
          simpa [Nat.add_assoc] using hown2
        · exact (hbr.alloc hsz _).grown hgrow (by simp; omega) (fun b hb => (hown.lt b hb).1)
      case measure => simp [intOf]; omega
    · have hj7 : j = 7 := by omega
      subst hj7
      obtain ⟨g, cap, hv, _, _⟩ := hown.form (by omega)
      subst hv
      have hcap : n + 7 ≤ cap := by
        rcases hown.2 with ⟨h3, _⟩ | ⟨g', cap', cur, h3, _, _, hn, _⟩
        · cases h3
        · cases h3; exact hn
      have hmax : cap ≤ maxLen := by
        rcases hown.2 with ⟨h3, _⟩ | ⟨g', cap', cur, h3, _, _, _, hm, _⟩
        · cases h3
        · cases h3; exact hm
      unfold maxLen at hmax
      have hcap0 : cap ≠ 0 := by omega
      go_wp2
      go_ret
      rw [show marks.take 7 = marks from rfl] at hown
      exact ⟨g, cap, rfl, hown, hbr⟩

/-- A row that is owned shows its first bytes. -/
theorem shows_first {w : World} {base g n m cap : Nat} {xs ys : List Int} (h : w.ownsRow base 5 1 (.slice (some ⟨g, 0, none⟩) m cap) m (u8s (xs ++ ys))) (hl : xs.length = n) (hm : n ≤ m) (hr : ∀ x ∈ xs, 0 ≤ x ∧ x ≤ 255) : Shows w (some ⟨g, 0, none⟩) n xs := by
  refine ⟨hl, fun e => (by cases e), fun ad had j hj => ?_, hr⟩
  cases had
  have hadd : (⟨g, 0, none⟩ : Addr).add j = ⟨g, j, none⟩ := by unfold Addr.add; split <;> simp_all
  rw [hadd, h.cellAt j (by omega)]
  rw [u8s_append, List.getElem?_append_left (by rw [u8s_length]; omega)]
  simp [u8s, List.getD, List.getElem?_eq_getElem (show j < xs.length by omega)]

set_option maxHeartbeats 1000000 in
theorem kept_any (g n cap base c : Nat) (ao : Option Addr) (xs : List Int) (w : World) (hown : w.ownsRow base 5 1 (.slice (some ⟨g, 0, none⟩) (n + 7) cap) (n + 7) (u8s (xs ++ marks))) (hs : Shows w ao n xs) (hbig : n ≤ 140737488355300) :
    Calls Try.prog 13 #[.slice (some ⟨g, 0, none⟩) n cap, .slice ao n c] w fun e w' => e = .returned (.bool true) ∧ w = w' := by
  have HL : Hid (xs.length = n) := hs.len
  have hs1 := shows_first hown hs.len (by omega) hs.rng
  have hcap : n + 7 ≤ cap := by
    rcases hown.2 with ⟨h3, _⟩ | ⟨g', cap', cur, h3, _, _, hn, _⟩
    · cases h3
    · cases h3; exact hn
  have hmax : cap ≤ maxLen := by
    rcases hown.2 with ⟨h3, _⟩ | ⟨g', cap', cur, h3, _, _, _, hm, _⟩
    · cases h3
    · cases h3; exact hm
  unfold maxLen at hmax
  have hcap0 : cap ≠ 0 := by omega
  go_enter Try.func13, Try.ntmps13
  go_wp2_with (go_at_call 12; refine (eqBytes_any _ _ _ _ _ _ _ _ _ hs1 hs).mono ?_; rintro e w' ⟨rfl, rfl⟩)
  go_loop [6] (fun i => ∃ j : Nat, j ≤ 7 ∧ i = .int .i64 j) (fun i => 7 - (intOf i).toNat)
  case atStart => exact ⟨0, by omega, rfl⟩
  case round =>
    obtain ⟨j, hj, rfl⟩ := hrel
    by_cases hlt : j < 7
    · have hcx : w.cell? ⟨g, n + j, none⟩ = some (.int .u8 (201 + (j : Int))) := by
        rw [hown.cellAt (n + j) (by omega)]
        have := HL.out
        subst this
        have : ∀ j : Nat, j < 7 → marks[j]? = some (201 + (j : Int)) := by decide
        rw [u8s_append, List.getElem?_append_right (by rw [u8s_length]; omega), u8s_length, Nat.add_sub_cancel_left]
        simp [u8s, this j hlt]
      go_wp2
      go_round
      case rel => exact ⟨j + 1, by omega, by go_num⟩
      case measure => simp [intOf]; omega
    · go_wp2
      go_ret
      exact ⟨rfl, rfl⟩

end Go.Proofs.Ytjhkicfndbceoaa
