/- The document's bytes of numbers and texts behind any bytes. -/
import Derived.Test.YtmnkbbfpdohpkaaDoorOnly
namespace Go.Proofs.YtmnkbbfpdohpkaaDoor
open Go.RowKit

theorem be_take_succ (v : Int) : ∀ (n j : Nat), j < n → (be n v).take (j + 1) = (be n v).take j ++ [(v / 256 ^ (n - 1 - j)) % 256] := by
  intro n
  induction n with
  | zero => intro j h; omega
  | succ n ih =>
    intro j h
    cases j with
    | zero => simp [be]
    | succ j =>
      have := ih j (by omega)
      simp only [be, List.take_succ_cons, this]
      rw [show n + 1 - 1 - (j + 1) = n - 1 - j by omega]
      rfl

set_option maxHeartbeats 1000000 in
set_option maxRecDepth 100000 in
theorem refPut_any (ao : Option Addr) (n c : Nat) (xs : List Int) (v : Int) (wd : Nat) (w : World) (hs : Shows w ao n xs) (hc : ao = none → c = 0) (hbig : n ≤ 140737488200000) (hwd : wd ≤ 8) :
    Calls Tryd.prog 17 #[.slice ao n c, .int .u64 v, .int .i64 wd] w fun e w' => ∃ u, e = .returned u ∧ w'.ownsRow w.heap.size 5 1 u (n + wd) (u8s (xs ++ be wd v)) ∧ Below w.heap.size w w' := by
  go_enter Tryd.func17, Tryd.ntmps17
  go_wp2_with (at_builtin; go_must (refine law_append rfl _ _ rfl w.heap.size _ 0 [] rfl (World.ownsRow_nil _ _ _ _) ao n c xs rfl hs hc (by omega) (Nat.le_refl _) ?_))
  intro v1 w1 hown1 hgrow1
  try simp only [Nat.zero_add, List.nil_append] at hown1
  have hb1 : Below w.heap.size w w1 := (Below.refl _ w).grown hgrow1 (Nat.le_refl _) (by intro b hb; simp [Value.ownBlock] at hb)
  clear hgrow1
  go_wp2
  go_loopw [7, 8] (fun o i wr => ∃ (j : Nat) (q : Int), j ≤ wd ∧ i = .int .i64 q ∧ Hid (q = (wd : Int) - 1 - j) ∧ wr.ownsRow w.heap.size 5 1 o (n + j) (u8s (xs ++ (be wd v).take j)) ∧ Below w.heap.size w wr) (fun _ i _ => (intOf i + 1).toNat)
  case atStart => exact ⟨0, _, by omega, rfl, by show _ = _; omega, by simpa using hown1, hb1⟩
  case round =>
    obtain ⟨j, q, hj, rfl, HQ, hown, hbr⟩ := hrel
    by_cases hlt : j < wd
    · obtain ⟨p, hp⟩ : ∃ p : Nat, q = p := ⟨q.toNat, by have := HQ.out; omega⟩
      subst hp
      have hp8 : (p : Int) ≤ 7 := by have := HQ.out; omega
      have hp1 : (8 * (p : Int)) < 64 := by omega
      have hsz := hbr.size
      have he8 : v / 2 ^ (8 * p) % 256 = v / 256 ^ (wd - 1 - j) % 256 := by
        have : wd - 1 - j = p := by have := HQ.out; omega
        rw [this, Int.pow_mul]
        rfl
      have hr0 : 0 ≤ v / 2 ^ (8 * p) % 256 ∧ v / 2 ^ (8 * p) % 256 ≤ 255 := by omega
      have HE : Hid (v / 2 ^ (8 * p) % 256 = v / 256 ^ (wd - 1 - j) % 256) := he8
      clear he8
      have hsrc := shows_new wr [v / 2 ^ (8 * p) % 256] (by simpa using hr0)
      have HHR : Hid (0 ≤ v / 2 ^ (8 * p) % 256 ∧ v / 2 ^ (8 * p) % 256 ≤ 255) := hr0
      clear hr0
      go_wp2_with (at_builtin; go_must (refine law_append rfl _ _ rfl w.heap.size _ _ _ rfl (hown.alloc _) _ 1 1 _ rfl hsrc (by intro h; cases h) (by omega) (by simp; omega) ?_))
      intro v' w2 hown2 hgrow _
      go_wp2
      go_roundw
      case rel =>
        refine ⟨j + 1, _, by omega, rfl, by have := HQ.out; show _ = _; omega, ?_, ?_⟩
        · rw [be_take_succ v wd j hlt, ← HE.out]
          exact hown2
        · exact (hbr.alloc hsz _).grown hgrow (by simp; omega) (fun b hb => (hown.lt b hb).1)
      case measure => simp [intOf]
    · have hjw : j = wd := by omega
      subst hjw
      have hq : q = -1 := by have := HQ.out; omega
      subst hq
      go_wp2
      go_ret
      refine ⟨_, rfl, ?_, hbr⟩
      rw [List.take_of_length_le (by rw [be_length]; omega)] at hown
      exact hown

set_option maxHeartbeats 400000 in
set_option maxRecDepth 100000 in
theorem refPutText_ok (ao : Option Addr) (n c : Nat) (xs : List Int) (s : ByteArray) (w : World) (hs : Shows w ao n xs) (hc : ao = none → c = 0) (hbig : n ≤ 140737488100000) (hm : (s.size : Int) ≤ 65535) :
    Calls Tryd.prog 15 #[.slice ao n c, .string s] w fun e w' => ∃ u, e = .returned (.tuple #[u, .int .i64 0]) ∧ w'.ownsRow w.heap.size 5 1 u (n + (2 + s.size)) (u8s (xs ++ (be 2 s.size ++ nums s))) ∧ Below w.heap.size w w' := by
  obtain ⟨i0, hi, hz0, hz1, hz2⟩ := info_parts Tryd.info5
  go_enter Tryd.func15, Tryd.ntmps15
  go_wp2_with (first
    | (go_at_call 17; refine (refPut_any ao n c xs (s.size : Int) 2 w hs hc (by omega) (by omega)).mono ?_; rintro e w1 ⟨u1, rfl, hown1, hb1⟩)
    | (refine Lib.wpList_append_own_string _ rfl _ _ 22 9 rfl w.heap.size 5 i0 Tryd.underlying22 Tryd.underlying9 hi hz0 hz1 hz2 _ _ _ rfl hown1 s rfl (by unfold maxLen; omega) (by omega) hb1.size ?_))
  intro v' w2 hown2 hgrow _
  go_wp2
  go_ret2
  refine ⟨_, rfl, ?_, hb1.grown hgrow hb1.size (fun b hb => (hown1.lt b hb).1)⟩
  rw [strCells_nums, ← u8s_append, List.append_assoc, Nat.add_assoc] at hown2
  exact hown2

set_option maxHeartbeats 400000 in
theorem refPutText_long (ao : Option Addr) (n c : Nat) (s : ByteArray) (w : World) (hm : (65535 : Int) < s.size) :
    Calls Tryd.prog 15 #[.slice ao n c, .string s] w fun e w' => e = .returned (.tuple #[.slice none 0 0, .int .i64 3]) ∧ w = w' := by
  go_enter Tryd.func15, Tryd.ntmps15
  go_wp2
  go_ret2
  exact ⟨rfl, rfl⟩

end Go.Proofs.YtmnkbbfpdohpkaaDoor
