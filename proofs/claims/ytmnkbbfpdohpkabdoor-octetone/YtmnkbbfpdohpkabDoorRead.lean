/- What a reader answers, and what is left, whatever is asked of it. -/
import Derived.Test.YtmnkbbfpdohpkabDoorPut
import Derived.Laws.BitsAllLaws
namespace Go.Proofs.YtmnkbbfpdohpkabDoor
open Go.RowKit

/-- The reader in block r: the bytes xs are left, at ao; its error is e. -/
structure Rd (w : World) (r : Nat) (ao : Option Addr) (n c : Nat) (xs : List Int) (e : Int) : Prop where
  blk : w.heap[r]? = some (.cells #[.slice ao n c, .int .i64 e] 54 (0, 0))
  sh : Shows w ao n xs
  cap : n ≤ c
  big : c ≤ maxLen
  bare : ao = none → c = 0
  apart : ∀ ad, ao = some ad → ad.block ≠ r

theorem Rd.c0 {w : World} {r : Nat} {ao : Option Addr} {n c : Nat} {xs : List Int} {e : Int} (h : Rd w r ao n c xs e) : w.cell? ⟨r, 0, none⟩ = some (.slice ao n c) := by
  rw [cell_of_row w r 0 _ 54 _ h.blk]; rfl
theorem Rd.c1 {w : World} {r : Nat} {ao : Option Addr} {n c : Nat} {xs : List Int} {e : Int} (h : Rd w r ao n c xs e) : w.cell? ⟨r, 1, none⟩ = some (.int .i64 e) := by
  rw [cell_of_row w r 1 _ 54 _ h.blk]; rfl
theorem Rd.fz {w : World} {r : Nat} {ao : Option Addr} {n c : Nat} {xs : List Int} {e : Int} (h : Rd w r ao n c xs e) (j : Nat) : w.frozen? ⟨r, j, none⟩ = false := frozen_of_row w r j _ 54 h.blk

theorem cell?_of_other {w : World} {a p : Addr} {u : Value} (h : p.block ≠ a.block) : (w.setCell a u).cell? p = w.cell? p := World.cell?_of_block (heap_setCell_other w a p.block u h)

theorem Shows.beside {w : World} {ao : Option Addr} {n : Nat} {xs : List Int} (h : Shows w ao n xs) {a : Addr} (hne : ∀ ad, ao = some ad → ad.block ≠ a.block) (u : Value) : Shows (w.setCell a u) ao n xs :=
  ⟨h.len, h.bare, fun ad had j hj => by
    rw [cell?_of_other (by have := hne ad had; unfold Addr.add; split <;> simpa using this)]
    exact h.cell ad had j hj, h.rng⟩

/-- Behind an error that is set. -/
theorem Rd.fail {w : World} {r : Nat} {ao : Option Addr} {n c : Nat} {xs : List Int} {e : Int} (h : Rd w r ao n c xs e) (f : Int) : Rd (w.setCell ⟨r, 1, none⟩ (.int .i64 f)) r ao n c xs f :=
  ⟨by rw [heap_setCell_same w r 1 _ 54 _ h.blk]; rfl, h.sh.beside (fun ad had => h.apart ad had) _, h.cap, h.big, h.bare, h.apart⟩

/-- Where 'rest[k:]' begins. -/
def fromAt (ao : Option Addr) (c k : Nat) : Option Addr := if c = k then ao else ao.map (·.add k)

theorem add_add (ad : Addr) (i j : Nat) : (ad.add i).add j = ad.add (i + j) := by
  unfold Addr.add
  by_cases hi : i = 0
  · subst hi; simp
  · by_cases hj : j = 0
    · subst hj; simp [hi]
    · simp [hi, hj, Nat.add_assoc]

theorem Shows.drop {w : World} {ao : Option Addr} {n c k : Nat} {xs : List Int} (h : Shows w ao n xs) (hk : k ≤ n) (hc : n ≤ c) : Shows w (fromAt ao c k) (n - k) (xs.drop k) := by
  have hl := h.len
  refine ⟨by simp; omega, ?_, ?_, fun x hx => h.rng x (List.mem_of_mem_drop hx)⟩
  · intro e
    unfold fromAt at e
    split at e
    · omega
    · cases ao with
      | none => have := h.bare rfl; omega
      | some ad => simp at e
  · intro ad had j hj
    unfold fromAt at had
    split at had
    · omega
    · cases ao with
      | none => simp at had
      | some a0 =>
        simp only [Option.map_some, Option.some.injEq] at had
        subst had
        rw [add_add, h.cell a0 rfl (k + j) (by omega)]
        simp [List.getD]

theorem Shows.take {w : World} {ao : Option Addr} {n k : Nat} {xs : List Int} (h : Shows w ao n xs) (hk : k ≤ n) : Shows w ao k (xs.take k) := by
  have hl := h.len
  refine ⟨by simp; omega, fun e => by have := h.bare e; omega, fun ad had j hj => ?_, fun x hx => h.rng x (List.mem_of_mem_take hx)⟩
  rw [h.cell ad had j (by omega)]
  simp [List.getD, hj]

/-- Behind k bytes that were read. -/
theorem Rd.took {w : World} {r : Nat} {ao : Option Addr} {n c : Nat} {xs : List Int} {e : Int} (h : Rd w r ao n c xs e) {k : Nat} (hk : k ≤ n) : Rd (w.setCell ⟨r, 0, none⟩ (.slice (fromAt ao c k) (n - k) (c - k))) r (fromAt ao c k) (n - k) (c - k) (xs.drop k) e := by
  have hap : ∀ ad, fromAt ao c k = some ad → ad.block ≠ r := by
    intro ad had
    unfold fromAt at had
    split at had
    · exact h.apart ad had
    · cases ao with
      | none => simp at had
      | some a0 =>
        simp only [Option.map_some, Option.some.injEq] at had
        subst had
        have := h.apart a0 rfl
        unfold Addr.add
        split <;> simpa using this
  refine ⟨by rw [heap_setCell_same w r 0 _ 54 _ h.blk]; rfl, (h.sh.drop hk h.cap).beside hap _, by have := h.cap; omega, by have := h.big; omega, ?_, hap⟩
  intro e
  unfold fromAt at e
  split at e
  · omega
  · cases ao with
    | none => have := h.bare rfl; omega
    | some a0 => simp at e

set_option maxHeartbeats 400000 in
theorem take_err (r : Nat) (ao : Option Addr) (n c : Nat) (xs : List Int) (e k : Int) (w : World) (h : Rd w r ao n c xs e) (he : (e != 0) = true) :
    Calls Tryd.prog 25 #[.pointer (some ⟨r, 0, none⟩), .int .i64 k] w fun x w' => x = .returned (.slice none 0 0) ∧ w = w' := by
  have c0 := h.c0; have c1 := h.c1; have f0 := h.fz 0; have f1 := h.fz 1
  go_enter Tryd.func25, Tryd.ntmps25
  go_wp2
  go_ret
  exact ⟨rfl, rfl⟩

set_option maxHeartbeats 400000 in
theorem take_neg (r : Nat) (ao : Option Addr) (n c : Nat) (xs : List Int) (k : Int) (w : World) (h : Rd w r ao n c xs 0) (hk : k < 0) :
    Calls Tryd.prog 25 #[.pointer (some ⟨r, 0, none⟩), .int .i64 k] w fun x w' => x = .returned (.slice none 0 0) ∧ w.setCell ⟨r, 1, none⟩ (.int .i64 2) = w' := by
  have c0 := h.c0; have c1 := h.c1; have f0 := h.fz 0; have f1 := h.fz 1
  go_enter Tryd.func25, Tryd.ntmps25
  go_wp2
  go_ret
  exact ⟨rfl, rfl⟩

set_option maxHeartbeats 400000 in
theorem take_short (r : Nat) (ao : Option Addr) (n c : Nat) (xs : List Int) (k : Int) (w : World) (h : Rd w r ao n c xs 0) (hk : (n : Int) < k) :
    Calls Tryd.prog 25 #[.pointer (some ⟨r, 0, none⟩), .int .i64 k] w fun x w' => x = .returned (.slice none 0 0) ∧ w.setCell ⟨r, 1, none⟩ (.int .i64 10) = w' := by
  have c0 := h.c0; have c1 := h.c1; have f0 := h.fz 0; have f1 := h.fz 1
  go_enter Tryd.func25, Tryd.ntmps25
  go_wp2
  go_ret
  exact ⟨rfl, rfl⟩

set_option maxHeartbeats 400000 in
theorem take_ok (r : Nat) (ao : Option Addr) (n c : Nat) (xs : List Int) (k : Nat) (w : World) (h : Rd w r ao n c xs 0) (hk : k ≤ n) :
    Calls Tryd.prog 25 #[.pointer (some ⟨r, 0, none⟩), .int .i64 k] w fun x w' => x = .returned (.slice ao k c) ∧ w.setCell ⟨r, 0, none⟩ (.slice (fromAt ao c k) (n - k) (c - k)) = w' := by
  have c0 := h.c0; have c1 := h.c1; have f0 := h.fz 0; have f1 := h.fz 1
  have hcap := h.cap
  have hbig := h.big
  unfold maxLen at hbig
  go_enter Tryd.func25, Tryd.ntmps25
  go_wp2
  all_goals go_ret
  all_goals (refine ⟨rfl, ?_⟩; simp [fromAt, *])

/-- The number that bytes are, the highest first. -/
def beval (xs : List Int) : Int := xs.foldl (fun a b => 256 * a + b) 0

theorem beval_snoc (xs : List Int) (x : Int) : beval (xs ++ [x]) = 256 * beval xs + x := by simp [beval]

theorem beval_from (xs : List Int) (h : ∀ x ∈ xs, 0 ≤ x ∧ x ≤ 255) : ∀ a : Int, 0 ≤ a → 0 ≤ xs.foldl (fun a b => 256 * a + b) a ∧ xs.foldl (fun a b => 256 * a + b) a + 1 ≤ (a + 1) * 256 ^ xs.length := by
  induction xs with
  | nil => intro a ha; simp; omega
  | cons x xs ih =>
    intro a ha
    have hx := h x (by simp)
    have := ih (fun z hz => h z (by simp [hz])) (256 * a + x) (by omega)
    simp only [List.foldl_cons, List.length_cons]
    refine ⟨this.1, Int.le_trans this.2 ?_⟩
    rw [Int.pow_succ, Int.mul_comm (256 ^ xs.length) 256, ← Int.mul_assoc]
    exact Int.mul_le_mul_of_nonneg_right (by omega) (Int.le_of_lt (Int.pow_pos (by decide)))

theorem beval_bd (xs : List Int) (h : ∀ x ∈ xs, 0 ≤ x ∧ x ≤ 255) : 0 ≤ beval xs ∧ beval xs < 256 ^ xs.length := by
  have := beval_from xs h 0 (by omega)
  unfold beval
  omega

theorem pow256_le (j m : Nat) (h : j ≤ m) : (256 : Int) ^ j ≤ 256 ^ m := by
  have := Nat.pow_le_pow_right (show 0 < 256 by decide) h
  have e1 : ((256 ^ j : Nat) : Int) = (256 : Int) ^ j := Int.natCast_pow 256 j
  have e2 : ((256 ^ m : Nat) : Int) = (256 : Int) ^ m := Int.natCast_pow 256 m
  omega

theorem or_step (y x : Int) (hy0 : 0 ≤ y) (hy1 : y < 72057594037927936) (hx0 : 0 ≤ x) (hx1 : x ≤ 255) : bits .or .u64 (IntKind.u64.wrap (y * 256)) (IntKind.u64.wrap x) = 256 * y + x := by
  rw [IntKind.wrap_u64, IntKind.wrap_u64, Int.emod_eq_of_lt (by omega) (by omega), Int.emod_eq_of_lt (by omega) (by omega)]
  rw [u64_or _ _ (by omega) (by omega) (by omega) (by omega)]
  have e : (y * 256).toNat = 2 ^ 8 * y.toNat := by omega
  rw [e, ← Nat.two_pow_add_eq_or_of_lt (by omega)]
  omega

set_option maxHeartbeats 400000 in
theorem number_of_nil (p : Value) (k : Int) (w w2 : World) (ht : Calls Tryd.prog 25 #[p, .int .i64 k] w fun x w' => x = .returned (.slice none 0 0) ∧ w2 = w') :
    Calls Tryd.prog 20 #[p, .int .i64 k] w fun x w' => x = .returned (.int .u64 0) ∧ w2 = w' := by
  go_enter Tryd.func20, Tryd.ntmps20
  go_wp2_with (go_at_call 25; refine ht.mono ?_; rintro e w' ⟨rfl, rfl⟩)
  refine wp_loop_rounds 1 ?_
  rw [rounds_succ]
  go_wp2
  go_ret
  exact ⟨rfl, rfl⟩

set_option maxHeartbeats 400000 in
theorem number_of_some (p : Value) (k : Nat) (hk8 : k ≤ 8) (ao : Option Addr) (c : Nat) (xs : List Int) (w w2 : World) (hs : Shows w2 ao k xs) (ht : Calls Tryd.prog 25 #[p, .int .i64 k] w fun x w' => x = .returned (.slice ao k c) ∧ w2 = w') :
    Calls Tryd.prog 20 #[p, .int .i64 k] w fun x w' => x = .returned (.int .u64 (beval xs)) ∧ w2 = w' := by
  have HL : Hid (xs.length = k) := hs.len
  go_enter Tryd.func20, Tryd.ntmps20
  go_wp2_with (go_at_call 25; refine ht.mono ?_; rintro e w' ⟨rfl, rfl⟩)
  go_loop [5, 12] (fun v i => ∃ (j : Nat) (y : Int), j ≤ k ∧ i = .int .i64 j ∧ v = .int .u64 y ∧ Hid (y = beval (xs.take j))) (fun _ i => k - (intOf i).toNat)
  case atStart => exact ⟨0, 0, by omega, rfl, rfl, rfl⟩
  case round =>
    obtain ⟨j, y, hj, rfl, rfl, HY⟩ := hrel
    by_cases hlt : j < k
    · obtain ⟨ad, had⟩ : ∃ ad, ao = some ad := by
        cases ao with
        | none => have := hs.bare rfl; omega
        | some ad => exact ⟨ad, rfl⟩
      subst had
      have hcx : w2.cell? (ad.add j) = some (.int .u8 (xs.getD j 0)) := hs.cell ad rfl j hlt
      obtain ⟨x, HX⟩ : ∃ x, Hid (x = xs.getD j 0) := ⟨xs.getD j 0, (rfl : _ = _)⟩
      rw [← HX.out] at hcx
      have hxl := HL.out
      have hx : 0 ≤ x ∧ x ≤ 255 := by
        have e : xs.getD j 0 = xs[j]'(by omega) := by simp [List.getD, List.getElem?_eq_getElem (show j < xs.length by omega)]
        rw [HX.out, e]
        exact hs.rng _ (List.getElem_mem _)
      have hy : 0 ≤ y ∧ y < 72057594037927936 := by
        have h1 := beval_bd (xs.take j) (fun z hz => hs.rng z (List.mem_of_mem_take hz))
        have h2 := pow256_le j 7 (by omega)
        have h3 : (xs.take j).length = j := by simp; omega
        rw [h3, ← HY.out] at h1
        omega
      have HS : Hid (256 * y + x = beval (xs.take (j + 1))) := by
        show _ = _
        rw [List.take_succ_eq_append_getElem (by omega), beval_snoc, HY.out, HX.out]
        simp [List.getD, List.getElem?_eq_getElem (show j < xs.length by omega)]
      have HO : Hid (bits .or .u64 (IntKind.u64.wrap (y * 256)) (IntKind.u64.wrap x) = 256 * y + x) := or_step y x hy.1 hy.2 hx.1 hx.2
      clear hxl hx hy
      go_wp2
      go_round
      case rel => exact ⟨j + 1, _, by omega, by go_num, rfl, HO.out.trans HS.out⟩
      case measure => simp [intOf]; omega
    · have hjk : j = k := by omega
      subst hjk
      go_wp2
      go_ret
      refine ⟨?_, rfl⟩
      have := HL.out
      have e := HY.out
      rw [List.take_of_length_le (by omega)] at e
      rw [← e]
      rfl
set_option maxHeartbeats 400000 in
theorem u16_of (p : Value) (y : Int) (hy0 : 0 ≤ y) (hy1 : y ≤ 65535) (w w2 : World) (ht : Calls Tryd.prog 20 #[p, .int .i64 2] w fun x w' => x = .returned (.int .u64 y) ∧ w2 = w') :
    Calls Tryd.prog 12 #[p] w fun x w' => x = .returned (.int .u16 y) ∧ w2 = w' := by
  go_enter Tryd.func12, Tryd.ntmps12
  go_wp2_with (go_at_call 20; refine ht.mono ?_; rintro e w' ⟨rfl, rfl⟩)
  go_ret
  exact ⟨rfl, rfl⟩

set_option maxHeartbeats 400000 in
theorem left_ok (r : Nat) (ao : Option Addr) (n c : Nat) (xs : List Int) (e : Int) (w : World) (h : Rd w r ao n c xs e) :
    Calls Tryd.prog 14 #[.pointer (some ⟨r, 0, none⟩)] w fun x w' => x = .returned (.int .i64 n) ∧ w = w' := by
  have c0 := h.c0
  go_enter Tryd.func14, Tryd.ntmps14
  go_wp2
  go_ret
  exact ⟨rfl, rfl⟩

set_option maxHeartbeats 400000 in
theorem err_ok (r : Nat) (ao : Option Addr) (n c : Nat) (xs : List Int) (e : Int) (w : World) (h : Rd w r ao n c xs e) :
    Calls Tryd.prog 15 #[.pointer (some ⟨r, 0, none⟩)] w fun x w' => x = .returned (.int .i64 e) ∧ w = w' := by
  have c1 := h.c1
  go_enter Tryd.func15, Tryd.ntmps15
  go_wp2
  go_ret
  exact ⟨rfl, rfl⟩

/-- What a value that is owned looks like. -/
theorem own_shape {w : World} {base : Nat} {v : Value} {n : Nat} {xs : List Int} (h : w.ownsRow base 5 1 v n (u8s xs)) (hr : ∀ x ∈ xs, 0 ≤ x ∧ x ≤ 255) :
    ∃ ao c, v = .slice ao n c ∧ Shows w ao n xs ∧ n ≤ c ∧ c ≤ maxLen ∧ (ao = none → c = 0) ∧ ∀ ad, ao = some ad → base ≤ ad.block ∧ ad.block < w.heap.size := by
  obtain ⟨ao, c, hv, hs, hc⟩ := shows_of_own h hr
  refine ⟨ao, c, hv, hs, hc, ?_⟩
  rcases h.2 with ⟨h3, _⟩ | ⟨g, cap, cur, h3, hg, hh, hn, hm, hsz, ht⟩
  · rw [hv] at h3; cases h3
    exact ⟨Nat.zero_le _, fun _ => rfl, fun ad h => (by cases h)⟩
  · rw [hv] at h3; cases h3
    exact ⟨hm, fun h => (by cases h), fun ad h => by cases h; exact ⟨hg, lt_of_block hh⟩⟩

set_option maxHeartbeats 400000 in
theorem read_any (ao : Option Addr) (n c : Nat) (xs : List Int) (w : World) (hs : Shows w ao n xs) (hbig : n ≤ 140737488355328) :
    Calls Tryd.prog 11 #[.slice ao n c] w fun e w' => ∃ r ao' c', e = .returned (.pointer (some ⟨r, 0, none⟩)) ∧ Rd w' r ao' n c' xs 0 ∧ Below w.heap.size w w' ∧ w.heap.size ≤ r ∧ r < w'.heap.size ∧ ∀ ad, ao' = some ad → w.heap.size ≤ ad.block ∧ ad.block < w'.heap.size := by
  go_enter Tryd.func11, Tryd.ntmps11
  go_wp2_with (go_at_call 19; refine (clone_any ao n c xs w hs hbig).mono ?_; rintro e w' ⟨v, rfl, hown, _, hb⟩; obtain ⟨ao', c', rfl, hsh, hcap, hmax, hbare, hblk⟩ := own_shape hown hs.rng)
  go_ret
  have hb2 : Below w'.heap.size w' (w'.alloc (.cells #[.slice ao' n c', .int .i64 0] 54)) := (Below.refl _ _).alloc (Nat.le_refl _) _
  refine ⟨w'.heap.size, ao', c', rfl, ⟨heap_alloc_new _ _, hsh.later hb2, hcap, hmax, hbare, fun ad had => ?_⟩, ?_, hb.size, by simp, fun ad had => ?_⟩
  · have := (hblk ad had).2; omega
  · exact hb.alloc hb.size _
  · have := hblk ad had; simp; omega

end Go.Proofs.YtmnkbbfpdohpkabDoor
