/- The numbers of two, four and eight bytes are put behind any bytes, in new memory. -/
import Derived.Test.YtmnkbbfpdohpkabDoorBase
namespace Go.Proofs.YtmnkbbfpdohpkabDoor
open Go.RowKit

/-- The k lowest bytes of v, the highest first. -/
def be : Nat → Int → List Int
  | 0, _ => []
  | k + 1, v => (v / 256 ^ k) % 256 :: be k v

theorem be_length (k : Nat) (v : Int) : (be k v).length = k := by
  induction k with
  | zero => rfl
  | succ k ih => simp [be, ih]

theorem be_rng (k : Nat) (v : Int) : ∀ x ∈ be k v, 0 ≤ x ∧ x ≤ 255 := by
  induction k with
  | zero => intro x hx; simp [be] at hx
  | succ k ih =>
    intro x hx
    simp only [be, List.mem_cons] at hx
    rcases hx with rfl | hx
    · omega
    · exact ih x hx

theorem own_of_heap {w : World} {base g N : Nat} {xs : List Int} (h : RowIs w g xs) (hl : xs.length = N) (hm : N ≤ maxLen) (hb : base ≤ g) :
    w.ownsRow base 5 1 (.slice (some ⟨g, 0, none⟩) N N) N (u8s xs) :=
  ⟨by simp [u8s_length, hl], .inr ⟨g, N, _, rfl, hb, h, Nat.le_refl _, hm, by simp [u8s_length, hl], List.take_of_length_le (by simp [u8s_length, hl])⟩⟩

theorem set_mid (xs zs ys : List Int) (k : Nat) (y : Int) (hz : zs.length = k + 1) : (xs ++ zs ++ ys).set (xs.length + k) y = xs ++ zs.take k ++ (y :: ys) := by
  induction xs with
  | nil =>
    simp only [List.nil_append, List.length_nil, Nat.zero_add]
    induction zs generalizing k with
    | nil => simp at hz
    | cons z zs ih =>
      cases k with
      | zero =>
        have : zs = [] := List.eq_nil_of_length_eq_zero (by simpa using hz)
        subst this
        simp
      | succ k => simp [ih k (by simpa using hz)]
  | cons x xs ih =>
    have : (x :: xs).length + k = (xs.length + k) + 1 := by simp; omega
    rw [this]
    simp only [List.cons_append, List.set_cons_succ]
    rw [ih]

/-- A number written at the last free place of a row. -/
theorem row_step {w : World} {g n j k : Nat} {xs zs : List Int} {v : Int} (hl : xs.length = n) (hz : zs.length = k + 1)
    (h : RowIs w g (xs ++ zs ++ be j v)) :
    ∃ zs' : List Int, zs'.length = k ∧ RowIs (w.setCell ⟨g, n + k, none⟩ (.int .u8 ((v / 256 ^ j) % 256))) g (xs ++ zs' ++ be (j + 1) v) := by
  refine ⟨zs.take k, by simp; omega, ?_⟩
  unfold RowIs at h ⊢
  rw [heap_setCell_same w g (n + k) _ 5 _ h]
  congr 2
  subst hl
  have := congrArg u8s (set_mid xs zs (be j v) k ((v / 256 ^ j) % 256) hz)
  simp only [u8s, List.map_set] at this
  simp only [be, u8s]
  rw [← this]
  simp


set_option maxHeartbeats 400000 in
set_option maxRecDepth 100000 in
theorem len64_16 (w : World) : Calls Tryd.prog 26 #[.int .u64 65535] w fun e w' => e = .returned (.int .i64 16) ∧ w = w' := by
  go_enter Tryd.func26, Tryd.ntmps26
  go_wp2
  go_ret
  exact ⟨by kernel_rfl, rfl⟩

set_option maxHeartbeats 400000 in
set_option maxRecDepth 100000 in
theorem len64_32 (w : World) : Calls Tryd.prog 26 #[.int .u64 4294967295] w fun e w' => e = .returned (.int .i64 32) ∧ w = w' := by
  go_enter Tryd.func26, Tryd.ntmps26
  go_wp2
  go_ret
  exact ⟨by kernel_rfl, rfl⟩

set_option maxHeartbeats 400000 in
set_option maxRecDepth 100000 in
theorem len64_64 (w : World) : Calls Tryd.prog 26 #[.int .u64 18446744073709551615] w fun e w' => e = .returned (.int .i64 64) ∧ w = w' := by
  go_enter Tryd.func26, Tryd.ntmps26
  go_wp2
  go_ret
  exact ⟨by kernel_rfl, rfl⟩

set_option maxHeartbeats 1000000 in
set_option maxRecDepth 100000 in
theorem put16_any (ao : Option Addr) (n c : Nat) (xs : List Int) (v : Int) (w : World) (hs : Shows w ao n xs) (hbig : n ≤ 140737488355300) (hv0 : 0 ≤ v) (hv1 : v ≤ 65535) :
    Calls Tryd.prog 21 #[.slice ao n c, .int .u16 v] w fun e w' => ∃ u, e = .returned u ∧ w'.ownsRow w.heap.size 5 1 u (n + 2) (u8s (xs ++ be 2 v)) ∧ Below w.heap.size w w' := by
  have HL : Hid (xs.length = n) := hs.len
  go_enter Tryd.func21, Tryd.ntmps21
  obtain ⟨cur, HC⟩ : ∃ cur : List Int, Hid (cur = List.replicate (n + 2) 0) := ⟨_, rfl⟩
  have HD : Hid (xs ++ List.replicate 2 0 ++ be 0 v = xs ++ cur.drop n) := by show _ = _; rw [HC.out]; simp [be, List.drop_replicate]
  obtain ⟨row0, HE⟩ : ∃ row0 : List Int, Hid (row0 = xs ++ List.replicate 2 0 ++ be 0 v) := ⟨xs ++ List.replicate 2 0 ++ be 0 v, (rfl : _ = _)⟩
  have HD' : Hid (row0 = xs ++ cur.drop n) := HE.out.trans HD.out
  have HC' : Hid (cur.length = n + 2) := by show _ = _; rw [HC.out]; simp
  go_wp2_with (first | (go_at_call 26; refine (len64_16 _).mono ?_; rintro e w' ⟨rfl, rfl⟩) | (at_make; refine law_make rfl _ _ rfl _ _ (n + 2) rfl rfl (by omega) (by omega) (by omega) cur HC ?_))
  intro w1 HH HB hz1
  have hs1 := hs.later HB
  go_wp2_with (refine law_copy rfl _ _ rfl w.heap.size (n + 2) cur rfl HC'.out HH ao n c xs rfl hs1 (by omega) w.heap.size w HB (Nat.le_refl _) row0 HD' ?_)
  intro w2 HH2 HB2
  rw [HE.out] at HH2
  clear HH HB HC HC' HD HD' HE hs1
  go_wp2
  go_loopw [7, 1] (fun i x wr => ∃ (j : Nat) (q y : Int), j ≤ 2 ∧ i = .int .i64 q ∧ Hid (q = (n : Int) + 1 - j) ∧ x = .int .u16 y ∧ Hid (y = v / 256 ^ j) ∧ ∃ zs : List Int, Hid (zs.length = 2 - j) ∧ RowIs wr w.heap.size (xs ++ zs ++ be j v) ∧ Below w.heap.size w wr) (fun i _ _ => (intOf i + 1 - n).toNat)
  case atStart => exact ⟨0, _, _, by omega, rfl, by show _ = _; simp; try omega, rfl, by show _ = _; simp, List.replicate 2 0, by show _ = _; simp, HH2, HB2⟩
  case round =>
    obtain ⟨j, q, y, hj, rfl, HQ, rfl, HY, zs, HZ, HR, HBr⟩ := hrel
    have hy : 0 ≤ y ∧ y ≤ 65535 := by
      have e := HY.out
      have h1 : v / 256 ^ j ≤ v := Int.ediv_le_self _ hv0
      have h2 : 0 ≤ v / 256 ^ j := Int.ediv_nonneg hv0 (by have : (0:Int) < 256 ^ j := Int.pow_pos (by decide); omega)
      omega
    obtain ⟨hy0, hy1⟩ := hy
    by_cases hlt : j < 2
    · obtain ⟨k, hk⟩ : ∃ k : Nat, j + k + 1 = 2 := ⟨1 - j, by omega⟩
      obtain ⟨ix, hix⟩ : ∃ ix : Nat, q = ix := ⟨q.toNat, by have := HQ.out; omega⟩
      subst hix
      have hlo : n ≤ ix := by have := HQ.out; omega
      have hhi : ix < n + 2 := by have := HQ.out; omega
      have hfz : wr.frozen? ⟨w.heap.size, ix, none⟩ = false := frozen_of_row _ _ _ _ _ HR
      have hix2 : ix = n + k := by have := HQ.out; omega
      obtain ⟨cv, hcv⟩ : ∃ cv, wr.cell? ⟨w.heap.size, ix, none⟩ = some cv := by
        have h1 := cell_of_row wr w.heap.size ix _ 5 (0, 0) HR
        have h2 : ix < (u8s (xs ++ zs ++ be j v)).toArray.size := by
          have := HL.out; have := HZ.out; have := be_length j v
          simp [u8s_length]; omega
        exact ⟨_, h1.trans (Array.getElem?_eq_getElem h2)⟩
      have HX : Hid (ix = n + k) := hix2
      have HK : Hid (j + k + 1 = 2) := hk
      clear hix2 hk
      go_wp2
      go_roundw
      case rel =>
        obtain ⟨zs', hz', hrow⟩ := row_step (v := v) HL.out (show zs.length = k + 1 by have := HZ.out; have := HK.out; omega) HR
        refine ⟨j + 1, _, _, by omega, rfl, ?_, rfl, ?_, zs', ?_, ?_, ?_⟩
        · show _ = _; have := HQ.out; omega
        · show _ = _; rw [HY.out, Int.pow_succ, Int.ediv_ediv_of_nonneg (by have : (0 : Int) < 256 ^ j := Int.pow_pos (by decide); omega)]
        · show _ = _; have := HK.out; omega
        · rw [HX.out, HY.out]; exact hrow
        · exact HBr.setCell (Nat.le_refl _) _
      case measure => simp [intOf]; omega
    · have hj2 : j = 2 := by omega
      subst hj2
      have hq : q < n := by have := HQ.out; omega
      go_wp2
      go_ret
      have hzz : zs = [] := List.eq_nil_of_length_eq_zero (by have := HZ.out; omega)
      subst hzz
      have hlen : (xs ++ [] ++ be 2 v).length = n + 2 := by have := HL.out; have := be_length 2 v; simp; omega
      have hown := own_of_heap (base := w.heap.size) HR hlen (by unfold maxLen; omega) (Nat.le_refl _)
      rw [List.append_nil] at hown
      exact ⟨_, rfl, hown, HBr⟩

set_option maxHeartbeats 400000 in
theorem Put16_any (ao : Option Addr) (n c : Nat) (xs : List Int) (v : Int) (w : World) (hs : Shows w ao n xs) (hbig : n ≤ 140737488355300) (hv0 : 0 ≤ v) (hv1 : v ≤ 65535) :
    Calls Tryd.prog 13 #[.slice ao n c, .int .u16 v] w fun e w' => ∃ u, e = .returned u ∧ w'.ownsRow w.heap.size 5 1 u (n + 2) (u8s (xs ++ be 2 v)) ∧ Below w.heap.size w w' := by
  go_enter Tryd.func13, Tryd.ntmps13
  go_wp2_with (go_at_call 21; refine (put16_any ao n c xs v w hs hbig hv0 hv1).mono ?_; rintro e w' ⟨u, rfl, h1, h2⟩)
  go_ret
  exact ⟨_, rfl, h1, h2⟩

end Go.Proofs.YtmnkbbfpdohpkabDoor
