/- What a reader answers where enough bytes are left, and that nothing but the reader itself has turned. -/
import Derived.Test.YtmnkbbfpdohpkaaDoorWorks
import Derived.Test.YtmnkbbfpdohpkaaDoorUnhex
import Derived.Lib.AppendStr
namespace Go.Proofs.YtmnkbbfpdohpkaaDoor
open Go.RowKit

/-- Of what was there nothing but block r has turned. -/
structure Only (r : Nat) (w w' : World) : Prop where
  os : w'.os = w.os
  tape : w'.tape = w.tape
  output : w'.output = w.output
  size : w.heap.size ≤ w'.heap.size
  block : ∀ k, k < w.heap.size → k ≠ r → w'.heap[k]? = w.heap[k]?

theorem Only.refl (r : Nat) (w : World) : Only r w w := ⟨rfl, rfl, rfl, Nat.le_refl _, fun _ _ _ => rfl⟩
theorem Only.trans {r : Nat} {a b c : World} (h : Only r a b) (k : Only r b c) : Only r a c :=
  ⟨k.os.trans h.os, k.tape.trans h.tape, k.output.trans h.output, Nat.le_trans h.size k.size, fun i hi hr => (k.block i (Nat.lt_of_lt_of_le hi h.size) hr).trans (h.block i hi hr)⟩
theorem Only.set (r o : Nat) (u : Value) (w : World) : Only r w (w.setCell ⟨r, o, none⟩ u) :=
  ⟨rfl, rfl, rfl, by simp [World.setCell], fun k _ hr => heap_setCell_other w _ k u hr⟩
theorem Only.of_below {r : Nat} {w w' : World} (h : Below w.heap.size w w') : Only r w w' := ⟨h.os, h.tape, h.output, h.size, fun k hk _ => h.block k hk⟩
theorem Only.below {r B : Nat} {w0 w w' : World} (h : Only r w w') (hb : Below B w0 w) (hr : B ≤ r) (hB : B ≤ w.heap.size) : Below B w0 w' :=
  hb.trans ⟨h.os, h.tape, h.output, h.size, fun k hk => h.block k (by omega) (by omega)⟩
theorem Only.cell {r : Nat} {w w' : World} (h : Only r w w') {a : Addr} {v : Value} (hc : w.cell? a = some v) (hr : a.block ≠ r) : w'.cell? a = some v :=
  (World.cell?_of_block (h.block a.block (block_lt_of_cell hc) hr)).trans hc
theorem Only.shows {r : Nat} {w w' : World} (h : Only r w w') {ao : Option Addr} {n : Nat} {xs : List Int} (hs : Shows w ao n xs) (hr : ∀ ad, ao = some ad → ad.block ≠ r) : Shows w' ao n xs :=
  ⟨hs.len, hs.bare, fun ad had j hj => h.cell (hs.cell ad had j hj) (by have := hr ad had; unfold Addr.add; split <;> simpa using this), hs.rng⟩

theorem beval_be_from (k : Nat) : ∀ (a v : Int), 0 ≤ v → (be k v).foldl (fun a b => 256 * a + b) a = a * 256 ^ k + v % 256 ^ k := by
  induction k with
  | zero => intro a v hv; simp [be, Int.emod_one]
  | succ k ih =>
    intro a v hv
    simp only [be, List.foldl_cons]
    rw [ih _ v hv]
    have hp : (0 : Int) < 256 ^ k := Int.pow_pos (by decide)
    have e1 : v % 256 ^ (k + 1) = 256 ^ k * (v / 256 ^ k % 256) + v % 256 ^ k := by
      rw [Int.pow_succ, Int.emod_def v (256 ^ k * 256), ← Int.ediv_ediv_of_nonneg (Int.le_of_lt hp), Int.emod_def (v / 256 ^ k) 256, Int.emod_def v (256 ^ k), Int.mul_sub, ← Int.mul_assoc]
      omega
    rw [e1, Int.add_mul, Int.pow_succ]
    have e2 : 256 * a * 256 ^ k = a * (256 ^ k * 256) := by rw [Int.mul_comm 256 a, Int.mul_assoc, Int.mul_comm 256]
    rw [e2, Int.mul_comm (v / 256 ^ k % 256)]
    omega

theorem beval_be (k : Nat) (v : Int) (h0 : 0 ≤ v) (h1 : v < 256 ^ k) : beval (be k v) = v := by
  unfold beval
  rw [beval_be_from k 0 v h0, Int.emod_eq_of_lt h0 h1]
  omega

theorem strCells_nums (s : ByteArray) : Lib.strCells s = u8s (nums s) := by simp only [Lib.strCells, u8s, nums, List.map_map]; rfl

set_option maxHeartbeats 400000 in
set_option maxRecDepth 100000 in
theorem putText_ok (ao : Option Addr) (n c : Nat) (xs : List Int) (s : ByteArray) (w : World) (hs : Shows w ao n xs) (hbig : n ≤ 140737488200000) (hm : (s.size : Int) ≤ 65535) :
    Calls Tryd.prog 14 #[.slice ao n c, .string s] w fun e w' => ∃ u, e = .returned (.tuple #[u, .int .i64 0]) ∧ w'.ownsRow w.heap.size 5 1 u (n + (2 + s.size)) (u8s (xs ++ (be 2 s.size ++ nums s))) ∧ Below w.heap.size w w' := by
  obtain ⟨i0, hi, hz0, hz1, hz2⟩ := info_parts Tryd.info5
  go_enter Tryd.func14, Tryd.ntmps14
  go_wp2_with (first
    | (go_at_call 11; refine (Put16_any ao n c xs (s.size : Int) w hs (by omega) (by omega) hm).mono ?_; rintro e w1 ⟨u1, rfl, hown1, hb1⟩)
    | (refine Lib.wpList_append_own_string _ rfl _ _ 22 9 rfl w.heap.size 5 i0 Tryd.underlying22 Tryd.underlying9 hi hz0 hz1 hz2 _ _ _ rfl hown1 s rfl (by unfold maxLen; omega) (by omega) hb1.size ?_))
  intro v' w2 hown2 hgrow _
  go_wp2
  go_ret2
  refine ⟨_, rfl, ?_, hb1.grown hgrow hb1.size (fun b hb => (hown1.lt b hb).1)⟩
  rw [strCells_nums, ← u8s_append, List.append_assoc, Nat.add_assoc] at hown2
  exact hown2

set_option maxHeartbeats 400000 in
theorem putText_long (ao : Option Addr) (n c : Nat) (s : ByteArray) (w : World) (hm : (65535 : Int) < s.size) :
    Calls Tryd.prog 14 #[.slice ao n c, .string s] w fun e w' => e = .returned (.tuple #[.slice none 0 0, .int .i64 3]) ∧ w = w' := by
  go_enter Tryd.func14, Tryd.ntmps14
  go_wp2
  go_ret2
  exact ⟨rfl, rfl⟩

/-- A number of wd bytes that are there. -/
theorem num_at (wd : Nat) (hwd : wd ≤ 8) (r : Nat) (ao : Option Addr) (n c : Nat) (xs : List Int) (w : World) (h : Rd w r ao n c xs 0) (hn : wd ≤ n) :
    Calls Tryd.prog 57 #[.pointer (some ⟨r, 0, none⟩), .int .i64 wd] w fun x w' => x = .returned (.int .u64 (beval (xs.take wd))) ∧ w.setCell ⟨r, 0, none⟩ (.slice (fromAt ao c wd) (n - wd) (c - wd)) = w' :=
  number_of_some _ wd hwd ao c (xs.take wd) _ _ ((h.sh.take hn).beside (fun ad had => h.apart ad had) _) (take_ok r ao n c xs wd w h hn)

theorem num_bd {w : World} {r : Nat} {ao : Option Addr} {n c : Nat} {xs : List Int} {e : Int} (h : Rd w r ao n c xs e) (wd : Nat) (hn : wd ≤ n) : 0 ≤ beval (xs.take wd) ∧ beval (xs.take wd) < 256 ^ wd := by
  have hb := beval_bd (xs.take wd) (fun x hx => h.sh.rng x (List.mem_of_mem_take hx))
  have hl : (xs.take wd).length = wd := by have := h.sh.len; simp; omega
  rw [hl] at hb
  exact hb

theorem u8_at (r : Nat) (ao : Option Addr) (n c : Nat) (xs : List Int) (w : World) (h : Rd w r ao n c xs 0) (hn : 1 ≤ n) :
    Calls Tryd.prog 33 #[.pointer (some ⟨r, 0, none⟩)] w fun x w' => x = .returned (.int .u8 (beval (xs.take 1))) ∧ w.setCell ⟨r, 0, none⟩ (.slice (fromAt ao c 1) (n - 1) (c - 1)) = w' := by
  have hb := num_bd h 1 hn
  exact u8_of _ _ hb.1 (by omega) _ _ (num_at 1 (by omega) r ao n c xs w h hn)
theorem u32_at (r : Nat) (ao : Option Addr) (n c : Nat) (xs : List Int) (w : World) (h : Rd w r ao n c xs 0) (hn : 4 ≤ n) :
    Calls Tryd.prog 35 #[.pointer (some ⟨r, 0, none⟩)] w fun x w' => x = .returned (.int .u32 (beval (xs.take 4))) ∧ w.setCell ⟨r, 0, none⟩ (.slice (fromAt ao c 4) (n - 4) (c - 4)) = w' := by
  have hb := num_bd h 4 hn
  exact u32_of _ _ hb.1 (by omega) _ _ (num_at 4 (by omega) r ao n c xs w h hn)
theorem u64_at (r : Nat) (ao : Option Addr) (n c : Nat) (xs : List Int) (w : World) (h : Rd w r ao n c xs 0) (hn : 8 ≤ n) :
    Calls Tryd.prog 36 #[.pointer (some ⟨r, 0, none⟩)] w fun x w' => x = .returned (.int .u64 (beval (xs.take 8))) ∧ w.setCell ⟨r, 0, none⟩ (.slice (fromAt ao c 8) (n - 8) (c - 8)) = w' :=
  u64_of _ _ _ _ (num_at 8 (by omega) r ao n c xs w h hn)

set_option maxHeartbeats 400000 in
theorem raw_at (r : Nat) (ao : Option Addr) (n c : Nat) (xs : List Int) (k : Nat) (w : World) (h : Rd w r ao n c xs 0) (hk : k ≤ n) (hbig : n ≤ 140737488355328) :
    Calls Tryd.prog 37 #[.pointer (some ⟨r, 0, none⟩), .int .i64 k] w fun e w' => ∃ v, e = .returned v ∧ w'.ownsRow w.heap.size 5 1 v k (u8s (xs.take k)) ∧ Rd w' r (fromAt ao c k) (n - k) (c - k) (xs.drop k) 0 ∧ Only r w w' := by
  have hsh : Shows (w.setCell ⟨r, 0, none⟩ (.slice (fromAt ao c k) (n - k) (c - k))) ao k (xs.take k) := (h.sh.take hk).beside (fun ad had => h.apart ad had) _
  have hrd := h.took hk
  have hon := Only.set r 0 (.slice (fromAt ao c k) (n - k) (c - k)) w
  have hsz : (w.setCell ⟨r, 0, none⟩ (.slice (fromAt ao c k) (n - k) (c - k))).heap.size = w.heap.size := by simp [World.setCell]
  generalize hw2 : w.setCell ⟨r, 0, none⟩ (.slice (fromAt ao c k) (n - k) (c - k)) = w2 at *
  have HW : Hid (w.setCell ⟨r, 0, none⟩ (.slice (fromAt ao c k) (n - k) (c - k)) = w2) := hw2
  have HS : Hid (w2.heap.size = w.heap.size) := hsz
  clear hw2 hsz
  go_enter Tryd.func37, Tryd.ntmps37
  go_wp2_with (first
    | (go_at_call 58; refine (take_ok r ao n c xs k w h hk).mono ?_; rintro e w' ⟨rfl, hw'⟩; have hw3 := HW.out.symm.trans hw'; subst hw3; clear hw')
    | (go_at_call 51; refine (clone_any ao k c (xs.take k) w2 hsh (by omega)).mono ?_; rintro e w3 ⟨v, rfl, hown, _, hb⟩))
  go_ret
  refine ⟨_, rfl, ?_, hrd.later hb, hon.trans (Only.of_below hb)⟩
  rw [HS.out] at hown
  exact hown

end Go.Proofs.YtmnkbbfpdohpkaaDoor
