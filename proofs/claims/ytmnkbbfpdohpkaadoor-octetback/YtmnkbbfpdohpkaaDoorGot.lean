/- An item that was put is read as itself. -/
import Derived.Test.YtmnkbbfpdohpkaaDoorItem
namespace Go.Proofs.YtmnkbbfpdohpkaaDoor
open Go.RowKit

theorem put_any (ao : Option Addr) (n c : Nat) (xs : List Int) (k v : Int) (s : ByteArray) (w : World) (hs : Shows w ao n xs) (hc : ao = none → c = 0) (hbig : n ≤ 140737488200000) (hv0 : 0 ≤ v) (hv1 : v ≤ 18446744073709551615) (hm : (s.size : Int) ≤ 65535) :
    Calls Tryd.prog 41 #[.slice ao n c, .agg #[.int .i64 k, .int .u64 v, .string s]] w fun e w' => ∃ u, e = .returned (.tuple #[u, .bool true]) ∧ w'.ownsRow w.heap.size 5 1 u (n + (ib k v s).length) (u8s (xs ++ ib k v s)) ∧ Below w.heap.size w w' := by
  have h := tmod5 k
  rcases (show k.tmod 5 = 1 ∨ k.tmod 5 = 2 ∨ k.tmod 5 = 3 ∨ k.tmod 5 = 4 ∨ (k.tmod 5 < 1 ∨ 4 < k.tmod 5) by omega) with h | h | h | h | h
  · exact put_two ao n c xs k v s w hs hbig h
  · exact put_four ao n c xs k v s w hs hbig h
  · exact put_eight ao n c xs k v s w hs hbig hv0 hv1 h
  · exact put_text ao n c xs k v s w hs hbig hm h
  · exact put_one ao n c xs k v s w hs hc hbig h

theorem ib_rng (k v : Int) (s : ByteArray) : ∀ x ∈ ib k v s, 0 ≤ x ∧ x ≤ 255 := by
  unfold ib
  split
  · exact be_rng _ _
  · split
    · exact be_rng _ _
    · split
      · exact be_rng _ _
      · split
        · intro x hx
          rcases List.mem_append.1 hx with h | h
          · exact be_rng _ _ x h
          · exact nums_rng s x h
        · exact be_rng _ _

theorem take_app {xs ys : List Int} {n : Nat} (h : xs.length = n) : (xs ++ ys).take n = xs := by subst h; simp
theorem drop_app {xs ys : List Int} {n : Nat} (h : xs.length = n) : (xs ++ ys).drop n = ys := by subst h; simp

set_option maxHeartbeats 1000000 in
set_option maxRecDepth 100000 in
theorem got_two (r : Nat) (ao : Option Addr) (n c : Nat) (rest : List Int) (k v : Int) (s : ByteArray) (w : World) (h : Rd w r ao n c (be 2 (IntKind.u16.wrap v) ++ rest) 0) (ht : k.tmod 5 = 1) :
    Calls Tryd.prog 42 #[.pointer (some ⟨r, 0, none⟩), .agg #[.int .i64 k, .int .u64 v, .string s]] w fun e w' => e = .returned (.bool true) ∧ (∃ ao' n' c', Rd w' r ao' n' c' rest 0) ∧ Only r w w' := by
  have hrlt := lt_of_block h.blk
  have hln := h.sh.len
  have hbl := be_length 2 (IntKind.u16.wrap v)
  have hn : 2 ≤ n := by rw [List.length_append, hbl] at hln; omega
  have HV : Hid (beval ((be 2 (IntKind.u16.wrap v) ++ rest).take 2) = (IntKind.u16.wrap v)) := by
    show _ = _
    rw [take_app hbl]
    exact beval_be _ _ (by have := wrap16 v; omega) (by have := wrap16 v; omega)
  have HD : Hid ((be 2 (IntKind.u16.wrap v) ++ rest).drop 2 = rest) := drop_app hbl
  have hA : Below w.heap.size w (w.alloc (.cells #[.int .i64 k, .int .u64 v, .string s] 66)).drew := ((Below.refl _ w).alloc (Nat.le_refl _) _).drew
  have h1 := h.later hA
  have hneb : w.heap.size ≠ r := by omega
  clear hln hbl h
  go_enter Tryd.func42, Tryd.ntmps42
  go_wp2
  go_region_held3 (fun w' => w'.cell? ⟨w.heap.size, 1, none⟩ = some (.int .u64 v)) (first | go_keep | (rw [← hw1, cell?_of_other (by simpa using hneb)]; assumption)) ((go_at_call 34; refine (u16_at r ao n c _ _ h1 hn).mono ?_; rintro e w1 ⟨he, hw1⟩; rw [HV.out] at he; subst he; have hrd1 := h1.takes hn hw1; have hon1 : Only r (w.alloc (.cells #[.int .i64 k, .int .u64 v, .string s] 66)).drew w1 := hw1 ▸ Only.set r 0 _ _))
  all_goals go_wp2
  all_goals go_ret
  rw [HD.out] at hrd1
  exact ⟨by simp, ⟨_, _, _, hrd1⟩, (Only.of_below hA).trans hon1⟩

set_option maxHeartbeats 1000000 in
set_option maxRecDepth 100000 in
theorem got_four (r : Nat) (ao : Option Addr) (n c : Nat) (rest : List Int) (k v : Int) (s : ByteArray) (w : World) (h : Rd w r ao n c (be 4 (IntKind.u32.wrap v) ++ rest) 0) (ht : k.tmod 5 = 2) :
    Calls Tryd.prog 42 #[.pointer (some ⟨r, 0, none⟩), .agg #[.int .i64 k, .int .u64 v, .string s]] w fun e w' => e = .returned (.bool true) ∧ (∃ ao' n' c', Rd w' r ao' n' c' rest 0) ∧ Only r w w' := by
  have hrlt := lt_of_block h.blk
  have hln := h.sh.len
  have hbl := be_length 4 (IntKind.u32.wrap v)
  have hn : 4 ≤ n := by rw [List.length_append, hbl] at hln; omega
  have HV : Hid (beval ((be 4 (IntKind.u32.wrap v) ++ rest).take 4) = (IntKind.u32.wrap v)) := by
    show _ = _
    rw [take_app hbl]
    exact beval_be _ _ (by have := wrap32' v; omega) (by have := wrap32' v; omega)
  have HD : Hid ((be 4 (IntKind.u32.wrap v) ++ rest).drop 4 = rest) := drop_app hbl
  have hA : Below w.heap.size w (w.alloc (.cells #[.int .i64 k, .int .u64 v, .string s] 66)).drew := ((Below.refl _ w).alloc (Nat.le_refl _) _).drew
  have h1 := h.later hA
  have hneb : w.heap.size ≠ r := by omega
  clear hln hbl h
  go_enter Tryd.func42, Tryd.ntmps42
  go_wp2
  go_region_held3 (fun w' => w'.cell? ⟨w.heap.size, 1, none⟩ = some (.int .u64 v)) (first | go_keep | (rw [← hw1, cell?_of_other (by simpa using hneb)]; assumption)) ((go_at_call 35; refine (u32_at r ao n c _ _ h1 hn).mono ?_; rintro e w1 ⟨he, hw1⟩; rw [HV.out] at he; subst he; have hrd1 := h1.takes hn hw1; have hon1 : Only r (w.alloc (.cells #[.int .i64 k, .int .u64 v, .string s] 66)).drew w1 := hw1 ▸ Only.set r 0 _ _))
  all_goals go_wp2
  all_goals go_ret
  rw [HD.out] at hrd1
  exact ⟨by simp, ⟨_, _, _, hrd1⟩, (Only.of_below hA).trans hon1⟩

set_option maxHeartbeats 1000000 in
set_option maxRecDepth 100000 in
theorem got_eight (r : Nat) (ao : Option Addr) (n c : Nat) (rest : List Int) (k v : Int) (s : ByteArray) (w : World) (h : Rd w r ao n c (be 8 v ++ rest) 0) (hv : 0 ≤ v ∧ v ≤ 18446744073709551615) (ht : k.tmod 5 = 3) :
    Calls Tryd.prog 42 #[.pointer (some ⟨r, 0, none⟩), .agg #[.int .i64 k, .int .u64 v, .string s]] w fun e w' => e = .returned (.bool true) ∧ (∃ ao' n' c', Rd w' r ao' n' c' rest 0) ∧ Only r w w' := by
  have hrlt := lt_of_block h.blk
  have hln := h.sh.len
  have hbl := be_length 8 v
  have hn : 8 ≤ n := by rw [List.length_append, hbl] at hln; omega
  have HV : Hid (beval ((be 8 v ++ rest).take 8) = v) := by
    show _ = _
    rw [take_app hbl]
    exact beval_be _ _ (by have := hv; omega) (by have := hv; omega)
  have HD : Hid ((be 8 v ++ rest).drop 8 = rest) := drop_app hbl
  have hA : Below w.heap.size w (w.alloc (.cells #[.int .i64 k, .int .u64 v, .string s] 66)).drew := ((Below.refl _ w).alloc (Nat.le_refl _) _).drew
  have h1 := h.later hA
  have hneb : w.heap.size ≠ r := by omega
  clear hv
  clear hln hbl h
  go_enter Tryd.func42, Tryd.ntmps42
  go_wp2
  go_region_held3 (fun w' => w'.cell? ⟨w.heap.size, 1, none⟩ = some (.int .u64 v)) (first | go_keep | (rw [← hw1, cell?_of_other (by simpa using hneb)]; assumption)) ((go_at_call 36; refine (u64_at r ao n c _ _ h1 hn).mono ?_; rintro e w1 ⟨he, hw1⟩; rw [HV.out] at he; subst he; have hrd1 := h1.takes hn hw1; have hon1 : Only r (w.alloc (.cells #[.int .i64 k, .int .u64 v, .string s] 66)).drew w1 := hw1 ▸ Only.set r 0 _ _))
  all_goals go_wp2
  all_goals go_ret
  rw [HD.out] at hrd1
  exact ⟨by simp, ⟨_, _, _, hrd1⟩, (Only.of_below hA).trans hon1⟩

set_option maxHeartbeats 1000000 in
set_option maxRecDepth 100000 in
theorem got_one (r : Nat) (ao : Option Addr) (n c : Nat) (rest : List Int) (k v : Int) (s : ByteArray) (w : World) (h : Rd w r ao n c (be 1 (IntKind.u8.wrap v) ++ rest) 0) (ht : k.tmod 5 < 1 ∨ 4 < k.tmod 5) :
    Calls Tryd.prog 42 #[.pointer (some ⟨r, 0, none⟩), .agg #[.int .i64 k, .int .u64 v, .string s]] w fun e w' => e = .returned (.bool true) ∧ (∃ ao' n' c', Rd w' r ao' n' c' rest 0) ∧ Only r w w' := by
  have hrlt := lt_of_block h.blk
  have hln := h.sh.len
  have hbl := be_length 1 (IntKind.u8.wrap v)
  have hn : 1 ≤ n := by rw [List.length_append, hbl] at hln; omega
  have HV : Hid (beval ((be 1 (IntKind.u8.wrap v) ++ rest).take 1) = (IntKind.u8.wrap v)) := by
    show _ = _
    rw [take_app hbl]
    exact beval_be _ _ (by have := wrap8 v; omega) (by have := wrap8 v; omega)
  have HD : Hid ((be 1 (IntKind.u8.wrap v) ++ rest).drop 1 = rest) := drop_app hbl
  have hA : Below w.heap.size w (w.alloc (.cells #[.int .i64 k, .int .u64 v, .string s] 66)).drew := ((Below.refl _ w).alloc (Nat.le_refl _) _).drew
  have h1 := h.later hA
  have hneb : w.heap.size ≠ r := by omega
  have e1 : (k.tmod 5 == 1) = false := by simp; omega
  have e2 : (k.tmod 5 == 2) = false := by simp; omega
  have e3 : (k.tmod 5 == 3) = false := by simp; omega
  have e4 : (k.tmod 5 == 4) = false := by simp; omega
  clear ht
  clear hln hbl h
  go_enter Tryd.func42, Tryd.ntmps42
  go_wp2
  go_region_held3 (fun w' => w'.cell? ⟨w.heap.size, 1, none⟩ = some (.int .u64 v)) (first | go_keep | (rw [← hw1, cell?_of_other (by simpa using hneb)]; assumption)) ((go_at_call 33; refine (u8_at r ao n c _ _ h1 hn).mono ?_; rintro e w1 ⟨he, hw1⟩; rw [HV.out] at he; subst he; have hrd1 := h1.takes hn hw1; have hon1 : Only r (w.alloc (.cells #[.int .i64 k, .int .u64 v, .string s] 66)).drew w1 := hw1 ▸ Only.set r 0 _ _))
  all_goals go_wp2
  all_goals go_ret
  rw [HD.out] at hrd1
  exact ⟨by simp, ⟨_, _, _, hrd1⟩, (Only.of_below hA).trans hon1⟩

set_option maxHeartbeats 1000000 in
set_option maxRecDepth 100000 in
theorem got_text (r : Nat) (ao : Option Addr) (n c : Nat) (rest : List Int) (k v : Int) (s : ByteArray) (w : World) (h : Rd w r ao n c ((be 2 s.size ++ nums s) ++ rest) 0) (hm : (s.size : Int) ≤ 65535) (ht : k.tmod 5 = 4) :
    Calls Tryd.prog 42 #[.pointer (some ⟨r, 0, none⟩), .agg #[.int .i64 k, .int .u64 v, .string s]] w fun e w' => e = .returned (.bool true) ∧ (∃ ao' n' c', Rd w' r ao' n' c' rest 0) ∧ Only r w w' := by
  have hrlt := lt_of_block h.blk
  have hln := h.sh.len
  have hbl := be_length 2 (s.size : Int)
  have hnl := nums_length s
  have hn : 2 + s.size ≤ n := by rw [List.length_append, List.length_append, hbl, hnl] at hln; omega
  rw [List.append_assoc] at h
  have HV : beval ((be 2 s.size ++ (nums s ++ rest)).take 2) = (s.size : Nat) := by
    rw [take_app hbl]
    exact beval_be _ _ (by omega) (by omega)
  have HT : Hid (strOfNums (((be 2 s.size ++ (nums s ++ rest)).drop 2).take s.size) = s) := by
    show _ = _
    rw [drop_app hbl, take_app hnl]
    apply ByteArray.ext
    apply Array.ext'
    rw [strOfNums_data]
    simp only [nums, List.map_map]
    exact List.map_id'' (fun b => by simp) _
  have HD : Hid (((be 2 s.size ++ (nums s ++ rest)).drop 2).drop s.size = rest) := by show _ = _; rw [drop_app hbl, drop_app hnl]
  have hA : Below w.heap.size w (w.alloc (.cells #[.int .i64 k, .int .u64 v, .string s] 66)).drew := ((Below.refl _ w).alloc (Nat.le_refl _) _).drew
  have h1 := h.later hA
  have hneb : w.heap.size ≠ r := by omega
  have hcon := text_at r ao n c s.size _ _ h1 (by omega) HV hn
  clear hln hbl h HV
  go_enter Tryd.func42, Tryd.ntmps42
  go_wp2
  go_region_held3 (fun w' => w'.cell? ⟨w.heap.size, 2, none⟩ = some (.string s)) (first | go_keep | (exact hon1.cell (by assumption) (by simpa using hneb))) ((go_at_call 38; refine hcon.mono ?_; rintro e w1 ⟨he, ⟨ao1, c1, hrd1⟩, hon1⟩; rw [HT.out] at he; subst he))
  all_goals go_wp2
  all_goals go_ret
  rw [HD.out] at hrd1
  exact ⟨by simp, ⟨_, _, _, hrd1⟩, (Only.of_below hA).trans hon1⟩

theorem got_any (r : Nat) (ao : Option Addr) (n c : Nat) (rest : List Int) (k v : Int) (s : ByteArray) (w : World) (h : Rd w r ao n c (ib k v s ++ rest) 0) (hv : 0 ≤ v ∧ v ≤ 18446744073709551615) (hm : (s.size : Int) ≤ 65535) :
    Calls Tryd.prog 42 #[.pointer (some ⟨r, 0, none⟩), .agg #[.int .i64 k, .int .u64 v, .string s]] w fun e w' => e = .returned (.bool true) ∧ (∃ ao' n' c', Rd w' r ao' n' c' rest 0) ∧ Only r w w' := by
  have ht := tmod5 k
  unfold ib at h
  rcases (show k.tmod 5 = 1 ∨ k.tmod 5 = 2 ∨ k.tmod 5 = 3 ∨ k.tmod 5 = 4 ∨ (k.tmod 5 < 1 ∨ 4 < k.tmod 5) by omega) with h1 | h1 | h1 | h1 | h1
  · rw [if_pos h1] at h; exact got_two r ao n c rest k v s w h h1
  · rw [if_neg (by omega), if_pos h1] at h; exact got_four r ao n c rest k v s w h h1
  · rw [if_neg (by omega), if_neg (by omega), if_pos h1] at h; exact got_eight r ao n c rest k v s w h hv h1
  · rw [if_neg (by omega), if_neg (by omega), if_neg (by omega), if_pos h1] at h; exact got_text r ao n c rest k v s w h hm h1
  · rw [if_neg (by omega), if_neg (by omega), if_neg (by omega), if_neg (by omega)] at h; exact got_one r ao n c rest k v s w h h1

end Go.Proofs.YtmnkbbfpdohpkaaDoor
