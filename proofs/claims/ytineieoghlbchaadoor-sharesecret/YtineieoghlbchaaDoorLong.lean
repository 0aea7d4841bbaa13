/- Whether shares are too long, and whether they are as long as one another. -/
import Derived.Test.YtineieoghlbchaaDoorPlace
namespace Go.Proofs.YtineieoghlbchaaDoor
open Go.RowKit

theorem isLong_any (a : Int) (ao : Option Addr) (n c : Nat) (w : World) :
    Calls Tryd.prog 38 #[.agg #[.int .u8 a, .slice ao n c]] w fun e w' => e = .returned (.bool (decide ((1024 : Int) < n))) ∧ Below w.heap.size w w' := by
  go_enter Tryd.func38, Tryd.ntmps38
  go_wp2
  go_ret
  exact ⟨rfl, (Below.refl _ w).alloc (Nat.le_refl _) _⟩

/-- One of the shares is too long. -/
def anyLong (L : List Sh) : Bool := L.any (fun s => decide ((1024 : Int) < s.n))
theorem anyLong_of {L : List Sh} {k : Nat} {s : Sh} (h : L[k]? = some s) (hl : decide ((1024 : Int) < s.n) = true) : anyLong L = true :=
  List.any_eq_true.2 ⟨s, List.mem_of_getElem? h, hl⟩

/-- What IndexFunc answers. -/
def Found (b : Bool) (w : World) (e : Ending) (w' : World) : Prop := ∃ r : Int, e = .returned (.int .i64 r) ∧ (b = decide (0 ≤ r)) ∧ -1 ≤ r ∧ r < 140737488355328 ∧ Below w.heap.size w w'

set_option maxRecDepth 100000 in
set_option maxHeartbeats 1000000 in
theorem indexLong_any (ao : Option Addr) (n c : Nat) (L : List Sh) (w : World) (hs : Shs w ao n L) (hn : (n : Int) ≤ 140737488355328) :
    Calls Tryd.prog 53 #[.slice ao n c, .func (.func 38) #[] #[]] w fun e w' => Found (anyLong L) w e w' := by
  have HL : Hid (L.length = n) := hs.len
  go_enter Tryd.func53, Tryd.ntmps53
  go_wp2
  go_loopw [8] (fun i wr => ∃ j : Nat, j ≤ n ∧ i = .int .i64 j ∧ anyLong (L.take j) = false ∧ Below w.heap.size w wr) (fun i _ => n - (intOf i).toNat)
  case atStart => exact ⟨0, Nat.zero_le _, rfl, rfl, Below.refl _ _⟩
  case round =>
    obtain ⟨k, hk, rfl, hno, hb⟩ := hrel
    have HN : Hid (anyLong (L.take k) = false) := hno
    clear hno
    by_cases hlt : k < n
    · obtain ⟨ad, rfl⟩ := hs.adr (by omega)
      obtain ⟨s, hsk⟩ := hs.get k hlt
      have cx := (hs.later hb).cx ad rfl k s hsk
      have cy := (hs.later hb).cy ad rfl k s hsk
      have HS : Hid (L[k]? = some s) := hsk
      have hkn : (k : Int) < (n : Int) := by omega
      clear hsk
      have hl := isLong_any (v8 s.x) s.ao s.n s.c wr
      cases hd : decide ((1024 : Int) < s.n)
      · rw [hd] at hl
        go_wp2_with (go_at_call 38; refine hl.mono ?_; rintro e w1 ⟨rfl, hb1⟩)
        go_roundw
        case rel =>
          refine ⟨k + 1, by omega, by go_num, ?_, hb.trans (hb1.mono hb.size)⟩
          rw [List.take_add_one, HS.out]
          unfold anyLong at *
          rw [List.any_append, HN.out]
          simpa using hd
        case measure => simp [intOf]; omega
      · rw [hd] at hl
        go_wp2_with (go_at_call 38; refine hl.mono ?_; rintro e w1 ⟨rfl, hb1⟩)
        go_ret
        exact ⟨k, rfl, by rw [anyLong_of HS.out hd]; simp, by omega, by omega, hb.trans (hb1.mono hb.size)⟩
    · have hkn : k = n := by omega
      subst hkn
      go_wp2
      go_ret
      have h1 := HN.out
      rw [List.take_of_length_le (by rw [HL.out]; exact Nat.le_refl _)] at h1
      exact ⟨-1, rfl, by rw [h1]; decide, by omega, by omega, hb⟩

set_option maxRecDepth 100000 in
theorem containsLong_any (ao : Option Addr) (n c : Nat) (L : List Sh) (w : World) (hs : Shs w ao n L) (hn : (n : Int) ≤ 140737488355328) :
    Calls Tryd.prog 37 #[.slice ao n c, .func (.func 38) #[] #[]] w fun e w' => e = .returned (.bool (anyLong L)) ∧ Below w.heap.size w w' := by
  go_enter Tryd.func37, Tryd.ntmps37
  go_wp2_with (go_at_call 53; refine (indexLong_any ao n c L w hs hn).mono ?_; rintro e w1 ⟨r, rfl, hr, hr0, hr1, hb⟩)
  go_ret
  exact ⟨by rw [hr]; rfl, hb⟩

/-- All shares have as many bytes as the first. -/
def sameB (m : Nat) (L : List Sh) : Bool := L.all (fun s => decide (s.n = m))
theorem sameB_false {m : Nat} {L : List Sh} {k : Nat} {s : Sh} (h : L[k]? = some s) (hl : ¬ s.n = m) : sameB m L = false := by
  unfold sameB
  rw [List.all_eq_false]
  exact ⟨s, List.mem_of_getElem? h, by simp [hl]⟩

set_option maxRecDepth 100000 in
set_option maxHeartbeats 1000000 in
theorem sameSize_any (ad : Addr) (n c : Nat) (L : List Sh) (s0 : Sh) (w : World) (hs : Shs w (some ad) n L) (hn : (n : Int) ≤ 140737488355328) (h0 : L[0]? = some s0) :
    Calls Tryd.prog 40 #[.slice (some ad) n c] w fun e w' => e = .returned (.bool (sameB s0.n L)) ∧ Below w.heap.size w w' := by
  have HL : Hid (L.length = n) := hs.len
  have hn0 : 0 < n := by
    have := (List.getElem?_eq_some_iff.1 h0).1
    have := hs.len
    omega
  have H0 : Hid (L[0]? = some s0) := h0
  clear h0
  go_enter Tryd.func40, Tryd.ntmps40
  go_wp2
  go_loopw [7] (fun i wr => ∃ j : Nat, j ≤ n ∧ i = .int .i64 j ∧ sameB s0.n (L.take j) = true ∧ Below w.heap.size w wr) (fun i _ => n - (intOf i).toNat)
  case atStart => exact ⟨0, Nat.zero_le _, rfl, rfl, Below.refl _ _⟩
  case round =>
    obtain ⟨k, hk, rfl, hno, hb⟩ := hrel
    have HN : Hid (sameB s0.n (L.take k) = true) := hno
    clear hno
    by_cases hlt : k < n
    · obtain ⟨s, hsk⟩ := hs.get k hlt
      have cx := (hs.later hb).cx ad rfl k s hsk
      have cy := (hs.later hb).cy ad rfl k s hsk
      have HS : Hid (L[k]? = some s) := hsk
      have hkn : (k : Int) < (n : Int) := by omega
      clear hsk
      have hsz := hb.size
      have c0 : ∀ o, (wr.alloc o).cell? ⟨ad.block, ad.off + 1, none⟩ = some (.slice s0.ao s0.n s0.c) := by
        intro o
        have h := (hs.later (hb.alloc hsz o)).cy ad rfl 0 s0 H0.out
        simpa [Addr.add] using h
      by_cases hd : s.n = s0.n
      · have hd' : ((s.n : Int) == (s0.n : Int)) = true := by rw [hd]; simp
        go_wp2_with fail
        go_quiet (fail)
        go_wp2
        go_roundw
        case rel =>
          refine ⟨k + 1, by omega, by go_num, ?_, ?_⟩
          · rw [List.take_add_one, HS.out]
            unfold sameB at *
            rw [List.all_append, HN.out]
            simpa using hd
          · have := hb.alloc hsz (Obj.cells #[Value.int .u8 (v8 s.x), Value.slice s.ao s0.n s.c] 44)
            exact ⟨this.os, this.tape, this.output, this.size, this.block⟩
        case measure => simp [intOf]; omega
      · have hd' : ((s.n : Int) == (s0.n : Int)) = false := by simp; omega
        have hd2 : ¬ (s.n : Int) = (s0.n : Int) := by omega
        go_wp2_with fail
        go_quiet (fail)
        go_wp2
        go_ret
        refine ⟨by rw [sameB_false HS.out hd]; rfl, ?_⟩
        have := hb.alloc hsz (Obj.cells #[Value.int .u8 (v8 s.x), Value.slice s.ao s.n s.c] 44)
        exact ⟨this.os, this.tape, this.output, this.size, this.block⟩
    · have hkn : k = n := by omega
      subst hkn
      go_wp2
      go_ret
      have h1 := HN.out
      rw [List.take_of_length_le (by rw [HL.out]; exact Nat.le_refl _)] at h1
      exact ⟨by rw [h1]; rfl, hb⟩
end Go.Proofs.YtineieoghlbchaaDoor
