/- The document's reader: every answer, however it stands. -/
import Derived.Test.YtmnkbbfpdohpkaaDoorAskA
import Derived.Deep.QuietTactic
import Derived.BigQuiet
namespace Go.Proofs.YtmnkbbfpdohpkaaDoor
open Go.RowKit

/-- The document's reader in block q: the bytes ys, the place k, the error e. -/
structure RR (w : World) (q : Nat) (bo : Option Addr) (N bc : Nat) (ys : List Int) (k : Nat) (e : Int) : Prop where
  blk : w.heap[q]? = some (.cells #[.slice bo N bc, .int .i64 k, .int .i64 e] 84 (0, 0))
  sh : Shows w bo N ys
  plc : k ≤ N
  cap : N ≤ bc
  big : bc ≤ maxLen
  bare : bo = none → bc = 0
  apart : ∀ ad, bo = some ad → ad.block ≠ q
  lim : N ≤ 140737488355328

section
variable {w : World} {q : Nat} {bo : Option Addr} {N bc : Nat} {ys : List Int} {k : Nat} {e : Int}
theorem RR.c0 (h : RR w q bo N bc ys k e) : w.cell? ⟨q, 0, none⟩ = some (.slice bo N bc) := by rw [cell_of_row w q 0 _ 84 _ h.blk]; rfl
theorem RR.c1 (h : RR w q bo N bc ys k e) : w.cell? ⟨q, 1, none⟩ = some (.int .i64 k) := by rw [cell_of_row w q 1 _ 84 _ h.blk]; rfl
theorem RR.c2 (h : RR w q bo N bc ys k e) : w.cell? ⟨q, 2, none⟩ = some (.int .i64 e) := by rw [cell_of_row w q 2 _ 84 _ h.blk]; rfl
theorem RR.fz (h : RR w q bo N bc ys k e) (j : Nat) : w.frozen? ⟨q, j, none⟩ = false := frozen_of_row w q j _ 84 h.blk
theorem RR.later {w' : World} (h : RR w q bo N bc ys k e) (hb : Below w.heap.size w w') : RR w' q bo N bc ys k e :=
  ⟨(hb.block q (lt_of_block h.blk)).trans h.blk, h.sh.later hb, h.plc, h.cap, h.big, h.bare, h.apart, h.lim⟩
theorem RR.only {w' : World} {r : Nat} (h : RR w q bo N bc ys k e) (ho : Only r w w') (hq : q ≠ r) (hbo : ∀ ad, bo = some ad → ad.block ≠ r) : RR w' q bo N bc ys k e :=
  ⟨(ho.block q (lt_of_block h.blk) hq).trans h.blk, ho.shows h.sh hbo, h.plc, h.cap, h.big, h.bare, h.apart, h.lim⟩
theorem RR.fail (h : RR w q bo N bc ys k e) (f : Int) : RR (w.setCell ⟨q, 2, none⟩ (.int .i64 f)) q bo N bc ys k f :=
  ⟨by rw [heap_setCell_same w q 2 _ 84 _ h.blk]; rfl, h.sh.beside (fun ad had => h.apart ad had) _, h.plc, h.cap, h.big, h.bare, h.apart, h.lim⟩
theorem RR.move (h : RR w q bo N bc ys k e) (k' : Nat) (hk : k' ≤ N) : RR (w.setCell ⟨q, 1, none⟩ (.int .i64 k')) q bo N bc ys k' e :=
  ⟨by rw [heap_setCell_same w q 1 _ 84 _ h.blk]; rfl, h.sh.beside (fun ad had => h.apart ad had) _, hk, h.cap, h.big, h.bare, h.apart, h.lim⟩
end

theorem Rd.only {w w' : World} {r : Nat} {ao : Option Addr} {n c : Nat} {xs : List Int} {e : Int} {q : Nat} (h : Rd w r ao n c xs e) (ho : Only q w w') (hq : r ≠ q) (hao : ∀ ad, ao = some ad → ad.block ≠ q) : Rd w' r ao n c xs e :=
  ⟨(ho.block r (lt_of_block h.blk) hq).trans h.blk, ho.shows h.sh hao, h.cap, h.big, h.bare, h.apart⟩

theorem ret_i64 {a b : Int} (h : a = b) : Ending.returned (.int .i64 a) = .returned (.int .i64 b) := by rw [h]

set_option maxHeartbeats 400000 in
theorem rleft (q : Nat) (bo : Option Addr) (N bc : Nat) (ys : List Int) (k : Nat) (e : Int) (w : World) (h : RR w q bo N bc ys k e) :
    Calls Tryd.prog 55 #[.pointer (some ⟨q, 0, none⟩)] w fun x w' => x = .returned (.int .i64 ((N : Int) - k)) ∧ Below w.heap.size w w' := by
  have c0 := h.c0; have c1 := h.c1
  have hp := h.plc
  have hm := h.lim
  go_enter Tryd.func55, Tryd.ntmps55
  go_wp2
  go_quiet (fail)
  go_wp2
  go_ret
  exact ⟨rfl, below_drewN (Below.refl _ _) _⟩

set_option maxHeartbeats 400000 in
theorem rerr (q : Nat) (bo : Option Addr) (N bc : Nat) (ys : List Int) (k : Nat) (e : Int) (w : World) (h : RR w q bo N bc ys k e) :
    Calls Tryd.prog 56 #[.pointer (some ⟨q, 0, none⟩)] w fun x w' => x = .returned (.int .i64 e) ∧ w = w' := by
  have c2 := h.c2
  go_enter Tryd.func56, Tryd.ntmps56
  go_wp2
  go_ret
  exact ⟨rfl, rfl⟩

set_option maxHeartbeats 400000 in
theorem rfits_err (q : Nat) (bo : Option Addr) (N bc : Nat) (ys : List Int) (k : Nat) (e m : Int) (w : World) (h : RR w q bo N bc ys k e) (he : (e != 0) = true) :
    Calls Tryd.prog 63 #[.pointer (some ⟨q, 0, none⟩), .int .i64 m] w fun x w' => x = .returned (.bool false) ∧ w = w' := by
  have c2 := h.c2
  go_enter Tryd.func63, Tryd.ntmps63
  go_wp2
  go_ret
  exact ⟨rfl, rfl⟩

set_option maxHeartbeats 400000 in
theorem rfits_short (q : Nat) (bo : Option Addr) (N bc : Nat) (ys : List Int) (k : Nat) (m : Int) (w : World) (h : RR w q bo N bc ys k 0) (hm : (N : Int) - k < m) :
    Calls Tryd.prog 63 #[.pointer (some ⟨q, 0, none⟩), .int .i64 m] w fun x w' => x = .returned (.bool false) ∧ RR w' q bo N bc ys k 10 ∧ Only q w w' := by
  have c2 := h.c2
  go_enter Tryd.func63, Tryd.ntmps63
  go_wp2_with (go_at_call 55; refine (rleft q bo N bc ys k 0 w h).mono ?_; rintro e w1 ⟨rfl, hb1⟩; have h1 := h.later hb1; have d2 := h1.c2; have f2 := h1.fz 2)
  go_ret
  exact ⟨rfl, h1.fail 10, (Only.of_below hb1).trans (Only.set q 2 _ _)⟩

set_option maxHeartbeats 400000 in
theorem rfits_ok (q : Nat) (bo : Option Addr) (N bc : Nat) (ys : List Int) (k : Nat) (m : Int) (w : World) (h : RR w q bo N bc ys k 0) (hm : m ≤ (N : Int) - k) :
    Calls Tryd.prog 63 #[.pointer (some ⟨q, 0, none⟩), .int .i64 m] w fun x w' => x = .returned (.bool true) ∧ RR w' q bo N bc ys k 0 ∧ Only q w w' := by
  have c2 := h.c2
  go_enter Tryd.func63, Tryd.ntmps63
  go_wp2_with (go_at_call 55; refine (rleft q bo N bc ys k 0 w h).mono ?_; rintro e w1 ⟨rfl, hb1⟩; have h1 := h.later hb1)
  go_ret
  exact ⟨rfl, h1, Only.of_below hb1⟩

set_option maxHeartbeats 400000 in
theorem rraw_err (q : Nat) (bo : Option Addr) (N bc : Nat) (ys : List Int) (k : Nat) (e m : Int) (w : World) (h : RR w q bo N bc ys k e) (he : (e != 0) = true) :
    Calls Tryd.prog 53 #[.pointer (some ⟨q, 0, none⟩), .int .i64 m] w fun x w' => x = .returned (.slice none 0 0) ∧ w = w' := by
  have c2 := h.c2
  have he2 : (e == 0) = false := by simpa using he
  go_enter Tryd.func53, Tryd.ntmps53
  go_wp2_with (go_at_call 63; refine (rfits_err q bo N bc ys k e m w h he).mono ?_; rintro x w1 ⟨rfl, rfl⟩)
  go_ret
  exact ⟨rfl, rfl⟩

set_option maxHeartbeats 400000 in
theorem rraw_neg (q : Nat) (bo : Option Addr) (N bc : Nat) (ys : List Int) (k : Nat) (m : Int) (w : World) (h : RR w q bo N bc ys k 0) (hm : m < 0) :
    Calls Tryd.prog 53 #[.pointer (some ⟨q, 0, none⟩), .int .i64 m] w fun x w' => x = .returned (.slice none 0 0) ∧ RR w' q bo N bc ys k 2 ∧ Only q w w' := by
  have c2 := h.c2
  have f2 := h.fz 2
  have h2 := h.fail 2
  go_enter Tryd.func53, Tryd.ntmps53
  go_wp2_with (go_at_call 63; refine (rfits_err q bo N bc ys k 2 m _ h2 rfl).mono ?_; rintro x w1 ⟨rfl, rfl⟩)
  go_ret
  exact ⟨rfl, h2, Only.set q 2 _ _⟩

set_option maxHeartbeats 400000 in
theorem rraw_short (q : Nat) (bo : Option Addr) (N bc : Nat) (ys : List Int) (k : Nat) (m : Int) (w : World) (h : RR w q bo N bc ys k 0) (hm0 : 0 ≤ m) (hm : (N : Int) - k < m) :
    Calls Tryd.prog 53 #[.pointer (some ⟨q, 0, none⟩), .int .i64 m] w fun x w' => x = .returned (.slice none 0 0) ∧ RR w' q bo N bc ys k 10 ∧ Only q w w' := by
  have c2 := h.c2
  go_enter Tryd.func53, Tryd.ntmps53
  go_wp2_with (go_at_call 63; refine (rfits_short q bo N bc ys k m w h hm).mono ?_; rintro x w1 ⟨rfl, h1, ho1⟩)
  go_ret
  exact ⟨rfl, h1, ho1⟩

end Go.Proofs.YtmnkbbfpdohpkaaDoor
