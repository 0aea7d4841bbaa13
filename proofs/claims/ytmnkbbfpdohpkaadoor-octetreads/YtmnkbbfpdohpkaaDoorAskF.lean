/- One question, asked of both readers. -/
import Derived.Test.YtmnkbbfpdohpkaaDoorAskE
namespace Go.Proofs.YtmnkbbfpdohpkaaDoor
open Go.RowKit

theorem rnum1 (q : Nat) (bo : Option Addr) (N bc : Nat) (ys : List Int) (k : Nat) (e : Int) (w : World) (h : RR w q bo N bc ys k e) :
    Calls Tryd.prog 52 #[.pointer (some ⟨q, 0, none⟩), .int .i64 1] w fun x w' => x = .returned (.int .u64 (beval (mO 1 (ys.drop k) e))) ∧ (∃ k', RR w' q bo N bc ys k' (mE 1 (ys.drop k) e) ∧ ys.drop k' = mL 1 (ys.drop k) e) ∧ Only q w w' :=
  rnum_all 1 (by omega) q bo N bc ys k e w h

set_option maxHeartbeats 1000000 in
set_option maxRecDepth 100000 in
theorem asked_1 (r q : Nat) (ao bo : Option Addr) (n c N bc : Nat) (ys : List Int) (k : Nat) (e x2 : Int) (w : World) (h : Rd w r ao n c (ys.drop k) e) (hq : RR w q bo N bc ys k e) :
    Calls Tryd.prog 32 #[.pointer (some ⟨r, 0, none⟩), .pointer (some ⟨q, 0, none⟩), .agg #[.int .i64 1, .int .i64 x2]] w fun e w' => e = .returned (.bool true) ∧ Alike2 w' r q bo N bc ys ∧ Two r q w w' := by
  have hA : Below w.heap.size w (w.alloc (.cells #[.int .i64 1, .int .i64 x2] 53)) := (Below.refl _ w).alloc (Nat.le_refl _) _
  have h0 := h.later hA
  have q0 := hq.later hA
  have hb := mO_bd h 1
  have hcon := u8_all r ao n c (ys.drop k) e _ h0
  have hcon2 := fun w1 h1 => rnum1 q bo N bc ys k e w1 h1
  have e1 : ((1 : Nat) : Int) = 1 := rfl
  rw [e1] at hb
  generalize beval (mO 1 (ys.drop k) e) = B at *
  have hb1 : B ≤ 255 := by omega
  have hb0 : 0 ≤ B := hb.1
  have hw := wrap_u B (by omega) (by omega)
  clear hb h hq e1
  go_enter Tryd.func32, Tryd.ntmps32
  go_wp2_with (first
    | (go_at_call 33; go_must (refine hcon.mono ?_; rintro x w1 ⟨rfl, ⟨ao1, n1, c1, h1⟩, ho1⟩; have q1 := q0.only_rd h0 ho1))
    | (go_at_call 52; go_must (refine (hcon2 w1 q1).mono ?_; rintro x w2 ⟨rfl, ⟨k2, q2, hd2⟩, ho2⟩; have h2 := h1.only_rr q1 ho2; rw [← hd2] at h2))
    | (go_at_call 39; go_must (refine (left_ok r _ _ _ _ _ _ h2).mono ?_; rintro x w' ⟨rfl, rfl⟩))
    | (go_at_call 55; go_must (refine (rleft_n q _ _ _ _ k2 _ _ _ q2 h2.sh.len).mono ?_; rintro x w3 ⟨rfl, hb3⟩; have h3 := h2.later hb3; have q3 := q2.later hb3))
    | (go_at_call 40; go_must (refine (err_ok r _ _ _ _ _ _ h3).mono ?_; rintro x w' ⟨rfl, rfl⟩))
    | (go_at_call 56; go_must (refine (rerr q _ _ _ _ _ _ _ q3).mono ?_; rintro x w' ⟨rfl, rfl⟩)))
  go_ret
  have hlim := q3.lim
  have hdl := h3.sh.len
  rw [List.length_drop, q3.sh.len] at hdl
  refine ⟨by simp, ⟨_, _, _, _, k2, h3, q3, by omega⟩, ?_⟩
  exact (((Two.of_below hA).trans (Two.left ho1)).trans (Two.right ho2)).trans (Two.of_below hb3)

theorem rnum2 (q : Nat) (bo : Option Addr) (N bc : Nat) (ys : List Int) (k : Nat) (e : Int) (w : World) (h : RR w q bo N bc ys k e) :
    Calls Tryd.prog 52 #[.pointer (some ⟨q, 0, none⟩), .int .i64 2] w fun x w' => x = .returned (.int .u64 (beval (mO 2 (ys.drop k) e))) ∧ (∃ k', RR w' q bo N bc ys k' (mE 2 (ys.drop k) e) ∧ ys.drop k' = mL 2 (ys.drop k) e) ∧ Only q w w' :=
  rnum_all 2 (by omega) q bo N bc ys k e w h

set_option maxHeartbeats 1000000 in
set_option maxRecDepth 100000 in
theorem asked_2 (r q : Nat) (ao bo : Option Addr) (n c N bc : Nat) (ys : List Int) (k : Nat) (e x2 : Int) (w : World) (h : Rd w r ao n c (ys.drop k) e) (hq : RR w q bo N bc ys k e) :
    Calls Tryd.prog 32 #[.pointer (some ⟨r, 0, none⟩), .pointer (some ⟨q, 0, none⟩), .agg #[.int .i64 2, .int .i64 x2]] w fun e w' => e = .returned (.bool true) ∧ Alike2 w' r q bo N bc ys ∧ Two r q w w' := by
  have hA : Below w.heap.size w (w.alloc (.cells #[.int .i64 2, .int .i64 x2] 53)) := (Below.refl _ w).alloc (Nat.le_refl _) _
  have h0 := h.later hA
  have q0 := hq.later hA
  have hb := mO_bd h 2
  have hcon := u16_all r ao n c (ys.drop k) e _ h0
  have hcon2 := fun w1 h1 => rnum2 q bo N bc ys k e w1 h1
  have e1 : ((2 : Nat) : Int) = 2 := rfl
  rw [e1] at hb
  generalize beval (mO 2 (ys.drop k) e) = B at *
  have hb1 : B ≤ 65535 := by omega
  have hb0 : 0 ≤ B := hb.1
  have hw := wrap_u B (by omega) (by omega)
  clear hb h hq e1
  go_enter Tryd.func32, Tryd.ntmps32
  go_wp2_with (first
    | (go_at_call 34; go_must (refine hcon.mono ?_; rintro x w1 ⟨rfl, ⟨ao1, n1, c1, h1⟩, ho1⟩; have q1 := q0.only_rd h0 ho1))
    | (go_at_call 52; go_must (refine (hcon2 w1 q1).mono ?_; rintro x w2 ⟨rfl, ⟨k2, q2, hd2⟩, ho2⟩; have h2 := h1.only_rr q1 ho2; rw [← hd2] at h2))
    | (go_at_call 39; go_must (refine (left_ok r _ _ _ _ _ _ h2).mono ?_; rintro x w' ⟨rfl, rfl⟩))
    | (go_at_call 55; go_must (refine (rleft_n q _ _ _ _ k2 _ _ _ q2 h2.sh.len).mono ?_; rintro x w3 ⟨rfl, hb3⟩; have h3 := h2.later hb3; have q3 := q2.later hb3))
    | (go_at_call 40; go_must (refine (err_ok r _ _ _ _ _ _ h3).mono ?_; rintro x w' ⟨rfl, rfl⟩))
    | (go_at_call 56; go_must (refine (rerr q _ _ _ _ _ _ _ q3).mono ?_; rintro x w' ⟨rfl, rfl⟩)))
  go_ret
  have hlim := q3.lim
  have hdl := h3.sh.len
  rw [List.length_drop, q3.sh.len] at hdl
  refine ⟨by simp, ⟨_, _, _, _, k2, h3, q3, by omega⟩, ?_⟩
  exact (((Two.of_below hA).trans (Two.left ho1)).trans (Two.right ho2)).trans (Two.of_below hb3)

theorem rnum4 (q : Nat) (bo : Option Addr) (N bc : Nat) (ys : List Int) (k : Nat) (e : Int) (w : World) (h : RR w q bo N bc ys k e) :
    Calls Tryd.prog 52 #[.pointer (some ⟨q, 0, none⟩), .int .i64 4] w fun x w' => x = .returned (.int .u64 (beval (mO 4 (ys.drop k) e))) ∧ (∃ k', RR w' q bo N bc ys k' (mE 4 (ys.drop k) e) ∧ ys.drop k' = mL 4 (ys.drop k) e) ∧ Only q w w' :=
  rnum_all 4 (by omega) q bo N bc ys k e w h

set_option maxHeartbeats 1000000 in
set_option maxRecDepth 100000 in
theorem asked_4 (r q : Nat) (ao bo : Option Addr) (n c N bc : Nat) (ys : List Int) (k : Nat) (e x2 : Int) (w : World) (h : Rd w r ao n c (ys.drop k) e) (hq : RR w q bo N bc ys k e) :
    Calls Tryd.prog 32 #[.pointer (some ⟨r, 0, none⟩), .pointer (some ⟨q, 0, none⟩), .agg #[.int .i64 4, .int .i64 x2]] w fun e w' => e = .returned (.bool true) ∧ Alike2 w' r q bo N bc ys ∧ Two r q w w' := by
  have hA : Below w.heap.size w (w.alloc (.cells #[.int .i64 4, .int .i64 x2] 53)) := (Below.refl _ w).alloc (Nat.le_refl _) _
  have h0 := h.later hA
  have q0 := hq.later hA
  have hb := mO_bd h 4
  have hcon := u32_all r ao n c (ys.drop k) e _ h0
  have hcon2 := fun w1 h1 => rnum4 q bo N bc ys k e w1 h1
  have e1 : ((4 : Nat) : Int) = 4 := rfl
  rw [e1] at hb
  generalize beval (mO 4 (ys.drop k) e) = B at *
  have hb1 : B ≤ 4294967295 := by omega
  have hb0 : 0 ≤ B := hb.1
  have hw := wrap_u B (by omega) (by omega)
  clear hb h hq e1
  go_enter Tryd.func32, Tryd.ntmps32
  go_wp2_with (first
    | (go_at_call 35; go_must (refine hcon.mono ?_; rintro x w1 ⟨rfl, ⟨ao1, n1, c1, h1⟩, ho1⟩; have q1 := q0.only_rd h0 ho1))
    | (go_at_call 52; go_must (refine (hcon2 w1 q1).mono ?_; rintro x w2 ⟨rfl, ⟨k2, q2, hd2⟩, ho2⟩; have h2 := h1.only_rr q1 ho2; rw [← hd2] at h2))
    | (go_at_call 39; go_must (refine (left_ok r _ _ _ _ _ _ h2).mono ?_; rintro x w' ⟨rfl, rfl⟩))
    | (go_at_call 55; go_must (refine (rleft_n q _ _ _ _ k2 _ _ _ q2 h2.sh.len).mono ?_; rintro x w3 ⟨rfl, hb3⟩; have h3 := h2.later hb3; have q3 := q2.later hb3))
    | (go_at_call 40; go_must (refine (err_ok r _ _ _ _ _ _ h3).mono ?_; rintro x w' ⟨rfl, rfl⟩))
    | (go_at_call 56; go_must (refine (rerr q _ _ _ _ _ _ _ q3).mono ?_; rintro x w' ⟨rfl, rfl⟩)))
  go_ret
  have hlim := q3.lim
  have hdl := h3.sh.len
  rw [List.length_drop, q3.sh.len] at hdl
  refine ⟨by simp, ⟨_, _, _, _, k2, h3, q3, by omega⟩, ?_⟩
  exact (((Two.of_below hA).trans (Two.left ho1)).trans (Two.right ho2)).trans (Two.of_below hb3)

theorem rnum8 (q : Nat) (bo : Option Addr) (N bc : Nat) (ys : List Int) (k : Nat) (e : Int) (w : World) (h : RR w q bo N bc ys k e) :
    Calls Tryd.prog 52 #[.pointer (some ⟨q, 0, none⟩), .int .i64 8] w fun x w' => x = .returned (.int .u64 (beval (mO 8 (ys.drop k) e))) ∧ (∃ k', RR w' q bo N bc ys k' (mE 8 (ys.drop k) e) ∧ ys.drop k' = mL 8 (ys.drop k) e) ∧ Only q w w' :=
  rnum_all 8 (by omega) q bo N bc ys k e w h

set_option maxHeartbeats 1000000 in
set_option maxRecDepth 100000 in
theorem asked_8 (r q : Nat) (ao bo : Option Addr) (n c N bc : Nat) (ys : List Int) (k : Nat) (e x2 : Int) (w : World) (h : Rd w r ao n c (ys.drop k) e) (hq : RR w q bo N bc ys k e) :
    Calls Tryd.prog 32 #[.pointer (some ⟨r, 0, none⟩), .pointer (some ⟨q, 0, none⟩), .agg #[.int .i64 8, .int .i64 x2]] w fun e w' => e = .returned (.bool true) ∧ Alike2 w' r q bo N bc ys ∧ Two r q w w' := by
  have hA : Below w.heap.size w (w.alloc (.cells #[.int .i64 8, .int .i64 x2] 53)) := (Below.refl _ w).alloc (Nat.le_refl _) _
  have h0 := h.later hA
  have q0 := hq.later hA
  have hb := mO_bd h 8
  have hcon := u64_all r ao n c (ys.drop k) e _ h0
  have hcon2 := fun w1 h1 => rnum8 q bo N bc ys k e w1 h1
  have e1 : ((8 : Nat) : Int) = 8 := rfl
  rw [e1] at hb
  generalize beval (mO 8 (ys.drop k) e) = B at *
  have hb1 : B ≤ 18446744073709551615 := by omega
  have hb0 : 0 ≤ B := hb.1
  have hw := wrap_u B (by omega) (by omega)
  clear hb h hq e1
  go_enter Tryd.func32, Tryd.ntmps32
  go_wp2_with (first
    | (go_at_call 36; go_must (refine hcon.mono ?_; rintro x w1 ⟨rfl, ⟨ao1, n1, c1, h1⟩, ho1⟩; have q1 := q0.only_rd h0 ho1))
    | (go_at_call 52; go_must (refine (hcon2 w1 q1).mono ?_; rintro x w2 ⟨rfl, ⟨k2, q2, hd2⟩, ho2⟩; have h2 := h1.only_rr q1 ho2; rw [← hd2] at h2))
    | (go_at_call 39; go_must (refine (left_ok r _ _ _ _ _ _ h2).mono ?_; rintro x w' ⟨rfl, rfl⟩))
    | (go_at_call 55; go_must (refine (rleft_n q _ _ _ _ k2 _ _ _ q2 h2.sh.len).mono ?_; rintro x w3 ⟨rfl, hb3⟩; have h3 := h2.later hb3; have q3 := q2.later hb3))
    | (go_at_call 40; go_must (refine (err_ok r _ _ _ _ _ _ h3).mono ?_; rintro x w' ⟨rfl, rfl⟩))
    | (go_at_call 56; go_must (refine (rerr q _ _ _ _ _ _ _ q3).mono ?_; rintro x w' ⟨rfl, rfl⟩)))
  go_ret
  have hlim := q3.lim
  have hdl := h3.sh.len
  rw [List.length_drop, q3.sh.len] at hdl
  refine ⟨by simp, ⟨_, _, _, _, k2, h3, q3, by omega⟩, ?_⟩
  exact (((Two.of_below hA).trans (Two.left ho1)).trans (Two.right ho2)).trans (Two.of_below hb3)

set_option maxHeartbeats 1000000 in
set_option maxRecDepth 100000 in
theorem asked_5 (r q : Nat) (ao bo : Option Addr) (n c N bc : Nat) (ys : List Int) (k : Nat) (e x2 : Int) (w : World) (h : Rd w r ao n c (ys.drop k) e) (hq : RR w q bo N bc ys k e) :
    Calls Tryd.prog 32 #[.pointer (some ⟨r, 0, none⟩), .pointer (some ⟨q, 0, none⟩), .agg #[.int .i64 5, .int .i64 x2]] w fun e w' => e = .returned (.bool true) ∧ Alike2 w' r q bo N bc ys ∧ Two r q w w' := by
  have hA : Below w.heap.size w (w.alloc (.cells #[.int .i64 5, .int .i64 x2] 53)) := (Below.refl _ w).alloc (Nat.le_refl _) _
  have h0 := h.later hA
  have q0 := hq.later hA
  have hcon := text_all r ao n c (ys.drop k) e _ h0
  have hcon2 := fun w1 h1 => rtext_all q bo N bc ys k e w1 h1
  generalize strOfNums (tO (ys.drop k) e) = B at *
  clear h hq
  go_enter Tryd.func32, Tryd.ntmps32
  go_wp2_with (first
    | (go_at_call 38; go_must (refine hcon.mono ?_; rintro x w1 ⟨rfl, ⟨ao1, n1, c1, h1⟩, ho1⟩; have q1 := q0.only_rd h0 ho1))
    | (go_at_call 54; go_must (refine (hcon2 w1 q1).mono ?_; rintro x w2 ⟨rfl, ⟨k2, q2, hd2⟩, ho2⟩; have h2 := h1.only_rr q1 ho2; rw [← hd2] at h2))
    | (go_at_call 39; go_must (refine (left_ok r _ _ _ _ _ _ h2).mono ?_; rintro x w' ⟨rfl, rfl⟩))
    | (go_at_call 55; go_must (refine (rleft_n q _ _ _ _ k2 _ _ _ q2 h2.sh.len).mono ?_; rintro x w3 ⟨rfl, hb3⟩; have h3 := h2.later hb3; have q3 := q2.later hb3))
    | (go_at_call 40; go_must (refine (err_ok r _ _ _ _ _ _ h3).mono ?_; rintro x w' ⟨rfl, rfl⟩))
    | (go_at_call 56; go_must (refine (rerr q _ _ _ _ _ _ _ q3).mono ?_; rintro x w' ⟨rfl, rfl⟩)))
  go_ret
  have hlim := q3.lim
  have hdl := h3.sh.len
  rw [List.length_drop, q3.sh.len] at hdl
  refine ⟨by simp, ⟨_, _, _, _, k2, h3, q3, by omega⟩, ?_⟩
  exact (((Two.of_below hA).trans (Two.left ho1)).trans (Two.right ho2)).trans (Two.of_below hb3)

set_option maxHeartbeats 1000000 in
set_option maxRecDepth 100000 in
theorem asked_no (r q : Nat) (ao bo : Option Addr) (n c N bc : Nat) (ys : List Int) (k2 : Nat) (e x1 x2 : Int) (w : World) (h : Rd w r ao n c (ys.drop k2) e) (hq : RR w q bo N bc ys k2 e)
    (e1 : (x1 == 1) = false) (e2 : (x1 == 2) = false) (e3 : (x1 == 3) = false) (e4 : (x1 == 4) = false) (e5 : (x1 == 5) = false) (e8 : (x1 == 8) = false) :
    Calls Tryd.prog 32 #[.pointer (some ⟨r, 0, none⟩), .pointer (some ⟨q, 0, none⟩), .agg #[.int .i64 x1, .int .i64 x2]] w fun e w' => e = .returned (.bool true) ∧ Alike2 w' r q bo N bc ys ∧ Two r q w w' := by
  have hA : Below w.heap.size w (w.alloc (.cells #[.int .i64 x1, .int .i64 x2] 53)) := (Below.refl _ w).alloc (Nat.le_refl _) _
  have h2 := h.later hA
  have q2 := hq.later hA
  clear h hq
  go_enter Tryd.func32, Tryd.ntmps32
  go_wp2_with (first
    | (go_at_call 39; go_must (refine (left_ok r _ _ _ _ _ _ h2).mono ?_; rintro x w' ⟨rfl, rfl⟩))
    | (go_at_call 55; go_must (refine (rleft_n q _ _ _ _ k2 _ _ _ q2 h2.sh.len).mono ?_; rintro x w3 ⟨rfl, hb3⟩; have h3 := h2.later hb3; have q3 := q2.later hb3))
    | (go_at_call 40; go_must (refine (err_ok r _ _ _ _ _ _ h3).mono ?_; rintro x w' ⟨rfl, rfl⟩))
    | (go_at_call 56; go_must (refine (rerr q _ _ _ _ _ _ _ q3).mono ?_; rintro x w' ⟨rfl, rfl⟩)))
  go_ret
  have hlim := q3.lim
  have hdl := h3.sh.len
  rw [List.length_drop, q3.sh.len] at hdl
  refine ⟨by simp, ⟨_, _, _, _, k2, h3, q3, by omega⟩, ?_⟩
  exact (Two.of_below hA).trans (Two.of_below hb3)

end Go.Proofs.YtmnkbbfpdohpkaaDoor
