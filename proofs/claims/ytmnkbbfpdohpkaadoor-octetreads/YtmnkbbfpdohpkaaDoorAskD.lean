/- The document's reader: bytes, numbers and texts, however it stands. -/
import Derived.Test.YtmnkbbfpdohpkaaDoorAskC
namespace Go.Proofs.YtmnkbbfpdohpkaaDoor
open Go.RowKit

theorem rraw_all (m : Int) (q : Nat) (bo : Option Addr) (N bc : Nat) (ys : List Int) (k : Nat) (e : Int) (w : World) (h : RR w q bo N bc ys k e) :
    Calls Tryd.prog 53 #[.pointer (some ⟨q, 0, none⟩), .int .i64 m] w fun x w' => ∃ v, x = .returned v ∧ w'.ownsRow w.heap.size 5 1 v (mO m (ys.drop k) e).length (u8s (mO m (ys.drop k) e)) ∧ (∃ k', RR w' q bo N bc ys k' (mE m (ys.drop k) e) ∧ ys.drop k' = mL m (ys.drop k) e) ∧ Only q w w' := by
  have hl := h.sh.len
  have hk := h.plc
  have hdl : (ys.drop k).length = N - k := by simp; omega
  by_cases he : e = 0
  · subst he
    by_cases hm0 : m < 0
    · obtain ⟨e1, e2, e3⟩ := m_neg (xs := ys.drop k) hm0
      rw [e1, e2, e3]
      refine (rraw_neg q bo N bc ys k m w h hm0).mono ?_
      rintro x w' ⟨rfl, h1, ho⟩
      exact ⟨_, rfl, World.ownsRow_nil _ _ _ _, ⟨k, h1, rfl⟩, ho⟩
    · obtain ⟨n, rfl⟩ : ∃ n : Nat, m = n := ⟨m.toNat, by omega⟩
      by_cases hn : k + n ≤ N
      · obtain ⟨e1, e2, e3⟩ := m_ok (n := n) (xs := ys.drop k) (by omega)
        rw [e1, e2, e3]
        refine (rraw_ok q bo N bc ys k n w h hn).mono ?_
        rintro x w' ⟨v, rfl, hown, h1, ho⟩
        have : ((ys.drop k).take n).length = n := by simp; omega
        rw [this]
        exact ⟨_, rfl, hown, ⟨k + n, h1, by rw [List.drop_drop]⟩, ho⟩
      · obtain ⟨e1, e2, e3⟩ := m_short (n := n) (xs := ys.drop k) (by omega)
        rw [e1, e2, e3]
        refine (rraw_short q bo N bc ys k n w h (by omega) (by omega)).mono ?_
        rintro x w' ⟨rfl, h1, ho⟩
        exact ⟨_, rfl, World.ownsRow_nil _ _ _ _, ⟨k, h1, rfl⟩, ho⟩
  · obtain ⟨e1, e2, e3⟩ := m_err (n := m) (xs := ys.drop k) he
    rw [e1, e2, e3]
    refine (rraw_err q bo N bc ys k e m w h (by simpa using he)).mono ?_
    rintro x w' ⟨rfl, rfl⟩
    exact ⟨_, rfl, World.ownsRow_nil _ _ _ _, ⟨k, h, rfl⟩, Only.refl q w⟩

theorem mO_rng {m : Int} {xs : List Int} {e : Int} (h : ∀ x ∈ xs, 0 ≤ x ∧ x ≤ 255) : ∀ x ∈ mO m xs e, 0 ≤ x ∧ x ≤ 255 := by
  intro x hx
  unfold mO at hx
  split at hx
  · simp at hx
  · split at hx
    · simp at hx
    · split at hx
      · simp at hx
      · exact h x (List.mem_of_mem_take hx)

theorem mO_len {m : Nat} {xs : List Int} {e : Int} : (mO m xs e).length ≤ m := by
  unfold mO
  split
  · simp
  · split
    · simp
    · split
      · simp
      · simp; omega

theorem mul_step (y x : Int) (hy0 : 0 ≤ y) (hy1 : y < 72057594037927936) (hx0 : 0 ≤ x) (hx1 : x ≤ 255) : IntKind.u64.wrap (IntKind.u64.wrap (256 * y) + IntKind.u64.wrap x) = 256 * y + x := by
  rw [IntKind.wrap_u64, IntKind.wrap_u64, IntKind.wrap_u64, Int.emod_eq_of_lt (show 0 ≤ 256 * y by omega) (by omega), Int.emod_eq_of_lt (show 0 ≤ x by omega) (by omega), Int.emod_eq_of_lt (by omega) (by omega)]

set_option maxHeartbeats 1000000 in
theorem rnum_all (wd : Nat) (hwd : wd ≤ 8) (q : Nat) (bo : Option Addr) (N bc : Nat) (ys : List Int) (k : Nat) (e : Int) (w : World) (h : RR w q bo N bc ys k e) :
    Calls Tryd.prog 52 #[.pointer (some ⟨q, 0, none⟩), .int .i64 wd] w fun x w' => x = .returned (.int .u64 (beval (mO wd (ys.drop k) e))) ∧ (∃ k', RR w' q bo N bc ys k' (mE wd (ys.drop k) e) ∧ ys.drop k' = mL wd (ys.drop k) e) ∧ Only q w w' := by
  have hraw := rraw_all wd q bo N bc ys k e w h
  have hrg : ∀ x ∈ mO wd (ys.drop k) e, 0 ≤ x ∧ x ≤ 255 := mO_rng (fun x hx => h.sh.rng x (List.mem_of_mem_drop hx))
  have hlen : (mO wd (ys.drop k) e).length ≤ 8 := Nat.le_trans mO_len hwd
  generalize mO wd (ys.drop k) e = out at *
  clear h
  go_enter Tryd.func52, Tryd.ntmps52
  go_wp2_with (go_at_call 53; go_must (refine hraw.mono ?_; rintro x w1 ⟨v1, rfl, hown, hrr, ho⟩; obtain ⟨ao, c, rfl, hs, hcap, hmax, hbare, hblk⟩ := own_shape hown hrg))
  have HR : Hid ((∃ k', RR w1 q bo N bc ys k' (mE wd (ys.drop k) e) ∧ ys.drop k' = mL wd (ys.drop k) e) ∧ Only q w w1) := ⟨hrr, ho⟩
  clear hraw hrr ho hown
  have HL : Hid (out.length = out.length) := rfl
  generalize hol : out.length = L at *
  have HO : Hid (out.length = L) := hol
  clear hol
  go_loop [6, 7] (fun v i => ∃ (j : Nat) (y : Int), j ≤ L ∧ i = .int .i64 j ∧ v = .int .u64 y ∧ Hid (y = beval (out.take j))) (fun _ i => L - (intOf i).toNat)
  case atStart => exact ⟨0, 0, by omega, rfl, rfl, rfl⟩
  case round =>
    obtain ⟨j, y, hj, rfl, rfl, HY⟩ := hrel
    by_cases hlt : j < L
    · obtain ⟨ad, had⟩ : ∃ ad, ao = some ad := by
        cases ao with
        | none => have := hs.bare rfl; omega
        | some ad => exact ⟨ad, rfl⟩
      subst had
      have hcx : w1.cell? (ad.add j) = some (.int .u8 (out.getD j 0)) := hs.cell ad rfl j hlt
      obtain ⟨x, HX⟩ : ∃ x, Hid (x = out.getD j 0) := ⟨out.getD j 0, (rfl : _ = _)⟩
      rw [← HX.out] at hcx
      have hxl := HO.out
      have hx : 0 ≤ x ∧ x ≤ 255 := by
        have e : out.getD j 0 = out[j]'(by omega) := by simp [List.getD, List.getElem?_eq_getElem (show j < out.length by omega)]
        rw [HX.out, e]
        exact hrg _ (List.getElem_mem _)
      have hy : 0 ≤ y ∧ y < 72057594037927936 := by
        have h1 := beval_bd (out.take j) (fun z hz => hrg z (List.mem_of_mem_take hz))
        have h2 := pow256_le j 7 (by omega)
        have h3 : (out.take j).length = j := by simp; omega
        rw [h3, ← HY.out] at h1
        omega
      have HS : Hid (256 * y + x = beval (out.take (j + 1))) := by
        show _ = _
        rw [List.take_succ_eq_append_getElem (by omega), beval_snoc, HY.out, HX.out]
        simp [List.getD, List.getElem?_eq_getElem (show j < out.length by omega)]
      have HM : Hid (IntKind.u64.wrap (IntKind.u64.wrap (256 * y) + IntKind.u64.wrap x) = 256 * y + x) := mul_step y x hy.1 hy.2 hx.1 hx.2
      clear hxl
      go_wp2
      go_round
      case rel => exact ⟨j + 1, _, by omega, by go_num, rfl, HS.out⟩
      case measure => simp [intOf]; omega
    · have hjk : j = L := by omega
      subst hjk
      go_wp2
      go_ret
      refine ⟨?_, HR.out.1, HR.out.2⟩
      have e := HY.out
      have := HO.out
      rw [List.take_of_length_le (by omega)] at e
      rw [← e]
      rfl

set_option maxHeartbeats 400000 in
theorem rtext_err (q : Nat) (bo : Option Addr) (N bc : Nat) (ys : List Int) (k : Nat) (e : Int) (w : World) (h : RR w q bo N bc ys k e) (he : (e != 0) = true) :
    Calls Tryd.prog 54 #[.pointer (some ⟨q, 0, none⟩)] w fun x w' => x = .returned (.string (strOfNums [])) ∧ w = w' := by
  go_enter Tryd.func54, Tryd.ntmps54
  go_wp2_with (go_at_call 63; refine (rfits_err q bo N bc ys k e 2 w h he).mono ?_; rintro x w1 ⟨rfl, rfl⟩)
  go_ret
  exact ⟨rfl, rfl⟩

set_option maxHeartbeats 400000 in
theorem rtext_short (q : Nat) (bo : Option Addr) (N bc : Nat) (ys : List Int) (k : Nat) (w : World) (h : RR w q bo N bc ys k 0) (hm : (N : Int) - k < 2) :
    Calls Tryd.prog 54 #[.pointer (some ⟨q, 0, none⟩)] w fun x w' => x = .returned (.string (strOfNums [])) ∧ RR w' q bo N bc ys k 10 ∧ Only q w w' := by
  go_enter Tryd.func54, Tryd.ntmps54
  go_wp2_with (go_at_call 63; refine (rfits_short q bo N bc ys k 2 w h hm).mono ?_; rintro x w1 ⟨rfl, h1, ho⟩)
  go_ret
  exact ⟨rfl, h1, ho⟩

theorem wrap_small (x : Int) (h0 : 0 ≤ x) (h1 : x ≤ 140737488355328) : IntKind.i64.wrap x = x := by
  rw [IntKind.wrap_i64]; omega

set_option maxRecDepth 100000 in
theorem slice2_run (w : World) (ao : Option Addr) (m c : Nat) :
    (Instr.slice 22 (.slice ao (2 + m) c) (some (.int .i64 2)) none none).run Tryd.prog w = .ok (.slice (fromAt ao c 2) m (c - 2)) w := by
  have hz : (sizeOf (Tryd.prog.elem 22)).run Tryd.prog w = .ok 1 w := by kernel_rfl
  rw [run_slice_l w 22 ao (2 + m) c (by kernel_rfl) .i64 2 (by omega) (by omega), hz]
  have e1 : (2 : Int).toNat = 2 := rfl
  simp only [Result.andThen, sliced, e1, Nat.mul_one, fromAt]
  congr 2
  omega

theorem beval_two (a b : Int) : beval [a, b] = 256 * a + b := by simp [beval]

set_option maxHeartbeats 1000000 in
set_option maxRecDepth 100000 in
theorem rtext_long (q : Nat) (bo : Option Addr) (N bc : Nat) (ys : List Int) (k m : Nat) (w : World) (h : RR w q bo N bc ys k 0) (h2 : k + 2 ≤ N) (hm : beval ((ys.drop k).take 2) = m) :
    Calls Tryd.prog 54 #[.pointer (some ⟨q, 0, none⟩)] w fun x w' => (N < k + 2 + m ∧ x = .returned (.string (strOfNums [])) ∧ RR w' q bo N bc ys k 10 ∧ Only q w w') ∨ (k + 2 + m ≤ N ∧ x = .returned (.string (strOfNums (((ys.drop k).drop 2).take m))) ∧ RR w' q bo N bc ys (k + (2 + m)) 0 ∧ Only q w w') := by
  have hl := h.sh.len
  have hcap := h.cap
  have hlim := h.lim
  obtain ⟨ad, had⟩ : ∃ ad, bo = some ad := by
    cases bo with
    | none => have := h.sh.bare rfl; omega
    | some ad => exact ⟨ad, rfl⟩
  subst had
  have hx0 : ∃ x, ys[k]? = some x ∧ 0 ≤ x ∧ x ≤ 255 := ⟨ys[k]'(by omega), List.getElem?_eq_getElem (by omega), h.sh.rng _ (List.getElem_mem _)⟩
  have hx1 : ∃ x, ys[k + 1]? = some x ∧ 0 ≤ x ∧ x ≤ 255 := ⟨ys[k + 1]'(by omega), List.getElem?_eq_getElem (by omega), h.sh.rng _ (List.getElem_mem _)⟩
  obtain ⟨x0, ex0, hx00, hx01⟩ := hx0
  obtain ⟨x1, ex1, hx10, hx11⟩ := hx1
  have HM : Hid (256 * x0 + x1 = (m : Int)) := by
    show _ = _
    have e : (ys.drop k).take 2 = [x0, x1] := by
      have a0 : k < ys.length := by omega
      have a1 : k + 1 < ys.length := by omega
      rw [List.drop_eq_getElem_cons a0, List.drop_eq_getElem_cons a1]
      rw [List.getElem?_eq_getElem a0] at ex0
      rw [List.getElem?_eq_getElem a1] at ex1
      cases ex0; cases ex1
      rfl
    rw [e, beval_two] at hm
    exact hm
  have hc0 : ∀ w1, RR w1 q (some ad) N bc ys k 0 → w1.cell? (ad.add k) = some (.int .u8 x0) := fun w1 h1 => by
    rw [h1.sh.cell ad rfl k (by omega)]; simp [List.getD, ex0]
  have hc1 : ∀ w1, RR w1 q (some ad) N bc ys k 0 → w1.cell? ⟨ad.block, ad.off + (k + 1), none⟩ = some (.int .u8 x1) := fun w1 h1 => by
    have := h1.sh.cell ad rfl (k + 1) (by omega)
    unfold Addr.add at this
    rw [if_neg (by omega)] at this
    rw [this]; simp [List.getD, ex1]
  have hk1 : (k : Int) < N := by omega
  have hk2 : (k : Int) + 1 < N := by omega
  have hm1 : (m : Int) ≤ 65535 := by have := HM.out; omega
  have hw1 := wrap_small ((k : Int) + 1) (by omega) (by omega)
  have hw0 : (0 : Int) ≤ (k : Int) + 1 := by omega
  have htn : ((k : Int) + 1).toNat = k + 1 := by omega
  clear hm ex0 ex1 hl
  have hv0 := wrap_small x0 (by omega) (by omega)
  have hv1 := wrap_small x1 (by omega) (by omega)
  have hv2 := wrap_small (256 * x0) (by omega) (by omega)
  have hv3 : IntKind.i64.wrap (256 * x0 + x1) = (m : Int) := (wrap_small (256 * x0 + x1) (by omega) (by omega)).trans HM.out
  have e2 : ((2 + m : Nat) : Int) = 2 + (m : Int) := by omega
  have hraw : ∀ w2, RR w2 q (some ad) N bc ys k 0 → k + 2 + m ≤ N → Calls Tryd.prog 53 #[.pointer (some ⟨q, 0, none⟩), .int .i64 (2 + (m : Int))] w2 fun x w' => ∃ v, x = .returned v ∧ w'.ownsRow w2.heap.size 5 1 v (2 + m) (u8s ((ys.drop k).take (2 + m))) ∧ RR w' q (some ad) N bc ys (k + (2 + m)) 0 ∧ Only q w2 w' := by
    intro w2 h2 hN
    have := rraw_ok q (some ad) N bc ys k (2 + m) w2 h2 (by omega)
    rw [e2] at this
    exact this
  clear e2
  by_cases hN : k + 2 + m ≤ N
  · have hN2 : 2 + (m : Int) ≤ (N : Int) - k := by omega
    go_enter Tryd.func54, Tryd.ntmps54
    go_wp2_with (go_at_call 63; go_must (refine (rfits_ok q (some ad) N bc ys k 2 w h (by omega)).mono ?_; rintro x w1 ⟨rfl, h1, ho1⟩; have d0 := h1.c0; have d1 := h1.c1; have d2 := hc0 w1 h1; have d3 := hc1 w1 h1))
    go_region_held3 (fun w' => w'.cell? ⟨q, 0, none⟩ = some (.slice (some ad) N bc) ∧ w'.cell? ⟨q, 1, none⟩ = some (.int .i64 k) ∧ w'.cell? (ad.add k) = some (.int .u8 x0) ∧ w'.cell? ⟨ad.block, ad.off + (k + 1), none⟩ = some (.int .u8 x1)) (go_keep) (fail)
    have h1d : RR w1.drew q (some ad) N bc ys k 0 := h1.later (Below.refl _ w1).drew
    have ho1d : Only q w w1.drew := ho1.trans (Only.of_below (Below.refl _ w1).drew)
    go_wp2_with (first
      | (go_at_call 63; go_must (refine (rfits_ok q (some ad) N bc ys k (2 + (m : Int)) _ h1d hN2).mono ?_; rintro x w2 ⟨rfl, h2, ho2⟩))
      | (go_at_call 53; go_must (refine (hraw w2 h2 hN).mono ?_; rintro x w3 ⟨v3, rfl, hown3, h3, ho3⟩; obtain ⟨ao3, c3, hv3s, hs3, hcap3, hmax3, hbare3, hblk3⟩ := own_shape hown3 (fun x hx => h.sh.rng x (List.mem_of_mem_drop (List.mem_of_mem_take hx))); subst hv3s; have ksl := slice2_run w3 ao3 m c3; have kst := run_string_of (fromAt ao3 c3 2) m (c3 - 2) _ w3 (show Shows w3 (fromAt ao3 c3 2) m (((ys.drop k).take (2 + m)).drop 2) from (by have hdd := hs3.drop (c := c3) (show 2 ≤ 2 + m by omega) hcap3; rw [show 2 + m - 2 = m by omega] at hdd; exact hdd)))))
    go_ret
    refine Or.inr ⟨hN, ?_, h3, (ho1d.trans ho2).trans ho3⟩
    rw [List.drop_take, show 2 + m - 2 = m by omega]
    rfl
  · have hN2 : (N : Int) - k < 2 + (m : Int) := by omega
    go_enter Tryd.func54, Tryd.ntmps54
    go_wp2_with (go_at_call 63; go_must (refine (rfits_ok q (some ad) N bc ys k 2 w h (by omega)).mono ?_; rintro x w1 ⟨rfl, h1, ho1⟩; have d0 := h1.c0; have d1 := h1.c1; have d2 := hc0 w1 h1; have d3 := hc1 w1 h1))
    go_region_held3 (fun w' => w'.cell? ⟨q, 0, none⟩ = some (.slice (some ad) N bc) ∧ w'.cell? ⟨q, 1, none⟩ = some (.int .i64 k) ∧ w'.cell? (ad.add k) = some (.int .u8 x0) ∧ w'.cell? ⟨ad.block, ad.off + (k + 1), none⟩ = some (.int .u8 x1)) (go_keep) (fail)
    have h1d : RR w1.drew q (some ad) N bc ys k 0 := h1.later (Below.refl _ w1).drew
    have ho1d : Only q w w1.drew := ho1.trans (Only.of_below (Below.refl _ w1).drew)
    go_wp2_with (go_at_call 63; go_must (refine (rfits_short q (some ad) N bc ys k (2 + (m : Int)) _ h1d hN2).mono ?_; rintro x w2 ⟨rfl, h2, ho2⟩))
    go_ret
    exact Or.inl ⟨by omega, rfl, h2, ho1d.trans ho2⟩

theorem rtext_all (q : Nat) (bo : Option Addr) (N bc : Nat) (ys : List Int) (k : Nat) (e : Int) (w : World) (h : RR w q bo N bc ys k e) :
    Calls Tryd.prog 54 #[.pointer (some ⟨q, 0, none⟩)] w fun x w' => x = .returned (.string (strOfNums (tO (ys.drop k) e))) ∧ (∃ k', RR w' q bo N bc ys k' (tE (ys.drop k) e) ∧ ys.drop k' = tL (ys.drop k) e) ∧ Only q w w' := by
  have hl := h.sh.len
  have hk := h.plc
  have hdl : (ys.drop k).length = N - k := by simp; omega
  by_cases he : e = 0
  · subst he
    by_cases h2 : k + 2 ≤ N
    · have hb := beval_bd ((ys.drop k).take 2) (fun x hx => h.sh.rng x (List.mem_of_mem_drop (List.mem_of_mem_take hx)))
      have hm : beval ((ys.drop k).take 2) = (tM (ys.drop k) : Nat) := by unfold tM; omega
      refine (rtext_long q bo N bc ys k (tM (ys.drop k)) w h h2 hm).mono ?_
      rintro x w' (⟨hN, rfl, h1, ho⟩ | ⟨hN, rfl, h1, ho⟩)
      · have e1 : tO (ys.drop k) 0 = [] := by unfold tO; rw [if_neg (by simp), if_neg (by omega), if_pos (by omega)]
        have e2 : tL (ys.drop k) 0 = ys.drop k := by unfold tL; rw [if_neg (by simp), if_neg (by omega), if_pos (by omega)]
        have e3 : tE (ys.drop k) 0 = 10 := by unfold tE; rw [if_neg (by simp), if_neg (by omega), if_pos (by omega)]
        rw [e1, e2, e3]
        exact ⟨rfl, ⟨k, h1, rfl⟩, ho⟩
      · have e1 : tO (ys.drop k) 0 = ((ys.drop k).drop 2).take (tM (ys.drop k)) := by unfold tO; rw [if_neg (by simp), if_neg (by omega), if_neg (by omega)]
        have e2 : tL (ys.drop k) 0 = ((ys.drop k).drop 2).drop (tM (ys.drop k)) := by unfold tL; rw [if_neg (by simp), if_neg (by omega), if_neg (by omega)]
        have e3 : tE (ys.drop k) 0 = 0 := by unfold tE; rw [if_neg (by simp), if_neg (by omega), if_neg (by omega)]
        rw [e1, e2, e3]
        exact ⟨rfl, ⟨_, h1, by rw [List.drop_drop, List.drop_drop]⟩, ho⟩
    · have e1 : tO (ys.drop k) 0 = [] := by unfold tO; rw [if_neg (by simp), if_pos (by omega)]
      have e2 : tL (ys.drop k) 0 = ys.drop k := by unfold tL; rw [if_neg (by simp), if_pos (by omega)]
      have e3 : tE (ys.drop k) 0 = 10 := by unfold tE; rw [if_neg (by simp), if_pos (by omega)]
      rw [e1, e2, e3]
      refine (rtext_short q bo N bc ys k w h (by omega)).mono ?_
      rintro x w' ⟨rfl, h1, ho⟩
      exact ⟨rfl, ⟨k, h1, rfl⟩, ho⟩
  · have e1 : tO (ys.drop k) e = [] := by unfold tO; rw [if_pos he]
    have e2 : tL (ys.drop k) e = ys.drop k := by unfold tL; rw [if_pos he]
    have e3 : tE (ys.drop k) e = e := by unfold tE; rw [if_pos he]
    rw [e1, e2, e3]
    refine (rtext_err q bo N bc ys k e w h (by simpa using he)).mono ?_
    rintro x w' ⟨rfl, rfl⟩
    exact ⟨rfl, ⟨k, h, rfl⟩, Only.refl q w⟩

end Go.Proofs.YtmnkbbfpdohpkaaDoor
