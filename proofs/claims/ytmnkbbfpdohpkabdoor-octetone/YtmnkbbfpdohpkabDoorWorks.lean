/- The anchor of all statements of this layer answers true. -/
import Derived.Test.YtmnkbbfpdohpkabDoorRead
import Derived.Test.YtmnkbbfpdohpkabDoorHex
import Derived.Outline
namespace Go.Proofs.YtmnkbbfpdohpkabDoor
open Go.RowKit

theorem shows_new (w : World) (xs : List Int) (hr : ∀ x ∈ xs, 0 ≤ x ∧ x ≤ 255) : Shows (w.alloc (.cells (u8s xs).toArray 5)) (some ⟨w.heap.size, 0, none⟩) xs.length xs := by
  refine ⟨rfl, fun h => (by cases h), fun ad had j hj => ?_, hr⟩
  cases had
  have hadd : (⟨w.heap.size, 0, none⟩ : Addr).add j = ⟨w.heap.size, j, none⟩ := by unfold Addr.add; split <;> simp_all
  rw [hadd, cell_of_row _ _ j _ 5 _ (heap_alloc_new w _)]
  simp [u8s, List.getD, List.getElem?_eq_getElem hj]

theorem Tab.later {w w' : World} (h : Tab w) (hb : Below w.heap.size w w') : Tab w' := fun i hi => cell_later hb (h i hi)

theorem Rd.later {w w' : World} {r : Nat} {ao : Option Addr} {n c : Nat} {xs : List Int} {e : Int} (h : Rd w r ao n c xs e) (hb : Below w.heap.size w w') : Rd w' r ao n c xs e :=
  ⟨(hb.block r (lt_of_block h.blk)).trans h.blk, h.sh.later hb, h.cap, h.big, h.bare, h.apart⟩

theorem u16_at (r : Nat) (ao : Option Addr) (n c : Nat) (xs : List Int) (w : World) (h : Rd w r ao n c xs 0) (hn : 2 ≤ n) :
    Calls Tryd.prog 12 #[.pointer (some ⟨r, 0, none⟩)] w fun x w' => x = .returned (.int .u16 (beval (xs.take 2))) ∧ w.setCell ⟨r, 0, none⟩ (.slice (fromAt ao c 2) (n - 2) (c - 2)) = w' := by
  have hb := beval_bd (xs.take 2) (fun x hx => h.sh.rng x (List.mem_of_mem_take hx))
  have hl : (xs.take 2).length = 2 := by have := h.sh.len; simp; omega
  rw [hl] at hb
  refine u16_of _ _ hb.1 (by omega) _ _ (number_of_some _ 2 (by omega) ao c (xs.take 2) _ _ ?_ (take_ok r ao n c xs 2 w h hn))
  exact (h.sh.take hn).beside (fun ad had => h.apart ad had) _

theorem be2_258 : [97] ++ be 2 258 = [97, 1, 2] := by decide
theorem beval_127 : beval ([1, 2, 7].take 2) = 258 := by decide
theorem hexl_works : strOfNums (hexl [97, 1, 2]) = { data := #[54, 49, 48, 49, 48, 50] } := by decide

theorem Rd.takes {w w' : World} {r : Nat} {ao : Option Addr} {n c : Nat} {xs : List Int} {e : Int} (h : Rd w r ao n c xs e) {k : Nat} (hk : k ≤ n) (hw : w.setCell ⟨r, 0, none⟩ (.slice (fromAt ao c k) (n - k) (c - k)) = w') :
    Rd w' r (fromAt ao c k) (n - k) (c - k) (xs.drop k) e := hw ▸ h.took hk

theorem below_set {B : Nat} {w0 w w' : World} {a : Addr} {u : Value} (h : Below B w0 w) (hB : B ≤ a.block) (hw : w.setCell a u = w') : Below B w0 w' := hw ▸ h.setCell hB u

set_option maxHeartbeats 1000000 in
theorem works_any (w : World) (ht : Tab w) (h0 : 0 < w.heap.size) :
    Calls Tryd.prog 4 #[] w fun e w' => e = .returned (.bool true) ∧ Below w.heap.size w w' := by
  have hs1 := shows_new w [1, 2, 7] (by decide)
  go_enter Tryd.func4, Tryd.ntmps4
  go_wp2_with (first
    | (go_at_call 11; refine (read_any _ _ _ _ _ hs1 (by decide)).mono ?_; rintro e w2 ⟨r, ao, c, rfl, hrd, hb2, hr1, hr2, hblk⟩; have hb2' : Below w.heap.size w w2 := ((Below.refl _ w).alloc (Nat.le_refl _) _).trans (hb2.mono (by simp)))
    | (go_at_call 12; go_must (refine (u16_at r ao 3 c [1, 2, 7] w2 hrd (by decide)).mono ?_; rintro e w3 ⟨he, hw3⟩; rw [beval_127] at he; subst he; have hrd3 := hrd.takes (by decide) hw3; have hb3 : Below w.heap.size w w3 := below_set hb2' (by have h := hr1; simp at h; show _ ≤ r; omega) hw3; clear hw3 hrd; have hs3 := shows_new w3 [97] (by decide))))
  go_wp2_with (first
    | (go_at_call 13; go_must (refine (Put16_any _ _ _ _ _ _ hs3 (by decide) (by decide) (by decide)).mono ?_; rintro e w4 ⟨u, rfl, hown, hb4⟩; rw [be2_258] at hown; obtain ⟨ao4, c4, rfl, hsh4, hcap4, hmax4, hbare4, hblk4⟩ := own_shape hown (by decide); have hb34 : Below w3.heap.size w3 w4 := ((Below.refl _ w3).alloc (Nat.le_refl _) _).trans (hb4.mono (by simp)); have hrd4 := hrd3.later hb34; have hs5 := shows_new w4 [97, 1, 2] (by decide); have hsh5 := hsh4.later ((Below.refl _ w4).alloc (Nat.le_refl _) (.cells (u8s [97, 1, 2]).toArray 5)); have hb4' : Below w.heap.size w (w4.alloc (.cells (u8s [97, 1, 2]).toArray 5)) := (hb3.trans (hb34.mono hb3.size)).alloc (Nat.le_trans hb3.size hb34.size) _))
    | (go_at_call 14; go_must (refine (left_ok r _ _ _ _ _ _ hrd4).mono ?_; rintro e w' ⟨rfl, rfl⟩))
    | (go_at_call 15; go_must (refine (err_ok r _ _ _ _ _ _ hrd4).mono ?_; rintro e w' ⟨rfl, rfl⟩))
    | (go_at_call 10; go_must (refine (eqBytes_any _ _ _ _ _ _ _ _ _ hsh5 hs5).mono ?_; rintro e w' ⟨rfl, rfl⟩))
    | (go_at_call 6; go_must (refine (hex_any _ _ _ _ _ hsh5 (by decide) (ht.later hb4') (by have := hb4'.size; omega)).mono ?_; rintro e w' ⟨he, hb6⟩; rw [hexl_works] at he; subst he)))
  go_ret
  refine ⟨by simp, ?_⟩
  exact hb4'.trans (hb6.mono hb4'.size)
end Go.Proofs.YtmnkbbfpdohpkabDoor
