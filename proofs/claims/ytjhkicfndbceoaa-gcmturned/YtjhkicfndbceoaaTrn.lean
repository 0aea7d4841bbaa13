/- The statement's own turning of bits, and its rest of a division. -/
import Derived.Test.YtjhkicfndbceoaaGTurn
import Derived.Test.YtjhkicfndbceoaaLaw
namespace Go.Proofs.Ytjhkicfndbceoaa
open Go.RowKit

theorem mod_any (x : Int) (n : Nat) (w : World) (hn : n ≤ 1000000) (N : Int) (hN : N = n) :
    Calls Try.prog 18 #[.int .i64 x, .int .i64 N] w fun e w' => ∃ r : Nat, e = .returned (.int .i64 (r : Int)) ∧ (n = 0 ∧ r = 0 ∨ r < n) ∧ w = w' := by
  subst hN
  by_cases hz : n = 0
  · subst hz
    go_enter Try.func18, Try.ntmps18
    go_wp2
    go_ret
    exact ⟨0, rfl, Or.inl ⟨trivial, rfl⟩, rfl⟩
  · have hzI : ¬ (n : Int) = 0 := by omega
    have hzb : ((n : Int) == 0) = false := by simp; omega
    have hm1 : x.tmod n < n := Int.tmod_lt_of_pos x (by omega)
    have hm2 : -(n : Int) < x.tmod n := by
      have := Int.tmod_lt_of_pos (-x) (by omega : (0 : Int) < n)
      rw [Int.neg_tmod] at this
      omega
    by_cases hneg : x.tmod n < 0
    · obtain ⟨r, er⟩ : ∃ r : Nat, x.tmod n + n = (r : Int) := ⟨(x.tmod n + n).toNat, by omega⟩
      have hr : r < n := by omega
      have HR : Hid (x.tmod n + n = (r : Int)) := er
      clear er
      go_enter Try.func18, Try.ntmps18
      go_wp2
      go_ret
      first | exact ⟨r, by rw [← HR.out]; rfl, Or.inr hr, rfl⟩ | exact ⟨r, by rw [← HR.out]; rfl, hr, rfl⟩
    · obtain ⟨r, er⟩ : ∃ r : Nat, x.tmod n = (r : Int) := ⟨(x.tmod n).toNat, by omega⟩
      have hr : r < n := by omega
      have HR : Hid (x.tmod n = (r : Int)) := er
      clear er
      go_enter Try.func18, Try.ntmps18
      go_wp2
      go_ret
      first | exact ⟨r, by rw [← HR.out]; rfl, Or.inr hr, rfl⟩ | exact ⟨r, by rw [← HR.out]; rfl, hr, rfl⟩

/-- How many bytes are turned. -/
def cutK (n f : Nat) : Nat := min 16 (n - f)

set_option maxHeartbeats 2000000 in
set_option maxRecDepth 100000 in
theorem lturned_any (bs mk : List B) (hmk : mk.length = 16) (ao : Option Addr) (n c f : Nat) (F : Int) (hF : F = f) (w : World) (hs : Shows w ao n (v8s bs)) (hc : ao = none → c = 0) (hn : n ≤ 1000000) (hf : f ≤ 1000000) :
    Calls Try.prog 19 #[.slice ao n c, .int .i64 F, .agg (bys mk).toArray] w fun e w' => ∃ v, e = .returned (.tuple #[v, .bool (othM mk (cutK n f))]) ∧ w'.ownsRow w.heap.size 5 1 v n (u8s (v8s (turnTo bs f mk (cutK n f)))) ∧ Below w.heap.size w w' := by
  subst hF
  have hl : bs.length = n := by have := hs.len; rw [v8s_length] at this; exact this
  have HL : Hid (bs.length = n) := hl
  have hb0 : Blk (w.alloc (.cells (bys mk).toArray 37)) w.heap.size 37 (bys mk) := Blk.new _ _ _
  have hbB : Below w.heap.size w (w.alloc (.cells (bys mk).toArray 37)) := (Below.refl _ w).alloc (Nat.le_refl _) _
  obtain ⟨T, eT⟩ : ∃ T : Nat → List B, T = turnTo bs f mk := ⟨_, rfl⟩
  obtain ⟨O, eO⟩ : ∃ O : Nat → Bool, O = othM mk := ⟨_, rfl⟩
  have HT0 : Hid (T 0 = bs) := by rw [eT]; exact turnTo_zero _ _ _
  have HTS : Hid (∀ k, f + k < n → (T k).set (f + k) (bs.getD (f + k) 0#8 ^^^ mk.getD k 0#8) = T (k + 1)) := by rw [eT]; intro k hk; exact turnTo_step _ _ _ _ (by omega)
  have HTN : Hid (∀ k, (T k).getD (f + k) 0#8 = bs.getD (f + k) 0#8) := by rw [eT]; exact turnTo_next bs f mk
  have hTL : ∀ k, (T k).length = n := by rw [eT]; intro k; rw [turnTo_length]; exact hl
  have HO0 : Hid (O 0 = false) := by rw [eO]; exact rfl
  have HOS : Hid (∀ k, O (k + 1) = (O k || (v8 (mk.getD k 0#8) != 0))) := by rw [eO]; exact fun k => rfl
  rw [← eT, ← eO]
  clear eT eO hl
  have HTL : Hid _ := hTL
  clear hTL
  go_enter Try.func19, Try.ntmps19
  go_wp2_with (go_at_call 17; refine (copyBytes_any ao n c (v8s bs) _ (hs.alloc _) hc (by omega)).mono ?_; rintro e w1 ⟨v, rfl, hown, k1⟩; obtain ⟨bo, c1, rfl, s1, hc1, hmx, -, -⟩ := own_shape hown (v8s_rng bs))
  have hb1 := hb0.next k1
  have hB1 : Below w.heap.size w w1 := hbB.trans (k1.mono hbB.size)
  have hown1 : w1.ownsRow (w.heap.size + 1) 5 1 (.slice bo n c1) n (u8s (v8s (T 0))) := by rw [HT0.out]; exact own_base' hown (by simp)
  clear hown hb0 hbB k1
  go_loopw [9, 10] (fun o i wr => ∃ (k : Nat), f + k ≤ max n f ∧ k ≤ 16 ∧ o = .bool (O k) ∧ i = .int .i64 (k : Int) ∧ wr.ownsRow (w.heap.size + 1) 5 1 (.slice bo n c1) n (u8s (v8s (T k))) ∧ Blk wr w.heap.size 37 (bys mk) ∧ Below w.heap.size w wr) (fun _ i _ => 16 - (intOf i).toNat)
  case atStart => exact ⟨0, by omega, by omega, by rw [HO0.out], rfl, hown1, hb1, hB1⟩
  case round =>
    obtain ⟨k, hfk, hk, rfl, rfl, hA, hM, hB⟩ := hrel
    clear hown1 hb1 hB1 s1
    by_cases hlt : k < 16 ∧ f + k < n
    · obtain ⟨hk1, hk2⟩ := hlt
      obtain ⟨g, c2, ev, _, _⟩ := hA.form (by omega)
      cases ev
      have hTk := HTL.out k
      have hcell := hA.cellAt (f + k) (by omega)
      rw [u8s_v8s, bys_get _ _ (by omega), HTN.out] at hcell
      have hmc := hM.byte k (by omega)
      have hkI : (k : Int) < 16 := by omega
      have hfI : (f : Int) + k < n := by omega
      have hfz := hA.frozenAt (f + k)
      have hxb : Hid (bits .xor .u8 (v8 (bs.getD (f + k) 0#8)) (v8 (mk.getD k 0#8)) = v8 (bs.getD (f + k) 0#8 ^^^ mk.getD k 0#8)) := v8_xor _ _
      have HS : Hid _ := HTS.out k hk2
      have HO : Hid _ := HOS.out k
      obtain ⟨x, ex⟩ : ∃ x, x = bs.getD (f + k) 0#8 := ⟨_, rfl⟩
      obtain ⟨y, ey⟩ : ∃ y, y = mk.getD k 0#8 := ⟨_, rfl⟩
      rw [← ex] at hcell hxb HS
      rw [← ey] at hmc hxb HS HO
      clear ex ey
      have x0 := v8_nn x
      have x1 := v8_le x
      have y0 := v8_nn y
      have y1 := v8_le y
      have q1 : IntKind.i64.wrap ((f : Int) + k) = ((f + k : Nat) : Int) := by rw [IntKind.wrap_i64]; omega
      have hgM : g ≠ w.heap.size := by have := (hA.lt g rfl).1; omega
      have hset := own_set hA (k := f + k) (v8 (x ^^^ y))
      have e1 : (v8s (T k)).set (f + k) (v8 (x ^^^ y)) = v8s (T (k + 1)) := by
        rw [← HS.out]
        simp [v8s, List.map_set]
      rw [e1] at hset
      have hmset := hM.beside (a := ⟨g, f + k, none⟩) (.int .u8 (v8 (x ^^^ y))) (fun h => hgM h.symm)
      have hbset := hB.setCell (p := ⟨g, f + k, none⟩) (by have := (hA.lt g rfl).1; simp; omega) (.int .u8 (v8 (x ^^^ y)))
      have hm2 := hmset.cell k (.int .u8 (v8 y)) (by have := hM.cell k _ (bys_get mk k (by omega)); rw [hmc] at this; rw [bys_get mk k (by omega)]; exact this.symm)
      cases hok : O k
      · rw [hok] at HO
        go_wp2_with fail
        go_region
        rw [hxb.out]
        go_wp2_with fail
        refine ⟨⟨k + 1, by omega, by omega, by rw [HO.out]; rfl, by go_num, own_heap hset rfl, hmset.drew, hbset.drew⟩, by simp [intOf]; omega⟩
      · rw [hok] at HO
        go_wp2_with fail
        go_region
        rw [hxb.out]
        go_wp2_with fail
        refine ⟨⟨k + 1, by omega, by omega, by rw [HO.out]; rfl, by go_num, own_heap hset rfl, hmset.drew, hbset.drew⟩, by simp [intOf]; omega⟩
    · have hkk : k = cutK n f := by unfold cutK; omega
      have HKK : Hid (k = cutK n f) := hkk
      clear hkk
      by_cases h16 : k < 16
      · have hkI : (k : Int) < 16 := by omega
        have hfI : ¬ (f : Int) + k < n := by omega
        go_wp2_with fail
        go_ret2
        rw [← HKK.out]
        exact ⟨_, rfl, own_base' hA (by omega), hB⟩
      · have hkI : ¬ (k : Int) < 16 := by omega
        go_wp2_with fail
        go_ret2
        rw [← HKK.out]
        exact ⟨_, rfl, own_base' hA (by omega), hB⟩
end Go.Proofs.Ytjhkicfndbceoaa
