/- The coefficients that hide a byte: it, and its draws. -/
import Derived.Test.YtineieoghlbchaaDoorIns
import Derived.Test.YtineieoghlbchaaDoorEvalA
namespace Go.Proofs.YtineieoghlbchaaDoor
open Go.RowKit

/-- The coefficients of the byte number j: it, and the draws from the number (k - 1) j on. -/
def pol (S D : List B) (k j : Nat) : List B := S.getD j 0#8 :: (D.drop ((k - 1) * j)).take (k - 1)
theorem map_pol (S D : List B) (k j : Nat) : (pol S D k j).map v8 = v8 (S.getD j 0#8) :: ((D.map v8).drop ((k - 1) * j)).take (k - 1) := by
  unfold pol
  rw [List.map_cons, List.map_take, List.map_drop]

theorem mul_bound (k j m : Nat) (h : j < m) : (k - 1) * j + (k - 1) ≤ (k - 1) * m := by
  have : (k - 1) * j + (k - 1) = (k - 1) * (j + 1) := by rw [Nat.mul_add, Nat.mul_one]
  rw [this]
  exact Nat.mul_le_mul_left _ h

set_option maxRecDepth 100000 in
set_option maxHeartbeats 2000000 in
theorem poly_one (sd : Addr) (ro : Option Addr) (m sc dn rc j : Nat) (S : List B) (w : World) (hs : Shows w (some sd) m (S.map v8)) (hj : j < m) (hm : (m : Int) ≤ 1024) :
    Calls Tryd.prog 34 #[.slice (some sd) m sc, .slice ro dn rc, .int .i64 j, .int .i64 1] w fun e w' => ∃ v, e = .returned v ∧ Own5 w.heap.size w' v 1 [v8 (S.getD j 0#8)] ∧ Below w.heap.size w w' := by
  have hc := hs.elem j hj
  obtain ⟨y, HY⟩ : ∃ y, Hid (y = v8 (S.getD j 0#8)) := ⟨_, rfl⟩
  rw [← HY.out] at hc ⊢
  have hjm : (j : Int) < (m : Int) := by omega
  have hne := World.new_ne w (sd.add j) hc
  go_enter Tryd.func34, Tryd.ntmps34
  go_wp2_with fail
  go_region_held3 (fun w' => w'.cell? (sd.add j) = some (.int .u8 y)) (first | go_keep | exact cellAD (by assumption) _ | exact cell_later hb (by assumption)) ((go_at_call 50; refine (insert_none ro w.heap.size y _ ?_).mono ?_; (focus (first | with_reducible exact drew_at (new_at rfl) | with_reducible exact new_at rfl)); rintro e w1 ⟨v, rfl, hv, hb⟩))
  have hb' : Below w.heap.size w w1 := ((Below.refl _ w).alloc (Nat.le_refl _) (Obj.cells #[Value.int .u8 y] 5)).drew.trans (hb.mono (by simp))
  go_wp2
  go_ret
  refine ⟨v, rfl, ⟨own_base' hv.own (by simp)⟩, hb'⟩

set_option maxRecDepth 100000 in
set_option maxHeartbeats 2000000 in
theorem poly_many (sd rd : Addr) (m sc rc j k : Nat) (S D : List B) (w : World) (hs : Shows w (some sd) m (S.map v8)) (hd : Shows w (some rd) ((k - 1) * m) (D.map v8)) (hrc : (k - 1) * m ≤ rc) (hj : j < m) (hm : (m : Int) ≤ 1024) (hk : 1 < k) (hk2 : k ≤ 16) :
    Calls Tryd.prog 34 #[.slice (some sd) m sc, .slice (some rd) ((k - 1) * m) rc, .int .i64 j, .int .i64 k] w fun e w' => ∃ v, e = .returned v ∧ Own5 w.heap.size w' v k (v8 (S.getD j 0#8) :: ((D.map v8).drop ((k - 1) * j)).take (k - 1)) ∧ Below w.heap.size w w' := by
  have hc := hs.elem j hj
  obtain ⟨y, HY⟩ : ∃ y, Hid (y = v8 (S.getD j 0#8)) := ⟨_, rfl⟩
  rw [← HY.out] at hc ⊢
  have hjm : (j : Int) < (m : Int) := by omega
  have hne := World.new_ne w (sd.add j) hc
  obtain ⟨q, rfl⟩ : ∃ q, k = q + 1 := ⟨k - 1, by omega⟩
  have hq : 0 < q := by omega
  have hq2 : (q : Int) ≤ 15 := by omega
  rw [Nat.add_sub_cancel] at hd hrc ⊢
  have hmb : q * j + q ≤ q * m := by
    have := mul_bound (q + 1) j m hj
    rwa [Nat.add_sub_cancel] at this
  have hqm : q * m ≤ 15 * 1024 := Nat.mul_le_mul (by omega) (by omega)
  obtain ⟨f, hf⟩ : ∃ f, f = q * j := ⟨_, rfl⟩
  obtain ⟨N, hN⟩ : ∃ N, N = q * m := ⟨_, rfl⟩
  have ef : (q : Int) * (j : Int) = (f : Int) := by rw [hf, Int.natCast_mul]
  have et : (q : Int) * ((j : Int) + 1) = (f : Int) + (q : Int) := by rw [Int.mul_add, ef, Int.mul_one]
  rw [← hf, ← hN] at hmb
  rw [← hN] at hd hrc hqm ⊢
  rw [← hf]
  clear hf hN
  have ek : ((q + 1 : Nat) : Int) - 1 = (q : Int) := by omega
  have hys : ((D.map v8).drop f).take q = ((D.map v8).drop f).take q := rfl
  obtain ⟨ys, HYS⟩ : ∃ ys, Hid (ys = ((D.map v8).drop f).take q) := ⟨_, rfl⟩
  have hyl : ys.length = q := by
    rw [HYS.out, List.length_take, List.length_drop]
    have := hd.len
    omega
  have hcs : ∀ w', Below w.heap.size w w' → ∀ (i : Nat) v, (u8s ys)[i]? = some v → w'.cell? ((rd.add f).add i) = some v := fun w' hb i v hi => by
    have hsub := ((hd.later hb).cells (f + i) v ?_)
    · rw [add_add]; exact hsub
    · have hi2 : i < q := by
        have := (List.getElem?_eq_some_iff.1 hi).1
        rw [u8s_length] at this
        omega
      rw [← hi, HYS.out]
      unfold u8s
      rw [List.map_take, List.map_drop, List.getElem?_take, if_pos hi2, List.getElem?_drop]
  rw [← HYS.out]
  clear hys
  go_enter Tryd.func34, Tryd.ntmps34
  go_wp2_with fail
  have hfq1 : ((f : Int) + (q : Int)).toNat = f + q := by omega
  have hfq2 : f + q - f = q := by omega
  have hfq3 : (f : Int) + (q : Int) ≤ (rc : Int) := by omega
  have hfq4 : (f : Int) ≤ (f : Int) + (q : Int) := by omega
  have hq0 : ¬ q = 0 := by omega
  have hbA : Below w.heap.size w (w.alloc (Obj.cells #[Value.int .u8 y] 5)).drew := ((Below.refl _ w).alloc (Nat.le_refl _) (Obj.cells #[Value.int .u8 y] 5)).drew
  go_region_held3 (fun w' => w'.cell? (sd.add j) = some (.int .u8 y)) (first | go_keep | exact cellAD (by assumption) _ | exact cell_later hb (by assumption)) ((go_at_call 50; refine (insert_grow (rd.add f) q w.heap.size ys y _ hq (by omega) hyl ?_ ?_).mono ?_; (focus (exact hcs _ hbA)); (focus (first | with_reducible exact drew_at (new_at rfl) | with_reducible exact new_at rfl)); rintro e w1 ⟨v, rfl, hv, hb⟩))
  have hb' : Below w.heap.size w w1 := hbA.trans (hb.mono (by simp))
  go_wp2
  go_ret
  exact ⟨v, rfl, ⟨own_base' hv.own (by simp)⟩, hb'⟩

/-- The coefficients of a byte, whatever k. -/
theorem poly_any (sd : Addr) (ro : Option Addr) (m sc rc j k : Nat) (S D : List B) (w : World) (hs : Shows w (some sd) m (S.map v8)) (hd : Shows w ro ((k - 1) * m) (D.map v8)) (hrc : (k - 1) * m ≤ rc) (hj : j < m) (hm : (m : Int) ≤ 1024) (hk : 1 ≤ k) (hk2 : k ≤ 16) :
    Calls Tryd.prog 34 #[.slice (some sd) m sc, .slice ro ((k - 1) * m) rc, .int .i64 j, .int .i64 k] w fun e w' => ∃ v, e = .returned v ∧ Own5 w.heap.size w' v k ((pol S D k j).map v8) ∧ Below w.heap.size w w' := by
  rw [map_pol]
  by_cases h1 : k = 1
  · subst h1
    have := poly_one sd ro m sc ((1 - 1) * m) rc j S w hs hj hm
    simpa using this
  · have hpos : 0 < (k - 1) * m := Nat.mul_pos (by omega) (by omega)
    obtain ⟨rd, rfl⟩ := hd.some hpos
    exact poly_many sd rd m sc rc j k S D w hs hd hrc hj hm (by omega) hk2
end Go.Proofs.YtineieoghlbchaaDoor
