/- The key of a Mac in a block of its own, masked. -/
import Derived.Test.YtmnembhcfkcmnaaDoorEq25
import Derived.Deep.RegionHeld3
namespace Go.Proofs.YtmnembhcfkcmnaaDoor
open Go.RowKit

theorem Arr.shows {w : World} {g : Nat} {t : TypeId} {xs : List Int} {n : Nat} (h : Arr w g .u8 t xs) (hr : ∀ x ∈ xs, 0 ≤ x ∧ x ≤ 255) (hl : xs.length = n) : Shows w (some ⟨g, 0, none⟩) n xs := by
  refine ⟨hl, fun e => (by cases e), fun ad had j hj => ?_, hr⟩
  cases had
  rw [addz, Nat.zero_add, h.cell j (by omega)]

/-- Each byte of k with the mask m. -/
def xk (m : Int) (k : List Int) : List Int := k.map fun x => bits .xor .u8 x m
theorem xk_length (m : Int) (k : List Int) : (xk m k).length = k.length := by simp [xk]
theorem xor_rng (x m : Int) (h0 : 0 ≤ x) (h1 : x ≤ 255) (h2 : 0 ≤ m) (h3 : m ≤ 255) : 0 ≤ bits .xor .u8 x m ∧ bits .xor .u8 x m ≤ 255 := by
  rw [u8_xor x m h0 (by omega) h2 (by omega)]
  have := Nat.xor_lt_two_pow (show x.toNat < 2 ^ 8 by omega) (show m.toNat < 2 ^ 8 by omega)
  omega
theorem xk_rng (m : Int) (k : List Int) (hk : ∀ x ∈ k, 0 ≤ x ∧ x ≤ 255) (h2 : 0 ≤ m) (h3 : m ≤ 255) : ∀ x ∈ xk m k, 0 ≤ x ∧ x ≤ 255 := by
  intro x hx
  obtain ⟨y, hy, rfl⟩ := List.mem_map.1 hx
  exact xor_rng y m (hk y hy).1 (hk y hy).2 h2 h3
theorem xk_at (m : Int) (k : List Int) (i : Nat) (h : i < k.length) : (xk m k).getD i 0 = bits .xor .u8 (k.getD i 0) m := by
  simp [xk, List.getD, List.getElem?_eq_getElem h]

/-- The first j of L, and what k has behind them. -/
def over (L k : List Int) (j : Nat) : List Int := L.take j ++ k.drop j
theorem over_length (L k : List Int) (j : Nat) (h : L.length = k.length) (hj : j ≤ k.length) : (over L k j).length = k.length := by simp [over]; omega
theorem over_zero (L k : List Int) : over L k 0 = k := by simp [over]
theorem over_full (L k : List Int) (n : Nat) (h1 : L.length = n) (h2 : k.length = n) : over L k n = L := by
  unfold over
  rw [List.take_of_length_le (by omega), List.drop_of_length_le (by omega), List.append_nil]
theorem over_at (L k : List Int) (j : Nat) (h : L.length = k.length) (hj : j < k.length) : (over L k j).getD j 0 = k.getD j 0 := by
  unfold over
  simp only [List.getD]
  rw [List.getElem?_append_right (by simp; omega)]
  have : j - (L.take j).length = 0 := by simp; omega
  rw [this, List.getElem?_drop, Nat.add_zero]
theorem over_step (L k : List Int) (j : Nat) (h : L.length = k.length) (hj : j < k.length) : (over L k j).set j (L.getD j 0) = over L k (j + 1) := by
  unfold over
  rw [List.set_append_right _ _ (by simp; omega)]
  have : j - (L.take j).length = 0 := by simp; omega
  have e : L.take (j + 1) = L.take j ++ [L.getD j 0] := by
    rw [List.take_add_one, List.getElem?_eq_getElem (by omega)]
    simp [List.getD, List.getElem?_eq_getElem (show j < L.length by omega)]
  rw [this, List.drop_eq_getElem_cons hj, List.set_cons_zero, e]
  simp only [List.append_assoc, List.cons_append, List.nil_append]

set_option maxHeartbeats 1000000 in
set_option maxRecDepth 100000 in
theorem masked_walk (k L : List Int) (m : Int) (hk : k.length = 64) (hL : L.length = 64) (hat : ∀ i, i < 64 → L.getD i 0 = bits .xor .u8 (k.getD i 0) m) (w : World) :
    Calls Tryd.prog 25 #[.agg (nums .u8 k), .int .u8 m] w fun e w' => e = .returned (.slice (some ⟨w.heap.size, 0, none⟩) 64 64) ∧ Arr w' w.heap.size .u8 47 L ∧ Below w.heap.size w w' := by
  have hsl : ∀ W : World, _ := fun W => slice_all W w.heap.size 0
  go_enter Tryd.func25, Tryd.ntmps25
  go_wp2_with fail
  go_loopw [6] (fun i wr => ∃ j : Nat, j ≤ 64 ∧ i = .int .i64 (j : Int) ∧ Arr wr w.heap.size .u8 47 (over L k j) ∧ Below w.heap.size w wr) (fun i _ => 64 - (intOf i).toNat)
  case atStart => exact ⟨0, by omega, rfl, by rw [over_zero]; exact Arr.new w .u8 47 k, (Below.refl _ w).alloc (Nat.le_refl _) _⟩
  case round =>
    obtain ⟨j, hj, rfl, hA, hb⟩ := hrel
    by_cases hlt : j < 64
    · have hx := hat j hlt
      have c := hA.cell j (by rw [over_length _ _ _ (by omega) (by omega)]; omega)
      rw [over_at _ _ _ (by omega) (by omega)] at c
      have f := hA.fz j
      obtain ⟨x, ex⟩ : ∃ x, x = k.getD j 0 := ⟨_, rfl⟩
      rw [← ex] at c hx
      have HX : Hid (L.getD j 0 = bits .xor .u8 x m) := hx
      clear hx ex hat
      go_wp2
      rw [← HX.out]
      refine ⟨⟨j + 1, by omega, by go_num, ?_, hb.setCell (by simp) _⟩, by simp [intOf]; omega⟩
      have h3 := hA.set j (L.getD j 0)
      rw [over_step L k j (by omega) (by omega)] at h3
      exact h3
    · have hj64 : j = 64 := by omega
      subst hj64
      rw [over_full L k 64 hL hk] at hA
      clear hat
      go_wp2
      go_ret
      exact ⟨rfl, hA, hb⟩
theorem masked_any (k : List Int) (m : Int) (hk : k.length = 64) (w : World) :
    Calls Tryd.prog 25 #[.agg (nums .u8 k), .int .u8 m] w fun e w' => e = .returned (.slice (some ⟨w.heap.size, 0, none⟩) 64 64) ∧ Arr w' w.heap.size .u8 47 (xk m k) ∧ Below w.heap.size w w' :=
  masked_walk k (xk m k) m hk (by rw [xk_length]; exact hk) (fun i hi => xk_at m k i (by omega)) w

/-- Bytes copied into an array of the call's own. -/
theorem law_copy_on {w : World} {ops : Array Oper} {rest : List Oper} {o : Oper} {a : Act} {Q : Exit → Act → World → Prop} (hgd : o.guard = none) (d s : Operand)
    (ho : o.op = .call { callee := .builtin .copy, args := #[d, s], argTypes := #[22, 22] }) (g N : Nat) (hd : a.eval d = .slice (some ⟨g, 0, none⟩) N N)
    (ao : Option Addr) (n c : Nat) (xs cur : List Int) (t : TypeId) (hx : a.eval s = .slice ao n c) (hs : Shows w ao n xs) (hn : n ≤ N) (hcur : cur.length = N) (hA : Arr w g .u8 t cur)
    (h : ∀ w', On w w' g → Arr w' g .u8 t (xs ++ cur.drop n) → wpList Tryd.prog ops Q rest (a.put o.dst (goInt n)) w') : wpList Tryd.prog ops Q (o :: rest) a w := by
  have hl := hs.len
  cases ao with
  | none =>
    have hn0 := hs.bare rfl
    subst hn0
    have hx0 : xs = [] := List.eq_nil_of_length_eq_zero hl
    subst hx0
    exact wpList_copy_nothing hgd d s 22 22 ho 5 Tryd.underlying22 sz5 _ _ _ _ _ _ hd hx (by simp) (h w ⟨rfl, rfl, rfl, rfl, fun _ _ => rfl⟩ (by simpa using hA))
  | some ad =>
    have hu : (u8s xs).length = n := by rw [u8s_length]; exact hl
    refine wpList_copy_own hgd d s 22 22 ho 5 Tryd.underlying22 sz5 g 0 N N ad n c hd hx (nums .u8 cur) t hA (u8s xs) (by rw [hu]; exact (Nat.min_eq_left hn).symm) hs.cells (by rw [hu, nums_size]; omega) (u8s_one xs) ?_
    rw [hu]
    refine h _ (On.setRow w g _) ?_
    have e : ((nums .u8 cur).toList.take 0 ++ (u8s xs ++ (nums .u8 cur).toList.drop (0 + (u8s xs).length))).toArray = nums .u8 (xs ++ cur.drop n) := by
      rw [hu]; simp [nums, u8s]
    have := setRow_heap w g (nums .u8 cur) (((nums .u8 cur).toList.take 0 ++ (u8s xs ++ (nums .u8 cur).toList.drop (0 + (u8s xs).length))).toArray) t (0, 0) hA
    unfold Arr
    rw [← e]
    rw [hu] at this ⊢
    exact this
end Go.Proofs.YtmnembhcfkcmnaaDoor
