/- The pages that records in the log write, rising. -/
import Derived.Test.YtndfhmlcfaaaiaaGreatDoorSorts
import Derived.Sort.OwnSortedInts
import Derived.Lib.SlKeysI
namespace Go.Proofs.YtndfhmlcfaaaiaaGreatDoor
open Go.RowKit Go.Maps Go.Sort Go.Shelf Go.Proofs

theorem info3 : (Tryz.prog.info? 3).map (fun i => (i.zero, i.size, i.bytes)) = some (some (.int .i64 0), 1, 8) := by kernel_rfl
/-- Numbers as cells. -/
def nvs (l : List Nat) : List Value := l.map fun i : Nat => Value.int .i64 (i : Int)
theorem nvs_length (l : List Nat) : (nvs l).length = l.length := by simp [nvs]
theorem nvs_one (l : List Nat) : ∀ u ∈ nvs l, u.oneCell' = true := by
  intro u hu
  obtain ⟨x, _, rfl⟩ := List.mem_map.1 hu
  rfl
section
variable {w : World} {ops : Array Oper} {rest : List Oper} {o : Oper} {a : Act} {Q : Exit → Act → World → Prop}
theorem push_nat (hg : o.guard = none) (s x : Operand) (ho : o.op = .call { callee := .builtin .append, args := #[s, x], argTypes := #[29, 29] }) (base : Nat) (v : Value) (n : Nat) (P : List Nat) (hv : a.eval s = v) (hown : w.ownsRow base 3 1 v n (nvs P))
    (g : Nat) (p : Nat) (hx : a.eval x = .slice (some ⟨g, 0, none⟩) 1 1) (hc : w.heap[g]? = some (.cells #[.int .i64 (p : Int)] 3 (0, 0))) (hbig : n ≤ 17592186044000) (hbase : base ≤ w.heap.size)
    (h : ∀ v' w', w'.ownsRow base 3 1 v' (n + 1) (nvs (P ++ [p])) → w.grownBy w' v.ownBlock → wpList Tryz.prog ops Q rest (a.put o.dst v') w') : wpList Tryz.prog ops Q (o :: rest) a w := by
  obtain ⟨i0, hi, hz0, hz1, hz2⟩ := info_parts info3
  refine wpList_append_own w hg s x 29 ho base 3 i0 (.int .i64 0) 1 8 Tryz.underlying29 hi hz0 hz1 hz2 rfl (by decide) v n (nvs P) hv hown ⟨g, 0, none⟩ 1 1 [.int .i64 (p : Int)] hx rfl (World.news_of_block (cs := #[.int .i64 (p : Int)]) hc) (by simp [Value.oneCell']) (by unfold maxLen; omega) (by omega) hbase ?_
  intro v' w' h1 h2 _
  refine h v' w' ?_ h2
  unfold nvs at *
  rw [List.map_append]
  exact h1
end
theorem nvs_ints (l : List Nat) : nvs l = (l.map fun i : Nat => (i : Int)).map (Value.int .i64) := by simp [nvs]
/-- Numbers of the call's own, sorted. -/
theorem sort_own (w : World) (base : Nat) (v : Value) (P T : List Nat) (hown : w.ownsRow base 3 1 v P.length (nvs P)) (hb : base ≤ w.heap.size) (hP : P.length ≤ 100000) (hT : (P.map fun i : Nat => (i : Int)).mergeSort leI = T.map fun i : Nat => (i : Int)) (hl : T.length = P.length) :
    Calls Tryz.prog 86 #[v] w fun e w' => e = .returned (.tuple #[]) ∧ w'.ownsRow base 3 1 v P.length (nvs T) ∧ Below base w w' := by
  have hown2 := hown
  rcases hown.2 with ⟨rfl, h0⟩ | ⟨g, cp, cur, rfl, hg, hc, h1, h2, h3, h4⟩
  · have hP0 : P = [] := List.eq_nil_of_length_eq_zero h0
    have hT0 : T = [] := List.eq_nil_of_length_eq_zero (by rw [hl, h0])
    refine (AnyM.slices_Sort_int_none sortL none 0 w).mono fun e w' ⟨he, hw⟩ => ?_
    subst hw
    refine ⟨he, ?_, Below.refl _ _⟩
    rw [hT0]
    rw [hP0] at hown2
    rw [h0]
    exact hown2
  · have hlen : (P.map fun i : Nat => (i : Int)).length = P.length := by simp
    have hH : Holds (Value.int .i64) w g 0 (P.map fun i : Nat => (i : Int)).toArray := holds_of_blockI hc (by rw [hlen, ← nvs_ints, ← h4, Nat.mul_one])
    have h5 := AnyM.slices_Sort_int sortL g 0 cp (P.map fun i : Nat => (i : Int)) w hH (Array.getElem?_eq_some_iff.1 hc).1 (by rw [hlen]; omega)
    rw [hlen] at h5
    refine Calls.mono h5 fun e w' ⟨he, n, os, hw⟩ => ?_
    have hT2 : (P.map fun i : Nat => (i : Int)).mergeSort (fun x y => decide (x ≤ y)) = T.map fun i : Nat => (i : Int) := hT
    rw [hT2] at hw
    subst hw
    have h6 := ownsRow_sortedI (base := base) (g := g) (cap := cp) (n := n) (os := os) (ss := P.map fun i : Nat => (i : Int)) (ts := T.map fun i : Nat => (i : Int)) (by simp [hl]) hg hc (by rw [hlen]; exact h1) h2 h3
    rw [hlen, ← nvs_ints] at h6
    refine ⟨he, h6, ?_⟩
    exact (Below.refl base w).grown (grownBy_sortedI _) hb (fun k hk => by cases hk; exact hg)

theorem Below.low {n k : Nat} {w w' : World} (h : Below n w w') (hk : k ≤ n) : Below k w w' := ⟨h.os, h.tape, h.output, h.size, fun j hj => h.block j (by omega)⟩
theorem own_base {w : World} {base base' : Nat} {e : TypeId} {size : Nat} {v : Value} {k : Nat} {xs : List Value} (h : w.ownsRow base e size v k xs) (hb : base' ≤ base) : w.ownsRow base' e size v k xs := by
  refine ⟨h.1, ?_⟩
  rcases h.2 with h0 | ⟨g, cap, cur, hv, hg, rest⟩
  · exact Or.inl h0
  · exact Or.inr ⟨g, cap, cur, hv, Nat.le_trans hb hg, rest⟩
/-- The pages below H that W has, rising. -/
def chg (H : Nat) (W : Nat → Option Pg) : List Nat := (List.range H).filter fun p => (W p).isSome
theorem chg_mem (H : Nat) (W : Nat → Option Pg) (p : Nat) : p ∈ chg H W ↔ p < H ∧ (W p).isSome = true := by simp [chg]
theorem chg_len (H : Nat) (W : Nat → Option Pg) : (chg H W).length ≤ H := Nat.le_trans (List.length_filter_le _ _) (by simp)
theorem chg_nodup (H : Nat) (W : Nat → Option Pg) : (chg H W).Nodup := List.Pairwise.filter _ List.nodup_range
theorem chg_perm {H : Nat} {W : Nat → Option Pg} {P : List Nat} (hn : P.Nodup) (h : ∀ p, p ∈ P ↔ p < H ∧ (W p).isSome = true) : P.Perm (chg H W) :=
  (List.perm_ext_iff_of_nodup hn (chg_nodup H W)).2 fun p => by rw [h, chg_mem]
theorem nodup_len {P : List Nat} {H : Nat} (hn : P.Nodup) (h : ∀ p ∈ P, p < H) : P.length ≤ H := by
  have h1 : P.Perm ((List.range H).filter fun p => decide (p ∈ P)) := (List.perm_ext_iff_of_nodup hn (List.Pairwise.filter _ List.nodup_range)).2 fun p => by
    simp only [List.mem_filter, List.mem_range, decide_eq_true_eq]
    exact ⟨fun hp => ⟨h p hp, hp⟩, fun hp => hp.2⟩
  rw [h1.length_eq]
  exact Nat.le_trans (List.length_filter_le _ _) (by simp)
theorem chg_sorted (H : Nat) (W : Nat → Option Pg) : ((chg H W).map fun i : Nat => (i : Int)).mergeSort leI = (chg H W).map fun i : Nat => (i : Int) := by
  refine List.mergeSort_of_pairwise ?_
  refine List.Pairwise.map _ (R := fun a b : Nat => a < b) (fun a b h => by simp only [leI, decide_eq_true_eq]; omega) ?_
  exact List.Pairwise.filter _ List.pairwise_lt_range

set_option maxRecDepth 100000 in
set_option maxHeartbeats 4000000 in
theorem changed_any (w : World) (q r mm : Nat) (x : Lg) (h : LL w q r mm x) :
    Calls Tryz.prog 97 #[.pointer (some ⟨q, 0, none⟩)] w fun e w' => ∃ v, e = .returned v ∧ w'.ownsRow w.heap.size 3 1 v (chg x.H (ov x.ws)).length (nvs (chg x.H (ov x.ws))) ∧ Below w.heap.size w w' := by
  have c4 := h.c4
  have hlow := h.low
  have hH2 := h.H2
  obtain ⟨D, hD, hM⟩ := h.map
  obtain ⟨W, hW⟩ : ∃ W, W = ov x.ws := ⟨_, rfl⟩
  rw [← hW] at hM hlow ⊢
  obtain ⟨H, hHe⟩ : ∃ H, H = x.H := ⟨_, rfl⟩
  rw [← hHe] at hlow hH2 ⊢
  clear hW hHe
  have hml := h.mlt
  go_enter Tryz.func97, Tryz.ntmps97
  go_wp2_with (first
    | (at_range; refine wpList_range_own _ rfl _ 103 rfl 3 66 law3 Tryz.underlying103 _ mm _ _ rfl hD ?_; intro w0 hrg0 hg0 hs0))
  obtain ⟨IT, hIT⟩ : ∃ I, I = w.heap.size := ⟨_, rfl⟩
  have hITm : IT ≠ mm := by omega
  have hIT0 : IT < w0.heap.size := by omega
  have hB0 : Below IT w w0 := by rw [hIT]; exact ⟨hg0.os, hg0.tape, hg0.output, hg0.size, fun k hk => hg0.block k hk (by simp)⟩
  have hs0' : w0.heap.size = IT + 1 := by omega
  have hwI : w.heap.size = IT := hIT.symm
  rw [← hIT] at hrg0 ⊢
  have hone : IT + 1 ≤ w0.heap.size := by omega
  clear hs0 hIT
  (try go_frame)
  go_loopw [3] (fun v wr => ∃ (P : List Nat) (left : Lit → Bool) (cnt : Nat), wr.ranges Tryz.prog 3 pgR mm IT (tot x.ws) D left cnt ∧ wr.ownsRow (IT + 1) 3 1 v P.length (nvs P) ∧ P.Nodup ∧ (∀ p, p ∈ P ↔ (W p).isSome = true ∧ left (ky p) = false) ∧ Below IT w0 wr ∧ IT + 1 ≤ wr.heap.size) (fun _ wr => wr.rangeLeft mm IT)
  case atStart =>
    refine ⟨[], _, _, hrg0, World.ownsRow_nil _ _ _ _, List.nodup_nil, fun p => ?_, Below.refl _ _, hone⟩
    rw [hM.has, wq_ky]
    simp
    intro h1 h2
    rw [h2] at h1
    simp at h1
  case round =>
    obtain ⟨P, left, cnt, hrg, hrow, hnd, hmem, hb, hbz⟩ := hrel
    clear hrg0 hg0
    have hPlt : ∀ p ∈ P, p < H := fun p hp => by
      have := (hmem p).1 hp
      rcases Nat.lt_or_ge p H with h1 | h1
      · exact h1
      · rw [hlow p h1] at this; simp at this
    have hPl := nodup_len hnd hPlt
    go_wp2_with (at_next; refine next_pg rfl _ rfl mm IT _ D W left cnt hM hrg rfl ?_ ?_)
    · intro hl0
      have hperm := chg_perm (H := H) (W := W) hnd (fun p => by
        rw [hmem p, hl0 (ky p)]
        constructor
        · intro h1
          exact ⟨hPlt p ((hmem p).2 ⟨h1.1, hl0 _⟩), h1.1⟩
        · intro h1
          exact ⟨h1.2, rfl⟩)
      have hsrt : (P.map fun i : Nat => (i : Int)).mergeSort leI = (chg H W).map fun i : Nat => (i : Int) := by
        rw [mergeSort_of_perm_i (hperm.map _), chg_sorted]
      have hlen := hperm.length_eq
      have hso := sort_own wr (IT + 1) _ P (chg H W) hrow (by omega) (by omega) hsrt hlen.symm
      rw [hlen] at hso
      go_wp2_with (go_at_call 86; refine hso.mono ?_; rintro e w3 ⟨rfl, hT, hB3⟩)
      go_ret
      refine ⟨_, rfl, own_base hT (by omega), ?_⟩
      rw [hwI]
      exact hB0.trans (hb.trans (Below.low hB3 (by omega)))
    · intro i s w1 cnt1 hwi hlk hrg1 hlt hg1 hs1 hen
      have hrow1 : w1.ownsRow (IT + 1) 3 1 _ P.length (nvs P) := hrow.kept hg1 (by
        rcases hv : Value.ownBlock _ with _ | b
        · exact Or.inl rfl
        · refine Or.inr (fun e => ?_)
          have := (hrow.lt b hv).1
          cases e
          omega)
      have hb1 : Below IT w0 w1 := hb.grown hg1 (by omega) (fun k hk => by cases hk; exact Nat.le_refl _)
      have hs1' : w1.heap.size = wr.heap.size := hs1
      have hwt : (W i).isSome = true := by rw [hwi]; rfl
      have hiH : i < H := by
        rcases Nat.lt_or_ge i H with h1 | h1
        · exact h1
        · rw [hlow i h1] at hwi; cases hwi
      have hni : i ∉ P := fun hp => by have := (hmem i).1 hp; rw [hlk] at this; simp at this
      have hO2 := hrow1.alloc (.cells #[.int .i64 (i : Int)] 3)
      have hC2 : (w1.alloc (.cells #[.int .i64 (i : Int)] 3)).heap[w1.heap.size]? = some (.cells #[.int .i64 (i : Int)] 3 (0, 0)) := heap_alloc_new w1 _
      have hS2 : IT + 1 ≤ (w1.alloc (.cells #[.int .i64 (i : Int)] 3)).heap.size := by rw [World.size_alloc]; omega
      have hB2 : Below IT w0 (w1.alloc (.cells #[.int .i64 (i : Int)] 3)) := hb1.alloc (by omega) _
      obtain ⟨PN, hPN⟩ : ∃ PN, PN = P.length := ⟨_, rfl⟩
      have HPN : Hid (PN = P.length) := hPN
      rw [← hPN] at hO2 hPl
      have HS : Hid (w1.heap.size = wr.heap.size) := hs1'
      clear hPN hs1' hs1 hrow1 hrow
      go_wp2_with (at_builtin; refine push_nat rfl _ _ rfl (IT + 1) _ PN P rfl hO2 w1.heap.size i rfl hC2 (by omega) hS2 ?_; intro u3 w3 hO3 hg3)
      have hB3 := hB2.grown hg3 (by omega) (fun k hk => by have := (hO2.lt k hk).1; omega)
      have hne : ∀ k, k < IT + 1 → k < w1.heap.size → w3.heap[k]? = w1.heap[k]? := fun k hk hk2 => by
        rw [hg3.block k (by rw [World.size_alloc]; omega) (fun e => by have := (hO2.lt k e.symm).1; omega)]
        exact heap_alloc_old w1 _ hk2
      have hrg3 := ranges_pg hrg1 (hne mm (by omega) (by have := HS.out; omega)) (hne IT (by omega) (by have := HS.out; omega))
      go_roundw
      case rel =>
        refine ⟨P ++ [i], _, cnt1, hrg3, by rw [List.length_append, ← HPN.out]; exact hO3, ?_, fun p => ?_, hB3, Nat.le_trans hS2 hg3.size⟩
        · rw [List.nodup_append]
          exact ⟨hnd, by simp, fun a ha b hb2 => by simp at hb2; subst hb2; intro e; subst e; exact hni ha⟩
        · rw [List.mem_append, hmem p, same_ky, List.mem_singleton]
          by_cases hpi : p = i
          · subst hpi
            simp [hwt]
          · simp [hpi]
      case measure =>
        rw [hrg3.left_eq, hrg.left_eq]
        exact hlt
end Go.Proofs.YtndfhmlcfaaaiaaGreatDoor
