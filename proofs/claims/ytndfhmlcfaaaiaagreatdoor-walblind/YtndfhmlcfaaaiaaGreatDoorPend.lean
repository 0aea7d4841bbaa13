/- What is pending, told; how many writes and flushes there were. -/
import Derived.Test.YtndfhmlcfaaaiaaGreatDoorUni
import Derived.Test.YtndfhmlcfaaaiaaGreatDoorSorts
import Derived.Deep.QuietTactic
import Derived.Shelf.SlIterI.Nil
namespace Go.Proofs.YtndfhmlcfaaaiaaGreatDoor
open Go.RowKit Go.Maps Go.Sort Go.Shelf Go.Proofs

def keysL_ren : Go.Shelf.Ren := ⟨fun | 7 => 56 | 10 => 87 | n => n, fun | 23 => 96 | 26 => 3 | 3 => 26 | 28 => 115 | 0 => 0 | 27 => 114 | 33 => 90 | 4 => 4 | n => n, fun | n => n⟩
theorem keysL : Go.Proofs.SlLaysZI.n7 Tryz.prog keysL_ren :=
  { mixed := by kernel_rfl,
    f7 := ⟨Tryz.f56.name, by decide, Tryz.func56.trans (congrArg some (by kernel_rfl))⟩,
    f10 := ⟨Tryz.f87.name, by decide, Tryz.func87.trans (congrArg some (by kernel_rfl))⟩,
    t0 := Tryz.underlying0,
    a0 := Tryz.isAgg0,
    z0 := Tryz.sizeOf0,
    v0 := Tryz.zeroValue0,
    t4 := Tryz.underlying4,
    a4 := Tryz.isAgg4,
    z4 := Tryz.sizeOf4,
    v4 := Tryz.zeroValue4,
    t23 := Tryz.underlying96,
    a23 := Tryz.isAgg96,
    z23 := Tryz.sizeOf96,
    v23 := Tryz.zeroValue96,
    t26 := Tryz.underlying3,
    a26 := Tryz.isAgg3,
    z26 := Tryz.sizeOf3,
    v26 := Tryz.zeroValue3,
    t27 := Tryz.underlying114,
    a27 := Tryz.isAgg114,
    z27 := Tryz.sizeOf114,
    v27 := Tryz.zeroValue114,
    t28 := Tryz.underlying115,
    a28 := Tryz.isAgg115,
    z28 := Tryz.sizeOf115,
    v28 := Tryz.zeroValue115,
    t33 := Tryz.underlying90,
    a33 := Tryz.isAgg90,
    z33 := Tryz.sizeOf90,
    v33 := Tryz.zeroValue90 }
def sortedL_ren : Go.Shelf.Ren := ⟨fun | 6 => 55 | 8 => 85 | 9 => 86 | 11 => 112 | 13 => 114 | 12 => 113 | 23 => 129 | 24 => 130 | 14 => 120 | 15 => 121 | 16 => 122 | 17 => 123 | 18 => 124 | 19 => 125 | 20 => 126 | 21 => 127 | 22 => 128 | 25 => 133 | 26 => 134 | 27 => 135 | 28 => 136 | 29 => 137 | 30 => 138 | 31 => 139 | n => n, fun | 26 => 3 | 28 => 115 | 24 => 29 | 0 => 0 | 3 => 3 | 37 => 121 | 48 => 28 | 50 => 27 | 4 => 4 | 40 => 172 | 39 => 171 | 45 => 143 | 5 => 5 | 9 => 9 | 51 => 181 | 55 => 184 | 57 => 186 | 58 => 61 | 33 => 90 | n => n, fun | n => n⟩
theorem sortedL : Go.Proofs.SlLaysZI.n6 Tryz.prog sortedL_ren :=
  { mixed := by kernel_rfl,
    f6 := ⟨Tryz.f55.name, by decide, Tryz.func55.trans (congrArg some (by kernel_rfl))⟩,
    f8 := ⟨Tryz.f85.name, by decide, Tryz.func85.trans (congrArg some (by kernel_rfl))⟩,
    f11 := ⟨Tryz.f112.name, by decide, Tryz.func112.trans (congrArg some (by kernel_rfl))⟩,
    t0 := Tryz.underlying0,
    a0 := Tryz.isAgg0,
    z0 := Tryz.sizeOf0,
    v0 := Tryz.zeroValue0,
    t24 := Tryz.underlying29,
    a24 := Tryz.isAgg29,
    z24 := Tryz.sizeOf29,
    v24 := Tryz.zeroValue29,
    t26 := Tryz.underlying3,
    a26 := Tryz.isAgg3,
    z26 := Tryz.sizeOf3,
    v26 := Tryz.zeroValue3,
    t28 := Tryz.underlying115,
    a28 := Tryz.isAgg115,
    z28 := Tryz.sizeOf115,
    v28 := Tryz.zeroValue115,
    i26 := by kernel_rfl }
/-- The numbers of what is pending, rising. -/
def St.pend (d : St) : List Int := ((List.range d.n).filter fun i => (d.waits i).isSome).map fun i : Nat => (i : Int)
theorem mem_pend (d : St) (hlow : ∀ i, d.n ≤ i → d.waits i = none) (x : Int) : x ∈ d.pend ↔ (wl d.waits (.int .i64 x)).isSome = true := by
  unfold St.pend
  simp only [List.mem_map, List.mem_filter, List.mem_range]
  constructor
  · rintro ⟨i, ⟨hi, hw⟩, rfl⟩
    have : wl d.waits (.int .i64 (i : Int)) = d.waits i := wl_ky d.waits i
    rw [this]
    exact hw
  · intro h
    have h0 : 0 ≤ x := by
      rcases Int.lt_or_le x 0 with hn | hn
      · rw [wl_neg d.waits x hn] at h; cases h
      · exact hn
    obtain ⟨i, rfl⟩ := Int.eq_ofNat_of_zero_le h0
    have hw : wl d.waits (.int .i64 (i : Int)) = d.waits i := wl_ky d.waits i
    rw [hw] at h
    refine ⟨i, ⟨?_, h⟩, rfl⟩
    rcases Nat.lt_or_ge i d.n with h1 | h1
    · exact h1
    · rw [hlow i h1] at h; cases h
theorem pend_rising (d : St) : d.pend.Pairwise (fun a b => a < b) := by
  unfold St.pend
  refine List.Pairwise.map _ (R := fun a b : Nat => a < b) (fun a b h => by omega) ?_
  exact List.Pairwise.filter _ List.pairwise_lt_range
theorem pend_sorted (d : St) : d.pend.mergeSort leI = d.pend := by
  refine List.mergeSort_of_pairwise ((pend_rising d).imp (fun {a b} h => ?_))
  simp only [leI, decide_eq_true_eq]
  omega
theorem pend_perm (w : World) (m n : Nat) (D : DataW Sec) (d : St) (hD : w.ownsMap Tryz.prog 3 secR m n D) (hM : Mp D d.waits) (hlow : ∀ i, d.n ≤ i → d.waits i = none) : d.pend.Perm (intKeys D) := by
  have hhas := fun x => hM.has (.int .i64 x)
  obtain ⟨es, hE, hp, hk⟩ := hD.entries law3
  have hints : ∀ p ∈ es, ∃ x, p.1 = .int .i64 x := by
    obtain ⟨es0, clock, hb, F, hs, hD0⟩ := hD
    intro p hpm
    rw [hE] at hD0
    injection hD0 with hD0
    rw [hD0] at hpm
    have h1 := mem_sorted.1 hpm
    obtain ⟨v, hv⟩ := Maps.fit_keys F p h1
    obtain ⟨x, _, hx, _⟩ := Maps.keyOf_int_inv Tryz.underlying3 hv
    exact ⟨x, hx⟩
  rw [hE]
  refine perm_intKeys hp hints ?_ ?_
  · exact (pend_rising d).imp (fun {a b} h => by omega)
  · intro x
    rw [← hE, hhas x, mem_pend d hlow x]

theorem sortsL (k : Nat) : AnyZI.SortsIn Tryz.prog sortedL_ren Fence.wide k :=
  ⟨fun blk off cap ss W hH hblk hsz => callsIn_wide.2 (AnyM.slices_Sort_int sortL blk off cap ss W hH hblk hsz),
   fun p cap W => callsIn_wide.2 (AnyM.slices_Sort_int_none sortL p cap W)⟩

theorem pending_nil (w : World) : Calls Tryz.prog 21 #[.pointer none] w fun e w' => e = .returned (.slice none 0 0) ∧ w = w' := by
  go_enter Tryz.func21, Tryz.ntmps21
  go_wp2
  go_ret
  exact ⟨rfl, rfl⟩
set_option maxRecDepth 100000 in
set_option maxHeartbeats 2000000 in
theorem pending_any (w : World) (r f m cap : Nat) (d : St) (h : Lay w r f m cap d) (hw : d.writes ≤ 1000000000) :
    Calls Tryz.prog 21 #[.pointer (some ⟨r, 0, none⟩)] w fun e w' => ∃ v, e = .returned v ∧ w'.ownsRow w.heap.size 3 1 v d.pend.length (d.pend.map encZ) ∧ Below w.heap.size w w' := by
  have c1 := h.c1
  obtain ⟨D, hD, hM⟩ := h.map
  have hperm := pend_perm w m _ D d hD hM h.low
  have hsz := hD.size_le
  have hown := hD
  refine (callsIn_wide (n := 6)).1 ?_
  have hbl := hown.lt
  have hseq : SeqGives Fence.wide 2 Tryz.prog 87 #[.pointer (some ⟨w.heap.size, 0, none⟩)] encZ (fun ss => ss.Perm (intKeys D)) (Maps.size D) (w.alloc (.cells #[.map (some m)] 96)) :=
    AnyZI.keys_gives (ρ := keysL_ren) { keysL with } Fence.wide _ trivial rfl (by omega) w.heap.size m d.writes D _ (by simp) (by simp) (by
      obtain ⟨es, clock, hb, Ft, hs, hDD⟩ := hown
      exact ⟨es, clock, (Below.heap_alloc _ _ m hbl).trans hb, Ft, hs, hDD⟩)
  have cK : ∀ mb W, CallsIn Fence.wide 5 Tryz.prog 56 #[.map mb] W fun e w' => e = .returned (.func (.func 87) #[] #[.pointer (some ⟨W.heap.size, 0, none⟩)]) ∧ w' = W.alloc (.cells #[.map mb] 96) := fun mb W => AnyZI.keys_in keysL Fence.wide 5 trivial rfl mb W
  have cS := AnyZI.sorted_in sortedL Fence.wide 5 trivial trivial trivial trivial rfl (by omega) (sortsL _) (enters_of Tryz.func86 (by kernel_rfl) rfl) 87 #[.pointer (some ⟨w.heap.size, 0, none⟩)] trivial (enters_of Tryz.func87 (by kernel_rfl) rfl) _ _ (show Maps.size D ≤ maxLen by unfold maxLen; omega) (by omega) _ hseq
  change CallsIn _ _ Tryz.prog 55 _ _ _ at cS
  have hfK : Fence.wide.fn 56 := trivial
  have hfS : Fence.wide.fn 55 := trivial
  refine callsIn_of_wp Tryz.func21 rfl trivial ?_ rfl
  simp only [Tryz.ntmps21, List.size_toArray, List.length_cons, List.length_nil, Nat.reduceAdd, Nat.reduceSub, Array.replicate_succ, Array.replicate_zero, List.push_toArray, List.append_toArray, List.nil_append, List.cons_append]
  gi_wp2_with (first
    | (gi_at_call 56; refine (cK _ _).mono ?_; rintro e w' ⟨rfl, rfl⟩)
    | (gi_at_call 55; refine cS.mono ?_; rintro e w' ⟨v, ss, rfl, hS, hrow, hnil, hb⟩))
  go_ret
  have e1 : ss.mergeSort (fun x y => decide (x ≤ y)) = d.pend := by
    have := mergeSort_of_perm_i (hS.trans hperm.symm)
    rw [pend_sorted] at this
    exact this
  have e2 : ss.length = d.pend.length := (hS.trans hperm.symm).length_eq
  rw [e1, e2] at hrow
  exact ⟨v, rfl, ownsRow_base_a hrow (by simp), ((Below.refl _ w).alloc (Nat.le_refl _) _).trans (hb.mono (by simp))⟩
end Go.Proofs.YtndfhmlcfaaaiaaGreatDoor

