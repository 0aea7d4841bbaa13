/- What is pending, told; how many writes and flushes there were. -/
import Derived.Test.YteimfnnkjhopdaaOn
import Derived.Deep.QuietTactic
import Derived.Shelf.SlIterI.Nil
import Derived.Shelf.SortM.Plain
import Derived.Shelf.SortM.SortNone
namespace Go.Proofs.Yteimfnnkjhopdaa
open Go.RowKit Go.Maps Go.Sort Go.Shelf Go.Proofs

def keysL_ren : Go.Shelf.Ren := ⟨fun | 7 => 46 | 10 => 51 | n => n, fun | 23 => 68 | 26 => 3 | 3 => 39 | 28 => 74 | 0 => 0 | 27 => 73 | 33 => 64 | 4 => 4 | n => n, fun | n => n⟩
theorem keysL : Go.Proofs.SlLaysZI.n7 Try.prog keysL_ren :=
  { mixed := by kernel_rfl,
    f7 := ⟨Try.f46.name, by decide, Try.func46.trans (congrArg some (by kernel_rfl))⟩,
    f10 := ⟨Try.f51.name, by decide, Try.func51.trans (congrArg some (by kernel_rfl))⟩,
    t0 := Try.underlying0,
    a0 := Try.isAgg0,
    z0 := Try.sizeOf0,
    v0 := Try.zeroValue0,
    t4 := Try.underlying4,
    a4 := Try.isAgg4,
    z4 := Try.sizeOf4,
    v4 := Try.zeroValue4,
    t23 := Try.underlying68,
    a23 := Try.isAgg68,
    z23 := Try.sizeOf68,
    v23 := Try.zeroValue68,
    t26 := Try.underlying3,
    a26 := Try.isAgg3,
    z26 := Try.sizeOf3,
    v26 := Try.zeroValue3,
    t27 := Try.underlying73,
    a27 := Try.isAgg73,
    z27 := Try.sizeOf73,
    v27 := Try.zeroValue73,
    t28 := Try.underlying74,
    a28 := Try.isAgg74,
    z28 := Try.sizeOf74,
    v28 := Try.zeroValue74,
    t33 := Try.underlying64,
    a33 := Try.isAgg64,
    z33 := Try.sizeOf64,
    v33 := Try.zeroValue64 }
def sortedL_ren : Go.Shelf.Ren := ⟨fun | 6 => 45 | 8 => 49 | 9 => 50 | 11 => 52 | 13 => 54 | 12 => 53 | 23 => 64 | 24 => 65 | 14 => 55 | 15 => 56 | 16 => 57 | 17 => 58 | 18 => 59 | 19 => 60 | 20 => 61 | 21 => 62 | 22 => 63 | 25 => 66 | 26 => 67 | 27 => 68 | 28 => 69 | 29 => 70 | 30 => 71 | 31 => 72 | n => n, fun | 26 => 3 | 28 => 74 | 24 => 32 | 0 => 0 | 3 => 3 | 37 => 80 | 48 => 91 | 50 => 93 | 4 => 4 | 40 => 83 | 39 => 82 | 45 => 88 | 5 => 5 | 9 => 9 | 51 => 94 | 55 => 98 | 57 => 100 | 58 => 58 | 33 => 64 | n => n, fun | n => n⟩
theorem sortedL : Go.Proofs.SlLaysZI.n6 Try.prog sortedL_ren :=
  { mixed := by kernel_rfl,
    f6 := ⟨Try.f45.name, by decide, Try.func45.trans (congrArg some (by kernel_rfl))⟩,
    f8 := ⟨Try.f49.name, by decide, Try.func49.trans (congrArg some (by kernel_rfl))⟩,
    f11 := ⟨Try.f52.name, by decide, Try.func52.trans (congrArg some (by kernel_rfl))⟩,
    t0 := Try.underlying0,
    a0 := Try.isAgg0,
    z0 := Try.sizeOf0,
    v0 := Try.zeroValue0,
    t24 := Try.underlying32,
    a24 := Try.isAgg32,
    z24 := Try.sizeOf32,
    v24 := Try.zeroValue32,
    t26 := Try.underlying3,
    a26 := Try.isAgg3,
    z26 := Try.sizeOf3,
    v26 := Try.zeroValue3,
    t28 := Try.underlying74,
    a28 := Try.isAgg74,
    z28 := Try.sizeOf74,
    v28 := Try.zeroValue74,
    i26 := by kernel_rfl }
def sortL_ren : Go.Shelf.Ren := ⟨fun | 5 => 50 | 8 => 54 | 7 => 53 | 19 => 64 | 20 => 65 | 10 => 55 | 11 => 56 | 12 => 57 | 13 => 58 | 14 => 59 | 15 => 60 | 16 => 61 | 17 => 62 | 18 => 63 | 30 => 66 | 31 => 67 | 32 => 68 | 33 => 69 | 34 => 70 | 35 => 71 | 40 => 72 | n => n, fun | 23 => 32 | 25 => 3 | 3 => 3 | 32 => 80 | 22 => 32 | 0 => 0 | 44 => 91 | 46 => 93 | 4 => 4 | 36 => 83 | 35 => 82 | 41 => 88 | 5 => 5 | 9 => 9 | 53 => 94 | 57 => 98 | 63 => 100 | 64 => 58 | n => n, fun | n => n⟩
theorem sortL : Go.Proofs.SlLaysM.n5 Try.prog sortL_ren :=
  { mixed := by kernel_rfl,
    f5 := ⟨Try.f50.name, by decide, Try.func50.trans (congrArg some (by kernel_rfl))⟩,
    f7 := ⟨Try.f53.name, by decide, Try.func53.trans (congrArg some (by kernel_rfl))⟩,
    f8 := Try.func54.trans (congrArg some (by kernel_rfl)),
    f10 := ⟨Try.f55.name, by decide, Try.func55.trans (congrArg some (by kernel_rfl))⟩,
    f11 := ⟨Try.f56.name, by decide, Try.func56.trans (congrArg some (by kernel_rfl))⟩,
    f12 := ⟨Try.f57.name, by decide, Try.func57.trans (congrArg some (by kernel_rfl))⟩,
    f13 := ⟨Try.f58.name, by decide, Try.func58.trans (congrArg some (by kernel_rfl))⟩,
    f14 := ⟨Try.f59.name, by decide, Try.func59.trans (congrArg some (by kernel_rfl))⟩,
    f15 := ⟨Try.f60.name, by decide, Try.func60.trans (congrArg some (by kernel_rfl))⟩,
    f16 := ⟨Try.f61.name, by decide, Try.func61.trans (congrArg some (by kernel_rfl))⟩,
    f17 := ⟨Try.f62.name, by decide, Try.func62.trans (congrArg some (by kernel_rfl))⟩,
    f18 := ⟨Try.f63.name, by decide, Try.func63.trans (congrArg some (by kernel_rfl))⟩,
    f19 := Try.func64.trans (congrArg some (by kernel_rfl)),
    f20 := Try.func65.trans (congrArg some (by kernel_rfl)),
    f30 := ⟨Try.f66.name, by decide, Try.func66.trans (congrArg some (by kernel_rfl))⟩,
    f31 := Try.func67.trans (congrArg some (by kernel_rfl)),
    f32 := Try.func68.trans (congrArg some (by kernel_rfl)),
    f33 := ⟨Try.f69.name, by decide, Try.func69.trans (congrArg some (by kernel_rfl))⟩,
    f34 := ⟨Try.f70.name, by decide, Try.func70.trans (congrArg some (by kernel_rfl))⟩,
    f35 := ⟨Try.f71.name, by decide, Try.func71.trans (congrArg some (by kernel_rfl))⟩,
    f40 := ⟨Try.f72.name, by decide, Try.func72.trans (congrArg some (by kernel_rfl))⟩,
    t0 := Try.underlying0,
    a0 := Try.isAgg0,
    z0 := Try.sizeOf0,
    v0 := Try.zeroValue0,
    t3 := Try.underlying3,
    a3 := Try.isAgg3,
    z3 := Try.sizeOf3,
    v3 := Try.zeroValue3,
    t4 := Try.underlying4,
    a4 := Try.isAgg4,
    z4 := Try.sizeOf4,
    v4 := Try.zeroValue4,
    t5 := Try.underlying5,
    a5 := Try.isAgg5,
    z5 := Try.sizeOf5,
    v5 := Try.zeroValue5,
    t9 := Try.underlying9,
    a9 := Try.isAgg9,
    z9 := Try.sizeOf9,
    v9 := Try.zeroValue9,
    t22 := Try.underlying32,
    a22 := Try.isAgg32,
    z22 := Try.sizeOf32,
    v22 := Try.zeroValue32,
    t23 := Try.underlying32,
    a23 := Try.isAgg32,
    z23 := Try.sizeOf32,
    v23 := Try.zeroValue32,
    t25 := Try.underlying3,
    a25 := Try.isAgg3,
    z25 := Try.sizeOf3,
    v25 := Try.zeroValue3,
    t32 := Try.underlying80,
    a32 := Try.isAgg80,
    z32 := Try.sizeOf80,
    v32 := Try.zeroValue80,
    t35 := Try.underlying82,
    a35 := Try.isAgg82,
    z35 := Try.sizeOf82,
    v35 := Try.zeroValue82,
    t36 := Try.underlying83,
    a36 := Try.isAgg83,
    z36 := Try.sizeOf83,
    v36 := Try.zeroValue83,
    t41 := Try.underlying88,
    a41 := Try.isAgg88,
    z41 := Try.sizeOf88,
    v41 := Try.zeroValue88,
    t44 := Try.underlying91,
    a44 := Try.isAgg91,
    z44 := Try.sizeOf91,
    v44 := Try.zeroValue91,
    t46 := Try.underlying93,
    a46 := Try.isAgg93,
    z46 := Try.sizeOf93,
    v46 := Try.zeroValue93,
    t53 := Try.underlying94,
    a53 := Try.isAgg94,
    z53 := Try.sizeOf94,
    v53 := Try.zeroValue94,
    t57 := Try.underlying98,
    a57 := Try.isAgg98,
    z57 := Try.sizeOf98,
    v57 := Try.zeroValue98,
    t63 := Try.underlying100,
    a63 := Try.isAgg100,
    z63 := Try.sizeOf100,
    v63 := Try.zeroValue100,
    t64 := Try.underlying58,
    a64 := Try.isAgg58,
    z64 := Try.sizeOf58,
    v64 := Try.zeroValue58 }

/-- The numbers of what is pending, rising. -/
def St.pend (d : St) : List Int := ((List.range d.n).filter fun i => (d.waits i).isSome).map fun i : Nat => (i : Int)
theorem mem_pend (d : St) (hlow : ∀ i, d.n ≤ i → d.waits i = none) (x : Int) : x ∈ d.pend ↔ (wl d.waits (.int .i64 x)).isSome = true := by
  unfold St.pend
  simp only [List.mem_map, List.mem_filter, List.mem_range]
  constructor
  · rintro ⟨i, ⟨hi, hw⟩, rfl⟩
    have : wl d.waits (.int .i64 (i : Int)) = d.waits i := wl_ky d.waits i
    rw [this]
    exact hw
  · intro h
    have h0 : 0 ≤ x := by
      rcases Int.lt_or_le x 0 with hn | hn
      · rw [wl_neg d.waits x hn] at h; cases h
      · exact hn
    obtain ⟨i, rfl⟩ := Int.eq_ofNat_of_zero_le h0
    have hw : wl d.waits (.int .i64 (i : Int)) = d.waits i := wl_ky d.waits i
    rw [hw] at h
    refine ⟨i, ⟨?_, h⟩, rfl⟩
    rcases Nat.lt_or_ge i d.n with h1 | h1
    · exact h1
    · rw [hlow i h1] at h; cases h
theorem pend_rising (d : St) : d.pend.Pairwise (fun a b => a < b) := by
  unfold St.pend
  refine List.Pairwise.map _ (R := fun a b : Nat => a < b) (fun a b h => by omega) ?_
  exact List.Pairwise.filter _ List.pairwise_lt_range
theorem pend_sorted (d : St) : d.pend.mergeSort leI = d.pend := by
  refine List.mergeSort_of_pairwise ((pend_rising d).imp (fun {a b} h => ?_))
  simp only [leI, decide_eq_true_eq]
  omega
theorem pend_perm (w : World) (m n : Nat) (D : DataW Sec) (d : St) (hD : w.ownsMap Try.prog 3 secR m n D) (hM : Mp D d.waits) (hlow : ∀ i, d.n ≤ i → d.waits i = none) : d.pend.Perm (intKeys D) := by
  have hhas := fun x => hM.has (.int .i64 x)
  obtain ⟨es, hE, hp, hk⟩ := hD.entries law3
  have hints : ∀ p ∈ es, ∃ x, p.1 = .int .i64 x := by
    obtain ⟨es0, clock, hb, F, hs, hD0⟩ := hD
    intro p hpm
    rw [hE] at hD0
    injection hD0 with hD0
    rw [hD0] at hpm
    have h1 := mem_sorted.1 hpm
    obtain ⟨v, hv⟩ := Maps.fit_keys F p h1
    obtain ⟨x, _, hx, _⟩ := Maps.keyOf_int_inv Try.underlying3 hv
    exact ⟨x, hx⟩
  rw [hE]
  refine perm_intKeys hp hints ?_ ?_
  · exact (pend_rising d).imp (fun {a b} h => by omega)
  · intro x
    rw [← hE, hhas x, mem_pend d hlow x]

theorem sortsL (k : Nat) : AnyZI.SortsIn Try.prog sortedL_ren Fence.wide k :=
  ⟨fun blk off cap ss W hH hblk hsz => callsIn_wide.2 (AnyM.slices_Sort_int sortL blk off cap ss W hH hblk hsz),
   fun p cap W => callsIn_wide.2 (AnyM.slices_Sort_int_none sortL p cap W)⟩

theorem pending_nil (w : World) : Calls Try.prog 25 #[.pointer none] w fun e w' => e = .returned (.slice none 0 0) ∧ w = w' := by
  go_enter Try.func25, Try.ntmps25
  go_wp2
  go_ret
  exact ⟨rfl, rfl⟩
set_option maxRecDepth 100000 in
set_option maxHeartbeats 2000000 in
theorem pending_any (w : World) (r f m cap : Nat) (d : St) (h : Lay w r f m cap d) (hw : d.writes ≤ 1000000000) :
    Calls Try.prog 25 #[.pointer (some ⟨r, 0, none⟩)] w fun e w' => ∃ v, e = .returned v ∧ w'.ownsRow w.heap.size 3 1 v d.pend.length (d.pend.map encZ) ∧ Below w.heap.size w w' := by
  have c1 := h.c1
  obtain ⟨D, hD, hM⟩ := h.map
  have hperm := pend_perm w m _ D d hD hM h.low
  have hsz := hD.size_le
  have hown := hD
  refine (callsIn_wide (n := 6)).1 ?_
  have hbl := hown.lt
  have hseq : SeqGives Fence.wide 2 Try.prog 51 #[.pointer (some ⟨w.heap.size, 0, none⟩)] encZ (fun ss => ss.Perm (intKeys D)) (Maps.size D) (w.alloc (.cells #[.map (some m)] 68)) :=
    AnyZI.keys_gives (ρ := keysL_ren) { keysL with } Fence.wide _ trivial rfl (by omega) w.heap.size m d.writes D _ (by simp) (by simp) (by
      obtain ⟨es, clock, hb, Ft, hs, hDD⟩ := hown
      exact ⟨es, clock, (Below.heap_alloc _ _ m hbl).trans hb, Ft, hs, hDD⟩)
  have cK : ∀ mb W, CallsIn Fence.wide 5 Try.prog 46 #[.map mb] W fun e w' => e = .returned (.func (.func 51) #[] #[.pointer (some ⟨W.heap.size, 0, none⟩)]) ∧ w' = W.alloc (.cells #[.map mb] 68) := fun mb W => AnyZI.keys_in keysL Fence.wide 5 trivial rfl mb W
  have cS := AnyZI.sorted_in sortedL Fence.wide 5 trivial trivial trivial trivial rfl (by omega) (sortsL _) (enters_of Try.func50 (by kernel_rfl) rfl) 51 #[.pointer (some ⟨w.heap.size, 0, none⟩)] trivial (enters_of Try.func51 (by kernel_rfl) rfl) _ _ (show Maps.size D ≤ maxLen by unfold maxLen; omega) (by omega) _ hseq
  change CallsIn _ _ Try.prog 45 _ _ _ at cS
  have hfK : Fence.wide.fn 46 := trivial
  have hfS : Fence.wide.fn 45 := trivial
  refine callsIn_of_wp Try.func25 rfl trivial ?_ rfl
  simp only [Try.ntmps25, List.size_toArray, List.length_cons, List.length_nil, Nat.reduceAdd, Nat.reduceSub, Array.replicate_succ, Array.replicate_zero, List.push_toArray, List.append_toArray, List.nil_append, List.cons_append]
  gi_wp2_with (first
    | (gi_at_call 46; refine (cK _ _).mono ?_; rintro e w' ⟨rfl, rfl⟩)
    | (gi_at_call 45; refine cS.mono ?_; rintro e w' ⟨v, ss, rfl, hS, hrow, hnil, hb⟩))
  go_ret
  have e1 : ss.mergeSort (fun x y => decide (x ≤ y)) = d.pend := by
    have := mergeSort_of_perm_i (hS.trans hperm.symm)
    rw [pend_sorted] at this
    exact this
  have e2 : ss.length = d.pend.length := (hS.trans hperm.symm).length_eq
  rw [e1, e2] at hrow
  exact ⟨v, rfl, ownsRow_base_a hrow (by simp), ((Below.refl _ w).alloc (Nat.le_refl _) _).trans (hb.mono (by simp))⟩
/-- How many operations there were. -/
theorem counts_any (w : World) (r f m cap : Nat) (d : St) (h : Lay w r f m cap d) : Calls Try.prog 27 #[.pointer (some ⟨r, 0, none⟩)] w fun e w' => e = .returned (.tuple #[.int .i64 d.writes, .int .i64 d.flushes]) ∧ Below w.heap.size w w' := by
  have c2 := h.c2
  have c3 := h.c3
  go_enter Try.func27, Try.ntmps27
  go_wp2_with fail
  go_quiet (fail)
  go_wp2_with fail
  go_ret2
  exact ⟨rfl, below_drewN (Below.refl _ _) _⟩
end Go.Proofs.Yteimfnnkjhopdaa
