/- The powers of 3, told one behind the other by the iterator. -/
import Derived.Test.YtjhkicfndbceoaaScal
import Derived.RangeFuncNested
import Derived.RangeFuncBound
import Derived.RangeFuncCalls
import Derived.RangeFuncLeaves
import Derived.RangeFuncFrom
import Derived.Shelf.Abstract
import Derived.Shelf.RegionOpen
import Derived.OwnWalkIn
import Derived.TacticsInMore
import Derived.LoopNIn
import Derived.LoopIn
namespace Go.Proofs.Ytjhkicfndbceoaa
open Go.RowKit Go.Shelf
attribute [local go_sem] Oper.semAt_some

/-- A power's number. -/
abbrev Nth := { n : Nat // n < 255 }
def told (x : Nth) : Array Value := #[.int .i64 x.1, .int .u8 (v8 (E x.1))]

/-- Which powers have come. -/
def nos (xs : List Nth) : List Nat := xs.map (·.1)
theorem nos_snoc (pre : List Nth) (k : Nth) : nos (pre ++ [k]) = nos pre ++ [k.1] := by simp [nos]
theorem nos_length (pre : List Nth) : (nos pre).length = pre.length := by simp [nos]
theorem range_step (pre : List Nth) (k : Nth) (h : nos pre = List.range k.1) : nos (pre ++ [k]) = List.range (k.1 + 1) := by
  rw [nos_snoc, h, List.range_succ]

set_option maxHeartbeats 1000000 in
set_option maxRecDepth 100000 in
theorem powers_stops (n : Nat) (hn : 1 ≤ n) (w : World) :
    SeqStopsK Fence.wide n Try.prog 69 #[] told KeepsWalks (fun xs => nos xs = List.range 255) (fun _ => True) 255 w := fun l J Jx W _ _ _ hY h0 => by
  refine callsIn_of_wp Try.func69 rfl trivial ?_ rfl
  simp only [Try.ntmps69, List.size_toArray, List.length_cons, List.length_nil, Nat.reduceAdd, Nat.reduceSub, Array.replicate_succ, Array.replicate_zero, List.push_toArray, List.append_toArray, List.nil_append, List.cons_append]
  gi_wp2
  gi_loopw [2, 4] (fun p i wr => ∃ (pre : List Nth) (k : Nat), k ≤ 255 ∧ i = .int .i64 k ∧ p = .int .u8 (v8 (E k)) ∧ nos pre = List.range k ∧ J pre wr) (fun _ i _ => 255 - (intOf i).toNat)
  case atStart => exact ⟨[], 0, by omega, rfl, rfl, rfl, h0⟩
  case round =>
    obtain ⟨pre, k, hk, rfl, rfl, hpre, hJ⟩ := hrel
    by_cases hlt : k < 255
    · have HP : Hid (nos pre = List.range k) := hpre
      have hl : pre.length < 255 := by
        have := congrArg List.length hpre
        rw [nos_length, List.length_range] at this
        omega
      clear hpre
      obtain ⟨fn, tmps, assign, body, hy, hR⟩ := hY pre ⟨k, hlt⟩ wr hJ hl
      dsimp only [told] at hy
      gi_wp2
      refine hR.mono ?_
      rintro e W3 (⟨rfl, hJ3, hk3⟩ | ⟨rfl, hJx3⟩)
      · gi_wp2_with (first | (refine ⟨trivial, ?_⟩; gi_at_call 70; refine (callsIn_wide.2 (times_any _ _ _ rfl)).mono ?_; rintro e w' ⟨rfl, rfl⟩) | (refine ⟨trivial, ?_⟩; gi_at_call 46; refine (callsIn_wide.2 (add_any _ _ _ _ _ rfl rfl)).mono ?_; rintro e w' ⟨rfl, rfl⟩))
        go_roundw
        case rel => exact ⟨pre ++ [⟨k, hlt⟩], k + 1, by omega, by go_num, rfl, range_step pre ⟨k, hlt⟩ HP.out, hJ3⟩
        case measure => simp [intOf]; omega
      · gi_wp2
        refine bodyPost_ret (results_none rfl _ _ _) rfl ?_
        exact ⟨⟨_, rfl⟩, .inr ⟨_, trivial, hJx3⟩⟩
    · have hk5 : k = 255 := by omega
      subst hk5
      gi_wp2
      go_end0
      exact ⟨⟨_, rfl⟩, .inl ⟨pre, hpre, hJ⟩⟩
end Go.Proofs.Ytjhkicfndbceoaa
