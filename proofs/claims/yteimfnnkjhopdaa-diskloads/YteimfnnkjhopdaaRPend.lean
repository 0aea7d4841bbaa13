/- The document's disk: what is pending; a list of its own with a mark behind it. -/
import Derived.Test.YteimfnnkjhopdaaROn
namespace Go.Proofs.Yteimfnnkjhopdaa
open Go.RowKit

theorem info3 : (Try.prog.info? 3).map (fun i => (i.zero, i.size, i.bytes)) = some (some (.int .i64 0), 1, 8) := by kernel_rfl
def ivs (xs : List Int) : List Value := xs.map encZ
theorem ivs_length (xs : List Int) : (ivs xs).length = xs.length := by simp [ivs]
theorem ivs_one (xs : List Int) : ∀ u ∈ ivs xs, u.oneCell' = true := by
  intro u hu
  obtain ⟨x, _, rfl⟩ := List.mem_map.1 hu
  rfl
section
variable {w : World} {ops : Array Oper} {rest : List Oper} {o : Oper} {a : Act} {Q : Exit → Act → World → Prop}
/-- 'append(l, p)', l a list of numbers of the call's own. -/
theorem push_num (hg : o.guard = none) (s x : Operand) (ho : o.op = .call { callee := .builtin .append, args := #[s, x], argTypes := #[32, 32] }) (base : Nat) (v : Value) (n : Nat) (P : List Int) (hv : a.eval s = v) (hown : w.ownsRow base 3 1 v n (ivs P))
    (g : Nat) (p : Int) (hx : a.eval x = .slice (some ⟨g, 0, none⟩) 1 1) (hc : w.heap[g]? = some (.cells #[.int .i64 p] 3 (0, 0))) (hbig : n ≤ 17592186044000) (hbase : base ≤ w.heap.size)
    (h : ∀ v' w', w'.ownsRow base 3 1 v' (n + 1) (ivs (P ++ [p])) → w.grownBy w' v.ownBlock → wpList Try.prog ops Q rest (a.put o.dst v') w') : wpList Try.prog ops Q (o :: rest) a w := by
  obtain ⟨i0, hi, hz0, hz1, hz2⟩ := info_parts info3
  refine wpList_append_own w hg s x 32 ho base 3 i0 (.int .i64 0) 1 8 Try.underlying32 hi hz0 hz1 hz2 rfl (by decide) v n (ivs P) hv hown ⟨g, 0, none⟩ 1 1 [.int .i64 p] hx rfl (World.news_of_block (cs := #[.int .i64 p]) hc) (by simp [Value.oneCell']) (by unfold maxLen; omega) (by omega) hbase ?_
  intro v' w' h1 h2 _
  refine h v' w' ?_ h2
  unfold ivs at *
  rw [List.map_append]
  exact h1
end
/-- What is pending of the first j sectors. -/
def pendTo (d : St) (j : Nat) : List Int := ((List.range j).filter fun i => (d.waits i).isSome).map fun i : Nat => (i : Int)
theorem pendTo_all (d : St) : pendTo d d.n = d.pend := rfl
theorem pendTo_none (d : St) (j : Nat) (h : (d.waits j).isSome = false) : pendTo d (j + 1) = pendTo d j := by
  unfold pendTo
  rw [List.range_succ, List.filter_append, List.map_append]
  simp [h]
theorem pendTo_some (d : St) (j : Nat) (h : (d.waits j).isSome = true) : pendTo d (j + 1) = pendTo d j ++ [(j : Int)] := by
  unfold pendTo
  rw [List.range_succ, List.filter_append, List.map_append]
  simp [h]
theorem pendTo_len (d : St) (j : Nat) : (pendTo d j).length ≤ j := by
  unfold pendTo
  rw [List.length_map]
  exact Nat.le_trans (List.length_filter_le _ _) (by simp)
set_option maxRecDepth 100000 in
set_option maxHeartbeats 4000000 in
theorem rpend_any (w : World) (r a b h : Nat) (d : St) (L : RLay w r a b h d) :
    Calls Try.prog 40 #[.pointer (some ⟨r, 0, none⟩)] w fun e w' => ∃ v, e = .returned v ∧ w'.ownsRow w.heap.size 3 1 v d.pend.length (d.pend.map encZ) ∧ Below w.heap.size w w' := by
  have htop := L.top
  go_enter Try.func40, Try.ntmps40
  go_wp2_with fail
  go_loopw [3, 4] (fun u v wr => ∃ (j : Nat), j ≤ d.n ∧ v = .int .i64 (j : Int) ∧ wr.ownsRow w.heap.size 3 1 u (pendTo d j).length (ivs (pendTo d j)) ∧ Below w.heap.size w wr) (fun _ v _ => d.n - (intOf v).toNat)
  case atStart => exact ⟨0, by omega, rfl, World.ownsRow_nil _ _ _ _, Below.refl _ _⟩
  case round =>
    obtain ⟨j, hj, rfl, hO, hB⟩ := hrel
    have hL := L.next hB
    have c2 := hL.c2
    by_cases hi : j < d.n
    · have hjI : (j : Int) < d.n := by omega
      have cH := hL.cH j hi
      cases hw : (d.waits j).isSome
      · rw [hw] at cH
        have HH : Hid (pendTo d (j + 1) = pendTo d j) := pendTo_none d j hw
        clear hw
        go_wp2_with fail
        go_roundw
        case rel => exact ⟨j + 1, by omega, by go_num, by rw [HH.out]; exact hO, hB⟩
        case measure => simp [intOf]; omega
      · rw [hw] at cH
        have HH : Hid (pendTo d (j + 1) = pendTo d j ++ [(j : Int)]) := pendTo_some d j hw
        have hlen := pendTo_len d j
        clear hw
        have hO2 : (wr.alloc (.cells #[.int .i64 (j : Int)] 3)).ownsRow w.heap.size 3 1 _ (pendTo d j).length (ivs (pendTo d j)) := hO.alloc _
        have hB2 : Below w.heap.size w (wr.alloc (.cells #[.int .i64 (j : Int)] 3)) := hB.alloc hB.size _
        have hC2 : (wr.alloc (.cells #[.int .i64 (j : Int)] 3)).heap[wr.heap.size]? = some (.cells #[.int .i64 (j : Int)] 3 (0, 0)) := heap_alloc_new wr _
        have hS2 := hB2.size
        obtain ⟨P, hP⟩ : ∃ P, P = pendTo d j := ⟨_, rfl⟩
        rw [← hP] at hO2 HH hlen
        clear hP hO
        obtain ⟨PN, hPN⟩ : ∃ PN, PN = P.length := ⟨_, rfl⟩
        have HPN : Hid (PN = P.length) := hPN
        rw [← hPN] at hO2 hlen
        clear hPN
        go_wp2_with (at_builtin; refine push_num rfl _ _ rfl w.heap.size _ PN P rfl hO2 wr.heap.size (j : Int) rfl hC2 (by omega) hS2 ?_; intro u3 w3 hO3 hg3)
        have hB3 := hB2.grown hg3 hS2 (fun k hk => (hO2.lt k hk).1)
        go_roundw
        case rel => exact ⟨j + 1, by omega, by go_num, by rw [HH.out, List.length_append, ← HPN.out]; exact hO3, hB3⟩
        case measure => simp [intOf]; omega
    · have hjI : ¬ (j : Int) < d.n := by omega
      have ej : j = d.n := by omega
      rw [ej, pendTo_all] at hO
      clear ej
      go_wp2_with fail
      go_ret
      exact ⟨_, rfl, hO, hB⟩
end Go.Proofs.Yteimfnnkjhopdaa
