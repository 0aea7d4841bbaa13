/- AesKnown: the chapter's example. -/
import Derived.Test.YtkiljjlklelbbaaWorks
namespace Go.Proofs.Ytkiljjlklelbbaa
open Go.RowKit

def knKey : List B := (List.range 32).map (BitVec.ofNat 8)
def knB : List B := (List.range 16).map fun i => BitVec.ofNat 8 (17 * i)
def knV : List B := [142#8, 162#8, 183#8, 202#8, 81#8, 103#8, 69#8, 191#8, 234#8, 252#8, 73#8, 144#8, 75#8, 73#8, 96#8, 137#8]
theorem kn_enc : enc (ready knKey) knB 14 = knV := by decide +kernel
theorem kn_built : Try.prog.built 23 [(0, .int .u8 142), (1, .int .u8 162), (2, .int .u8 183), (3, .int .u8 202), (4, .int .u8 81), (5, .int .u8 103), (6, .int .u8 69), (7, .int .u8 191), (8, .int .u8 234), (9, .int .u8 252), (10, .int .u8 73), (11, .int .u8 144), (12, .int .u8 75), (13, .int .u8 73), (14, .int .u8 96), (15, .int .u8 137)] = some (bys knV).toArray := by kernel_rfl
theorem zero22 (w : World) : (zeroValue 22).run Try.prog w = .ok (.agg (bys (List.replicate 32 0#8)).toArray) w := by kernel_rfl
theorem zeroed22 : ∃ Z : List B, Z.length = 32 ∧ ∀ W : World, (zeroValue 22).run Try.prog W = .ok (.agg (bys Z).toArray) W := ⟨List.replicate 32 0#8, List.length_replicate, zero22⟩
theorem kn_key : ∀ i, i < 32 → v8 (knKey.getD i 0#8) = i := by decide +kernel
theorem kn_b : ∀ i, i < 16 → v8 (knB.getD i 0#8) = 17 * i := by decide +kernel

/-- What lies there while the statement is asked. -/
structure LkS (w v : World) (g u : Nat) (M V RK : List B) : Prop where
  b : Blk v (w.heap.size + 1) 23 (bys M)
  u : Blk v u 23 (bys V)
  k : Blk v g 28 (bys RK)
  below : Below w.heap.size w v
section
variable {w v v' : World} {g u : Nat} {M V RK : List B}
theorem LkS.drew (h : LkS w v g u M V RK) : LkS w v.drew g u M V RK := ⟨h.b, h.u, h.k, h.below.drew⟩
theorem LkS.call (h : LkS w v g u M V RK) (hb : Below v.heap.size v v') : LkS w v' g u M V RK := ⟨h.b.next hb, h.u.next hb, h.k.next hb, h.below.trans (hb.mono h.below.size)⟩
end
section
variable {w : World} {ops : Array Oper} {rest : List Oper} {o : Oper} {a : Act} {Q : Exit → Act → World → Prop}
/-- A value is built. -/
theorem law_build (hw : Region.wanted o (yielded ops a.tmps) = true) (ty : TypeId) (xs : Array (Nat × Operand)) (ho : o.op = .build ty xs) (vs : Array Value) (hb : Try.prog.built ty (xs.map fun (i, x) => (i, a.eval x)).toList = some vs)
    (h : wpList Try.prog ops Q rest (a.put o.dst (.agg vs)) w) : wpList Try.prog ops Q (o :: rest) a w :=
  wpList_wanted hw fun _ hK => wp_build ty xs ho (by rw [hb]; rfl) (by rw [hb]; exact hK _ _ h)
/-- The block that is wanted. -/
theorem law_kn (hgd : o.guard = none) (ho : o.op = .build 23 #[(0, .const (.int .u8 142)), (1, .const (.int .u8 162)), (2, .const (.int .u8 183)), (3, .const (.int .u8 202)), (4, .const (.int .u8 81)), (5, .const (.int .u8 103)), (6, .const (.int .u8 69)), (7, .const (.int .u8 191)), (8, .const (.int .u8 234)), (9, .const (.int .u8 252)), (10, .const (.int .u8 73)), (11, .const (.int .u8 144)), (12, .const (.int .u8 75)), (13, .const (.int .u8 73)), (14, .const (.int .u8 96)), (15, .const (.int .u8 137))]) (V : List B) (hb : Try.prog.built 23 [(0, .int .u8 142), (1, .int .u8 162), (2, .int .u8 183), (3, .int .u8 202), (4, .int .u8 81), (5, .int .u8 103), (6, .int .u8 69), (7, .int .u8 191), (8, .int .u8 234), (9, .int .u8 252), (10, .int .u8 73), (11, .int .u8 144), (12, .int .u8 75), (13, .int .u8 73), (14, .int .u8 96), (15, .int .u8 137)] = some (bys V).toArray)
    (h : wpList Try.prog ops Q rest (a.put o.dst (.agg (bys V).toArray)) w) : wpList Try.prog ops Q (o :: rest) a w :=
  law_build (by unfold Region.wanted; rw [hgd]) 23 _ ho _ (by simp only [List.map_toArray, List.map_cons, List.map_nil]; exact hb) h
end

set_option maxHeartbeats 2000000 in
set_option maxRecDepth 100000 in
theorem known_of (L M V RK Z2 Z3 Z8 : List B) (hL : L.length = 32) (hM : M.length = 16) (hV : V.length = 16) (hRK : RK.length = 240) (hZ2 : Z2.length = 32) (hZ3 : Z3.length = 16) (hZ8 : Z8.length = 240)
    (z22 : ∀ W : World, (zeroValue 22).run Try.prog W = .ok (.agg (bys Z2).toArray) W) (z23 : ∀ W : World, (zeroValue 23).run Try.prog W = .ok (.agg (bys Z3).toArray) W) (z28 : ∀ W : World, (zeroValue 28).run Try.prog W = .ok (.agg (bys Z8).toArray) W)
    (HL : Hid (∀ i, i < 32 → v8 (L.getD i 0#8) = i)) (HM : Hid (∀ i, i < 16 → v8 (M.getD i 0#8) = 17 * i)) (hbu : Try.prog.built 23 [(0, .int .u8 142), (1, .int .u8 162), (2, .int .u8 183), (3, .int .u8 202), (4, .int .u8 81), (5, .int .u8 103), (6, .int .u8 69), (7, .int .u8 191), (8, .int .u8 234), (9, .int .u8 252), (10, .int .u8 73), (11, .int .u8 144), (12, .int .u8 75), (13, .int .u8 73), (14, .int .u8 96), (15, .int .u8 137)] = some (bys V).toArray) (w : World)
    (h8 : ∀ W : World, Calls Try.prog 8 #[.agg (bys L).toArray] W fun e w' => e = .returned (.agg (bys RK).toArray) ∧ Below W.heap.size W w')
    (h10 : ∀ W : World, Calls Try.prog 10 #[.agg (bys RK).toArray, .agg (bys M).toArray] W fun e w' => e = .returned (.agg (bys V).toArray) ∧ Below W.heap.size W w')
    (h12 : ∀ W : World, Calls Try.prog 12 #[.agg (bys RK).toArray, .agg (bys V).toArray] W fun e w' => e = .returned (.agg (bys M).toArray) ∧ Below W.heap.size W w') :
    Calls Try.prog 7 #[] w fun e w' => e = .returned (.bool true) ∧ Below w.heap.size w w' := by
  have hq0 := eq23 M M hM hM
  have hq1 := eq23 V V hV hV
  rw [decide_eq_true rfl] at hq0 hq1
  have hgd := guard23
  have hB0 : Blk ((w.alloc (.cells (bys Z2).toArray 22)).alloc (.cells (bys Z3).toArray 23)) w.heap.size 22 (bys Z2) := (Blk.new w 22 (bys Z2)).alloc _
  have hB1 : Blk ((w.alloc (.cells (bys Z2).toArray 22)).alloc (.cells (bys Z3).toArray 23)) (w.heap.size + 1) 23 (bys Z3) := by
    have h := Blk.new (w.alloc (.cells (bys Z2).toArray 22)) 23 (bys Z3)
    rwa [World.size_alloc] at h
  have hbB : Below w.heap.size w ((w.alloc (.cells (bys Z2).toArray 22)).alloc (.cells (bys Z3).toArray 23)) := ((Below.refl _ w).alloc (Nat.le_refl _) _).alloc (by simp) _
  have hsz : Hid (((w.alloc (.cells (bys Z2).toArray 22)).alloc (.cells (bys Z3).toArray 23)).heap.size = w.heap.size + 1 + 1) := by show _ = _; simp
  go_enter Try.func7, Try.ntmps7
  go_wp2
  go_loopw [3] (fun i wr => ∃ j : Nat, j ≤ 32 ∧ i = .int .i64 j ∧ Blk wr w.heap.size 22 (bys (mid L Z2 j)) ∧ Blk wr (w.heap.size + 1) 23 (bys Z3) ∧ Below w.heap.size w wr ∧ Hid (wr.heap.size = w.heap.size + 1 + 1)) (fun i _ => 32 - (intOf i).toNat)
  case atStart => exact ⟨0, by omega, rfl, by rw [mid_zero]; exact hB0, hB1, hbB, hsz⟩
  case round =>
    obtain ⟨j, hj, rfl, hA, hO, hbr, hsr⟩ := hrel
    clear hB0 hB1 hbB hsz
    by_cases hlt : j < 32
    · have hml := mid_length L Z2 32 j hL hZ2
      have hst := hA.put j (L.getD j 0#8)
      rw [mid_step L Z2 j 32 hL hZ2 hlt, HL.out j hlt] at hst
      have c0 := hA.byte j (by omega)
      have f0 := hA.fz j
      have hw8 : IntKind.u8.wrap (j : Int) = j := by rw [IntKind.wrap_u8']; omega
      clear h8 h10 h12
      go_wp2
      refine ⟨⟨j + 1, by omega, by go_num, hst, hO.beside _ (by simp), hbr.setCell (by simp) _, ?_⟩, by simp [intOf]; omega⟩
      show _ = _
      rw [World.size_setCell]
      exact hsr
    · have hj32 : j = 32 := by omega
      subst hj32
      rw [mid_full L Z2 32 hL hZ2] at hA
      clear HL
      go_wp2
      obtain ⟨wA, hwA⟩ : ∃ x, x = wr := ⟨_, rfl⟩
      subst hwA
      go_loopw [4] (fun i wr => ∃ j : Nat, j ≤ 16 ∧ i = .int .i64 j ∧ Blk wr w.heap.size 22 (bys L) ∧ Blk wr (w.heap.size + 1) 23 (bys (mid M Z3 j)) ∧ Below w.heap.size w wr ∧ Hid (wr.heap.size = w.heap.size + 1 + 1)) (fun i _ => 16 - (intOf i).toNat)
      case atStart => exact ⟨0, by omega, rfl, hA, by rw [mid_zero]; exact hO, hbr, hsr⟩
      case round =>
        clear hA hO hbr hsr
        obtain ⟨j, hj, rfl, hA, hO, hbr, hsr⟩ := hrel
        by_cases hlt : j < 16
        · have hml := mid_length M Z3 16 j hM hZ3
          have hst := hO.put j (M.getD j 0#8)
          rw [mid_step M Z3 j 16 hM hZ3 hlt, HM.out j hlt] at hst
          have c0 := hO.byte j (by omega)
          have f0 := hO.fz j
          have hw8 : IntKind.u8.wrap (17 * (j : Int)) = 17 * j := by rw [IntKind.wrap_u8']; omega
          clear h8 h10 h12
          go_wp2
          refine ⟨⟨j + 1, by omega, by go_num, hA.beside _ (by simp), hst, hbr.setCell (by simp) _, ?_⟩, by simp [intOf]; omega⟩
          show _ = _
          rw [World.size_setCell]
          exact hsr
        · have hj16 : j = 16 := by omega
          subst hj16
          rw [mid_full M Z3 16 hM hZ3] at hO
          clear HM
          obtain ⟨wB, hwB⟩ : ∃ x, x = wr := ⟨_, rfl⟩
          subst hwB
          go_wp2_with (first
            | (refine law_kn rfl rfl V hbu ?_)
            | (refine law_store rfl 23 (.tmp 5) _ rfl _ (bys V) rfl rfl 23 _ (Blk.new wB 23 (bys Z3)) (by rw [bys_length, bys_length, hV, hZ3]) (by rw [bys_length, hV]; kernel_rfl) (bys_one _) ?_
               intro w2 ho2 hV2
               have hA2 := (hA.alloc _).on ho2 (Nat.ne_of_lt hA.lt)
               have hB2 := (hO.alloc _).on ho2 (Nat.ne_of_lt hO.lt)
               have m2 := ho2.below (hbr.alloc hbr.size _) hbr.size)
            | (refine law_load rfl 22 (.tmp 1) rfl _ rfl 22 _ hA2 _ Try.underlying22 rfl (by rw [bys_length, hL]; kernel_rfl) ?_)
            | (go_at_call 8; refine (h8 _).mono ?_; rintro e w3 ⟨rfl, k3⟩)
            | (refine law_store rfl 28 (.tmp 6) _ rfl _ (bys RK) rfl rfl 28 _ (Blk.new w3 28 (bys Z8)) (by rw [bys_length, bys_length, hRK, hZ8]) (by rw [bys_length, hRK]; kernel_rfl) (bys_one _) ?_
               intro w4 ho4 hK4
               have hB4 := ((hB2.next k3).alloc _).on ho4 (Nat.ne_of_lt (hB2.next k3).lt)
               have hV4 := ((hV2.next k3).alloc _).on ho4 (Nat.ne_of_lt (hV2.next k3).lt)
               have m3 := m2.trans (k3.mono m2.size)
               have m4 := ho4.below (m3.alloc m3.size _) m3.size))
          have hSS : LkS w w4 w3.heap.size wB.heap.size M V RK := ⟨hB4, hV4, hK4, m4⟩
          clear hA hO hbr hsr ho2 hV2 hA2 hB2 m2 k3 ho4 hK4 hB4 hV4 m3 m4
          obtain ⟨g, eg⟩ : ∃ g, g = w3.heap.size := ⟨_, rfl⟩
          obtain ⟨u, eu⟩ : ∃ g, g = wB.heap.size := ⟨_, rfl⟩
          rw [← eg, ← eu] at hSS
          (try simp only [Act.put])
          rw [← eg, ← eu]
          clear eg eu
          refine wp_region_to (fun v => LkS w v g u M V RK) 99 (by kernel_rfl) ?_
          have hS0 := hSS.drew
          refine wpTo_take (i := 0) (show _ = some _ by simp only [List.getElem?_toArray, List.getElem?_cons_zero]; exact rfl) (by kernel_rfl) (by kernel_rfl) (by kernel_rfl) (by kernel_rfl) (by exact fun _ _ _ h => h) (yieldsIf_load_mid (by rfl) 28 (.tmp 6) rfl g 0 rfl (bys RK) _ (fun v h => (LkS.k h).whole) Try.underlying28 rfl (by rw [bys_length, hRK]; kernel_rfl)) hS0 ?_
          (try simp only [Act.put]); (try simp only [List.setIfInBounds_toArray]); (repeat (first | simp only [List.set_cons_succ] | simp only [List.set_cons_zero]))
          refine wpTo_take (i := 1) (show _ = some _ by simp only [List.getElem?_toArray, List.getElem?_cons_succ, List.getElem?_cons_zero]; exact rfl) (by kernel_rfl) (by kernel_rfl) (by kernel_rfl) (by kernel_rfl) (by exact fun _ _ _ h => h) (yieldsIf_load_mid (by rfl) 23 (.tmp 2) rfl (w.heap.size + 1) 0 rfl (bys M) _ (fun v h => (LkS.b h).whole) Try.underlying23 rfl (by rw [bys_length, hM]; kernel_rfl)) hS0 ?_
          (try simp only [Act.put]); (try simp only [List.setIfInBounds_toArray]); (repeat (first | simp only [List.set_cons_succ] | simp only [List.set_cons_zero]))
          refine wpTo_take (i := 3) (show _ = some _ by simp only [List.getElem?_toArray, List.getElem?_cons_succ, List.getElem?_cons_zero]; exact rfl) (by kernel_rfl) (by kernel_rfl) (by kernel_rfl) (by kernel_rfl) (by exact fun _ _ _ h => h) (yieldsIf_load_mid (by rfl) 23 (.tmp 5) rfl u 0 rfl (bys V) _ (fun v h => (LkS.u h).whole) Try.underlying23 rfl (by rw [bys_length, hV]; kernel_rfl)) hS0 ?_
          (try simp only [Act.put]); (try simp only [List.setIfInBounds_toArray]); (repeat (first | simp only [List.set_cons_succ] | simp only [List.set_cons_zero]))
          refine wpTo_one (i := 2) (by kernel_rfl) (show _ = some _ by simp only [List.getElem?_toArray, List.getElem?_cons_succ, List.getElem?_cons_zero]; exact rfl) (fun K hK => ?_)
          go_simp
          go_at_call 10; refine (h10 _).mono ?_; rintro e v1 ⟨rfl, k1⟩
          (try simp only [])
          refine hK.out _ _ (LkS.call hS0 k1) (fun hS1 => ?_)
          clear hK K
          (try simp only [Act.put]); (try simp only [List.setIfInBounds_toArray]); (repeat (first | simp only [List.set_cons_succ] | simp only [List.set_cons_zero]))
          refine wpTo_take (i := 4) (v := ?v4) (show _ = some _ by simp only [List.getElem?_toArray, List.getElem?_cons_succ, List.getElem?_cons_zero]; exact rfl) (by kernel_rfl) (by kernel_rfl) (by kernel_rfl) (by kernel_rfl) (by exact fun _ _ _ h => h) (Or.inl ⟨by rfl, ?hy4⟩) hS1 ?r4
          case hy4 => (intro w hSw; (try dsimp only at hSw); go_simp; try with_reducible rfl)
          (try simp only [Act.put]); (try simp only [List.setIfInBounds_toArray]); (repeat (first | simp only [List.set_cons_succ] | simp only [List.set_cons_zero]))
          refine wpTo_take (i := 5) (v := ?v5) (show _ = some _ by simp only [List.getElem?_toArray, List.getElem?_cons_succ, List.getElem?_cons_zero]; exact rfl) (by kernel_rfl) (by kernel_rfl) (by kernel_rfl) (by kernel_rfl) (by exact fun _ _ _ h => h) (Or.inl ⟨by rfl, ?hy5⟩) hS1 ?r5
          case hy5 => (intro w hSw; (try dsimp only at hSw); go_simp; try with_reducible rfl)
          (try simp only [Act.put]); (try simp only [List.setIfInBounds_toArray]); (repeat (first | simp only [List.set_cons_succ] | simp only [List.set_cons_zero]))
          refine wpTo_take (i := 6) (show _ = some _ by simp only [List.getElem?_toArray, List.getElem?_cons_succ, List.getElem?_cons_zero]; exact rfl) (by kernel_rfl) (by kernel_rfl) (by kernel_rfl) (by kernel_rfl) (by exact fun _ _ _ h => h) (yieldsIf_load_mid (by rfl) 28 (.tmp 6) rfl g 0 rfl (bys RK) _ (fun v h => (LkS.k h).whole) Try.underlying28 rfl (by rw [bys_length, hRK]; kernel_rfl)) hS1 ?_
          (try simp only [Act.put]); (try simp only [List.setIfInBounds_toArray]); (repeat (first | simp only [List.set_cons_succ] | simp only [List.set_cons_zero]))
          refine wpTo_take (i := 7) (show _ = some _ by simp only [List.getElem?_toArray, List.getElem?_cons_succ, List.getElem?_cons_zero]; exact rfl) (by kernel_rfl) (by kernel_rfl) (by kernel_rfl) (by kernel_rfl) (by exact fun _ _ _ h => h) (yieldsIf_load_mid (by rfl) 23 (.tmp 5) rfl u 0 rfl (bys V) _ (fun v h => (LkS.u h).whole) Try.underlying23 rfl (by rw [bys_length, hV]; kernel_rfl)) hS1 ?_
          (try simp only [Act.put]); (try simp only [List.setIfInBounds_toArray]); (repeat (first | simp only [List.set_cons_succ] | simp only [List.set_cons_zero]))
          refine wpTo_take (i := 9) (show _ = some _ by simp only [List.getElem?_toArray, List.getElem?_cons_succ, List.getElem?_cons_zero]; exact rfl) (by kernel_rfl) (by kernel_rfl) (by kernel_rfl) (by kernel_rfl) (by exact fun _ _ _ h => h) (yieldsIf_load_mid (by rfl) 23 (.tmp 2) rfl (w.heap.size + 1) 0 rfl (bys M) _ (fun v h => (LkS.b h).whole) Try.underlying23 rfl (by rw [bys_length, hM]; kernel_rfl)) hS1 ?_
          (try simp only [Act.put]); (try simp only [List.setIfInBounds_toArray]); (repeat (first | simp only [List.set_cons_succ] | simp only [List.set_cons_zero]))
          refine wpTo_one (i := 8) (by kernel_rfl) (show _ = some _ by simp only [List.getElem?_toArray, List.getElem?_cons_succ, List.getElem?_cons_zero]; exact rfl) (fun K hK => ?_)
          go_simp
          go_at_call 12; refine (h12 _).mono ?_; rintro e v2 ⟨rfl, k2⟩
          (try simp only [])
          refine hK.out _ _ (LkS.call hS1 k2) (fun hS2 => ?_)
          clear hK K
          (try simp only [Act.put]); (try simp only [List.setIfInBounds_toArray]); (repeat (first | simp only [List.set_cons_succ] | simp only [List.set_cons_zero]))
          refine wpTo_take (i := 10) (v := ?v10) (show _ = some _ by simp only [List.getElem?_toArray, List.getElem?_cons_succ, List.getElem?_cons_zero]; exact rfl) (by kernel_rfl) (by kernel_rfl) (by kernel_rfl) (by kernel_rfl) (by exact fun _ _ _ h => h) (Or.inl ⟨by rfl, ?hy10⟩) hS2 ?r10
          case hy10 => (intro w hSw; (try dsimp only at hSw); go_simp; try with_reducible rfl)
          (try simp only [Act.put]); (try simp only [List.setIfInBounds_toArray]); (repeat (first | simp only [List.set_cons_succ] | simp only [List.set_cons_zero]))
          refine wpTo_take (i := 11) (v := ?v11) (show _ = some _ by simp only [List.getElem?_toArray, List.getElem?_cons_succ, List.getElem?_cons_zero]; exact rfl) (by kernel_rfl) (by kernel_rfl) (by kernel_rfl) (by kernel_rfl) (by exact fun _ _ _ h => h) (Or.inl ⟨by rfl, ?hy11⟩) hS2 ?r11
          case hy11 => (intro w hSw; (try dsimp only at hSw); go_simp; try with_reducible rfl)
          (try simp only [Act.put]); (try simp only [List.setIfInBounds_toArray]); (repeat (first | simp only [List.set_cons_succ] | simp only [List.set_cons_zero]))
          refine wpTo_take (i := 12) (v := ?v12) (show _ = some _ by simp only [List.getElem?_toArray, List.getElem?_cons_succ, List.getElem?_cons_zero]; exact rfl) (by kernel_rfl) (by kernel_rfl) (by kernel_rfl) (by kernel_rfl) (by exact fun _ _ _ h => h) (Or.inl ⟨by rfl, ?hy12⟩) hS2 ?r12
          case hy12 => (intro w hSw; (try dsimp only at hSw); go_simp; try with_reducible rfl)
          (try simp only [Act.put]); (try simp only [List.setIfInBounds_toArray]); (repeat (first | simp only [List.set_cons_succ] | simp only [List.set_cons_zero]))
          refine wpTo_one (i := 13) (by kernel_rfl) (show _ = some _ by simp only [List.getElem?_toArray, List.getElem?_cons_succ, List.getElem?_cons_zero]; exact rfl) (fun K hK => ?_)
          go_simp
          go_at_call 14; refine (works_any _).mono ?_; rintro e v3 ⟨rfl, k3⟩
          (try simp only [])
          refine hK.out _ _ (LkS.call hS2 k3) (fun hS3 => ?_)
          clear hK K
          (try simp only [Act.put]); (try simp only [List.setIfInBounds_toArray]); (repeat (first | simp only [List.set_cons_succ] | simp only [List.set_cons_zero]))
          refine wpTo_take (i := 14) (v := ?v14) (show _ = some _ by simp only [List.getElem?_toArray, List.getElem?_cons_succ, List.getElem?_cons_zero]; exact rfl) (by kernel_rfl) (by kernel_rfl) (by kernel_rfl) (by kernel_rfl) (by exact fun _ _ _ h => h) (Or.inl ⟨by rfl, ?hy14⟩) hS3 ?r14
          case hy14 => (intro w hSw; (try dsimp only at hSw); go_simp; try with_reducible rfl)
          (try simp only [Act.put]); (try simp only [List.setIfInBounds_toArray]); (repeat (first | simp only [List.set_cons_succ] | simp only [List.set_cons_zero]))
          refine wpTo_take (i := 15) (v := ?v15) (show _ = some _ by simp only [List.getElem?_toArray, List.getElem?_cons_succ, List.getElem?_cons_zero]; exact rfl) (by kernel_rfl) (by kernel_rfl) (by kernel_rfl) (by kernel_rfl) (by exact fun _ _ _ h => h) (Or.inl ⟨by rfl, ?hy15⟩) hS3 ?r15
          case hy15 => (intro w hSw; (try dsimp only at hSw); go_simp; try with_reducible rfl)
          (try simp only [Act.put]); (try simp only [List.setIfInBounds_toArray]); (repeat (first | simp only [List.set_cons_succ] | simp only [List.set_cons_zero]))
          refine wpTo_done (by kernel_rfl) ?_
          go_wp2
          go_ret
          exact ⟨rfl, hS3.below⟩

theorem known_walk (w : World) : Calls Try.prog 7 #[] w fun e w' => e = .returned (.bool true) ∧ Below w.heap.size w w' := by
  obtain ⟨Z2, hZ2, z22⟩ := zeroed22
  obtain ⟨Z3, hZ3, z23, -⟩ := zeroed23
  obtain ⟨Z8, hZ8, z28⟩ := zeroed28
  have hL : knKey.length = 32 := by decide
  have hM : knB.length = 16 := by decide
  have hV : knV.length = 16 := by decide
  have hR := ready_length knKey hL
  refine known_of knKey knB knV (ready knKey) Z2 Z3 Z8 hL hM hV hR hZ2 hZ3 hZ8 z22 z23 z28 kn_key kn_b kn_built w (fun W => expand_any _ hL W) (fun W => ?_) (fun W => ?_)
  · have h := block_any _ _ hR hM W
    rw [kn_enc] at h
    exact h
  · have h := back_any _ _ hR hV W
    rw [← kn_enc, dec_of_enc _ _ hR hM 14 (by omega), kn_enc] at h
    exact h
end Go.Proofs.Ytkiljjlklelbbaa
