/- A disk and the document's, side by side: the power on, all that is asked. -/
import Derived.Test.YteimfnnkjhopdaaDoes
import Derived.Test.YteimfnnkjhopdaaRows2
namespace Go.Proofs.Yteimfnnkjhopdaa
open Go.RowKit

set_option maxRecDepth 100000 in
set_option maxHeartbeats 4000000 in
theorem does_on (B : Nat) (w : World) (r f m cap q x y z : Nat) (d : St) (hP : Pair B w r f m cap d q x y z d) (hB : B ≤ w.heap.size) (i : Int) (t : ByteArray) (ao : Option Addr) (n c : Nat) (xs : List Int) (hx : Ints w ao n xs) (hlow : ∀ ad, ao = some ad → 0 < n → ad.block < B) (hnb : ao = none → c = 0) (hn : n ≤ 17592186043904) :
    Calls Try.prog 13 #[.pointer (some ⟨r, 0, none⟩), .pointer (some ⟨q, 0, none⟩), .agg (oc 6 i t ao n c).toArray] w fun e w' => e = .returned (.bool true) ∧ Did B w w' r f cap q x y z (d.po xs).1 := by
  have hD := DS.start hP hB (oc 6 i t ao n c)
  have hD0 : Hid (Below w.heap.size w (w.alloc (.cells (oc 6 i t ao n c).toArray 34))) := (Below.refl _ w).alloc (Nat.le_refl _) _
  have k0 := hD.blk.cell 0 _ rfl
  have k1 := hD.blk.cell 1 _ rfl
  have k2 := hD.blk.cell 2 _ rfl
  have k3 := hD.blk.cell 3 _ rfl
  go_enter Try.func13, Try.ntmps13
  have hX := hx.next hD0.out
  have hnI : (n : Int) ≤ 17592186043904 := by omega
  have hnm : n ≤ maxLen := by unfold maxLen; omega
  have HLO : Hid (∀ ad, ao = some ad → 0 < n → ad.block < B) := hlow
  have HWF : Hid (∀ u ∈ xs, (Lit.int .i64 u).wf = true) := hx.wf
  clear hx hlow hD0
  go_wp2_with fail
  go_at_call 38; refine (twin_any _ ao n c xs hX hnb hn).mono ?_; rintro e v1 ⟨g, cg, rfl, hM, kk⟩
  have hge := hM.ge
  have hK : Ints v1 (some ⟨g, 0, none⟩) n xs := hM.ints HWF.out
  have hnA : ¬ fp r f m g := fun hx => by have := fp_lt hD.pair.a g hx; omega
  have hnB : ¬ rfp q x y z g := fun hx => by have := hD.pair.b.lt g hx; omega
  have hX1 := hX.next kk
  have hD1 := hD.next kk
  have hS1 : w.heap.size ≤ g := by have h1 := hD.size; have h2 : w.heap.size ≤ (w.alloc (.cells (oc 6 i t ao n c).toArray 34)).heap.size := by simp
                                   omega
  clear hD hX k0 k1 k2 k3 kk hge hS1
  have hD := hD1
  clear hD1
  go_wp2_with fail
  go_at_call 21; refine (po_any _ r f m cap d hD.pair.a (some ⟨g, 0, none⟩) n cg xs hK (fun ad e h0 => by cases e; exact hnA) (by unfold maxLen at hnm; omega)).mono ?_; rintro e v2 ⟨rfl, hT⟩
  have hgl := hM.ge.2
  obtain ⟨m', hD1, hF1, hm1⟩ := hD.turnA hT
  have hM2 := hM.fr hF1 hnA
  have hX2 := hX1.fr hF1 (fun ad e h0 hx => by have h1 := HLO.out ad e h0; have h2 := hD.pair.ga _ hx; omega)
  clear hD hM hT hF1 hm1 hK hX1 hnA
  have hD := hD1
  clear hD1
  have k3 := hD.blk.cell 3 _ rfl
  go_wp2_with fail
  go_at_call 39; refine (rpo_any _ q x y z d hD.pair.b ao n c xs hX2 (fun ad e h0 hx => by have h1 := HLO.out ad e h0; have h2 := hD.pair.gb _ hx; omega) hnm).mono ?_; rintro e v3 ⟨rfl, hT⟩
  obtain ⟨hD1, hF1⟩ := hD.turnB hT
  have hM3 := hM2.fr hF1 hnB
  have hX3 := hX2.fr hF1 (fun ad e h0 hx => by have h1 := HLO.out ad e h0; have h2 := hD.pair.gb _ hx; omega)
  clear hD hM2 hT hF1 hX2 k3
  have hD := hD1
  clear hD1
  have k3 := hD.blk.cell 3 _ rfl
  go_wp2_with fail
  go_at_call 28; refine (eqInts_same _ (some ⟨g, 0, none⟩) ao n cg c xs (hM3.ints HWF.out) hX3 hnm).mono ?_; rintro e v4 ⟨rfl, kk⟩
  have hD1 := hD.next kk
  have hM4 := hM3.fr (X := fun _ => False) (Fr.of_below kk (Nat.le_refl _)) (fun h => h)
  have hrm := hM4.room
  have hmk := hM4.mark
  have hc1 : (n : Int) + 1 ≤ cg := by omega
  have hwr : IntKind.i64.wrap ((n : Int) + 1) = ((n + 1 : Nat) : Int) := by rw [IntKind.wrap_i64]; omega
  have hwr2 : IntKind.i64.wrap ((n + 1 : Nat) : Int) = ((n + 1 : Nat) : Int) := by rw [IntKind.wrap_i64]; omega
  have hc2 : (n : Int) < (n + 1 : Nat) := by omega
  have hc3 : ((n + 1 : Nat) : Int) ≤ cg := by omega
  clear hD kk hM3 hX3 k3
  have hD := hD1
  clear hD1
  go_wp2_with fail
  go_ret
  exact ⟨rfl, hD.did⟩
set_option maxRecDepth 100000 in
set_option maxHeartbeats 4000000 in
theorem does_ask (B : Nat) (w : World) (r f m cap q x y z : Nat) (d : St) (hP : Pair B w r f m cap d q x y z d) (hB : B ≤ w.heap.size) (i : Int) (t : ByteArray) (ao : Option Addr) (n c : Nat) (hw : d.writes ≤ 1000000000) :
    Calls Try.prog 13 #[.pointer (some ⟨r, 0, none⟩), .pointer (some ⟨q, 0, none⟩), .agg (oc 7 i t ao n c).toArray] w fun e w' => e = .returned (.bool true) ∧ Did B w w' r f cap q x y z d := by
  have hD := DS.start hP hB (oc 7 i t ao n c)
  have k0 := hD.blk.cell 0 _ rfl
  have k1 := hD.blk.cell 1 _ rfl
  have k2 := hD.blk.cell 2 _ rfl
  have k3 := hD.blk.cell 3 _ rfl
  go_enter Try.func13, Try.ntmps13
  have HWF : Hid (∀ u ∈ d.pend, (Lit.int .i64 u).wf = true) := pend_wf2 d hD.pair.a.top
  clear k0 k1 k2 k3
  have k0 := hD.blk.cell 0 _ rfl
  go_wp2_with fail
  go_at_call 27; refine (counts_any _ r f m cap d hD.pair.a).mono ?_; rintro e v1 ⟨rfl, kk⟩
  have hD1 := hD.next kk
  clear hD kk k0
  have hD := hD1
  clear hD1
  go_wp2_with fail
  refine wp_region_to (fun v => Blk v q 47 (rc x y z d)) 41 (by kernel_rfl) ?_
  have hS0 := hD.drew.pair.b.blk
  have hD := hD.drew
  refine wpTo_take (i := 0) (v := ?v0q) (show _ = some _ by simp only [List.getElem?_toArray, List.getElem?_cons_zero]; exact rfl) (by kernel_rfl) (by kernel_rfl) (by kernel_rfl) (by kernel_rfl) (by exact fun _ _ _ h => h) (Or.inl ⟨by rfl, ?hy0q⟩) hS0 ?r0q
  case hy0q => (intro w hSw; (try dsimp only at hSw); go_simp; try with_reducible rfl)
  (try simp only [Act.put]); (try simp only [List.setIfInBounds_toArray]); (repeat (first | simp only [List.set_cons_succ] | simp only [List.set_cons_zero]))
  refine wpTo_take (i := 2) (v := ?v2q) (show _ = some _ by simp only [List.getElem?_toArray, List.getElem?_cons_succ, List.getElem?_cons_zero]; exact rfl) (by kernel_rfl) (by kernel_rfl) (by kernel_rfl) (by kernel_rfl) (by exact fun _ _ _ h => h) (Or.inl ⟨by rfl, ?hy2q⟩) hS0 ?r2q
  case hy2q => (intro w hSw; (try dsimp only at hSw); go_simp; try with_reducible rfl)
  (try simp only [Act.put]); (try simp only [List.setIfInBounds_toArray]); (repeat (first | simp only [List.set_cons_succ] | simp only [List.set_cons_zero]))
  refine wpTo_one (i := 1) (by kernel_rfl) (show _ = some _ by simp only [List.getElem?_toArray, List.getElem?_cons_succ, List.getElem?_cons_zero]; exact rfl) (fun K hK => ?_)
  go_simp
  go_at_call 25; refine (pending_any _ r f m cap d hD.pair.a (by omega)).mono ?_; rintro e v2 ⟨x1, rfl, p1, kk⟩
  obtain ⟨ao1, co1, rfl, p1, -, -, pl⟩ := ints_of_own p1 HWF.out
  have hD := hD.next kk
  clear kk
  (try simp only [])
  refine hK.out _ _ (hD.pair.b.blk) (fun hS1 => ?_)
  clear hK K
  (try simp only [Act.put]); (try simp only [List.setIfInBounds_toArray]); (repeat (first | simp only [List.set_cons_succ] | simp only [List.set_cons_zero]))
  refine wpTo_one (i := 3) (by kernel_rfl) (show _ = some _ by simp only [List.getElem?_toArray, List.getElem?_cons_succ, List.getElem?_cons_zero]; exact rfl) (fun K hK => ?_)
  go_simp
  go_at_call 40; refine (rpend_any _ q x y z d hD.pair.b).mono ?_; rintro e v3 ⟨x2, rfl, p2, kk⟩
  obtain ⟨ao2, co2, rfl, p2, -, -, -⟩ := ints_of_own p2 HWF.out
  have hD := hD.next kk
  have p1 := p1.next kk
  clear kk
  (try simp only [])
  refine hK.out _ _ (hD.pair.b.blk) (fun hS2 => ?_)
  clear hK K
  (try simp only [Act.put]); (try simp only [List.setIfInBounds_toArray]); (repeat (first | simp only [List.set_cons_succ] | simp only [List.set_cons_zero]))
  refine wpTo_one (i := 4) (by kernel_rfl) (show _ = some _ by simp only [List.getElem?_toArray, List.getElem?_cons_succ, List.getElem?_cons_zero]; exact rfl) (fun K hK => ?_)
  go_simp
  go_at_call 28; refine (eqInts_same _ ao1 ao2 _ co1 co2 _ p1 p2 pl).mono ?_; rintro e v4 ⟨rfl, kk⟩
  have hD := hD.next kk
  clear kk
  (try simp only [])
  refine hK.out _ _ (hD.pair.b.blk) (fun hS3 => ?_)
  clear hK K
  (try simp only [Act.put]); (try simp only [List.setIfInBounds_toArray]); (repeat (first | simp only [List.set_cons_succ] | simp only [List.set_cons_zero]))
  refine wpTo_take (i := 5) (v := ?v5q) (show _ = some _ by simp only [List.getElem?_toArray, List.getElem?_cons_succ, List.getElem?_cons_zero]; exact rfl) (by kernel_rfl) (by kernel_rfl) (by kernel_rfl) (by kernel_rfl) (by exact fun _ _ _ h => h) (Or.inl ⟨by rfl, ?hy5q⟩) hS3 ?r5q
  case hy5q => (intro w hSw; (try dsimp only at hSw); go_simp; try with_reducible rfl)
  (try simp only [Act.put]); (try simp only [List.setIfInBounds_toArray]); (repeat (first | simp only [List.set_cons_succ] | simp only [List.set_cons_zero]))
  refine wpTo_take (i := 6) (v := ?v6q) (show _ = some _ by simp only [List.getElem?_toArray, List.getElem?_cons_succ, List.getElem?_cons_zero]; exact rfl) (by kernel_rfl) (by kernel_rfl) (by kernel_rfl) (by kernel_rfl) (by exact fun _ _ _ h => h) (Or.inl ⟨by rfl, ?hy6q⟩) hS3 ?r6q
  case hy6q => (intro w hSw; (try dsimp only at hSw); go_simp; try with_reducible rfl)
  (try simp only [Act.put]); (try simp only [List.setIfInBounds_toArray]); (repeat (first | simp only [List.set_cons_succ] | simp only [List.set_cons_zero]))
  refine wpTo_take (i := 7) (v := ?v7q) (show _ = some _ by simp only [List.getElem?_toArray, List.getElem?_cons_succ, List.getElem?_cons_zero]; exact rfl) (by kernel_rfl) (by kernel_rfl) (by kernel_rfl) (by kernel_rfl) (by exact fun _ _ _ h => h) (Or.inl ⟨by rfl, ?hy7q⟩) hS3 ?r7q
  case hy7q => (intro w hSw; (try dsimp only at hSw); go_simp; try with_reducible rfl)
  (try simp only [Act.put]); (try simp only [List.setIfInBounds_toArray]); (repeat (first | simp only [List.set_cons_succ] | simp only [List.set_cons_zero]))
  refine wpTo_take (i := 8) (v := ?v8q) (show _ = some _ by simp only [List.getElem?_toArray, List.getElem?_cons_succ, List.getElem?_cons_zero]; exact rfl) (by kernel_rfl) (by kernel_rfl) (by kernel_rfl) (by kernel_rfl) (by exact fun _ _ _ h => h) (Or.inl ⟨by rfl, ?hy8q⟩) hS3 ?r8q
  case hy8q => (intro w hSw; (try dsimp only at hSw); go_simp; try with_reducible rfl)
  (try simp only [Act.put]); (try simp only [List.setIfInBounds_toArray]); (repeat (first | simp only [List.set_cons_succ] | simp only [List.set_cons_zero]))
  refine wpTo_take (i := 9) (v := ?v9q) (show _ = some _ by simp only [List.getElem?_toArray, List.getElem?_cons_succ, List.getElem?_cons_zero]; exact rfl) (by kernel_rfl) (by kernel_rfl) (by kernel_rfl) (by kernel_rfl) (by exact fun _ _ _ h => h) (Or.inl ⟨by rfl, ?hy9q⟩) hS3 ?r9q
  case hy9q => (intro w hSw; (try dsimp only at hSw); go_simp; try with_reducible rfl)
  (try simp only [Act.put]); (try simp only [List.setIfInBounds_toArray]); (repeat (first | simp only [List.set_cons_succ] | simp only [List.set_cons_zero]))
  refine wpTo_take (i := 10) (v := ?v10q) (show _ = some _ by simp only [List.getElem?_toArray, List.getElem?_cons_succ, List.getElem?_cons_zero]; exact rfl) (by kernel_rfl) (by kernel_rfl) (by kernel_rfl) (by kernel_rfl) (by exact fun _ _ _ h => h) (Or.inl ⟨by rfl, ?hy10q⟩) hS3 ?r10q
  case hy10q => (intro w hSw; (try dsimp only at hSw); have hc0 := Blk.cell hSw 0 _ rfl; have hc3 := Blk.cell hSw 3 _ rfl; have hc5 := Blk.cell hSw 5 _ rfl; have hc6 := Blk.cell hSw 6 _ rfl; go_simp; try with_reducible rfl)
  (try simp only [Act.put]); (try simp only [List.setIfInBounds_toArray]); (repeat (first | simp only [List.set_cons_succ] | simp only [List.set_cons_zero]))
  refine wpTo_take (i := 11) (v := ?v11q) (show _ = some _ by simp only [List.getElem?_toArray, List.getElem?_cons_succ, List.getElem?_cons_zero]; exact rfl) (by kernel_rfl) (by kernel_rfl) (by kernel_rfl) (by kernel_rfl) (by exact fun _ _ _ h => h) (Or.inl ⟨by rfl, ?hy11q⟩) hS3 ?r11q
  case hy11q => (intro w hSw; (try dsimp only at hSw); go_simp; try with_reducible rfl)
  (try simp only [Act.put]); (try simp only [List.setIfInBounds_toArray]); (repeat (first | simp only [List.set_cons_succ] | simp only [List.set_cons_zero]))
  refine wpTo_take (i := 12) (v := ?v12q) (show _ = some _ by simp only [List.getElem?_toArray, List.getElem?_cons_succ, List.getElem?_cons_zero]; exact rfl) (by kernel_rfl) (by kernel_rfl) (by kernel_rfl) (by kernel_rfl) (by exact fun _ _ _ h => h) (Or.inl ⟨by rfl, ?hy12q⟩) hS3 ?r12q
  case hy12q => (intro w hSw; (try dsimp only at hSw); go_simp; try with_reducible rfl)
  (try simp only [Act.put]); (try simp only [List.setIfInBounds_toArray]); (repeat (first | simp only [List.set_cons_succ] | simp only [List.set_cons_zero]))
  refine wpTo_take (i := 13) (v := ?v13q) (show _ = some _ by simp only [List.getElem?_toArray, List.getElem?_cons_succ, List.getElem?_cons_zero]; exact rfl) (by kernel_rfl) (by kernel_rfl) (by kernel_rfl) (by kernel_rfl) (by exact fun _ _ _ h => h) (Or.inl ⟨by rfl, ?hy13q⟩) hS3 ?r13q
  case hy13q => (intro w hSw; (try dsimp only at hSw); go_simp; try with_reducible rfl)
  (try simp only [Act.put]); (try simp only [List.setIfInBounds_toArray]); (repeat (first | simp only [List.set_cons_succ] | simp only [List.set_cons_zero]))
  refine wpTo_take (i := 14) (v := ?v14q) (show _ = some _ by simp only [List.getElem?_toArray, List.getElem?_cons_succ, List.getElem?_cons_zero]; exact rfl) (by kernel_rfl) (by kernel_rfl) (by kernel_rfl) (by kernel_rfl) (by exact fun _ _ _ h => h) (Or.inl ⟨by rfl, ?hy14q⟩) hS3 ?r14q
  case hy14q => (intro w hSw; (try dsimp only at hSw); go_simp; try with_reducible rfl)
  (try simp only [Act.put]); (try simp only [List.setIfInBounds_toArray]); (repeat (first | simp only [List.set_cons_succ] | simp only [List.set_cons_zero]))
  refine wpTo_take (i := 15) (v := ?v15q) (show _ = some _ by simp only [List.getElem?_toArray, List.getElem?_cons_succ, List.getElem?_cons_zero]; exact rfl) (by kernel_rfl) (by kernel_rfl) (by kernel_rfl) (by kernel_rfl) (by exact fun _ _ _ h => h) (Or.inl ⟨by rfl, ?hy15q⟩) hS3 ?r15q
  case hy15q => (intro w hSw; (try dsimp only at hSw); go_simp; try with_reducible rfl)
  (try simp only [Act.put]); (try simp only [List.setIfInBounds_toArray]); (repeat (first | simp only [List.set_cons_succ] | simp only [List.set_cons_zero]))
  refine wpTo_take (i := 16) (v := ?v16q) (show _ = some _ by simp only [List.getElem?_toArray, List.getElem?_cons_succ, List.getElem?_cons_zero]; exact rfl) (by kernel_rfl) (by kernel_rfl) (by kernel_rfl) (by kernel_rfl) (by exact fun _ _ _ h => h) (Or.inl ⟨by rfl, ?hy16q⟩) hS3 ?r16q
  case hy16q => (intro w hSw; (try dsimp only at hSw); go_simp; try with_reducible rfl)
  (try simp only [Act.put]); (try simp only [List.setIfInBounds_toArray]); (repeat (first | simp only [List.set_cons_succ] | simp only [List.set_cons_zero]))
  refine wpTo_take (i := 17) (v := ?v17q) (show _ = some _ by simp only [List.getElem?_toArray, List.getElem?_cons_succ, List.getElem?_cons_zero]; exact rfl) (by kernel_rfl) (by kernel_rfl) (by kernel_rfl) (by kernel_rfl) (by exact fun _ _ _ h => h) (Or.inl ⟨by rfl, ?hy17q⟩) hS3 ?r17q
  case hy17q => (intro w hSw; (try dsimp only at hSw); go_simp; try with_reducible rfl)
  (try simp only [Act.put]); (try simp only [List.setIfInBounds_toArray]); (repeat (first | simp only [List.set_cons_succ] | simp only [List.set_cons_zero]))
  refine wpTo_take (i := 18) (v := ?v18q) (show _ = some _ by simp only [List.getElem?_toArray, List.getElem?_cons_succ, List.getElem?_cons_zero]; exact rfl) (by kernel_rfl) (by kernel_rfl) (by kernel_rfl) (by kernel_rfl) (by exact fun _ _ _ h => h) (Or.inl ⟨by rfl, ?hy18q⟩) hS3 ?r18q
  case hy18q => (intro w hSw; (try dsimp only at hSw); have hc0 := Blk.cell hSw 0 _ rfl; have hc3 := Blk.cell hSw 3 _ rfl; have hc5 := Blk.cell hSw 5 _ rfl; have hc6 := Blk.cell hSw 6 _ rfl; go_simp; try with_reducible rfl)
  (try simp only [Act.put]); (try simp only [List.setIfInBounds_toArray]); (repeat (first | simp only [List.set_cons_succ] | simp only [List.set_cons_zero]))
  refine wpTo_take (i := 19) (v := ?v19q) (show _ = some _ by simp only [List.getElem?_toArray, List.getElem?_cons_succ, List.getElem?_cons_zero]; exact rfl) (by kernel_rfl) (by kernel_rfl) (by kernel_rfl) (by kernel_rfl) (by exact fun _ _ _ h => h) (Or.inl ⟨by rfl, ?hy19q⟩) hS3 ?r19q
  case hy19q => (intro w hSw; (try dsimp only at hSw); go_simp; try with_reducible rfl)
  (try simp only [Act.put]); (try simp only [List.setIfInBounds_toArray]); (repeat (first | simp only [List.set_cons_succ] | simp only [List.set_cons_zero]))
  refine wpTo_take (i := 20) (v := ?v20q) (show _ = some _ by simp only [List.getElem?_toArray, List.getElem?_cons_succ, List.getElem?_cons_zero]; exact rfl) (by kernel_rfl) (by kernel_rfl) (by kernel_rfl) (by kernel_rfl) (by exact fun _ _ _ h => h) (Or.inl ⟨by rfl, ?hy20q⟩) hS3 ?r20q
  case hy20q => (intro w hSw; (try dsimp only at hSw); go_simp; try with_reducible rfl)
  (try simp only [Act.put]); (try simp only [List.setIfInBounds_toArray]); (repeat (first | simp only [List.set_cons_succ] | simp only [List.set_cons_zero]))
  refine wpTo_take (i := 21) (v := ?v21q) (show _ = some _ by simp only [List.getElem?_toArray, List.getElem?_cons_succ, List.getElem?_cons_zero]; exact rfl) (by kernel_rfl) (by kernel_rfl) (by kernel_rfl) (by kernel_rfl) (by exact fun _ _ _ h => h) (Or.inl ⟨by rfl, ?hy21q⟩) hS3 ?r21q
  case hy21q => (intro w hSw; (try dsimp only at hSw); go_simp; try with_reducible rfl)
  (try simp only [Act.put]); (try simp only [List.setIfInBounds_toArray]); (repeat (first | simp only [List.set_cons_succ] | simp only [List.set_cons_zero]))
  refine wpTo_take (i := 22) (v := ?v22q) (show _ = some _ by simp only [List.getElem?_toArray, List.getElem?_cons_succ, List.getElem?_cons_zero]; exact rfl) (by kernel_rfl) (by kernel_rfl) (by kernel_rfl) (by kernel_rfl) (by exact fun _ _ _ h => h) (Or.inl ⟨by rfl, ?hy22q⟩) hS3 ?r22q
  case hy22q => (intro w hSw; (try dsimp only at hSw); go_simp; try with_reducible rfl)
  (try simp only [Act.put]); (try simp only [List.setIfInBounds_toArray]); (repeat (first | simp only [List.set_cons_succ] | simp only [List.set_cons_zero]))
  refine wpTo_take (i := 24) (v := ?v24q) (show _ = some _ by simp only [List.getElem?_toArray, List.getElem?_cons_succ, List.getElem?_cons_zero]; exact rfl) (by kernel_rfl) (by kernel_rfl) (by kernel_rfl) (by kernel_rfl) (by exact fun _ _ _ h => h) (Or.inl ⟨by rfl, ?hy24q⟩) hS3 ?r24q
  case hy24q => (intro w hSw; (try dsimp only at hSw); go_simp; try with_reducible rfl)
  (try simp only [Act.put]); (try simp only [List.setIfInBounds_toArray]); (repeat (first | simp only [List.set_cons_succ] | simp only [List.set_cons_zero]))
  refine wpTo_take (i := 25) (v := ?v25q) (show _ = some _ by simp only [List.getElem?_toArray, List.getElem?_cons_succ, List.getElem?_cons_zero]; exact rfl) (by kernel_rfl) (by kernel_rfl) (by kernel_rfl) (by kernel_rfl) (by exact fun _ _ _ h => h) (Or.inl ⟨by rfl, ?hy25q⟩) hS3 ?r25q
  case hy25q => (intro w hSw; (try dsimp only at hSw); go_simp; try with_reducible rfl)
  (try simp only [Act.put]); (try simp only [List.setIfInBounds_toArray]); (repeat (first | simp only [List.set_cons_succ] | simp only [List.set_cons_zero]))
  refine wpTo_take (i := 26) (v := ?v26q) (show _ = some _ by simp only [List.getElem?_toArray, List.getElem?_cons_succ, List.getElem?_cons_zero]; exact rfl) (by kernel_rfl) (by kernel_rfl) (by kernel_rfl) (by kernel_rfl) (by exact fun _ _ _ h => h) (Or.inl ⟨by rfl, ?hy26q⟩) hS3 ?r26q
  case hy26q => (intro w hSw; (try dsimp only at hSw); go_simp; try with_reducible rfl)
  (try simp only [Act.put]); (try simp only [List.setIfInBounds_toArray]); (repeat (first | simp only [List.set_cons_succ] | simp only [List.set_cons_zero]))
  refine wpTo_take (i := 27) (v := ?v27q) (show _ = some _ by simp only [List.getElem?_toArray, List.getElem?_cons_succ, List.getElem?_cons_zero]; exact rfl) (by kernel_rfl) (by kernel_rfl) (by kernel_rfl) (by kernel_rfl) (by exact fun _ _ _ h => h) (Or.inl ⟨by rfl, ?hy27q⟩) hS3 ?r27q
  case hy27q => (intro w hSw; (try dsimp only at hSw); have hc0 := Blk.cell hSw 0 _ rfl; have hc3 := Blk.cell hSw 3 _ rfl; have hc5 := Blk.cell hSw 5 _ rfl; have hc6 := Blk.cell hSw 6 _ rfl; go_simp; try with_reducible rfl)
  (try simp only [Act.put]); (try simp only [List.setIfInBounds_toArray]); (repeat (first | simp only [List.set_cons_succ] | simp only [List.set_cons_zero]))
  refine wpTo_one (i := 23) (by kernel_rfl) (show _ = some _ by simp only [List.getElem?_toArray, List.getElem?_cons_succ, List.getElem?_cons_zero]; exact rfl) (fun K hK => ?_)
  go_simp
  go_at_call 20; refine (dead_any _ r f m cap d hD.pair.a).mono ?_; rintro e w' ⟨rfl, rfl⟩
  (try simp only [])
  refine hK.out _ _ (hD.pair.b.blk) (fun hS4 => ?_)
  clear hK K
  (try simp only [Act.put]); (try simp only [List.setIfInBounds_toArray]); (repeat (first | simp only [List.set_cons_succ] | simp only [List.set_cons_zero]))
  refine wpTo_take (i := 28) (v := ?v28q) (show _ = some _ by simp only [List.getElem?_toArray, List.getElem?_cons_succ, List.getElem?_cons_zero]; exact rfl) (by kernel_rfl) (by kernel_rfl) (by kernel_rfl) (by kernel_rfl) (by exact fun _ _ _ h => h) (Or.inl ⟨by rfl, ?hy28q⟩) hS4 ?r28q
  case hy28q => (intro w hSw; (try dsimp only at hSw); go_simp; try with_reducible rfl)
  (try simp only [Act.put]); (try simp only [List.setIfInBounds_toArray]); (repeat (first | simp only [List.set_cons_succ] | simp only [List.set_cons_zero]))
  refine wpTo_take (i := 29) (v := ?v29q) (show _ = some _ by simp only [List.getElem?_toArray, List.getElem?_cons_succ, List.getElem?_cons_zero]; exact rfl) (by kernel_rfl) (by kernel_rfl) (by kernel_rfl) (by kernel_rfl) (by exact fun _ _ _ h => h) (Or.inl ⟨by rfl, ?hy29q⟩) hS4 ?r29q
  case hy29q => (intro w hSw; (try dsimp only at hSw); go_simp; try with_reducible rfl)
  (try simp only [Act.put]); (try simp only [List.setIfInBounds_toArray]); (repeat (first | simp only [List.set_cons_succ] | simp only [List.set_cons_zero]))
  refine wpTo_take (i := 30) (v := ?v30q) (show _ = some _ by simp only [List.getElem?_toArray, List.getElem?_cons_succ, List.getElem?_cons_zero]; exact rfl) (by kernel_rfl) (by kernel_rfl) (by kernel_rfl) (by kernel_rfl) (by exact fun _ _ _ h => h) (Or.inl ⟨by rfl, ?hy30q⟩) hS4 ?r30q
  case hy30q => (intro w hSw; (try dsimp only at hSw); go_simp; try with_reducible rfl)
  (try simp only [Act.put]); (try simp only [List.setIfInBounds_toArray]); (repeat (first | simp only [List.set_cons_succ] | simp only [List.set_cons_zero]))
  refine wpTo_take (i := 31) (v := ?v31q) (show _ = some _ by simp only [List.getElem?_toArray, List.getElem?_cons_succ, List.getElem?_cons_zero]; exact rfl) (by kernel_rfl) (by kernel_rfl) (by kernel_rfl) (by kernel_rfl) (by exact fun _ _ _ h => h) (Or.inl ⟨by rfl, ?hy31q⟩) hS4 ?r31q
  case hy31q => (intro w hSw; (try dsimp only at hSw); go_simp; try with_reducible rfl)
  (try simp only [Act.put]); (try simp only [List.setIfInBounds_toArray]); (repeat (first | simp only [List.set_cons_succ] | simp only [List.set_cons_zero]))
  refine wpTo_take (i := 33) (v := ?v33q) (show _ = some _ by simp only [List.getElem?_toArray, List.getElem?_cons_succ, List.getElem?_cons_zero]; exact rfl) (by kernel_rfl) (by kernel_rfl) (by kernel_rfl) (by kernel_rfl) (by exact fun _ _ _ h => h) (Or.inl ⟨by rfl, ?hy33q⟩) hS4 ?r33q
  case hy33q => (intro w hSw; (try dsimp only at hSw); go_simp; try with_reducible rfl)
  (try simp only [Act.put]); (try simp only [List.setIfInBounds_toArray]); (repeat (first | simp only [List.set_cons_succ] | simp only [List.set_cons_zero]))
  refine wpTo_take (i := 34) (v := ?v34q) (show _ = some _ by simp only [List.getElem?_toArray, List.getElem?_cons_succ, List.getElem?_cons_zero]; exact rfl) (by kernel_rfl) (by kernel_rfl) (by kernel_rfl) (by kernel_rfl) (by exact fun _ _ _ h => h) (Or.inl ⟨by rfl, ?hy34q⟩) hS4 ?r34q
  case hy34q => (intro w hSw; (try dsimp only at hSw); go_simp; try with_reducible rfl)
  (try simp only [Act.put]); (try simp only [List.setIfInBounds_toArray]); (repeat (first | simp only [List.set_cons_succ] | simp only [List.set_cons_zero]))
  refine wpTo_take (i := 35) (v := ?v35q) (show _ = some _ by simp only [List.getElem?_toArray, List.getElem?_cons_succ, List.getElem?_cons_zero]; exact rfl) (by kernel_rfl) (by kernel_rfl) (by kernel_rfl) (by kernel_rfl) (by exact fun _ _ _ h => h) (Or.inl ⟨by rfl, ?hy35q⟩) hS4 ?r35q
  case hy35q => (intro w hSw; (try dsimp only at hSw); go_simp; try with_reducible rfl)
  (try simp only [Act.put]); (try simp only [List.setIfInBounds_toArray]); (repeat (first | simp only [List.set_cons_succ] | simp only [List.set_cons_zero]))
  refine wpTo_take (i := 36) (v := ?v36q) (show _ = some _ by simp only [List.getElem?_toArray, List.getElem?_cons_succ, List.getElem?_cons_zero]; exact rfl) (by kernel_rfl) (by kernel_rfl) (by kernel_rfl) (by kernel_rfl) (by exact fun _ _ _ h => h) (Or.inl ⟨by rfl, ?hy36q⟩) hS4 ?r36q
  case hy36q => (intro w hSw; (try dsimp only at hSw); have hc0 := Blk.cell hSw 0 _ rfl; have hc3 := Blk.cell hSw 3 _ rfl; have hc5 := Blk.cell hSw 5 _ rfl; have hc6 := Blk.cell hSw 6 _ rfl; go_simp; try with_reducible rfl)
  (try simp only [Act.put]); (try simp only [List.setIfInBounds_toArray]); (repeat (first | simp only [List.set_cons_succ] | simp only [List.set_cons_zero]))
  refine wpTo_take (i := 37) (v := ?v37q) (show _ = some _ by simp only [List.getElem?_toArray, List.getElem?_cons_succ, List.getElem?_cons_zero]; exact rfl) (by kernel_rfl) (by kernel_rfl) (by kernel_rfl) (by kernel_rfl) (by exact fun _ _ _ h => h) (Or.inl ⟨by rfl, ?hy37q⟩) hS4 ?r37q
  case hy37q => (intro w hSw; (try dsimp only at hSw); go_simp; try with_reducible rfl)
  (try simp only [Act.put]); (try simp only [List.setIfInBounds_toArray]); (repeat (first | simp only [List.set_cons_succ] | simp only [List.set_cons_zero]))
  refine wpTo_one (i := 32) (by kernel_rfl) (show _ = some _ by simp only [List.getElem?_toArray, List.getElem?_cons_succ, List.getElem?_cons_zero]; exact rfl) (fun K hK => ?_)
  go_simp
  go_at_call 30; refine (size_any _ r f m cap d hD.pair.a).mono ?_; rintro e w' ⟨rfl, rfl⟩
  (try simp only [])
  refine hK.out _ _ (hD.pair.b.blk) (fun hS5 => ?_)
  clear hK K
  (try simp only [Act.put]); (try simp only [List.setIfInBounds_toArray]); (repeat (first | simp only [List.set_cons_succ] | simp only [List.set_cons_zero]))
  refine wpTo_take (i := 38) (v := ?v38q) (show _ = some _ by simp only [List.getElem?_toArray, List.getElem?_cons_succ, List.getElem?_cons_zero]; exact rfl) (by kernel_rfl) (by kernel_rfl) (by kernel_rfl) (by kernel_rfl) (by exact fun _ _ _ h => h) (Or.inl ⟨by rfl, ?hy38q⟩) hS5 ?r38q
  case hy38q => (intro w hSw; (try dsimp only at hSw); go_simp; try with_reducible rfl)
  (try simp only [Act.put]); (try simp only [List.setIfInBounds_toArray]); (repeat (first | simp only [List.set_cons_succ] | simp only [List.set_cons_zero]))
  refine wpTo_take (i := 39) (v := ?v39q) (show _ = some _ by simp only [List.getElem?_toArray, List.getElem?_cons_succ, List.getElem?_cons_zero]; exact rfl) (by kernel_rfl) (by kernel_rfl) (by kernel_rfl) (by kernel_rfl) (by exact fun _ _ _ h => h) (Or.inl ⟨by rfl, ?hy39q⟩) hS5 ?r39q
  case hy39q => (intro w hSw; (try dsimp only at hSw); go_simp; try with_reducible rfl)
  (try simp only [Act.put]); (try simp only [List.setIfInBounds_toArray]); (repeat (first | simp only [List.set_cons_succ] | simp only [List.set_cons_zero]))
  refine wpTo_take (i := 40) (v := ?v40q) (show _ = some _ by simp only [List.getElem?_toArray, List.getElem?_cons_succ, List.getElem?_cons_zero]; exact rfl) (by kernel_rfl) (by kernel_rfl) (by kernel_rfl) (by kernel_rfl) (by exact fun _ _ _ h => h) (Or.inl ⟨by rfl, ?hy40q⟩) hS5 ?r40q
  case hy40q => (intro w hSw; (try dsimp only at hSw); go_simp; try with_reducible rfl)
  (try simp only [Act.put]); (try simp only [List.setIfInBounds_toArray]); (repeat (first | simp only [List.set_cons_succ] | simp only [List.set_cons_zero]))
  refine wpTo_done (by kernel_rfl) ?_
  go_wp2_with fail
  go_ret
  exact ⟨rfl, hD.did⟩
set_option maxRecDepth 100000 in
set_option maxHeartbeats 4000000 in
theorem does_look (B : Nat) (w : World) (r f m cap q x y z : Nat) (d : St) (hP : Pair B w r f m cap d q x y z d) (hB : B ≤ w.heap.size) (i : Int) (t : ByteArray) (ao : Option Addr) (n c : Nat) :
    Calls Try.prog 13 #[.pointer (some ⟨r, 0, none⟩), .pointer (some ⟨q, 0, none⟩), .agg (oc 8 i t ao n c).toArray] w fun e w' => e = .returned (.bool true) ∧ Did B w w' r f cap q x y z d := by
  have hD := DS.start hP hB (oc 8 i t ao n c)
  have k0 := hD.blk.cell 0 _ rfl
  have k1 := hD.blk.cell 1 _ rfl
  have k2 := hD.blk.cell 2 _ rfl
  have k3 := hD.blk.cell 3 _ rfl
  go_enter Try.func13, Try.ntmps13
  clear k0 k1 k2 k3
  have k0 := hD.blk.cell 0 _ rfl
  go_wp2_with fail
  clear k0
  obtain ⟨v0, hv0⟩ : ∃ u, u = w.alloc (.cells (oc 8 i t ao n c).toArray 34) := ⟨_, rfl⟩
  rw [← hv0] at hD ⊢
  clear hv0
  refine wp_region_to (fun v => Blk v q 47 (rc x y z d)) 8 (by kernel_rfl) ?_
  have hS0 := hD.drew.pair.b.blk
  have hD := hD.drew
  refine wpTo_take (i := 0) (v := ?v0q) (show _ = some _ by simp only [List.getElem?_toArray, List.getElem?_cons_zero]; exact rfl) (by kernel_rfl) (by kernel_rfl) (by kernel_rfl) (by kernel_rfl) (by exact fun _ _ _ h => h) (Or.inl ⟨by rfl, ?hy0q⟩) hS0 ?r0q
  case hy0q => (intro w hSw; (try dsimp only at hSw); go_simp; try with_reducible rfl)
  (try simp only [Act.put]); (try simp only [List.setIfInBounds_toArray]); (repeat (first | simp only [List.set_cons_succ] | simp only [List.set_cons_zero]))
  refine wpTo_take (i := 2) (v := ?v2q) (show _ = some _ by simp only [List.getElem?_toArray, List.getElem?_cons_succ, List.getElem?_cons_zero]; exact rfl) (by kernel_rfl) (by kernel_rfl) (by kernel_rfl) (by kernel_rfl) (by exact fun _ _ _ h => h) (Or.inl ⟨by rfl, ?hy2q⟩) hS0 ?r2q
  case hy2q => (intro w hSw; (try dsimp only at hSw); go_simp; try with_reducible rfl)
  (try simp only [Act.put]); (try simp only [List.setIfInBounds_toArray]); (repeat (first | simp only [List.set_cons_succ] | simp only [List.set_cons_zero]))
  refine wpTo_take (i := 3) (v := ?v3q) (show _ = some _ by simp only [List.getElem?_toArray, List.getElem?_cons_succ, List.getElem?_cons_zero]; exact rfl) (by kernel_rfl) (by kernel_rfl) (by kernel_rfl) (by kernel_rfl) (by exact fun _ _ _ h => h) (Or.inl ⟨by rfl, ?hy3q⟩) hS0 ?r3q
  case hy3q => (intro w hSw; (try dsimp only at hSw); go_simp; try with_reducible rfl)
  (try simp only [Act.put]); (try simp only [List.setIfInBounds_toArray]); (repeat (first | simp only [List.set_cons_succ] | simp only [List.set_cons_zero]))
  refine wpTo_take (i := 4) (v := ?v4q) (show _ = some _ by simp only [List.getElem?_toArray, List.getElem?_cons_succ, List.getElem?_cons_zero]; exact rfl) (by kernel_rfl) (by kernel_rfl) (by kernel_rfl) (by kernel_rfl) (by exact fun _ _ _ h => h) (Or.inl ⟨by rfl, ?hy4q⟩) hS0 ?r4q
  case hy4q => (intro w hSw; (try dsimp only at hSw); go_simp; try with_reducible rfl)
  (try simp only [Act.put]); (try simp only [List.setIfInBounds_toArray]); (repeat (first | simp only [List.set_cons_succ] | simp only [List.set_cons_zero]))
  refine wpTo_take (i := 5) (v := ?v5q) (show _ = some _ by simp only [List.getElem?_toArray, List.getElem?_cons_succ, List.getElem?_cons_zero]; exact rfl) (by kernel_rfl) (by kernel_rfl) (by kernel_rfl) (by kernel_rfl) (by exact fun _ _ _ h => h) (Or.inl ⟨by rfl, ?hy5q⟩) hS0 ?r5q
  case hy5q => (intro w hSw; (try dsimp only at hSw); have hc0 := Blk.cell hSw 0 _ rfl; have hc3 := Blk.cell hSw 3 _ rfl; have hc5 := Blk.cell hSw 5 _ rfl; have hc6 := Blk.cell hSw 6 _ rfl; go_simp; try with_reducible rfl)
  (try simp only [Act.put]); (try simp only [List.setIfInBounds_toArray]); (repeat (first | simp only [List.set_cons_succ] | simp only [List.set_cons_zero]))
  refine wpTo_one (i := 1) (by kernel_rfl) (show _ = some _ by simp only [List.getElem?_toArray, List.getElem?_cons_succ, List.getElem?_cons_zero]; exact rfl) (fun K hK => ?_)
  go_simp
  go_at_call 17; refine (sectors_any _ r f m cap d hD.pair.a).mono ?_; rintro e v2 ⟨g2, c2, rfl, -, r2, kk⟩
  have hD := hD.next kk
  clear kk
  (try simp only [])
  refine hK.out _ _ (hD.pair.b.blk) (fun hS1 => ?_)
  clear hK K
  (try simp only [Act.put]); (try simp only [List.setIfInBounds_toArray]); (repeat (first | simp only [List.set_cons_succ] | simp only [List.set_cons_zero]))
  refine wpTo_one (i := 6) (by kernel_rfl) (show _ = some _ by simp only [List.getElem?_toArray, List.getElem?_cons_succ, List.getElem?_cons_zero]; exact rfl) (fun K hK => ?_)
  go_simp
  go_at_call 18; refine (eqSectors_same _ g2 x d.n c2 d.n d.lasts r2 hD.pair.b.row hD.pair.a.top).mono ?_; rintro e v3 ⟨rfl, kk⟩
  have hD := hD.next kk
  clear kk
  (try simp only [])
  refine hK.out _ _ (hD.pair.b.blk) (fun hS2 => ?_)
  clear hK K
  (try simp only [Act.put]); (try simp only [List.setIfInBounds_toArray]); (repeat (first | simp only [List.set_cons_succ] | simp only [List.set_cons_zero]))
  refine wpTo_take (i := 7) (v := ?v7q) (show _ = some _ by simp only [List.getElem?_toArray, List.getElem?_cons_succ, List.getElem?_cons_zero]; exact rfl) (by kernel_rfl) (by kernel_rfl) (by kernel_rfl) (by kernel_rfl) (by exact fun _ _ _ h => h) (Or.inl ⟨by rfl, ?hy7q⟩) hS2 ?r7q
  case hy7q => (intro w hSw; (try dsimp only at hSw); go_simp; try with_reducible rfl)
  (try simp only [Act.put]); (try simp only [List.setIfInBounds_toArray]); (repeat (first | simp only [List.set_cons_succ] | simp only [List.set_cons_zero]))
  refine wpTo_done (by kernel_rfl) ?_
  go_wp2_with fail
  go_ret
  exact ⟨rfl, hD.did⟩
/-- One op done by both: they answer alike. -/
theorem does_any (B : Nat) (w : World) (r f m cap q x y z : Nat) (d : St) (hP : Pair B w r f m cap d q x y z d) (hB : B ≤ w.heap.size) (o i : Int) (t : ByteArray) (ao : Option Addr) (n c : Nat) (xs : List Int)
    (ht : t.size ≤ maxLen) (hi : i < 9223372036854775808) (hx : Ints w ao n xs) (hlow : ∀ ad, ao = some ad → 0 < n → ad.block < B) (hnb : ao = none → c = 0) (hn : n ≤ 17592186043904) (hw : d.writes < 1000000000) (hf : d.flushes < 1000000000) :
    Calls Try.prog 13 #[.pointer (some ⟨r, 0, none⟩), .pointer (some ⟨q, 0, none⟩), .agg (oc o i t ao n c).toArray] w fun e w' => e = .returned (.bool true) ∧ Did B w w' r f cap q x y z (d.act o i t xs) := by
  by_cases h1 : o = 1
  · subst h1
    exact does_write B w r f m cap q x y z d hP hB i t ao n c ht hw
  · by_cases h2 : o = 2
    · subst h2
      exact does_flush B w r f m cap q x y z d hP hB i t ao n c hf
    · by_cases h3 : o = 3
      · subst h3
        exact does_read B w r f m cap q x y z d hP hB i t ao n c
      · by_cases h4 : o = 4
        · subst h4
          exact does_arm B w r f m cap q x y z d hP hB i t ao n c hi
        · by_cases h5 : o = 5
          · subst h5
            exact does_off B w r f m cap q x y z d hP hB i t ao n c
          · by_cases h6 : o = 6
            · subst h6
              exact does_on B w r f m cap q x y z d hP hB i t ao n c xs hx hlow hnb hn
            · by_cases h7 : o = 7
              · subst h7
                exact does_ask B w r f m cap q x y z d hP hB i t ao n c (by omega)
              · by_cases h8 : o = 8
                · subst h8
                  exact does_look B w r f m cap q x y z d hP hB i t ao n c
                · have e : d.act o i t xs = d := by
                    unfold St.act
                    rw [if_neg h1, if_neg h2, if_neg h4, if_neg h5, if_neg h6]
                  rw [e]
                  exact does_none B w r f m cap q x y z d hP hB o i t ao n c h1 h2 h3 h4 h5 h6 h7 h8
end Go.Proofs.Yteimfnnkjhopdaa
