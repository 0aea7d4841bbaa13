/- A disk and the document's, side by side. -/
import Derived.Test.YteimfnnkjhopdaaRTwin
namespace Go.Proofs.Yteimfnnkjhopdaa
open Go.RowKit

/-- A disk and the document's, apart from one another, all of whose blocks lie above B. -/
structure Pair (B : Nat) (w : World) (r f m cap : Nat) (da : St) (q x y z : Nat) (db : St) : Prop where
  a : Lay w r f m cap da
  b : RLay w q x y z db
  dis : ∀ k, fp r f m k → ¬ rfp q x y z k
  ga : ∀ k, fp r f m k → B ≤ k
  gb : ∀ k, rfp q x y z k → B ≤ k
section
variable {B : Nat} {w w' : World} {r f m cap q x y z : Nat} {da db d : St}
theorem Pair.next (h : Pair B w r f m cap da q x y z db) (hb : Below w.heap.size w w') : Pair B w' r f m cap da q x y z db := ⟨h.a.next hb, h.b.next hb, h.dis, h.ga, h.gb⟩
theorem Pair.turnA (h : Pair B w r f m cap da q x y z db) (hT : Turn w w' r f m cap d) (hB : B ≤ w.heap.size) : ∃ m', Pair B w' r f m' cap d q x y z db ∧ Fr (fp r f m) w w' ∧ Below B w w' ∧ (m' = m ∨ w.heap.size ≤ m') := by
  obtain ⟨m', hm, hL, hF⟩ := hT
  have ht := fp_turn (r := r) (f := f) hm
  have hlt := h.b.lt
  refine ⟨m', ⟨hL, h.b.fr hF h.dis, fun k hk hkb => ?_, fun k hk => ?_, h.gb⟩, hF, hF.below h.ga hB, hm⟩
  · rcases ht k hk with h1 | h1
    · exact h.dis k h1 hkb
    · have := hlt k hkb; omega
  · rcases ht k hk with h1 | h1
    · exact h.ga k h1
    · omega
theorem Pair.turnB (h : Pair B w r f m cap da q x y z db) (hT : RTurn w w' q x y z d) (hB : B ≤ w.heap.size) : Pair B w' r f m cap da q x y z d ∧ Fr (rfp q x y z) w w' ∧ Below B w w' :=
  ⟨⟨h.a.fr hT.2 (fun k hk hka => h.dis k hka hk), hT.1, h.dis, h.ga, h.gb⟩, hT.2, hT.2.below h.gb hB⟩
end
/-- What holds while an op is done by both. -/
structure DS (B : Nat) (w0 w : World) (r f m cap : Nat) (da : St) (q x y z : Nat) (db : St) (g : Nat) (os : List Value) : Prop where
  pair : Pair B w r f m cap da q x y z db
  blk : Blk w g 34 os
  na : ¬ fp r f m g
  nb : ¬ rfp q x y z g
  below : Below B w0 w
  size : B ≤ w.heap.size
section
variable {B : Nat} {w0 w w' : World} {r f m cap q x y z g : Nat} {da db d : St} {os : List Value}
theorem DS.next (h : DS B w0 w r f m cap da q x y z db g os) (hb : Below w.heap.size w w') : DS B w0 w' r f m cap da q x y z db g os :=
  ⟨h.pair.next hb, h.blk.next hb, h.na, h.nb, h.below.trans (hb.mono h.size), Nat.le_trans h.size hb.size⟩
theorem DS.drew (h : DS B w0 w r f m cap da q x y z db g os) : DS B w0 w.drew r f m cap da q x y z db g os := h.next (below_drewN (Below.refl _ w) 1)
theorem DS.turnA (h : DS B w0 w r f m cap da q x y z db g os) (hT : Turn w w' r f m cap d) : ∃ m', DS B w0 w' r f m' cap d q x y z db g os ∧ Fr (fp r f m) w w' ∧ (m' = m ∨ w.heap.size ≤ m') := by
  obtain ⟨m', h1, h2, h3, h4⟩ := h.pair.turnA hT h.size
  exact ⟨m', ⟨h1, h.blk.fr h2 h.na, off_turn h.na h4 h.blk.lt, h.nb, h.below.trans h3, Nat.le_trans h.size h3.size⟩, h2, h4⟩
theorem DS.turnB (h : DS B w0 w r f m cap da q x y z db g os) (hT : RTurn w w' q x y z d) : DS B w0 w' r f m cap da q x y z d g os ∧ Fr (rfp q x y z) w w' := by
  obtain ⟨h1, h2, h3⟩ := h.pair.turnB hT h.size
  exact ⟨⟨h1, h.blk.fr h2 h.nb, h.na, h.nb, h.below.trans h3, Nat.le_trans h.size h3.size⟩, h2⟩
theorem DS.start (h : Pair B w r f m cap d q x y z d) (hB : B ≤ w.heap.size) (os : List Value) : DS B w (w.alloc (.cells os.toArray 34)) r f m cap d q x y z d w.heap.size os :=
  have kk : Below w.heap.size w (w.alloc (.cells os.toArray 34)) := (Below.refl _ w).alloc (Nat.le_refl _) _
  ⟨h.next kk, Blk.new w 34 os, fun hx => by have := fp_lt h.a _ hx; omega, fun hx => by have := h.b.lt _ hx; omega, kk.mono hB, Nat.le_trans hB kk.size⟩
end
/-- Behind an op both disks are as d. -/
def Did (B : Nat) (w w' : World) (r f cap q x y z : Nat) (d : St) : Prop := ∃ m', Pair B w' r f m' cap d q x y z d ∧ Below B w w'
theorem DS.did {B : Nat} {w0 w : World} {r f m cap q x y z g : Nat} {d : St} {os : List Value} (h : DS B w0 w r f m cap d q x y z d g os) : Did B w0 w r f cap q x y z d := ⟨m, h.pair, h.below⟩
set_option maxRecDepth 100000 in
set_option maxHeartbeats 4000000 in
theorem does_write (B : Nat) (w : World) (r f m cap q x y z : Nat) (d : St) (hP : Pair B w r f m cap d q x y z d) (hB : B ≤ w.heap.size) (i : Int) (t : ByteArray) (ao : Option Addr) (n c : Nat) (ht : t.size ≤ maxLen) (hw : d.writes < 1000000000) :
    Calls Try.prog 13 #[.pointer (some ⟨r, 0, none⟩), .pointer (some ⟨q, 0, none⟩), .agg (oc 1 i t ao n c).toArray] w fun e w' => e = .returned (.bool true) ∧ Did B w w' r f cap q x y z (d.wr i (textSec t)).1 := by
  have hD := DS.start hP hB (oc 1 i t ao n c)
  have k0 := hD.blk.cell 0 _ rfl
  have k1 := hD.blk.cell 1 _ rfl
  have k2 := hD.blk.cell 2 _ rfl
  have k3 := hD.blk.cell 3 _ rfl
  go_enter Try.func13, Try.ntmps13
  go_wp2_with fail
  obtain ⟨v0, hv0⟩ : ∃ u, u = w.alloc (.cells (oc 1 i t ao n c).toArray 34) := ⟨_, rfl⟩
  obtain ⟨G, hG⟩ : ∃ g, g = w.heap.size := ⟨_, rfl⟩
  rw [← hv0] at hD ⊢
  rw [← hG] at hD ⊢
  clear hv0 hG k0 k1 k2 k3
  refine wp_region_to (fun v => Blk v G 34 (oc 1 i t ao n c)) 8 (by kernel_rfl) ?_
  have hS0 := hD.drew.blk
  have hD := hD.drew
  refine wpTo_take (i := 0) (v := ?v0q) (show _ = some _ by simp only [List.getElem?_toArray, List.getElem?_cons_zero]; exact rfl) (by kernel_rfl) (by kernel_rfl) (by kernel_rfl) (by kernel_rfl) (by exact fun _ _ _ h => h) (Or.inl ⟨by rfl, ?hy0q⟩) hS0 ?r0q
  case hy0q => (intro w hSw; (try dsimp only at hSw); go_simp; try with_reducible rfl)
  (try simp only [Act.put]); (try simp only [List.setIfInBounds_toArray]); (repeat (first | simp only [List.set_cons_succ] | simp only [List.set_cons_zero]))
  refine wpTo_take (i := 1) (v := ?v1q) (show _ = some _ by simp only [List.getElem?_toArray, List.getElem?_cons_succ, List.getElem?_cons_zero]; exact rfl) (by kernel_rfl) (by kernel_rfl) (by kernel_rfl) (by kernel_rfl) (by exact fun _ _ _ h => h) (Or.inl ⟨by rfl, ?hy1q⟩) hS0 ?r1q
  case hy1q => (intro w hSw; (try dsimp only at hSw); go_simp; try with_reducible rfl)
  (try simp only [Act.put]); (try simp only [List.setIfInBounds_toArray]); (repeat (first | simp only [List.set_cons_succ] | simp only [List.set_cons_zero]))
  refine wpTo_take (i := 2) (v := ?v2q) (show _ = some _ by simp only [List.getElem?_toArray, List.getElem?_cons_succ, List.getElem?_cons_zero]; exact rfl) (by kernel_rfl) (by kernel_rfl) (by kernel_rfl) (by kernel_rfl) (by exact fun _ _ _ h => h) (Or.inl ⟨by rfl, ?hy2q⟩) hS0 ?r2q
  case hy2q => (intro w hSw; (try dsimp only at hSw); have hc1 := Blk.cell hSw 1 _ rfl; have hc2 := Blk.cell hSw 2 _ rfl; go_simp; try with_reducible rfl)
  (try simp only [Act.put]); (try simp only [List.setIfInBounds_toArray]); (repeat (first | simp only [List.set_cons_succ] | simp only [List.set_cons_zero]))
  refine wpTo_take (i := 3) (v := ?v3q) (show _ = some _ by simp only [List.getElem?_toArray, List.getElem?_cons_succ, List.getElem?_cons_zero]; exact rfl) (by kernel_rfl) (by kernel_rfl) (by kernel_rfl) (by kernel_rfl) (by exact fun _ _ _ h => h) (Or.inl ⟨by rfl, ?hy3q⟩) hS0 ?r3q
  case hy3q => (intro w hSw; (try dsimp only at hSw); go_simp; try with_reducible rfl)
  (try simp only [Act.put]); (try simp only [List.setIfInBounds_toArray]); (repeat (first | simp only [List.set_cons_succ] | simp only [List.set_cons_zero]))
  refine wpTo_take (i := 4) (v := ?v4q) (show _ = some _ by simp only [List.getElem?_toArray, List.getElem?_cons_succ, List.getElem?_cons_zero]; exact rfl) (by kernel_rfl) (by kernel_rfl) (by kernel_rfl) (by kernel_rfl) (by exact fun _ _ _ h => h) (Or.inl ⟨by rfl, ?hy4q⟩) hS0 ?r4q
  case hy4q => (intro w hSw; (try dsimp only at hSw); have hc1 := Blk.cell hSw 1 _ rfl; have hc2 := Blk.cell hSw 2 _ rfl; go_simp; try with_reducible rfl)
  (try simp only [Act.put]); (try simp only [List.setIfInBounds_toArray]); (repeat (first | simp only [List.set_cons_succ] | simp only [List.set_cons_zero]))
  refine wpTo_one (i := 5) (by kernel_rfl) (show _ = some _ by simp only [List.getElem?_toArray, List.getElem?_cons_succ, List.getElem?_cons_zero]; exact rfl) (fun K hK => ?_)
  go_simp
  go_at_call 14; refine (text_any t ht _).mono ?_; rintro e v5 ⟨rfl, kb⟩
  have hD := hD.next kb
  clear kb
  (try simp only [])
  refine hK.out _ _ (hD.blk) (fun hS1 => ?_)
  clear hK K
  (try simp only [Act.put]); (try simp only [List.setIfInBounds_toArray]); (repeat (first | simp only [List.set_cons_succ] | simp only [List.set_cons_zero]))
  refine wpTo_one (i := 6) (by kernel_rfl) (show _ = some _ by simp only [List.getElem?_toArray, List.getElem?_cons_succ, List.getElem?_cons_zero]; exact rfl) (fun K hK => ?_)
  go_simp
  go_at_call 29; refine (wr_any _ r f m cap d hD.pair.a i (textSec t) hw).mono ?_; rintro e v6 ⟨rfl, hT⟩
  obtain ⟨m, hD, -, -⟩ := hD.turnA hT
  clear hT
  (try simp only [])
  refine hK.out _ _ (hD.blk) (fun hS2 => ?_)
  clear hK K
  (try simp only [Act.put]); (try simp only [List.setIfInBounds_toArray]); (repeat (first | simp only [List.set_cons_succ] | simp only [List.set_cons_zero]))
  refine wpTo_take (i := 7) (v := ?v7q) (show _ = some _ by simp only [List.getElem?_toArray, List.getElem?_cons_succ, List.getElem?_cons_zero]; exact rfl) (by kernel_rfl) (by kernel_rfl) (by kernel_rfl) (by kernel_rfl) (by exact fun _ _ _ h => h) (Or.inl ⟨by rfl, ?hy7q⟩) hS2 ?r7q
  case hy7q => (intro w hSw; (try dsimp only at hSw); go_simp; try with_reducible rfl)
  (try simp only [Act.put]); (try simp only [List.setIfInBounds_toArray]); (repeat (first | simp only [List.set_cons_succ] | simp only [List.set_cons_zero]))
  refine wpTo_done (by kernel_rfl) ?_
  go_wp2_with fail
  refine wp_region_to (fun v => Blk v G 34 (oc 1 i t ao n c)) 10 (by kernel_rfl) ?_
  have hS0 := hD.drew.blk
  have hD := hD.drew
  refine wpTo_take (i := 0) (v := ?v0p) (show _ = some _ by simp only [List.getElem?_toArray, List.getElem?_cons_zero]; exact rfl) (by kernel_rfl) (by kernel_rfl) (by kernel_rfl) (by kernel_rfl) (by exact fun _ _ _ h => h) (Or.inl ⟨by rfl, ?hy0p⟩) hS0 ?r0p
  case hy0p => (intro w hSw; (try dsimp only at hSw); go_simp; try with_reducible rfl)
  (try simp only [Act.put]); (try simp only [List.setIfInBounds_toArray]); (repeat (first | simp only [List.set_cons_succ] | simp only [List.set_cons_zero]))
  refine wpTo_take (i := 1) (v := ?v1p) (show _ = some _ by simp only [List.getElem?_toArray, List.getElem?_cons_succ, List.getElem?_cons_zero]; exact rfl) (by kernel_rfl) (by kernel_rfl) (by kernel_rfl) (by kernel_rfl) (by exact fun _ _ _ h => h) (Or.inl ⟨by rfl, ?hy1p⟩) hS0 ?r1p
  case hy1p => (intro w hSw; (try dsimp only at hSw); go_simp; try with_reducible rfl)
  (try simp only [Act.put]); (try simp only [List.setIfInBounds_toArray]); (repeat (first | simp only [List.set_cons_succ] | simp only [List.set_cons_zero]))
  refine wpTo_take (i := 2) (v := ?v2p) (show _ = some _ by simp only [List.getElem?_toArray, List.getElem?_cons_succ, List.getElem?_cons_zero]; exact rfl) (by kernel_rfl) (by kernel_rfl) (by kernel_rfl) (by kernel_rfl) (by exact fun _ _ _ h => h) (Or.inl ⟨by rfl, ?hy2p⟩) hS0 ?r2p
  case hy2p => (intro w hSw; (try dsimp only at hSw); go_simp; try with_reducible rfl)
  (try simp only [Act.put]); (try simp only [List.setIfInBounds_toArray]); (repeat (first | simp only [List.set_cons_succ] | simp only [List.set_cons_zero]))
  refine wpTo_take (i := 3) (v := ?v3p) (show _ = some _ by simp only [List.getElem?_toArray, List.getElem?_cons_succ, List.getElem?_cons_zero]; exact rfl) (by kernel_rfl) (by kernel_rfl) (by kernel_rfl) (by kernel_rfl) (by exact fun _ _ _ h => h) (Or.inl ⟨by rfl, ?hy3p⟩) hS0 ?r3p
  case hy3p => (intro w hSw; (try dsimp only at hSw); have hc1 := Blk.cell hSw 1 _ rfl; have hc2 := Blk.cell hSw 2 _ rfl; go_simp; try with_reducible rfl)
  (try simp only [Act.put]); (try simp only [List.setIfInBounds_toArray]); (repeat (first | simp only [List.set_cons_succ] | simp only [List.set_cons_zero]))
  refine wpTo_take (i := 4) (v := ?v4p) (show _ = some _ by simp only [List.getElem?_toArray, List.getElem?_cons_succ, List.getElem?_cons_zero]; exact rfl) (by kernel_rfl) (by kernel_rfl) (by kernel_rfl) (by kernel_rfl) (by exact fun _ _ _ h => h) (Or.inl ⟨by rfl, ?hy4p⟩) hS0 ?r4p
  case hy4p => (intro w hSw; (try dsimp only at hSw); go_simp; try with_reducible rfl)
  (try simp only [Act.put]); (try simp only [List.setIfInBounds_toArray]); (repeat (first | simp only [List.set_cons_succ] | simp only [List.set_cons_zero]))
  refine wpTo_take (i := 5) (v := ?v5p) (show _ = some _ by simp only [List.getElem?_toArray, List.getElem?_cons_succ, List.getElem?_cons_zero]; exact rfl) (by kernel_rfl) (by kernel_rfl) (by kernel_rfl) (by kernel_rfl) (by exact fun _ _ _ h => h) (Or.inl ⟨by rfl, ?hy5p⟩) hS0 ?r5p
  case hy5p => (intro w hSw; (try dsimp only at hSw); have hc1 := Blk.cell hSw 1 _ rfl; have hc2 := Blk.cell hSw 2 _ rfl; go_simp; try with_reducible rfl)
  (try simp only [Act.put]); (try simp only [List.setIfInBounds_toArray]); (repeat (first | simp only [List.set_cons_succ] | simp only [List.set_cons_zero]))
  refine wpTo_one (i := 6) (by kernel_rfl) (show _ = some _ by simp only [List.getElem?_toArray, List.getElem?_cons_succ, List.getElem?_cons_zero]; exact rfl) (fun K hK => ?_)
  go_simp
  go_at_call 14; refine (text_any t ht _).mono ?_; rintro e v7 ⟨rfl, kb⟩
  have hD := hD.next kb
  clear kb
  (try simp only [])
  refine hK.out _ _ (hD.blk) (fun hS1 => ?_)
  clear hK K
  (try simp only [Act.put]); (try simp only [List.setIfInBounds_toArray]); (repeat (first | simp only [List.set_cons_succ] | simp only [List.set_cons_zero]))
  refine wpTo_one (i := 7) (by kernel_rfl) (show _ = some _ by simp only [List.getElem?_toArray, List.getElem?_cons_succ, List.getElem?_cons_zero]; exact rfl) (fun K hK => ?_)
  go_simp
  go_at_call 33; refine (rwr_any _ q x y z d hD.pair.b i (textSec t) hw).mono ?_; rintro e v8 ⟨rfl, hT⟩
  obtain ⟨hD, -⟩ := hD.turnB hT
  clear hT
  (try simp only [])
  refine hK.out _ _ (hD.blk) (fun hS2 => ?_)
  clear hK K
  (try simp only [Act.put]); (try simp only [List.setIfInBounds_toArray]); (repeat (first | simp only [List.set_cons_succ] | simp only [List.set_cons_zero]))
  refine wpTo_take (i := 8) (v := ?v8p) (show _ = some _ by simp only [List.getElem?_toArray, List.getElem?_cons_succ, List.getElem?_cons_zero]; exact rfl) (by kernel_rfl) (by kernel_rfl) (by kernel_rfl) (by kernel_rfl) (by exact fun _ _ _ h => h) (Or.inl ⟨by rfl, ?hy8p⟩) hS2 ?r8p
  case hy8p => (intro w hSw; (try dsimp only at hSw); go_simp; try with_reducible rfl)
  (try simp only [Act.put]); (try simp only [List.setIfInBounds_toArray]); (repeat (first | simp only [List.set_cons_succ] | simp only [List.set_cons_zero]))
  refine wpTo_take (i := 9) (v := ?v9p) (show _ = some _ by simp only [List.getElem?_toArray, List.getElem?_cons_succ, List.getElem?_cons_zero]; exact rfl) (by kernel_rfl) (by kernel_rfl) (by kernel_rfl) (by kernel_rfl) (by exact fun _ _ _ h => h) (Or.inl ⟨by rfl, ?hy9p⟩) hS2 ?r9p
  case hy9p => (intro w hSw; (try dsimp only at hSw); go_simp; try with_reducible rfl)
  (try simp only [Act.put]); (try simp only [List.setIfInBounds_toArray]); (repeat (first | simp only [List.set_cons_succ] | simp only [List.set_cons_zero]))
  refine wpTo_done (by kernel_rfl) ?_
  go_wp2_with fail
  go_ret
  exact ⟨rfl, hD.did⟩
set_option maxRecDepth 100000 in
set_option maxHeartbeats 4000000 in
theorem does_flush (B : Nat) (w : World) (r f m cap q x y z : Nat) (d : St) (hP : Pair B w r f m cap d q x y z d) (hB : B ≤ w.heap.size) (i : Int) (t : ByteArray) (ao : Option Addr) (n c : Nat) (hf : d.flushes < 1000000000) :
    Calls Try.prog 13 #[.pointer (some ⟨r, 0, none⟩), .pointer (some ⟨q, 0, none⟩), .agg (oc 2 i t ao n c).toArray] w fun e w' => e = .returned (.bool true) ∧ Did B w w' r f cap q x y z d.fl.1 := by
  have hD := DS.start hP hB (oc 2 i t ao n c)
  have k0 := hD.blk.cell 0 _ rfl
  have k1 := hD.blk.cell 1 _ rfl
  have k2 := hD.blk.cell 2 _ rfl
  have k3 := hD.blk.cell 3 _ rfl
  go_enter Try.func13, Try.ntmps13
  go_wp2_with fail
  go_at_call 23; refine (fl_any _ r f m cap d hD.pair.a hf).mono ?_; rintro e v1 ⟨rfl, hT⟩
  obtain ⟨m, hD, -, -⟩ := hD.turnA hT
  clear hT
  go_wp2_with fail
  go_at_call 34; refine (rfl_any _ q x y z d hD.pair.b hf).mono ?_; rintro e v2 ⟨rfl, hT⟩
  obtain ⟨hD, -⟩ := hD.turnB hT
  go_wp2_with fail
  go_ret
  exact ⟨rfl, hD.did⟩
set_option maxRecDepth 100000 in
set_option maxHeartbeats 4000000 in
theorem does_arm (B : Nat) (w : World) (r f m cap q x y z : Nat) (d : St) (hP : Pair B w r f m cap d q x y z d) (hB : B ≤ w.heap.size) (i : Int) (t : ByteArray) (ao : Option Addr) (n c : Nat) (hi : i < 9223372036854775808) :
    Calls Try.prog 13 #[.pointer (some ⟨r, 0, none⟩), .pointer (some ⟨q, 0, none⟩), .agg (oc 4 i t ao n c).toArray] w fun e w' => e = .returned (.bool true) ∧ Did B w w' r f cap q x y z (d.ar i).1 := by
  have hD := DS.start hP hB (oc 4 i t ao n c)
  have k0 := hD.blk.cell 0 _ rfl
  have k1 := hD.blk.cell 1 _ rfl
  have k2 := hD.blk.cell 2 _ rfl
  have k3 := hD.blk.cell 3 _ rfl
  go_enter Try.func13, Try.ntmps13
  go_wp2_with fail
  go_at_call 22; refine (ar_any _ r f m cap d hD.pair.a i hi).mono ?_; rintro e v1 ⟨rfl, hT⟩
  obtain ⟨m, hD, -, -⟩ := hD.turnA hT
  have k1 := hD.blk.cell 1 _ rfl
  clear hT
  go_wp2_with fail
  go_at_call 36; refine (rarm_any _ q x y z d hD.pair.b i hi).mono ?_; rintro e v2 ⟨rfl, hT⟩
  obtain ⟨hD, -⟩ := hD.turnB hT
  go_wp2_with fail
  go_ret
  exact ⟨rfl, hD.did⟩
set_option maxRecDepth 100000 in
set_option maxHeartbeats 4000000 in
theorem does_off (B : Nat) (w : World) (r f m cap q x y z : Nat) (d : St) (hP : Pair B w r f m cap d q x y z d) (hB : B ≤ w.heap.size) (i : Int) (t : ByteArray) (ao : Option Addr) (n c : Nat) :
    Calls Try.prog 13 #[.pointer (some ⟨r, 0, none⟩), .pointer (some ⟨q, 0, none⟩), .agg (oc 5 i t ao n c).toArray] w fun e w' => e = .returned (.bool true) ∧ Did B w w' r f cap q x y z d.goOff := by
  have hD := DS.start hP hB (oc 5 i t ao n c)
  have k0 := hD.blk.cell 0 _ rfl
  have k1 := hD.blk.cell 1 _ rfl
  have k2 := hD.blk.cell 2 _ rfl
  have k3 := hD.blk.cell 3 _ rfl
  go_enter Try.func13, Try.ntmps13
  go_wp2_with fail
  go_at_call 24; refine (off_ok _ r f m cap d hD.pair.a).mono ?_; rintro e v1 ⟨rfl, hT⟩
  obtain ⟨m, hD, -, -⟩ := hD.turnA hT
  clear hT
  go_wp2_with fail
  go_at_call 37; refine (rgoes_off _ q x y z d hD.pair.b).mono ?_; rintro e v2 ⟨rfl, hT⟩
  obtain ⟨hD, -⟩ := hD.turnB hT
  go_wp2_with fail
  go_ret
  exact ⟨rfl, hD.did⟩
set_option maxRecDepth 100000 in
set_option maxHeartbeats 4000000 in
theorem does_none (B : Nat) (w : World) (r f m cap q x y z : Nat) (d : St) (hP : Pair B w r f m cap d q x y z d) (hB : B ≤ w.heap.size) (o i : Int) (t : ByteArray) (ao : Option Addr) (n c : Nat) (h1 : ¬ o = 1) (h2 : ¬ o = 2) (h3 : ¬ o = 3) (h4 : ¬ o = 4) (h5 : ¬ o = 5) (h6 : ¬ o = 6) (h7 : ¬ o = 7) (h8 : ¬ o = 8) :
    Calls Try.prog 13 #[.pointer (some ⟨r, 0, none⟩), .pointer (some ⟨q, 0, none⟩), .agg (oc o i t ao n c).toArray] w fun e w' => e = .returned (.bool true) ∧ Did B w w' r f cap q x y z d := by
  have hD := DS.start hP hB (oc o i t ao n c)
  have k0 := hD.blk.cell 0 _ rfl
  have k1 := hD.blk.cell 1 _ rfl
  have k2 := hD.blk.cell 2 _ rfl
  have k3 := hD.blk.cell 3 _ rfl
  go_enter Try.func13, Try.ntmps13
  go_wp2_with fail
  go_ret
  exact ⟨rfl, hD.did⟩
set_option maxRecDepth 100000 in
set_option maxHeartbeats 4000000 in
theorem does_read (B : Nat) (w : World) (r f m cap q x y z : Nat) (d : St) (hP : Pair B w r f m cap d q x y z d) (hB : B ≤ w.heap.size) (i : Int) (t : ByteArray) (ao : Option Addr) (n c : Nat) :
    Calls Try.prog 13 #[.pointer (some ⟨r, 0, none⟩), .pointer (some ⟨q, 0, none⟩), .agg (oc 3 i t ao n c).toArray] w fun e w' => e = .returned (.bool true) ∧ Did B w w' r f cap q x y z d := by
  have hD := DS.start hP hB (oc 3 i t ao n c)
  have k0 := hD.blk.cell 0 _ rfl
  have k1 := hD.blk.cell 1 _ rfl
  have k2 := hD.blk.cell 2 _ rfl
  have k3 := hD.blk.cell 3 _ rfl
  go_enter Try.func13, Try.ntmps13
  have hz := zero39
  obtain ⟨S, hS⟩ : ∃ S, S = (d.rd i).1 := ⟨_, rfl⟩
  obtain ⟨E, hE⟩ : ∃ E, E = (d.rd i).2 := ⟨_, rfl⟩
  have rA : Hid (∀ (W : World) (m : Nat), Lay W r f m cap d → Calls Try.prog 26 #[.pointer (some ⟨r, 0, none⟩), .int .i64 i] W fun e w' => e = .returned (.tuple #[.agg (sb S).toArray, .int .i64 E]) ∧ Below W.heap.size W w') := fun W m h => by
    rw [hS, hE]
    exact rd_any W r f m cap d h i
  have rB : Hid (∀ (W : World), RLay W q x y z d → Calls Try.prog 35 #[.pointer (some ⟨q, 0, none⟩), .int .i64 i] W fun e w' => e = .returned (.tuple #[.agg (sb S).toArray, .int .i64 E]) ∧ Below W.heap.size W w') := fun W h => by
    rw [hS, hE]
    exact rrd_any W q x y z d h i
  clear hS hE
  have hq := eq39 S S
  rw [decide_eq_true rfl] at hq
  have hgd := guard39
  have tok0 : True := trivial
  go_wp2_with (first
    | (have _t := tok0; go_at_call 26; refine (rA.out _ m hD.pair.a).mono ?_; rintro e v1 ⟨rfl, kk⟩
       have hD := hD.next kk
       clear kk k0 k1 k2 k3 tok0 _t; have tok1 : True := trivial)
    | (have _t := tok1; refine store_sec rfl _ _ rfl v1.heap.size zs S (Blk.new v1 39 (sb zs)) rfl rfl ?_; intro _
       obtain ⟨b1, kk⟩ := boxed v1 S
       have hD := hD.next kk
       obtain ⟨v2, hU⟩ : ∃ U, U = ((v1.alloc (.cells (sb zs).toArray 39)).setRow v1.heap.size (sb S).toArray) := ⟨_, rfl⟩
       obtain ⟨g1, hg1⟩ : ∃ g, g = v1.heap.size := ⟨_, rfl⟩
       rw [← hU] at b1 hD ⊢
       rw [← hg1] at b1 ⊢
       have k1 := hD.blk.cell 1 _ rfl
       clear hU hg1 kk tok1 _t; have tok2 : True := trivial)
    | (have _t := tok2; go_at_call 35; refine (rB.out _ hD.pair.b).mono ?_; rintro e v3 ⟨rfl, kk⟩
       have hD := hD.next kk
       have b1 := b1.next kk
       clear kk k1 tok2 _t; have tok3 : True := trivial)
    | (have _t := tok3; refine store_sec rfl _ _ rfl v3.heap.size zs S (Blk.new v3 39 (sb zs)) rfl rfl ?_; intro _
       obtain ⟨b2, kk⟩ := boxed v3 S
       have hD := hD.next kk
       have b1 := b1.next kk
       obtain ⟨v4, hU⟩ : ∃ U, U = ((v3.alloc (.cells (sb zs).toArray 39)).setRow v3.heap.size (sb S).toArray) := ⟨_, rfl⟩
       obtain ⟨g2, hg2⟩ : ∃ g, g = v3.heap.size := ⟨_, rfl⟩
       rw [← hU] at b1 b2 hD ⊢
       rw [← hg2] at b2 ⊢
       clear hU hg2 kk tok3 _t; have tok4 : True := trivial)
    | (have _t := tok4; refine load_sec_g (by rfl) _ rfl g1 S b1 rfl ?_; clear tok4 _t; have tok5 : True := trivial)
    | (have _t := tok5; refine load_sec_g (by rfl) _ rfl g2 S b2 rfl ?_; clear tok5 _t; have tok6 : True := trivial))
  go_ret
  exact ⟨rfl, hD.did⟩
end Go.Proofs.Yteimfnnkjhopdaa
