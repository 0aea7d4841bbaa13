/- The document's disk: a sector read. -/
import Derived.Test.YteimfnnkjhopdaaRState
namespace Go.Proofs.Yteimfnnkjhopdaa
open Go.RowKit

set_option maxRecDepth 100000 in
set_option maxHeartbeats 2000000 in
theorem rrd_bad (w : World) (r a b h : Nat) (d : St) (L : RLay w r a b h d) (i E : Int) (hE : d.no i = E) (h0 : E ≠ 0) :
    Calls Try.prog 35 #[.pointer (some ⟨r, 0, none⟩), .int .i64 i] w fun e w' => e = .returned (.tuple #[.agg (sb zs).toArray, .int .i64 E]) ∧ Below w.heap.size w w' := by
  have hz := zero39
  have hA := Blk.new w 39 (sb zs)
  have hL := L.alloc (.cells (sb zs).toArray 39)
  have c3 := hL.c3
  have c0 := hL.c0
  have fin : Below w.heap.size w ((w.alloc (.cells (sb zs).toArray 39)).setRow w.heap.size (sb zs).toArray) := (Fr.below (X := fun k => k = w.heap.size) ((((Fr.refl _ w).alloc _)).setRow _ _ (.inr (Nat.le_refl _))) (fun k e => by omega) (Nat.le_refl _))
  unfold St.no at hE
  by_cases ho : d.off = true
  · rw [if_pos ho] at hE
    rw [ho] at c3
    subst hE
    go_enter Try.func35, Try.ntmps35
    go_wp2_with (first | (refine build_zero rfl rfl ?_) | (refine store_sec rfl _ _ rfl w.heap.size zs zs hA rfl rfl ?_; intro hA1))
    exact bodyPost_ret (ret_sec rfl _ _ w.heap.size zs rfl hA1) rfl ⟨rfl, fin⟩
  · rw [if_neg ho] at hE
    have ho' : d.off = false := by simpa using ho
    rw [ho'] at c3
    by_cases hi : i < 0 ∨ (d.n : Int) ≤ i
    · rw [if_pos hi] at hE
      subst hE
      by_cases h1 : i < 0
      · go_enter Try.func35, Try.ntmps35
        go_wp2_with (first | (refine build_zero rfl rfl ?_) | (refine store_sec rfl _ _ rfl w.heap.size zs zs hA rfl rfl ?_; intro hA1))
        exact bodyPost_ret (ret_sec rfl _ _ w.heap.size zs rfl hA1) rfl ⟨rfl, fin⟩
      · have h2 : (d.n : Int) ≤ i := by omega
        go_enter Try.func35, Try.ntmps35
        go_wp2_with (first | (refine build_zero rfl rfl ?_) | (refine store_sec rfl _ _ rfl w.heap.size zs zs hA rfl rfl ?_; intro hA1))
        exact bodyPost_ret (ret_sec rfl _ _ w.heap.size zs rfl hA1) rfl ⟨rfl, fin⟩
    · rw [if_neg hi] at hE
      exact absurd hE.symm h0
set_option maxRecDepth 100000 in
set_option maxHeartbeats 2000000 in
theorem rrd_good (w : World) (r a b h : Nat) (d : St) (L : RLay w r a b h d) (i : Nat) (ho : d.off = false) (hi : i < d.n) (S : Sec) (hS : d.at i = S) :
    Calls Try.prog 35 #[.pointer (some ⟨r, 0, none⟩), .int .i64 i] w fun e w' => e = .returned (.tuple #[.agg (sb S).toArray, .int .i64 0]) ∧ Below w.heap.size w w' := by
  have hz := zero39
  have hA := Blk.new w 39 (sb zs)
  have hL := L.alloc (.cells (sb zs).toArray 39)
  have c3 := hL.c3
  have c0 := hL.c0
  have c1 := hL.c1
  have c2 := hL.c2
  rw [ho] at c3
  have cH := hL.cH i hi
  have htop := L.top
  have hI1 : (i : Int) < d.n := by omega
  have hI0 : ¬ (i : Int) < 0 := by omega
  have hI2 : ¬ (d.n : Int) ≤ i := by omega
  have fin : Below w.heap.size w ((w.alloc (.cells (sb zs).toArray 39)).setRow w.heap.size (sb S).toArray) := (Fr.below (X := fun k => k = w.heap.size) ((((Fr.refl _ w).alloc _)).setRow _ _ (.inr (Nat.le_refl _))) (fun k e => by omega) (Nat.le_refl _))
  unfold St.at at hS
  cases hw : d.waits i with
  | some s =>
    rw [hw] at cH hS
    simp only [Option.isSome_some, Option.getD_some] at cH hS
    subst hS
    obtain ⟨W, hW, hWs⟩ := hL.wts
    have hrow := hW.range hi
    rw [hWs i s hw] at hrow
    clear ho hw hWs L hL hi
    go_enter Try.func35, Try.ntmps35
    go_wp2_with (first
      | (refine wpList_load_mid rfl 39 _ rfl b (i * 512) rfl (sb s) _ hrow Try.underlying39 rfl (by rw [sb_length]; kernel_rfl) ?_)
      | (refine store_sec rfl _ _ rfl w.heap.size zs s hA rfl rfl ?_; intro hA1))
    exact bodyPost_ret (ret_sec rfl _ _ w.heap.size s rfl hA1) rfl ⟨rfl, fin⟩
  | none =>
    rw [hw] at cH hS
    simp only [Option.isSome_none, Option.getD_none] at cH hS
    have hrow := hL.row.range hi
    rw [hS] at hrow
    clear ho hw L hL hi hS
    go_enter Try.func35, Try.ntmps35
    go_wp2_with (first
      | (refine wpList_load_mid rfl 39 _ rfl a (i * 512) rfl (sb S) _ hrow Try.underlying39 rfl (by rw [sb_length]; kernel_rfl) ?_)
      | (refine store_sec rfl _ _ rfl w.heap.size zs S hA rfl rfl ?_; intro hA1))
    exact bodyPost_ret (ret_sec rfl _ _ w.heap.size S rfl hA1) rfl ⟨rfl, fin⟩
theorem rrd_any (w : World) (r a b h : Nat) (d : St) (L : RLay w r a b h d) (i : Int) :
    Calls Try.prog 35 #[.pointer (some ⟨r, 0, none⟩), .int .i64 i] w fun e w' => e = .returned (.tuple #[.agg (sb (d.rd i).1).toArray, .int .i64 (d.rd i).2]) ∧ Below w.heap.size w w' := by
  unfold St.rd
  by_cases ho : d.off = true
  · rw [if_pos ho]
    exact rrd_bad w r a b h d L i 6 (by unfold St.no; rw [if_pos ho]) (by decide)
  · rw [if_neg ho]
    by_cases hi : i < 0 ∨ (d.n : Int) ≤ i
    · rw [if_pos hi]
      exact rrd_bad w r a b h d L i 2 (by unfold St.no; rw [if_neg ho, if_pos hi]) (by decide)
    · rw [if_neg hi]
      obtain ⟨k, rfl⟩ := Int.eq_ofNat_of_zero_le (show 0 ≤ i by omega)
      exact rrd_good w r a b h d L k (by simpa using ho) (by omega) _ rfl
end Go.Proofs.Yteimfnnkjhopdaa
