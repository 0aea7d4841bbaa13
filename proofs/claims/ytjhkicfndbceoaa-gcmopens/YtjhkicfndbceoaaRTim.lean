import Derived.Test.YtjhkicfndbceoaaCtr
import Derived.Test.YtjhkicfndbceoaaSli
import Derived.Test.YtjhkicfndbceoaaApartB
import Derived.Test.YtjhkicfndbceoaaOfB
/- The document's: counter blocks, the coefficient of a power. -/
namespace Go.Proofs.Ytjhkicfndbceoaa
open Go.RowKit

theorem c4_byte (n q : Nat) (hq : q < 4) : (n : Int) / 2 ^ (24 - 8 * q) % 256 = v8 ((c4 n).getD q 0#8) := by
  unfold v8 c4
  rcases (by omega : q = 0 ∨ q = 1 ∨ q = 2 ∨ q = 3) with rfl | rfl | rfl | rfl <;> simp

set_option maxHeartbeats 2000000 in
set_option maxRecDepth 100000 in
theorem rcounter_any (nonce : List B) (hn : nonce.length = 12) (n : Nat) (k : Int) (hk : k = n) (w : World) :
    Calls Try.prog 42 #[.agg (bys nonce).toArray, .int .i64 k] w fun e w' => e = .returned (.agg (bys (ctr nonce n)).toArray) ∧ Below w.heap.size w w' := by
  subst hk
  obtain ⟨ZB, hZB, hzB⟩ := zeroed37'
  have hL := ctr_length nonce hn n
  have HA : Hid (∀ i, i < 12 → (ctr nonce n).getD i 0#8 = nonce.getD i 0#8) := fun i hi => by
    unfold ctr
    simp only [List.getD]
    rw [List.getElem?_append_left (by omega)]
  have HB : Hid (∀ q, q < 4 → (n : Int) / 2 ^ (24 - 8 * q) % 256 = v8 ((ctr nonce n).getD (12 + q) 0#8)) := fun q hq => by rw [c4_byte n q hq, ctr_at nonce hn n q hq]
  obtain ⟨L, eL⟩ : ∃ L, L = ctr nonce n := ⟨_, rfl⟩
  rw [← eL] at hL HA HB ⊢
  clear eL
  obtain ⟨h1, h2, h3, h4⟩ := blk3 w 23 37 37 (bys nonce) (bys ZB) (bys ZB)
  go_enter Try.func42, Try.ntmps42
  go_wp2_with fail
  go_loopw [6] (fun i wr => ∃ j : Nat, j ≤ 12 ∧ i = .int .i64 (j : Int) ∧ Blk wr w.heap.size 23 (bys nonce) ∧ Blk wr (w.heap.size + 1) 37 (bys ZB) ∧ Blk wr (w.heap.size + 1 + 1) 37 (bys (mid L ZB j)) ∧ Below w.heap.size w wr) (fun i _ => 12 - (intOf i).toNat)
  case atStart => exact ⟨0, by omega, rfl, h1, h2, by rw [mid_zero]; exact h3, h4⟩
  case round =>
    obtain ⟨j, hj, rfl, m1, m2, m3, m4⟩ := hrel
    clear h1 h2 h3 h4
    have hml := mid_length L ZB 16 j hL hZB
    by_cases hlt : j < 12
    · have hjI : (j : Int) < 12 := by omega
      have c1 := m1.byte j (by omega)
      rw [← HA.out j hlt] at c1
      have c3 := m3.byte j (by omega)
      have f3 := m3.fz j
      have HS : Hid _ := mid_step L ZB j 16 hL hZB (by omega)
      have hp := m3.put j (L.getD j 0#8)
      rw [HS.out] at hp
      go_wp2_with fail
      refine ⟨⟨j + 1, by omega, by go_num, m1.beside _ (by simp; omega), m2.beside _ (by simp), hp, m4.setCell (by simp; omega) _⟩, by simp [intOf]; omega⟩
    · have hj12 : j = 12 := by omega
      subst hj12
      go_wp2_with fail
      go_loopw [7] (fun i wr => ∃ q : Nat, q ≤ 4 ∧ i = .int .i64 (q : Int) ∧ Blk wr (w.heap.size + 1) 37 (bys ZB) ∧ Blk wr (w.heap.size + 1 + 1) 37 (bys (mid L ZB (12 + q))) ∧ Below w.heap.size w wr) (fun i _ => 4 - (intOf i).toNat)
      case atStart => exact ⟨0, by omega, rfl, m2, m3, m4⟩
      case round =>
        obtain ⟨q, hq, rfl, p2, p3, p4⟩ := hrel
        clear m1 m2 m3 m4 hml
        have hml := mid_length L ZB 16 (12 + q) hL hZB
        by_cases hlt4 : q < 4
        · have hqI : (q : Int) < 4 := by omega
          have hB : Hid _ := HB.out q hlt4
          have c3 := p3.byte (12 + q) (by omega)
          have f3 := p3.fz (12 + q)
          have HS : Hid _ := mid_step L ZB (12 + q) 16 hL hZB (by omega)
          have hp := p3.put (12 + q) (L.getD (12 + q) 0#8)
          rw [HS.out] at hp
          go_wp2_with fail
          rw [hB.out]
          refine ⟨⟨q + 1, by omega, by go_num, p2.beside _ (by simp), hp, p4.setCell (by simp; omega) _⟩, by simp [intOf]; omega⟩
        · have hq4 : q = 4 := by omega
          subst hq4
          rw [mid_full L ZB 16 hL hZB] at p3
          go_wp2_with (first | (refine law_load rfl 37 _ rfl _ rfl 37 _ p3 _ Try.underlying37 rfl (by rw [bys_length, hL]; kernel_rfl) ?_) | (refine law_store rfl 37 _ _ rfl _ (bys L) rfl rfl 37 _ p2 (by rw [bys_length, bys_length, hL, hZB]) (by rw [bys_length, hL]; kernel_rfl) (bys_one L) ?_; intro wG hoG hAG))
          refine bodyPost_ret (v := .agg (bys L).toArray) (results_cell_row rfl _ _ (w.heap.size + 1) 37 _ _ _ rfl hAG Try.underlying37 rfl (by rw [List.size_toArray, bys_length, hL]; kernel_rfl)) rfl ⟨rfl, hoG.below p4 (by omega)⟩
end Go.Proofs.Ytjhkicfndbceoaa

/- The document's: bytes filled up, and a length as eight bytes. -/
namespace Go.Proofs.Ytjhkicfndbceoaa
open Go.RowKit

/-- Bytes filled up with 0 to a multiple of 16. -/
def padM (b : List B) : List B := b ++ List.replicate (16 * nbl b.length - b.length) 0#8
theorem nbl_ge (n : Nat) : n ≤ 16 * nbl n := by unfold nbl; omega
theorem padM_length (b : List B) : (padM b).length = 16 * nbl b.length := by
  have := nbl_ge b.length
  simp [padM]
  omega
theorem padM_at (b : List B) (i : Nat) : (padM b).getD i 0#8 = b.getD i 0#8 := by
  unfold padM
  simp only [List.getD]
  by_cases h : i < b.length
  · rw [List.getElem?_append_left h]
  · rw [List.getElem?_append_right (by omega), List.getElem?_replicate, List.getElem?_eq_none (show b.length ≤ i by omega)]
    split <;> rfl
theorem padM_hash (h y : Q) (b : List B) (k : Nat) : hashN h y (padM b) k = hashN h y b k :=
  hashN_congr h y _ _ k (fun _ _ => chunk_ext _ _ _ _ (fun _ _ => padM_at b _))

theorem rep_push (b : List B) (k : Nat) : v8s (b ++ List.replicate k 0#8) ++ [0] = v8s (b ++ List.replicate (k + 1) 0#8) := by
  rw [List.replicate_succ', ← List.append_assoc, v8s_append (b ++ List.replicate k 0#8)]
  rfl

set_option maxHeartbeats 1000000 in
set_option maxRecDepth 100000 in
theorem padded_any (b : List B) (ao : Option Addr) (n c : Nat) (w : World) (hs : Shows w ao n (v8s b)) (hc : ao = none → c = 0) (hn : n ≤ 1000000) :
    Calls Try.prog 56 #[.slice ao n c] w fun e w' => ∃ v, e = .returned v ∧ w'.ownsRow w.heap.size 5 1 v (16 * nbl n) (u8s (v8s (padM b))) ∧ Below w.heap.size w w' := by
  have hl : b.length = n := by have := hs.len; rw [v8s_length] at this; exact this
  have HP : Hid (padM b = b ++ List.replicate (16 * nbl n - n) 0#8) := by show _ = _; unfold padM; rw [hl]
  have hge := nbl_ge n
  have hle : 16 * nbl n ≤ n + 15 := by unfold nbl; omega
  obtain ⟨N, eN⟩ : ∃ N, N = nbl n := ⟨_, rfl⟩
  rw [← eN] at HP hge hle ⊢
  clear eN
  go_enter Try.func56, Try.ntmps56
  go_wp2_with (at_builtin; go_must (refine law_append rfl _ _ rfl w.heap.size _ 0 [] rfl (World.ownsRow_nil _ _ _ _) ao n c (v8s b) rfl hs hc (by omega) (Nat.le_refl _) ?_))
  intro v1 w1 own1 g1
  (try intro _)
  (try rw [Nat.zero_add, List.nil_append] at own1)
  have hb1 : Below w.heap.size w w1 := (Below.refl _ w).grown g1 (Nat.le_refl _) (by intro k hk; simp [Value.ownBlock] at hk)
  obtain ⟨ao1, c1, rfl, -, -, -, -, -⟩ := own_shape own1 (v8s_rng b)
  go_wp2_with fail
  go_loopw [3] (fun o wr => ∃ (k c' : Nat) (ao' : Option Addr), o = .slice ao' (n + k) c' ∧ n + k ≤ 16 * N ∧ wr.ownsRow w.heap.size 5 1 (.slice ao' (n + k) c') (n + k) (u8s (v8s (b ++ List.replicate k 0#8))) ∧ Below w.heap.size w wr) (fun o _ => 16 * N - (match o with | .slice _ l _ => l | _ => 0))
  case atStart => exact ⟨0, c1, ao1, rfl, by omega, by simpa using own1, hb1⟩
  case round =>
    obtain ⟨k, c', ao', rfl, hk, hown, hB⟩ := hrel
    clear own1 hb1
    have hsz := hB.size
    by_cases hlt : n + k < 16 * N
    · have hm : ((n + k : Nat) : Int) % 16 ≠ 0 := by omega
      have hm1 : (((n : Int) + k) % 16 == 0) = false := by simp; omega
      have hm2 : ¬ ((n : Int) + k) % 16 = 0 := by omega
      have hsrc := shows_new wr [0] (by simp)
      go_wp2_with (at_builtin; go_must (refine law_append rfl _ _ rfl w.heap.size _ _ _ rfl (hown.alloc _) _ 1 1 _ rfl hsrc (by intro h; cases h) (by omega) (by simp; omega) ?_))
      intro v' w2 own2 g2 _
      rw [rep_push] at own2
      obtain ⟨ao2, c2, rfl, -, -, -, -, -⟩ := own_shape own2 (v8s_rng _)
      go_wp2_with fail
      go_roundw
      case rel => exact ⟨k + 1, c2, ao2, rfl, by omega, own2, (hB.alloc hsz _).grown g2 (by simp; omega) (fun b hb => (hown.lt b hb).1)⟩
      case measure => simp; omega
    · have hkN : n + k = 16 * N := by omega
      have hm : ((n : Int) + k) % 16 = 0 := by omega
      go_wp2_with fail
      go_ret
      refine ⟨_, rfl, ?_, hB⟩
      rw [HP.out, ← hkN, Nat.add_sub_cancel_left]
      exact hown

/-- A length, eight times, as eight bytes. -/
def lenM (n : Nat) : List B := (List.range 8).map fun i => BitVec.ofNat 8 (8 * n / 2 ^ (56 - 8 * i))
theorem lenM_length (n : Nat) : (lenM n).length = 8 := by simp [lenM]
theorem lenM_at (n i : Nat) (h : i < 8) : (lenM n).getD i 0#8 = BitVec.ofNat 8 (8 * n / 2 ^ (56 - 8 * i)) := by unfold lenM; rw [getD_range _ _ _ h]
theorem lenM_byte (n i : Nat) (h : i < 8) : 8 * (n : Int) / 2 ^ (56 - 8 * i) % 256 = v8 ((lenM n).getD i 0#8) := by
  rw [lenM_at n i h]
  unfold v8
  rw [BitVec.toNat_ofNat]
  obtain ⟨e, he⟩ : ∃ e, e = 56 - 8 * i := ⟨_, rfl⟩
  rw [← he]
  clear he
  have h1 : ((8 * n / 2 ^ e : Nat) : Int) = 8 * (n : Int) / 2 ^ e := by
    rw [Int.natCast_ediv, Int.natCast_mul, Int.natCast_pow]
    rfl
  rw [← h1]
  omega
theorem lenM_sizes (m n : Nat) (hm : m ≤ 1000000) (hn : n ≤ 1000000) : lenM m ++ lenM n = bq (sizesQ m n) := by
  refine ext_getD _ _ 16 (by simp [lenM_length]) (bq_length _) (fun i hi => ?_)
  rw [bq_at _ i hi]
  have key : ∀ (k j : Nat), k ≤ 1000000 → j < 8 → BitVec.ofNat 8 (8 * k / 2 ^ (56 - 8 * j)) = (BitVec.ofNat 64 (8 * k) >>> (56 - 8 * j)).setWidth 8 := by
    intro k j hk hj
    apply BitVec.eq_of_toNat_eq
    rw [BitVec.toNat_setWidth, BitVec.toNat_ushiftRight, BitVec.toNat_ofNat, BitVec.toNat_ofNat, Nat.shiftRight_eq_div_pow, Nat.mod_eq_of_lt (a := 8 * k) (by omega)]
  simp only [List.getD]
  by_cases h8 : i < 8
  · rw [List.getElem?_append_left (by rw [lenM_length]; exact h8)]
    have e := lenM_at m i h8
    simp only [List.getD] at e
    rw [e, hi_byte _ i h8, sizes_hi, key m i hm h8]
  · rw [List.getElem?_append_right (by rw [lenM_length]; omega), lenM_length]
    have e := lenM_at n (i - 8) (by omega)
    simp only [List.getD] at e
    rw [e, show 15 - i = 7 - (i - 8) by omega, lo_byte _ (i - 8) (by omega), sizes_lo, key n (i - 8) hn (by omega)]
theorem take_push8 (l : List B) (k : Nat) (h : k < l.length) : v8s (l.take k) ++ [v8 (l.getD k 0#8)] = v8s (l.take (k + 1)) := by
  have : l.take (k + 1) = l.take k ++ [l.getD k 0#8] := by
    rw [List.take_add_one, List.getElem?_eq_getElem h]
    simp [List.getD, List.getElem?_eq_getElem h]
  rw [this, v8s_append]
  rfl

set_option maxHeartbeats 1000000 in
set_option maxRecDepth 100000 in
theorem length_any (n : Nat) (hn : n ≤ 1000000) (k : Int) (hk : k = n) (w : World) :
    Calls Try.prog 57 #[.int .i64 k] w fun e w' => ∃ v, e = .returned v ∧ w'.ownsRow w.heap.size 5 1 v 8 (u8s (v8s (lenM n))) ∧ Below w.heap.size w w' := by
  subst hk
  have HB : Hid (∀ i, i < 8 → 8 * (n : Int) / 2 ^ (56 - 8 * i) % 256 = v8 ((lenM n).getD i 0#8)) := lenM_byte n
  have hL := lenM_length n
  obtain ⟨L, eL⟩ : ∃ L, L = lenM n := ⟨_, rfl⟩
  rw [← eL] at HB hL ⊢
  clear eL
  have q1 : IntKind.i64.wrap (8 * (n : Int)) = 8 * n := by rw [IntKind.wrap_i64]; omega
  have q2 : IntKind.u64.wrap (8 * (n : Int)) = 8 * n := by rw [IntKind.wrap_u64]; omega
  go_enter Try.func57, Try.ntmps57
  go_wp2_with fail
  go_loopw [3, 4] (fun o i wr => ∃ (k c' : Nat) (ao' : Option Addr), k ≤ 8 ∧ o = .slice ao' k c' ∧ i = .int .i64 (k : Int) ∧ wr.ownsRow w.heap.size 5 1 (.slice ao' k c') k (u8s (v8s (L.take k))) ∧ Below w.heap.size w wr) (fun _ i _ => 8 - (intOf i).toNat)
  case atStart => exact ⟨0, 0, none, by omega, rfl, rfl, World.ownsRow_nil _ _ _ _, Below.refl _ _⟩
  case round =>
    obtain ⟨k, c', ao', hk, rfl, rfl, hown, hB⟩ := hrel
    have hsz := hB.size
    by_cases hlt : k < 8
    · have hkI : (k : Int) < 8 := by omega
      have hb : Hid _ := HB.out k hlt
      have hsrc := shows_new wr [8 * (n : Int) / 2 ^ (56 - 8 * k) % 256] (by simp; omega)
      go_wp2_with (at_builtin; go_must (refine law_append rfl _ _ rfl w.heap.size _ _ _ rfl (hown.alloc _) _ 1 1 _ rfl hsrc (by intro h; cases h) (by omega) (by simp; omega) ?_))
      intro v' w2 own2 g2 _
      rw [hb.out, take_push8 L k (by omega)] at own2
      obtain ⟨ao2, c2, rfl, -, -, -, -, -⟩ := own_shape own2 (v8s_rng _)
      go_wp2_with fail
      go_roundw
      case rel => exact ⟨k + 1, c2, ao2, by omega, rfl, by go_num, own2, (hB.alloc hsz _).grown g2 (by simp; omega) (fun b hb => (hown.lt b hb).1)⟩
      case measure => simp [intOf]; omega
    · have hk8 : k = 8 := by omega
      subst hk8
      rw [List.take_of_length_le (by omega)] at hown
      go_wp2_with fail
      go_ret
      exact ⟨_, rfl, hown, hB⟩
end Go.Proofs.Ytjhkicfndbceoaa

/- The document's: the coefficient of a power, and products of long elements. -/
namespace Go.Proofs.Ytjhkicfndbceoaa
open Go.RowKit

theorem v8_or (x y : B) : bits .or .u8 (v8 x) (v8 y) = v8 (x ||| y) := by
  have e : ∀ z : B, BitVec.ofInt 8 (v8 z) = z := by
    intro z
    unfold v8
    rw [BitVec.ofInt_natCast, BitVec.ofNat_toNat, BitVec.setWidth_eq]
  show IntKind.u8.wrap ((BitVec.ofInt 8 (v8 x) ||| BitVec.ofInt 8 (v8 y)).toNat : Int) = v8 (x ||| y)
  rw [e, e]
  obtain ⟨z, hz⟩ : ∃ z, z = x ||| y := ⟨_, rfl⟩
  rw [← hz]
  have := z.isLt
  simp only [IntKind.wrap, IntKind.bits, IntKind.signed]
  unfold v8
  simp
  omega
theorem v8_up (x : B) : v8 x * (128 : Int) % (256 : Int) = v8 (x <<< 7) := all_of (P := fun x => v8 x * (128 : Int) % (256 : Int) = v8 (x <<< 7)) (by decide +kernel) x
theorem v8_bit (x : B) (n : Nat) (h : n < 8) : bits .and .u8 (v8 x / 2 ^ n) 1 = (if x.getLsbD n then 1 else 0) := by
  rcases (by omega : n = 0 ∨ n = 1 ∨ n = 2 ∨ n = 3 ∨ n = 4 ∨ n = 5 ∨ n = 6 ∨ n = 7) with rfl | rfl | rfl | rfl | rfl | rfl | rfl | rfl
  · exact all_of (P := fun x => bits .and .u8 (v8 x / 2 ^ 0) 1 = (if x.getLsbD 0 then 1 else 0)) (by decide +kernel) x
  · exact all_of (P := fun x => bits .and .u8 (v8 x / 2 ^ 1) 1 = (if x.getLsbD 1 then 1 else 0)) (by decide +kernel) x
  · exact all_of (P := fun x => bits .and .u8 (v8 x / 2 ^ 2) 1 = (if x.getLsbD 2 then 1 else 0)) (by decide +kernel) x
  · exact all_of (P := fun x => bits .and .u8 (v8 x / 2 ^ 3) 1 = (if x.getLsbD 3 then 1 else 0)) (by decide +kernel) x
  · exact all_of (P := fun x => bits .and .u8 (v8 x / 2 ^ 4) 1 = (if x.getLsbD 4 then 1 else 0)) (by decide +kernel) x
  · exact all_of (P := fun x => bits .and .u8 (v8 x / 2 ^ 5) 1 = (if x.getLsbD 5 then 1 else 0)) (by decide +kernel) x
  · exact all_of (P := fun x => bits .and .u8 (v8 x / 2 ^ 6) 1 = (if x.getLsbD 6 then 1 else 0)) (by decide +kernel) x
  · exact all_of (P := fun x => bits .and .u8 (v8 x / 2 ^ 7) 1 = (if x.getLsbD 7 then 1 else 0)) (by decide +kernel) x
theorem bq_half (x : Q) (k : Nat) (h0 : 0 < k) (hk : k < 16) : (bq (x >>> 1)).getD k 0#8 = (bq x).getD k 0#8 >>> 1 ||| (bq x).getD (k - 1) 0#8 <<< 7 := by
  rw [bq_at _ k hk, bq_at _ k hk, bq_at _ (k - 1) (by omega)]
  apply BitVec.eq_of_getLsbD_eq
  intro i hi
  rw [byteAt_bit _ _ _ hi, BitVec.getLsbD_ushiftRight, BitVec.getLsbD_or, BitVec.getLsbD_ushiftRight, BitVec.getLsbD_shiftLeft]
  by_cases h7 : i < 7
  · rw [byteAt_bit _ _ _ (by omega)]
    simp [h7]
    congr 1
    omega
  · have e : i = 7 := by omega
    subst e
    rw [BitVec.getLsbD_of_ge (byteAt x (15 - k)) _ (by omega), Nat.sub_self, byteAt_bit _ _ 0 (by omega)]
    simp
    congr 1
    omega
theorem bq_half0 (x : Q) : (bq (x >>> 1)).getD 0 0#8 = (bq x).getD 0 0#8 >>> 1 := by
  rw [bq_at _ 0 (by omega), bq_at _ 0 (by omega)]
  apply BitVec.eq_of_getLsbD_eq
  intro i hi
  rw [byteAt_bit _ _ _ hi, BitVec.getLsbD_ushiftRight, BitVec.getLsbD_ushiftRight]
  by_cases h7 : i < 7
  · rw [byteAt_bit _ _ _ (by omega)]
    congr 1
    omega
  · rw [BitVec.getLsbD_of_ge _ _ (by omega), BitVec.getLsbD_of_ge _ _ (by omega)]
theorem bq_eT (x : Q) : bq (eT x) = if x.getLsbD 0 then (bq (x >>> 1)).set 0 ((bq (x >>> 1)).getD 0 0#8 ^^^ 0xe1#8) else bq (x >>> 1) := by
  unfold eT
  cases x.getLsbD 0
  · simp
  · simp only [if_true]
    rw [bq_xor]
    have hr : bq 0xe1000000000000000000000000000000#128 = 0xe1#8 :: List.replicate 15 0#8 := by decide +kernel
    rw [hr]
    have hl := bq_length (x >>> 1)
    obtain ⟨b, r, e⟩ : ∃ b r, bq (x >>> 1) = b :: r := by
      match h : bq (x >>> 1), hl with
      | b :: r, _ => exact ⟨b, r, rfl⟩
    rw [e] at hl ⊢
    have hl : r.length = 15 := by simp only [List.length_cons] at hl; omega
    have hz : ∀ (n : Nat) (l : List B), l.length = n → List.zipWith (· ^^^ ·) l (List.replicate n 0#8) = l := by
      intro n
      induction n with
      | zero => intro l h; cases l <;> simp_all
      | succ n ih =>
        intro l h
        cases l with
        | nil => simp at h
        | cons c l =>
          simp only [List.length_cons, Nat.add_right_cancel_iff] at h
          rw [List.replicate_succ, List.zipWith_cons_cons, ih l h, BitVec.xor_zero]
    show addL (b :: r) (0xe1#8 :: List.replicate 15 0#8) = _
    unfold addL
    rw [List.zipWith_cons_cons, hz 15 r hl]
    rfl
theorem mid_down (M L : List B) (k n : Nat) (hM : M.length = n) (hL : L.length = n) (hk : k < n) : (mid M L (k + 1)).set k (L.getD k 0#8) = mid M L k :=
  ext_getD _ _ n (by rw [List.length_set, mid_length M L n _ hM hL]) (mid_length M L n _ hM hL) (fun i hi => by
    have e1 : (mid M L k).getD i 0#8 = if i < k then M.getD i 0#8 else L.getD i 0#8 := by
      unfold mid
      simp only [List.getD]
      split
      · rw [List.getElem?_append_left (by simp; omega), List.getElem?_take, if_pos (by assumption)]
      · rw [List.getElem?_append_right (by simp; omega), List.getElem?_drop]
        congr 2
        simp
        omega
    have e2 : (mid M L (k + 1)).getD i 0#8 = if i < k + 1 then M.getD i 0#8 else L.getD i 0#8 := by
      unfold mid
      simp only [List.getD]
      split
      · rw [List.getElem?_append_left (by simp; omega), List.getElem?_take, if_pos (by assumption)]
      · rw [List.getElem?_append_right (by simp; omega), List.getElem?_drop]
        congr 2
        simp
        omega
    by_cases h : k = i
    · subst h
      have h1 : ((mid M L (k + 1)).set k (L.getD k 0#8)).getD k 0#8 = L.getD k 0#8 := by
        have : k < (mid M L (k + 1)).length := by rw [mid_length M L n _ hM hL]; exact hk
        simp only [List.getD]
        rw [List.getElem?_set_self this]
        rfl
      rw [h1, e1, if_neg (by omega)]
    · have h1 : ((mid M L (k + 1)).set k (L.getD k 0#8)).getD i 0#8 = (mid M L (k + 1)).getD i 0#8 := by
        simp only [List.getD]
        rw [List.getElem?_set_ne h]
      rw [h1, e1, e2]
      by_cases h2 : i < k
      · rw [if_pos h2, if_pos (by omega)]
      · rw [if_neg h2, if_neg (by omega)])
theorem mid_before (M L : List B) (k i n : Nat) (hM : M.length = n) (hi : i < k) (hk : k ≤ n) : (mid M L k).getD i 0#8 = M.getD i 0#8 := by
  unfold mid
  simp only [List.getD]
  rw [List.getElem?_append_left (by simp; omega), List.getElem?_take, if_pos hi]

/-- A coefficient as the program's number. -/
def cbit (b : Bool) : Int := if b then 1 else 0
set_option maxHeartbeats 1000000 in
set_option maxRecDepth 100000 in
theorem rbit_any (X : Q) (i : Nat) (hi : i < 128) (k : Int) (hk : k = i) (w : World) :
    Calls Try.prog 68 #[.agg (bys (bq X)).toArray, .int .i64 k] w fun e w' => e = .returned (.int .u8 (cbit (co X i))) ∧ Below w.heap.size w w' := by
  subst hk
  have hb : Blk (w.alloc (.cells (bys (bq X)).toArray 37)) w.heap.size 37 (bys (bq X)) := Blk.new _ _ _
  have hB : Below w.heap.size w (w.alloc (.cells (bys (bq X)).toArray 37)) := (Below.refl _ w).alloc (Nat.le_refl _) _
  have hl := bq_length X
  have c0 := hb.byte (i / 8) (by omega)
  have H : Hid (bits .and .u8 (v8 ((bq X).getD (i / 8) 0#8) / 2 ^ (7 - i % 8)) 1 = cbit (co X i)) := by
    show _ = _
    unfold cbit
    rw [v8_bit _ _ (by omega), bq_at X _ (by omega), byteAt_bit _ _ _ (by omega)]
    unfold co
    rw [show 8 * (15 - i / 8) + (7 - i % 8) = 127 - i by omega]
  obtain ⟨q, eq⟩ : ∃ q, q = i / 8 := ⟨_, rfl⟩
  obtain ⟨r, er⟩ : ∃ r, r = i % 8 := ⟨_, rfl⟩
  have z1 : (i : Int).tdiv 8 = (q : Int) := by rw [Int.tdiv_eq_ediv_of_nonneg (by omega)]; omega
  have z2 : (i : Int) / 8 = (q : Int) := by omega
  have z3 : (i : Int).tmod 8 = (r : Int) := by rw [Int.tmod_eq_emod_of_nonneg (by omega)]; omega
  have z4 : (i : Int) % 8 = (r : Int) := by omega
  have hr8 : r < 8 := by omega
  have hq16 : q < 16 := by omega
  have z5 : IntKind.i64.wrap (q : Int) = (q : Int) := by rw [IntKind.wrap_i64]; omega
  rw [← eq] at c0 H
  rw [← er] at H
  clear eq er
  obtain ⟨x, ex⟩ : ∃ x, x = (bq X).getD q 0#8 := ⟨_, rfl⟩
  rw [← ex] at c0 H
  clear ex
  have x0 := v8_nn x
  have x1 := v8_le x
  obtain ⟨bs, eb⟩ : ∃ bs, bs = bq X := ⟨_, rfl⟩
  rw [← eb] at hb hB c0 hl ⊢
  clear eb
  go_enter Try.func68, Try.ntmps68
  go_wp2
  go_ret
  exact ⟨by rw [← H.out]; rfl, hB⟩

/-- What lies there while two are multiplied, by the document. -/
structure RtS (w v : World) (xs ys zs ZB : List B) : Prop where
  x : Blk v w.heap.size 37 (bys xs)
  y : Blk v (w.heap.size + 1) 37 (bys ys)
  r : Blk v (w.heap.size + 1 + 1) 37 (bys ZB)
  z : Blk v (w.heap.size + 1 + 1 + 1) 37 (bys zs)
  k : Below w.heap.size w v
section
variable {w v v' : World} {xs ys zs ZB : List B}
theorem RtS.call (h : RtS w v xs ys zs ZB) (hb : Below v.heap.size v v') : RtS w v' xs ys zs ZB := ⟨h.x.next hb, h.y.next hb, h.r.next hb, h.z.next hb, h.k.trans (hb.mono h.k.size)⟩
theorem RtS.drew (h : RtS w v xs ys zs ZB) : RtS w v.drew xs ys zs ZB := h.call ((Below.refl _ v).drew)
theorem RtS.putZ (h : RtS w v xs ys zs ZB) (i : Nat) (b : B) : RtS w (v.setCell ⟨w.heap.size + 1 + 1 + 1, i, none⟩ (.int .u8 (v8 b))) xs ys (zs.set i b) ZB :=
  ⟨h.x.beside _ (by simp <;> omega), h.y.beside _ (by simp <;> omega), h.r.beside _ (by simp <;> omega), h.z.put i b, h.k.setCell (by simp <;> omega) _⟩
theorem RtS.putY (h : RtS w v xs ys zs ZB) (i : Nat) (b : B) : RtS w (v.setCell ⟨w.heap.size + 1, i, none⟩ (.int .u8 (v8 b))) xs (ys.set i b) zs ZB :=
  ⟨h.x.beside _ (by simp <;> omega), h.y.put i b, h.r.beside _ (by simp <;> omega), h.z.beside _ (by simp <;> omega), h.k.setCell (by simp <;> omega) _⟩
end

set_option maxHeartbeats 4000000 in
set_option maxRecDepth 100000 in
theorem rtimes_any (X Y : Q) (w : World) :
    Calls Try.prog 58 #[.agg (bys (bq X)).toArray, .agg (bys (bq Y)).toArray] w fun e w' => e = .returned (.agg (bys (bq (gm X Y))).toArray) ∧ Below w.heap.size w w' := by
  obtain ⟨ZB, eZB, hzB⟩ : ∃ Z : List B, Z = List.replicate 16 0#8 ∧ ∀ W : World, (zeroValue 37).run Try.prog W = .ok (.agg (bys Z).toArray) W := ⟨_, rfl, zero37⟩
  have hZB : ZB.length = 16 := by rw [eZB]; simp
  have HF : Hid (bq (gm X Y) = bq (gTo 128 Y X)) := by show _ = _; rw [gm_comm]; rfl
  obtain ⟨P, eP⟩ : ∃ P : Nat → Q, P = fun i => gTo i Y X := ⟨_, rfl⟩
  obtain ⟨V, eV⟩ : ∃ V : Nat → Q, V = fun i => eTn i Y := ⟨_, rfl⟩
  have HP0 : Hid (bq (P 0) = ZB) := by rw [eP, eZB]; exact bq_zero
  have HPS : Hid (∀ i, P (i + 1) = P i ^^^ (if co X i then V i else 0#128)) := by rw [eP, eV]; exact fun i => rfl
  have HV0 : Hid (V 0 = Y) := by rw [eV]; exact rfl
  have HVS : Hid (∀ i, V (i + 1) = eT (V i)) := by rw [eV]; exact fun i => rfl
  have HF : Hid (bq (gm X Y) = bq (P 128)) := by rw [eP]; exact HF.out
  clear eP eV eZB
  rw [HF.out]
  clear HF
  obtain ⟨h1, h2, h3, h4, h5⟩ := blk4 w 37 37 37 37 (bys (bq X)) (bys (bq Y)) (bys ZB) (bys ZB)
  have hR : RtS w _ (bq X) (bq Y) ZB ZB := ⟨h1, h2, h3, h4, h5⟩
  clear h1 h2 h3 h4 h5
  have hlX := bq_length X
  have hr := fun (i : Nat) (hi : i < 128) (W : World) => rbit_any X i hi (i : Int) rfl W
  obtain ⟨xs, exs⟩ : ∃ xs, xs = bq X := ⟨_, rfl⟩
  rw [← exs] at hr hR hlX ⊢
  clear exs
  have HR : Hid _ := hr
  clear hr
  go_enter Try.func58, Try.ntmps58
  go_wp2_with fail
  go_loopw [6] (fun i wr => ∃ j : Nat, j ≤ 128 ∧ i = .int .i64 (j : Int) ∧ RtS w wr xs (bq (V j)) (bq (P j)) ZB) (fun i _ => 128 - (intOf i).toNat)
  case atStart => exact ⟨0, by omega, rfl, by rw [HV0.out, HP0.out]; exact hR⟩
  case round =>
    obtain ⟨j, hj, rfl, hA⟩ := hrel
    clear hR
    by_cases hlt : j < 128
    · have hjI : (j : Int) < 128 := by omega
      go_wp2_with (refine law_load rfl 37 _ rfl _ rfl 37 _ hA.x _ Try.underlying37 rfl (by rw [bys_length, hlX]; kernel_rfl) ?_)
      go_at_call 68; refine (HR.out j hlt _).mono ?_; rintro e w1 ⟨rfl, k1⟩
      have hA1 := hA.call k1
      have hM16 := bq_length (V j)
      have hL16 := bq_length (V j >>> 1)
      have hP16 := bq_length (P j)
      have hN16 := bq_length (P (j + 1))
      have HLk : Hid (∀ k, 0 < k → k < 16 → bits .or .u8 (v8 ((bq (V j)).getD k 0#8) / (2 : Int)) (v8 ((bq (V j)).getD (k - 1) 0#8) * (128 : Int) % (256 : Int)) = v8 ((bq (V j >>> 1)).getD k 0#8)) := fun k h0 hk => by rw [half, v8_up, v8_or, bq_half (V j) k h0 hk]
      have HL0 : Hid (v8 ((bq (V j)).getD 0 0#8) / (2 : Int) = v8 ((bq (V j >>> 1)).getD 0 0#8)) := by show _ = _; rw [half, bq_half0]
      have HRY : Hid (∀ W : World, Calls Try.prog 68 #[.agg (bys (bq (V j))).toArray, .int .i64 127] W fun e w' => e = .returned (.int .u8 (cbit (co (V j) 127))) ∧ Below W.heap.size W w') := fun W => rbit_any (V j) 127 (by omega) 127 rfl W
      have HNe : Hid (P (j + 1) = P j ^^^ (if co X j then V j else 0#128)) := HPS.out j
      have HXk : Hid (∀ k, k < 16 → co X j = true → bits .xor .u8 (v8 ((bq (P j)).getD k 0#8)) (v8 ((bq (V j)).getD k 0#8)) = v8 ((bq (P (j + 1))).getD k 0#8)) := fun k hk hc => by
        rw [v8_xor, HNe.out, hc, if_pos rfl, bq_at _ k hk, bq_at _ k hk, bq_at _ k hk, byteAt_xor]
      have HNf : Hid (co X j = false → bq (P (j + 1)) = bq (P j)) := fun hc => by rw [HNe.out, hc]; simp
      obtain ⟨M, eM⟩ : ∃ M, M = bq (V j) := ⟨_, rfl⟩
      obtain ⟨L, eL⟩ : ∃ M, M = bq (V j >>> 1) := ⟨_, rfl⟩
      obtain ⟨O, eO⟩ : ∃ M, M = bq (P j) := ⟨_, rfl⟩
      obtain ⟨N, eN⟩ : ∃ M, M = bq (P (j + 1)) := ⟨_, rfl⟩
      have HLe : Hid (bq (V j >>> 1) = L) := eL.symm
      have HNN : Hid (bq (P (j + 1)) = N) := eN.symm
      rw [← eM] at hM16 HLk HL0 HRY HXk hA1
      rw [← eL] at hL16 HLk HL0
      rw [← eO] at hP16 HXk HNf hA1
      rw [← eN] at hN16 HXk HNf
      clear eM eL eO eN HNe
      cases hc : co X j
      · have hB1 : RtS w w1 xs M N ZB := by rw [HNf.out hc]; exact hA1
        rw [show cbit false = 0 from rfl]
        clear hA hA1 k1 HXk
        go_wp2_with (refine law_load rfl 37 _ rfl _ rfl 37 _ hB1.y _ Try.underlying37 rfl (by rw [bys_length, hM16]; kernel_rfl) ?_)
        go_at_call 68; refine (HRY.out _).mono ?_; rintro e w2 ⟨rfl, k2⟩
        have hB2 := hB1.call k2
        clear hB1 k2
        cases ho : co (V j) 127
        · have HVN : Hid (bq (V (j + 1)) = L) := by show _ = _; rw [HVS.out, bq_eT, show (V j).getLsbD 0 = false from ho, HLe.out]; rfl
          rw [show cbit false = 0 from rfl]
          clear ho HLe
          go_wp2_with fail
          go_loopw [9] (fun i wr2 => ∃ k : Nat, k ≤ 15 ∧ i = .int .i64 (k : Int) ∧ RtS w wr2 xs (mid M L (k + 1)) N ZB) (fun i _ => (intOf i).toNat)
          case atStart => exact ⟨15, by omega, rfl, by rw [mid_full M L 16 hM16 hL16]; exact hB2⟩
          case round =>
            obtain ⟨k, hk, rfl, hC⟩ := hrel
            clear hB2
            by_cases hk0 : 0 < k
            · have hkI : (k : Int) > 0 := by omega
              have hml := mid_length M L 16 (k + 1) hM16 hL16
              have a1 := hC.y.byte k (by omega)
              have a2 := hC.y.byte (k - 1) (by omega)
              have f1 := hC.y.fz k
              rw [mid_before M L (k + 1) k 16 hM16 (by omega) (by omega)] at a1
              rw [mid_before M L (k + 1) (k - 1) 16 hM16 (by omega) (by omega)] at a2
              have hx := HLk.out k hk0 (by omega)
              have hst := hC.putY k (L.getD k 0#8)
              rw [mid_down M L k 16 hM16 hL16 (by omega)] at hst
              obtain ⟨y1, ey1⟩ : ∃ y, y = v8 (M.getD k 0#8) := ⟨_, rfl⟩
              obtain ⟨y2, ey2⟩ : ∃ y, y = v8 (M.getD (k - 1) 0#8) := ⟨_, rfl⟩
              have y10 := v8_nn (M.getD k 0#8)
              have y11 := v8_le (M.getD k 0#8)
              have y20 := v8_nn (M.getD (k - 1) 0#8)
              have y21 := v8_le (M.getD (k - 1) 0#8)
              rw [← ey1] at a1 hx y10 y11
              rw [← ey2] at a2 hx y20 y21
              have HX : Hid _ := hx
              clear ey1 ey2 hx
              have z1 : IntKind.i64.wrap ((k : Int) - 1) = (k : Int) - 1 := by rw [IntKind.wrap_i64]; omega
              have z4 : (k : Int) < 16 := by omega
              have z5 : (k : Int) - 1 < 16 := by omega
              have z6 : (0 : Int) ≤ (k : Int) - 1 := by omega
              go_wp2_with fail
              go_region
              go_wp2_with fail
              rw [HX.out]
              refine ⟨⟨k - 1, by omega, by rw [show ((k - 1 : Nat) : Int) = (k : Int) - 1 by omega], ?_⟩, by simp [intOf]; omega⟩
              rw [show k - 1 + 1 = k by omega]
              exact hst.drew
            · have hk00 : k = 0 := by omega
              subst hk00
              have hml := mid_length M L 16 (0 + 1) hM16 hL16
              have a1 := hC.y.byte 0 (by omega)
              have f1 := hC.y.fz 0
              rw [mid_before M L (0 + 1) 0 16 hM16 (by omega) (by omega)] at a1
              have hx : Hid _ := HL0.out
              have hst := hC.putY 0 (L.getD 0 0#8)
              rw [mid_down M L 0 16 hM16 hL16 (by omega), mid_zero] at hst
              obtain ⟨y1, ey1⟩ : ∃ y, y = v8 (M.getD 0 0#8) := ⟨_, rfl⟩
              have y10 := v8_nn (M.getD 0 0#8)
              have y11 := v8_le (M.getD 0 0#8)
              rw [← ey1] at a1 hx y10 y11
              clear ey1
              go_wp2_with fail
              rw [hx.out]
              refine ⟨⟨j + 1, by omega, by go_num, ?_⟩, by simp [intOf]; omega⟩
              rw [HVN.out, HNN.out]
              exact hst
        · have HVN : Hid (bq (V (j + 1)) = L.set 0 (L.getD 0 0#8 ^^^ 0xe1#8)) := by show _ = _; rw [HVS.out, bq_eT, show (V j).getLsbD 0 = true from ho, HLe.out]; rfl
          rw [show cbit true = 1 from rfl]
          clear ho HLe
          go_wp2_with fail
          go_loopw [9] (fun i wr2 => ∃ k : Nat, k ≤ 15 ∧ i = .int .i64 (k : Int) ∧ RtS w wr2 xs (mid M L (k + 1)) N ZB) (fun i _ => (intOf i).toNat)
          case atStart => exact ⟨15, by omega, rfl, by rw [mid_full M L 16 hM16 hL16]; exact hB2⟩
          case round =>
            obtain ⟨k, hk, rfl, hC⟩ := hrel
            clear hB2
            by_cases hk0 : 0 < k
            · have hkI : (k : Int) > 0 := by omega
              have hml := mid_length M L 16 (k + 1) hM16 hL16
              have a1 := hC.y.byte k (by omega)
              have a2 := hC.y.byte (k - 1) (by omega)
              have f1 := hC.y.fz k
              rw [mid_before M L (k + 1) k 16 hM16 (by omega) (by omega)] at a1
              rw [mid_before M L (k + 1) (k - 1) 16 hM16 (by omega) (by omega)] at a2
              have hx := HLk.out k hk0 (by omega)
              have hst := hC.putY k (L.getD k 0#8)
              rw [mid_down M L k 16 hM16 hL16 (by omega)] at hst
              obtain ⟨y1, ey1⟩ : ∃ y, y = v8 (M.getD k 0#8) := ⟨_, rfl⟩
              obtain ⟨y2, ey2⟩ : ∃ y, y = v8 (M.getD (k - 1) 0#8) := ⟨_, rfl⟩
              have y10 := v8_nn (M.getD k 0#8)
              have y11 := v8_le (M.getD k 0#8)
              have y20 := v8_nn (M.getD (k - 1) 0#8)
              have y21 := v8_le (M.getD (k - 1) 0#8)
              rw [← ey1] at a1 hx y10 y11
              rw [← ey2] at a2 hx y20 y21
              have HX : Hid _ := hx
              clear ey1 ey2 hx
              have z1 : IntKind.i64.wrap ((k : Int) - 1) = (k : Int) - 1 := by rw [IntKind.wrap_i64]; omega
              have z4 : (k : Int) < 16 := by omega
              have z5 : (k : Int) - 1 < 16 := by omega
              have z6 : (0 : Int) ≤ (k : Int) - 1 := by omega
              go_wp2_with fail
              go_region
              go_wp2_with fail
              rw [HX.out]
              refine ⟨⟨k - 1, by omega, by rw [show ((k - 1 : Nat) : Int) = (k : Int) - 1 by omega], ?_⟩, by simp [intOf]; omega⟩
              rw [show k - 1 + 1 = k by omega]
              exact hst.drew
            · have hk00 : k = 0 := by omega
              subst hk00
              have hml := mid_length M L 16 (0 + 1) hM16 hL16
              have a1 := hC.y.byte 0 (by omega)
              have f1 := hC.y.fz 0
              rw [mid_before M L (0 + 1) 0 16 hM16 (by omega) (by omega)] at a1
              have hx : Hid _ := HL0.out
              have hst := hC.putY 0 (L.getD 0 0#8)
              rw [mid_down M L 0 16 hM16 hL16 (by omega), mid_zero] at hst
              obtain ⟨y1, ey1⟩ : ∃ y, y = v8 (M.getD 0 0#8) := ⟨_, rfl⟩
              have y10 := v8_nn (M.getD 0 0#8)
              have y11 := v8_le (M.getD 0 0#8)
              rw [← ey1] at a1 hx y10 y11
              clear ey1
              have b1 := hst.y.byte 0 (by omega)
              have g1 := hst.y.fz 0
              have hst2 := hst.putY 0 (L.getD 0 0#8 ^^^ 0xe1#8)
              have hx2 : Hid (bits .xor .u8 (v8 (L.getD 0 0#8)) 225 = v8 (L.getD 0 0#8 ^^^ 0xe1#8)) := v8_xor (L.getD 0 0#8) 0xe1#8
              obtain ⟨u1, eu1⟩ : ∃ u, u = v8 (L.getD 0 0#8) := ⟨_, rfl⟩
              obtain ⟨u2, eu2⟩ : ∃ u, u = v8 (L.getD 0 0#8 ^^^ 0xe1#8) := ⟨_, rfl⟩
              have u10 := v8_nn (L.getD 0 0#8)
              have u11 := v8_le (L.getD 0 0#8)
              rw [← eu1] at hx b1 hst hx2 u10 u11
              rw [← eu1, ← eu2] at hst2
              rw [← eu2] at hx2
              rw [← hx.out] at b1 hst2 hx2
              clear eu1 eu2 hst hx
              go_wp2_with fail
              rw [hx2.out]
              refine ⟨⟨j + 1, by omega, by go_num, ?_⟩, by simp [intOf]; omega⟩
              rw [HVN.out, HNN.out]
              exact hst2
      · rw [show cbit true = 1 from rfl]
        go_wp2_with fail
        go_loopw [7] (fun i wr1 => ∃ k : Nat, k ≤ 16 ∧ i = .int .i64 (k : Int) ∧ RtS w wr1 xs M (mid N O k) ZB) (fun i _ => 16 - (intOf i).toNat)
        case atStart => exact ⟨0, by omega, rfl, by rw [mid_zero]; exact hA1⟩
        case round =>
          obtain ⟨k, hk, rfl, hC⟩ := hrel
          clear hA hA1 k1
          by_cases hk16 : k < 16
          · have hkI : (k : Int) < 16 := by omega
            have hml := mid_length N O 16 k hN16 hP16
            have a1 := hC.z.byte k (by omega)
            have a2 := hC.y.byte k (by omega)
            have f1 := hC.z.fz k
            rw [mid_at N O k k 16 hN16 hP16 (by omega) (by omega)] at a1
            have hx : Hid _ := HXk.out k hk16 hc
            have hst := hC.putZ k (N.getD k 0#8)
            rw [mid_step N O k 16 hN16 hP16 hk16] at hst
            obtain ⟨y1, ey1⟩ : ∃ y, y = v8 (O.getD k 0#8) := ⟨_, rfl⟩
            obtain ⟨y2, ey2⟩ : ∃ y, y = v8 (M.getD k 0#8) := ⟨_, rfl⟩
            have y10 := v8_nn (O.getD k 0#8)
            have y11 := v8_le (O.getD k 0#8)
            have y20 := v8_nn (M.getD k 0#8)
            have y21 := v8_le (M.getD k 0#8)
            rw [← ey1] at a1 hx y10 y11
            rw [← ey2] at a2 hx y20 y21
            clear ey1 ey2
            go_wp2_with fail
            go_region
            go_wp2_with fail
            rw [hx.out]
            refine ⟨⟨k + 1, by omega, by go_num, hst.drew⟩, by simp [intOf]; omega⟩
          · have hk1 : k = 16 := by omega
            subst hk1
            rw [mid_full N O 16 hN16 hP16] at hC
            have hB1 := hC
            clear hC HXk
            go_wp2_with (refine law_load rfl 37 _ rfl _ rfl 37 _ hB1.y _ Try.underlying37 rfl (by rw [bys_length, hM16]; kernel_rfl) ?_)
            go_at_call 68; refine (HRY.out _).mono ?_; rintro e w2 ⟨rfl, k2⟩
            have hB2 := hB1.call k2
            clear hB1 k2
            cases ho : co (V j) 127
            · have HVN : Hid (bq (V (j + 1)) = L) := by show _ = _; rw [HVS.out, bq_eT, show (V j).getLsbD 0 = false from ho, HLe.out]; rfl
              rw [show cbit false = 0 from rfl]
              clear ho HLe
              go_wp2_with fail
              go_loopw [9] (fun i wr2 => ∃ k : Nat, k ≤ 15 ∧ i = .int .i64 (k : Int) ∧ RtS w wr2 xs (mid M L (k + 1)) N ZB) (fun i _ => (intOf i).toNat)
              case atStart => exact ⟨15, by omega, rfl, by rw [mid_full M L 16 hM16 hL16]; exact hB2⟩
              case round =>
                obtain ⟨k, hk, rfl, hC⟩ := hrel
                clear hB2
                by_cases hk0 : 0 < k
                · have hkI : (k : Int) > 0 := by omega
                  have hml := mid_length M L 16 (k + 1) hM16 hL16
                  have a1 := hC.y.byte k (by omega)
                  have a2 := hC.y.byte (k - 1) (by omega)
                  have f1 := hC.y.fz k
                  rw [mid_before M L (k + 1) k 16 hM16 (by omega) (by omega)] at a1
                  rw [mid_before M L (k + 1) (k - 1) 16 hM16 (by omega) (by omega)] at a2
                  have hx := HLk.out k hk0 (by omega)
                  have hst := hC.putY k (L.getD k 0#8)
                  rw [mid_down M L k 16 hM16 hL16 (by omega)] at hst
                  obtain ⟨y1, ey1⟩ : ∃ y, y = v8 (M.getD k 0#8) := ⟨_, rfl⟩
                  obtain ⟨y2, ey2⟩ : ∃ y, y = v8 (M.getD (k - 1) 0#8) := ⟨_, rfl⟩
                  have y10 := v8_nn (M.getD k 0#8)
                  have y11 := v8_le (M.getD k 0#8)
                  have y20 := v8_nn (M.getD (k - 1) 0#8)
                  have y21 := v8_le (M.getD (k - 1) 0#8)
                  rw [← ey1] at a1 hx y10 y11
                  rw [← ey2] at a2 hx y20 y21
                  have HX : Hid _ := hx
                  clear ey1 ey2 hx
                  have z1 : IntKind.i64.wrap ((k : Int) - 1) = (k : Int) - 1 := by rw [IntKind.wrap_i64]; omega
                  have z4 : (k : Int) < 16 := by omega
                  have z5 : (k : Int) - 1 < 16 := by omega
                  have z6 : (0 : Int) ≤ (k : Int) - 1 := by omega
                  go_wp2_with fail
                  go_region
                  go_wp2_with fail
                  rw [HX.out]
                  refine ⟨⟨k - 1, by omega, by rw [show ((k - 1 : Nat) : Int) = (k : Int) - 1 by omega], ?_⟩, by simp [intOf]; omega⟩
                  rw [show k - 1 + 1 = k by omega]
                  exact hst.drew
                · have hk00 : k = 0 := by omega
                  subst hk00
                  have hml := mid_length M L 16 (0 + 1) hM16 hL16
                  have a1 := hC.y.byte 0 (by omega)
                  have f1 := hC.y.fz 0
                  rw [mid_before M L (0 + 1) 0 16 hM16 (by omega) (by omega)] at a1
                  have hx : Hid _ := HL0.out
                  have hst := hC.putY 0 (L.getD 0 0#8)
                  rw [mid_down M L 0 16 hM16 hL16 (by omega), mid_zero] at hst
                  obtain ⟨y1, ey1⟩ : ∃ y, y = v8 (M.getD 0 0#8) := ⟨_, rfl⟩
                  have y10 := v8_nn (M.getD 0 0#8)
                  have y11 := v8_le (M.getD 0 0#8)
                  rw [← ey1] at a1 hx y10 y11
                  clear ey1
                  go_wp2_with fail
                  rw [hx.out]
                  refine ⟨⟨j + 1, by omega, by go_num, ?_⟩, by simp [intOf]; omega⟩
                  rw [HVN.out, HNN.out]
                  exact hst
            · have HVN : Hid (bq (V (j + 1)) = L.set 0 (L.getD 0 0#8 ^^^ 0xe1#8)) := by show _ = _; rw [HVS.out, bq_eT, show (V j).getLsbD 0 = true from ho, HLe.out]; rfl
              rw [show cbit true = 1 from rfl]
              clear ho HLe
              go_wp2_with fail
              go_loopw [9] (fun i wr2 => ∃ k : Nat, k ≤ 15 ∧ i = .int .i64 (k : Int) ∧ RtS w wr2 xs (mid M L (k + 1)) N ZB) (fun i _ => (intOf i).toNat)
              case atStart => exact ⟨15, by omega, rfl, by rw [mid_full M L 16 hM16 hL16]; exact hB2⟩
              case round =>
                obtain ⟨k, hk, rfl, hC⟩ := hrel
                clear hB2
                by_cases hk0 : 0 < k
                · have hkI : (k : Int) > 0 := by omega
                  have hml := mid_length M L 16 (k + 1) hM16 hL16
                  have a1 := hC.y.byte k (by omega)
                  have a2 := hC.y.byte (k - 1) (by omega)
                  have f1 := hC.y.fz k
                  rw [mid_before M L (k + 1) k 16 hM16 (by omega) (by omega)] at a1
                  rw [mid_before M L (k + 1) (k - 1) 16 hM16 (by omega) (by omega)] at a2
                  have hx := HLk.out k hk0 (by omega)
                  have hst := hC.putY k (L.getD k 0#8)
                  rw [mid_down M L k 16 hM16 hL16 (by omega)] at hst
                  obtain ⟨y1, ey1⟩ : ∃ y, y = v8 (M.getD k 0#8) := ⟨_, rfl⟩
                  obtain ⟨y2, ey2⟩ : ∃ y, y = v8 (M.getD (k - 1) 0#8) := ⟨_, rfl⟩
                  have y10 := v8_nn (M.getD k 0#8)
                  have y11 := v8_le (M.getD k 0#8)
                  have y20 := v8_nn (M.getD (k - 1) 0#8)
                  have y21 := v8_le (M.getD (k - 1) 0#8)
                  rw [← ey1] at a1 hx y10 y11
                  rw [← ey2] at a2 hx y20 y21
                  have HX : Hid _ := hx
                  clear ey1 ey2 hx
                  have z1 : IntKind.i64.wrap ((k : Int) - 1) = (k : Int) - 1 := by rw [IntKind.wrap_i64]; omega
                  have z4 : (k : Int) < 16 := by omega
                  have z5 : (k : Int) - 1 < 16 := by omega
                  have z6 : (0 : Int) ≤ (k : Int) - 1 := by omega
                  go_wp2_with fail
                  go_region
                  go_wp2_with fail
                  rw [HX.out]
                  refine ⟨⟨k - 1, by omega, by rw [show ((k - 1 : Nat) : Int) = (k : Int) - 1 by omega], ?_⟩, by simp [intOf]; omega⟩
                  rw [show k - 1 + 1 = k by omega]
                  exact hst.drew
                · have hk00 : k = 0 := by omega
                  subst hk00
                  have hml := mid_length M L 16 (0 + 1) hM16 hL16
                  have a1 := hC.y.byte 0 (by omega)
                  have f1 := hC.y.fz 0
                  rw [mid_before M L (0 + 1) 0 16 hM16 (by omega) (by omega)] at a1
                  have hx : Hid _ := HL0.out
                  have hst := hC.putY 0 (L.getD 0 0#8)
                  rw [mid_down M L 0 16 hM16 hL16 (by omega), mid_zero] at hst
                  obtain ⟨y1, ey1⟩ : ∃ y, y = v8 (M.getD 0 0#8) := ⟨_, rfl⟩
                  have y10 := v8_nn (M.getD 0 0#8)
                  have y11 := v8_le (M.getD 0 0#8)
                  rw [← ey1] at a1 hx y10 y11
                  clear ey1
                  have b1 := hst.y.byte 0 (by omega)
                  have g1 := hst.y.fz 0
                  have hst2 := hst.putY 0 (L.getD 0 0#8 ^^^ 0xe1#8)
                  have hx2 : Hid (bits .xor .u8 (v8 (L.getD 0 0#8)) 225 = v8 (L.getD 0 0#8 ^^^ 0xe1#8)) := v8_xor (L.getD 0 0#8) 0xe1#8
                  obtain ⟨u1, eu1⟩ : ∃ u, u = v8 (L.getD 0 0#8) := ⟨_, rfl⟩
                  obtain ⟨u2, eu2⟩ : ∃ u, u = v8 (L.getD 0 0#8 ^^^ 0xe1#8) := ⟨_, rfl⟩
                  have u10 := v8_nn (L.getD 0 0#8)
                  have u11 := v8_le (L.getD 0 0#8)
                  rw [← eu1] at hx b1 hst hx2 u10 u11
                  rw [← eu1, ← eu2] at hst2
                  rw [← eu2] at hx2
                  rw [← hx.out] at b1 hst2 hx2
                  clear eu1 eu2 hst hx
                  go_wp2_with fail
                  rw [hx2.out]
                  refine ⟨⟨j + 1, by omega, by go_num, ?_⟩, by simp [intOf]; omega⟩
                  rw [HVN.out, HNN.out]
                  exact hst2
    · have hj128 : j = 128 := by omega
      subst hj128
      have hP16 := bq_length (P 128)
      go_wp2_with (first | (refine law_load rfl 37 _ rfl _ rfl 37 _ hA.z _ Try.underlying37 rfl (by rw [bys_length, hP16]; kernel_rfl) ?_) | (refine law_store rfl 37 _ _ rfl _ (bys (bq (P 128))) rfl rfl 37 _ hA.r (by rw [bys_length, bys_length, hP16, hZB]) (by rw [bys_length, hP16]; kernel_rfl) (bys_one _) ?_; intro wG hoG hAG))
      refine bodyPost_ret (v := .agg (bys (bq (P 128))).toArray) (results_cell_row rfl _ _ (w.heap.size + 1 + 1) 37 _ _ _ rfl hAG Try.underlying37 rfl (by rw [List.size_toArray, bys_length, hP16]; kernel_rfl)) rfl ⟨rfl, hoG.below hA.k (by omega)⟩
end Go.Proofs.Ytjhkicfndbceoaa
