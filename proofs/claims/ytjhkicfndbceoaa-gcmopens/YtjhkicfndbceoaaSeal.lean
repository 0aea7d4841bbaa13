/- Sealing, by the program. -/
import Derived.Test.YtjhkicfndbceoaaCov
namespace Go.Proofs.Ytjhkicfndbceoaa
open Go.RowKit

theorem Blk.grown {w w' : World} {g cg : Nat} {t : TypeId} {vs : List Value} (h : Blk w g t vs) (hg : w.grownBy w' (some cg)) (hne : g ≠ cg) : Blk w' g t vs :=
  (hg.block g h.lt (by simpa using hne)).trans h
theorem own_blk {w : World} {base g n : Nat} {l : List B} (h : Blk w g 5 (bys l)) (hl : l.length = n) (hb : base ≤ g) (hn : n ≤ 1000000) : w.ownsRow base 5 1 (.slice (some ⟨g, 0, none⟩) n n) n (u8s (v8s l)) := by
  rw [u8s_v8s]
  refine ⟨by rw [bys_length, hl, Nat.mul_one], Or.inr ⟨g, n, (bys l).toArray, rfl, hb, h, Nat.le_refl _, by unfold maxLen; omega, by simp [bys_length, hl], ?_⟩⟩
  rw [Nat.mul_one]
  show (bys l).take n = bys l
  rw [List.take_of_length_le (by rw [bys_length]; omega)]
theorem shows_blk {w : World} {g n : Nat} {t : TypeId} {l : List B} (h : Blk w g t (bys l)) (hl : l.length = n) : Shows w (some ⟨g, 0, none⟩) n (v8s l) := by
  refine ⟨by rw [v8s_length, hl], fun e => (by cases e), fun ad had j hj => ?_, v8s_rng l⟩
  cases had
  rw [addz, Nat.zero_add, h.byte j (by omega), v8s_at l j (by omega)]
theorem zero55e : ∃ Z : List B, Z.length = 240 ∧ ∀ W : World, (zeroValue 55).run Try.prog W = .ok (.agg (bys Z).toArray) W := zeroed55

set_option maxHeartbeats 2000000 in
set_option maxRecDepth 100000 in
theorem seal_walk (key nonce ad p RK M1 T : List B) (TG : Q) (hk : key.length = 32) (hn : nonce.length = 12) (hRK : RK.length = 240) (hM1 : M1.length = 16) (ao bo : Option Addr) (n m c d : Nat) (w : World) (hT : T.length = m)
    (hs : Shows w ao n (v8s ad)) (ht : Shows w bo m (v8s p)) (hbn : n ≤ 65536) (hbm : m ≤ 65536)
    (H22 : Hid (∀ W : World, Calls Try.prog 22 #[.agg (bys key).toArray] W fun e w' => e = .returned (.agg (bys RK).toArray) ∧ Below W.heap.size W w'))
    (H37 : Hid (∀ (kg ng cg : Nat) (W : World), KsS W kg ng cg RK nonce 0 → Calls Try.prog 37 #[.pointer (some ⟨cg, 0, none⟩), .pointer (some ⟨kg, 0, none⟩), .pointer (some ⟨ng, 0, none⟩)] W fun e w' => e = .returned (.agg (bys M1).toArray) ∧ KsS w' kg ng cg RK nonce 1 ∧ W.grownBy w' (some cg)))
    (H24 : Hid (∀ (kg ng cg : Nat) (W : World), Shows W bo m (v8s p) → KsS W kg ng cg RK nonce 1 → (∀ ad, bo = some ad → 0 < m → ad.block ≠ cg) → Calls Try.prog 24 #[.slice bo m d, .func (.func 37) #[] #[.pointer (some ⟨cg, 0, none⟩), .pointer (some ⟨kg, 0, none⟩), .pointer (some ⟨ng, 0, none⟩)]] W
      fun e w' => e = .returned (.slice (some ⟨W.heap.size, 0, none⟩) m m) ∧ Blk w' W.heap.size 5 (bys T) ∧ W.grownBy w' (some cg)))
    (H25 : Hid (∀ (g : Nat) (W : World), Shows W ao n (v8s ad) → Shows W (some ⟨g, 0, none⟩) m (v8s T) → Calls Try.prog 25 #[.agg (bys RK).toArray, .agg (bys M1).toArray, .slice ao n c, .slice (some ⟨g, 0, none⟩) m m] W fun e w' => e = .returned (.agg (el TG).toArray) ∧ Below W.heap.size W w')) :
    Calls Try.prog 10 #[.agg (bys key).toArray, .agg (bys nonce).toArray, .slice ao n c, .slice bo m d] w fun e w' => ∃ v, e = .returned v ∧ w'.ownsRow w.heap.size 5 1 v (m + 16) (u8s (v8s (T ++ bq TG))) ∧ Below w.heap.size w w' := by
  obtain ⟨ZB, hZB, hzB⟩ := zeroed37'
  obtain ⟨ZK, hZK, hzK⟩ := zero55e
  obtain ⟨h1, h2, h3⟩ := blk2 w 22 23 (bys key) (bys nonce)
  have hnI : ¬ ((n : Int) > 65536) := by omega
  have hmI : ¬ ((m : Int) > 65536) := by omega
  go_enter Try.func10, Try.ntmps10
  go_wp2_with (refine law_load rfl 22 _ rfl _ rfl 22 _ h1 _ Try.underlying22 rfl (by rw [bys_length, hk]; kernel_rfl) ?_)
  go_at_call 22; refine (H22.out _).mono ?_; rintro e v1 ⟨rfl, k1⟩
  have b1 : Below w.heap.size w v1 := h3.trans (k1.mono h3.size)
  have n1 := h2.next k1
  clear h1 h2 h3 k1
  have hN := Blk.new v1 55 (bys ZK)
  go_wp2_with (first
    | (refine law_store rfl 55 _ _ rfl _ (bys RK) rfl rfl 55 _ hN (by rw [bys_length, bys_length, hRK, hZK]) (by rw [bys_length, hRK]; kernel_rfl) (bys_one RK) ?_; intro v2 o2 k2; have n2 := (n1.alloc (.cells (bys ZK).toArray 55)).on o2 (by have := n1.lt; omega); have b2 := o2.below (b1.alloc b1.size (.cells (bys ZK).toArray 55)) b1.size)
    | (refine law_load rfl 55 _ rfl _ rfl 55 _ k2 _ Try.underlying55 rfl (by rw [bys_length, hRK]; kernel_rfl) ?_)
    | (refine law_load rfl 23 _ rfl _ rfl 23 _ n2 _ Try.underlying23 rfl (by rw [bys_length, hn]; kernel_rfl) ?_))
  go_at_call 23; refine (keyStream_any RK nonce v2).mono ?_; rintro e v3 ⟨rfl, s3, k3⟩
  have b3 : Below w.heap.size w v3 := b2.trans (k3.mono b2.size)
  have kk3 := k2.next k3
  have l2 := k2.lt
  have sz2 := b2.size
  obtain ⟨kg, ekg⟩ : ∃ g, g = v2.heap.size := ⟨_, rfl⟩
  obtain ⟨ng, eng⟩ : ∃ g, g = v2.heap.size + 1 := ⟨_, rfl⟩
  obtain ⟨cg, ecg⟩ : ∃ g, g = v2.heap.size + 1 + 1 := ⟨_, rfl⟩
  obtain ⟨g9, e9⟩ : ∃ g, g = v1.heap.size := ⟨_, rfl⟩
  rw [← ecg, ← eng, ← ekg] at s3 ⊢
  rw [← e9] at kk3 l2 ⊢
  have hcw : w.heap.size ≤ cg := by omega
  have h9c : g9 ≠ cg := by omega
  clear hN k2 n1 n2 o2 b1 b2 k3 ekg eng ecg e9 sz2 l2
  go_wp2_with fail
  go_at_call 37; refine (H37.out kg ng cg v3 s3).mono ?_; rintro e v4 ⟨rfl, s4, g4⟩
  have b4 : Below w.heap.size w v4 := b3.grown g4 b3.size (fun k hk => by cases hk; exact hcw)
  have k4 := kk3.grown g4 h9c
  clear s3 kk3 g4
  have hN := Blk.new v4 37 (bys ZB)
  have hc4 := s4.c.lt
  have hk4 := s4.k.lt
  have hn4 := s4.no.lt
  have hg4 := k4.lt
  go_wp2_with (refine law_store rfl 37 _ _ rfl _ (bys M1) rfl rfl 37 _ hN (by rw [bys_length, bys_length, hM1, hZB]) (by rw [bys_length, hM1]; kernel_rfl) (bys_one M1) ?_; intro v5 o5 m5; have b5 := o5.below (b4.alloc b4.size (.cells (bys ZB).toArray 37)) b4.size; have s5 := (s4.alloc (.cells (bys ZB).toArray 37)).on o5 (by omega) (by omega) (by omega); have k5 := (k4.alloc (.cells (bys ZB).toArray 37)).on o5 (by omega))
  have m5l := m5.lt
  obtain ⟨g11, e11⟩ : ∃ g, g = v4.heap.size := ⟨_, rfl⟩
  rw [← e11] at m5 m5l ⊢
  have h11c : g11 ≠ cg := by omega
  clear hN o5 e11
  go_at_call 24; refine (H24.out kg ng cg v5 (ht.later b5) s5 (fun a ha hm => by subst ha; have := ht.lt hm; omega)).mono ?_; rintro e v6 ⟨rfl, t6, g6⟩
  have b6 : Below w.heap.size w v6 := b5.grown g6 b5.size (fun k hk => by cases hk; exact hcw)
  have k6 := k5.grown g6 h9c
  have m6 := m5.grown g6 h11c
  have sz5 := b5.size
  obtain ⟨gt, et⟩ : ∃ g, g = v5.heap.size := ⟨_, rfl⟩
  rw [← et] at t6 sz5 ⊢
  clear g6 k5 m5 s5 s4 et m5l
  have sT := shows_blk t6 hT
  have hgw : w.heap.size ≤ gt := sz5
  go_wp2_with (first
    | (refine law_load rfl 55 _ rfl _ rfl 55 _ k6 _ Try.underlying55 rfl (by rw [bys_length, hRK]; kernel_rfl) ?_)
    | (refine law_load rfl 37 _ rfl _ rfl 37 _ m6 _ Try.underlying37 rfl (by rw [bys_length, hM1]; kernel_rfl) ?_))
  go_at_call 25; refine (H25.out gt v6 (hs.later b6) sT).mono ?_; rintro e v7 ⟨rfl, k7⟩
  go_wp2_with fail
  go_at_call 26; refine (toB_any TG _).mono ?_; rintro e v8 ⟨rfl, k8⟩
  have kk := k7.trans (k8.mono k7.size)
  have b8 : Below w.heap.size w v8 := b6.trans (kk.mono b6.size)
  have t8 := t6.next kk
  clear k7 k8 kk k6 m6 t6 sT b6
  have hB16 := bq_length TG
  obtain ⟨TB, eTB⟩ : ∃ l, l = bq TG := ⟨_, rfl⟩
  have ETB : Hid (bq TG = TB) := eTB.symm
  rw [← eTB] at hB16 ⊢
  clear eTB
  have hN := Blk.new v8 37 (bys ZB)
  have ht8 := t8.lt
  have hwh := fun W => whole37 W v8.heap.size
  go_wp2_with (first
    | (refine law_store rfl 37 _ _ rfl _ (bys TB) rfl rfl 37 _ hN (by rw [bys_length, bys_length, hB16, hZB]) (by rw [bys_length, hB16]; kernel_rfl) (bys_one TB) ?_; intro v9 o9 m9; have b9 := o9.below (b8.alloc b8.size (.cells (bys ZB).toArray 37)) b8.size; have t9 := (t8.alloc (.cells (bys ZB).toArray 37)).on o9 (by omega); have s9 := shows_blk m9 hB16; have r9 := own_blk (base := w.heap.size) t9 hT hgw (by omega))
    | (at_builtin; go_must (refine law_append rfl _ _ rfl w.heap.size _ _ _ rfl r9 _ 16 16 _ rfl s9 (by intro h; cases h) (by omega) b9.size ?_)))
  intro v' wZ hown hgr _
  go_wp2_with fail
  go_ret
  refine ⟨v', rfl, ?_, b9.grown hgr b9.size (fun k hk => by cases hk; exact hgw)⟩
  rw [ETB.out, v8s_append]
  exact hown
theorem seal_any (key nonce ad p : List B) (hk : key.length = 32) (hn : nonce.length = 12) (ao bo : Option Addr) (n m c d : Nat) (w : World) (hs : Shows w ao n (v8s ad)) (ht : Shows w bo m (v8s p)) (hc : ao = none → c = 0) (hnc : n ≤ c) (hbn : n ≤ 65536) (hbm : m ≤ 65536) :
    Calls Try.prog 10 #[.agg (bys key).toArray, .agg (bys nonce).toArray, .slice ao n c, .slice bo m d] w fun e w' => ∃ v, e = .returned v ∧ w'.ownsRow w.heap.size 5 1 v (m + 16) (u8s (v8s (sealM key nonce ad p))) ∧ Below w.heap.size w w' := by
  have hl : p.length = m := by have := ht.len; rw [v8s_length] at this; exact this
  have hT : (cov key nonce p).length = m := by rw [cov_length, hl]
  have hRK := ready_length key hk
  have hM := strm_length key nonce hk hn 1
  have H37 : ∀ (kg ng cg : Nat) (W : World), KsS W kg ng cg (ready key) nonce 0 → Calls Try.prog 37 #[.pointer (some ⟨cg, 0, none⟩), .pointer (some ⟨kg, 0, none⟩), .pointer (some ⟨ng, 0, none⟩)] W fun e w' => e = .returned (.agg (bys (strm key nonce 1)).toArray) ∧ KsS w' kg ng cg (ready key) nonce 1 ∧ W.grownBy w' (some cg) := fun kg ng cg W hW => by
    have := next_any (ready key) nonce hRK hn 0 (by omega) kg ng cg W hW
    rw [Nat.zero_add] at this
    exact this
  have H25 : ∀ (g : Nat) (W : World), Shows W ao n (v8s ad) → Shows W (some ⟨g, 0, none⟩) m (v8s (cov key nonce p)) → Calls Try.prog 25 #[.agg (bys (ready key)).toArray, .agg (bys (strm key nonce 1)).toArray, .slice ao n c, .slice (some ⟨g, 0, none⟩) m m] W fun e w' => e = .returned (.agg (el (tagM key nonce ad (cov key nonce p))).toArray) ∧ Below W.heap.size W w' := fun g W h1 h2 => by
    have := tagOf_any (ready key) (strm key nonce 1) ad (cov key nonce p) hRK hM ao (some ⟨g, 0, none⟩) n m c m W h1 h2 hc (fun e => (by cases e)) hnc (Nat.le_refl _) (by omega) (by omega)
    unfold tagM hkey
    exact this
  unfold sealM
  exact seal_walk key nonce ad p (ready key) (strm key nonce 1) (cov key nonce p) (tagM key nonce ad (cov key nonce p)) hk hn hRK hM ao bo n m c d w hT hs ht hbn hbm (expand_any key hk) H37 (fun kg ng cg W h1 h2 h3 => (covered_any key nonce p hk hn kg ng cg bo m d W h1 (by omega) h2 h3).mono (fun e w' h => ⟨h.1, h.2.1, h.2.2.2⟩)) H25

set_option maxHeartbeats 1000000 in
set_option maxRecDepth 100000 in
theorem seal_long (key nonce : List B) (ao bo : Option Addr) (n m c d : Nat) (w : World) (h : 65536 < n ∨ 65536 < m) :
    Calls Try.prog 10 #[.agg (bys key).toArray, .agg (bys nonce).toArray, .slice ao n c, .slice bo m d] w fun e w' => e = .returned (.slice none 0 0) ∧ Below w.heap.size w w' := by
  obtain ⟨h1, h2, h3⟩ := blk2 w 22 23 (bys key) (bys nonce)
  by_cases hn : 65536 < n
  · have hnI : (n : Int) > 65536 := by omega
    go_enter Try.func10, Try.ntmps10
    go_wp2
    go_ret
    exact ⟨rfl, h3⟩
  · have hnI : ¬ ((n : Int) > 65536) := by omega
    have hmI : (m : Int) > 65536 := by omega
    go_enter Try.func10, Try.ntmps10
    go_wp2
    go_ret
    exact ⟨rfl, h3⟩
end Go.Proofs.Ytjhkicfndbceoaa
