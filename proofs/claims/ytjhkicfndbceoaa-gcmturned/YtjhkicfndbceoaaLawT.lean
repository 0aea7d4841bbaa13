/- GcmTurned: with the tag turned, or the nonce, or, where H is not 0, a long element of the text or of ad: ErrTag. -/
import Derived.Test.YtjhkicfndbceoaaTrn
import Derived.Test.YtjhkicfndbceoaaEqu
import Derived.Test.YtjhkicfndbceoaaRExp
import Derived.Deep.CutBlock
namespace Go.Proofs.Ytjhkicfndbceoaa
open Go.RowKit

def tc (WH AT : Int) (mk : List B) : List Value := .int .i64 WH :: .int .i64 AT :: bys mk
/-- A whole block is loaded, behind a guard that is met. -/
theorem law_loadW {w : World} {ops : Array Oper} {rest : List Oper} {o : Oper} {a : Act} {Q : Exit → Act → World → Prop} (hw : Region.wanted o (yielded ops a.tmps) = true) (ty : TypeId) (x : Operand) (ho : o.op = .load ty x) (g : Nat) (hx : a.eval x = .pointer (some ⟨g, 0, none⟩)) (t : TypeId) (vs : List Value) (hA : Blk w g t vs)
    (d : TypeDesc) (hu : Try.prog.underlying ty = some d) (hd : d.isRow = true) (hi : (Try.prog.info? ty).map (·.size) = some vs.length)
    (h : wpList Try.prog ops Q rest (a.put o.dst (.agg vs.toArray)) w) : wpList Try.prog ops Q (o :: rest) a w :=
  wpList_wanted hw fun _ hK => wp_load_mid ty x ho g 0 hx vs d hA.whole hu hd hi (hK _ _ h)
/-- What came in: what is sealed, and what is turned. -/
structure TwS (w v : World) (key nonce : List B) (a b : Value) (WH AT : Int) (mk : List B) : Prop where
  l : LwS w v w.heap.size key nonce a b
  t : Blk v (w.heap.size + 1) 39 (tc WH AT mk)
  hm : mk.length = 16
section
variable {w v v' : World} {key nonce mk : List B} {a b : Value} {WH AT : Int}
theorem TwS.call (h : TwS w v key nonce a b WH AT mk) (hb : Below v.heap.size v v') : TwS w v' key nonce a b WH AT mk := ⟨h.l.call hb, h.t.next hb, h.hm⟩
theorem TwS.drew (h : TwS w v key nonce a b WH AT mk) : TwS w v.drew key nonce a b WH AT mk := h.call ((Below.refl _ v).drew)
theorem TwS.on (h : TwS w v key nonce a b WH AT mk) {g : Nat} (ho : On v v' g) (hg : w.heap.size + 1 < g) : TwS w v' key nonce a b WH AT mk := ⟨⟨h.l.blk.on ho (by omega), ho.below h.l.k (by omega), h.l.hk, h.l.hn⟩, h.t.on ho (by omega), h.hm⟩
theorem TwS.cwh (h : TwS w v key nonce a b WH AT mk) : v.cell? ⟨w.heap.size + 1, 0, none⟩ = some (.int .i64 WH) := h.t.cell 0 _ rfl
theorem TwS.cat (h : TwS w v key nonce a b WH AT mk) : v.cell? ⟨w.heap.size + 1, 1, none⟩ = some (.int .i64 AT) := h.t.cell 1 _ rfl
theorem TwS.mask (h : TwS w v key nonce a b WH AT mk) : v.rangeAt (w.heap.size + 1) 2 (bys mk) := by
  have := h.t.range 2 16
  have e : ((tc WH AT mk).drop 2).take 16 = bys mk := by
    show (bys mk).take 16 = bys mk
    rw [List.take_of_length_le (by rw [bys_length, h.hm]; omega)]
  rwa [e] at this
theorem TwS.mbyte (h : TwS w v key nonce a b WH AT mk) (i : Nat) (hi : i < 16) : v.cell? ⟨w.heap.size + 1, 2 + i, none⟩ = some (.int .u8 (v8 (mk.getD i 0#8))) := by
  have := h.mask i _ (bys_get mk i (by rw [h.hm]; exact hi))
  exact this
end
theorem nbl_le (n : Nat) : 16 * nbl n ≤ n + 15 := by unfold nbl; omega
/-- Behind the switch: what is opened, and why it is refused. -/
def TnC (w wc : World) (key nonce : List B) (a b : Value) (WH AT : Int) (mk : List B) (n m M g8 : Nat) (s5 a7 o9 h10 : Value) : Prop :=
  ∃ (ao5 ao7 : Option Addr) (c5 c7 : Nat) (s' ad' nonce' : List B) (ob hb : Bool), s5 = .slice ao5 M c5 ∧ a7 = .slice ao7 n c7 ∧ o9 = .bool ob ∧ h10 = .bool hb ∧ Shows wc ao5 M (v8s s') ∧ M ≤ c5 ∧ Shows wc ao7 n (v8s ad') ∧ (ao7 = none → c7 = 0) ∧ n ≤ c7
    ∧ Blk wc g8 23 (bys nonce') ∧ nonce'.length = 12 ∧ TwS w wc key nonce a b WH AT mk ∧ Hid (ob = true → (hb = true → hkey key ≠ 0#128) → rightM key nonce' ad' s' m = false)

set_option maxHeartbeats 8000000 in
set_option maxRecDepth 100000 in
theorem turned_walk (key nonce ad p mk sl RT HB ZB : List B) (WH AT : Int) (hk : key.length = 32) (hn : nonce.length = 12) (hmk : mk.length = 16) (ao bo : Option Addr) (n m M c d : Nat) (w : World) (ha : Shows w ao n (v8s ad)) (hb : Shows w bo m (v8s p)) (hca : ao = none → c = 0) (hcb : bo = none → d = 0) (hbn : n ≤ 4096) (hbm : m ≤ 4096) (hM : M = m + 16)
    (HS : Hid (sealM key nonce ad p = sl)) (hsl : sl.length = M) (hHB : HB.length = 16) (hZB : ZB.length = 16) (b37 : Try.prog.built 37 [] = some (bys ZB).toArray) (hz37 : ∀ W : World, (zeroValue 37).run Try.prog W = .ok (.agg (bys ZB).toArray) W)
    (T0 : Hid (othM mk 16 = true → rightM key nonce ad (turnTo sl m mk 16) m = false))
    (T1 : Hid (othM mk 12 = true → rightM key (turnTo nonce 0 mk 12) ad sl m = false))
    (T2 : Hid (∀ q k, k ≤ 16 → 16 * q + k ≤ m → othM mk k = true → hkey key ≠ 0#128 → rightM key nonce ad (turnTo (sl.take m) (16 * q) mk k ++ sl.drop m) m = false))
    (T3 : Hid (∀ q k, k ≤ 16 → 16 * q + k ≤ n → othM mk k = true → hkey key ≠ 0#128 → rightM key nonce (turnTo ad (16 * q) mk k) sl m = false))
    (H20 : Hid (∀ W : World, Calls Try.prog 20 #[.agg (bys key).toArray] W fun e w' => e = .returned (.agg (bys RT).toArray) ∧ Below W.heap.size W w'))
    (H21 : Hid (∀ W : World, Calls Try.prog 21 #[.agg (bys RT).toArray, .agg (bys ZB).toArray] W fun e w' => e = .returned (.agg (bys HB).toArray) ∧ Below W.heap.size W w'))
    (HZ : Hid (HB ≠ ZB → hkey key ≠ 0#128)) :
    Calls Try.prog 6 #[.agg (sc key nonce (.slice ao n c) (.slice bo m d)).toArray, .agg (tc WH AT mk).toArray] w fun e w' => e = .returned (.bool true) ∧ Below w.heap.size w w' := by
  have hL : TwS w ((w.alloc (.cells (sc key nonce (.slice ao n c) (.slice bo m d)).toArray 26)).alloc (.cells (tc WH AT mk).toArray 39)) key nonce (.slice ao n c) (.slice bo m d) WH AT mk := by
    obtain ⟨h1, h2, h3⟩ := blk2 w 26 39 (sc key nonce (.slice ao n c) (.slice bo m d)) (tc WH AT mk)
    exact ⟨⟨h1, h3, hk, hn⟩, h2, hmk⟩
  have c44 := hL.l.va
  have c45 := hL.l.vb
  have hnI : ¬ ((n : Int) > 4096) := by omega
  have hmI : ¬ ((m : Int) > 4096) := by omega
  have hMI : (m : Int) + 16 = (M : Int) := by omega
  have HM : Hid (M = m + 16) := hM
  have hM8 : M ≤ 4112 := by omega
  obtain ⟨X, eX⟩ : ∃ X, X = sc key nonce (.slice ao n c) (.slice bo m d) := ⟨_, rfl⟩
  obtain ⟨Y, eY⟩ : ∃ Y, Y = tc WH AT mk := ⟨_, rfl⟩
  rw [← eX, ← eY]
  rw [← eX, ← eY] at hL c44 c45
  clear eX eY hM
  go_enter Try.func6, Try.ntmps6
  go_wp2_with fail
  refine wp_region_to (fun v => TwS w v key nonce (.slice ao n c) (.slice bo m d) WH AT mk) 12 (by kernel_rfl) ?_
  have hS0 := hL.drew
  refine wpTo_take (i := 0) (v := ?v0r3) (show _ = some _ by simp only [List.getElem?_toArray, List.getElem?_cons_zero]; exact rfl) (by kernel_rfl) (by kernel_rfl) (by kernel_rfl) (by kernel_rfl) (by exact fun _ _ _ h => h) (Or.inl ⟨by rfl, ?hy0r3⟩) hS0 ?r0r3
  case hy0r3 => (intro w hSw; (try dsimp only at hSw); go_simp; try with_reducible rfl)
  (try simp only [Act.put]); (try simp only [List.setIfInBounds_toArray]); (repeat (first | simp only [List.set_cons_succ] | simp only [List.set_cons_zero]))
  refine wpTo_take (i := 2) (v := ?v2r3) (show _ = some _ by simp only [List.getElem?_toArray, List.getElem?_cons_succ, List.getElem?_cons_zero]; exact rfl) (by kernel_rfl) (by kernel_rfl) (by kernel_rfl) (by kernel_rfl) (by exact fun _ _ _ h => h) (Or.inl ⟨by rfl, ?hy2r3⟩) hS0 ?r2r3
  case hy2r3 => (intro w hSw; (try dsimp only at hSw); go_simp; try with_reducible rfl)
  (try simp only [Act.put]); (try simp only [List.setIfInBounds_toArray]); (repeat (first | simp only [List.set_cons_succ] | simp only [List.set_cons_zero]))
  refine wpTo_take (i := 4) (v := ?v4r3) (show _ = some _ by simp only [List.getElem?_toArray, List.getElem?_cons_succ, List.getElem?_cons_zero]; exact rfl) (by kernel_rfl) (by kernel_rfl) (by kernel_rfl) (by kernel_rfl) (by exact fun _ _ _ h => h) (Or.inl ⟨by rfl, ?hy4r3⟩) hS0 ?r4r3
  case hy4r3 => (intro w hSw; (try dsimp only at hSw); go_simp; try with_reducible rfl)
  (try simp only [Act.put]); (try simp only [List.setIfInBounds_toArray]); (repeat (first | simp only [List.set_cons_succ] | simp only [List.set_cons_zero]))
  refine wpTo_take (i := 7) (v := ?v7r3) (show _ = some _ by simp only [List.getElem?_toArray, List.getElem?_cons_succ, List.getElem?_cons_zero]; exact rfl) (by kernel_rfl) (by kernel_rfl) (by kernel_rfl) (by kernel_rfl) (by exact fun _ _ _ h => h) (Or.inl ⟨by rfl, ?hy7r3⟩) hS0 ?r7r3
  case hy7r3 => (intro w hSw; (try dsimp only at hSw); go_simp; try with_reducible rfl)
  (try simp only [Act.put]); (try simp only [List.setIfInBounds_toArray]); (repeat (first | simp only [List.set_cons_succ] | simp only [List.set_cons_zero]))
  refine wpTo_take (i := 1) (show _ = some _ by simp only [List.getElem?_toArray, List.getElem?_cons_succ, List.getElem?_cons_zero]; exact rfl) (by kernel_rfl) (by kernel_rfl) (by kernel_rfl) (by kernel_rfl) (by exact fun _ _ _ h => h) (yieldsIf_load_mid (by rfl) 22 (.tmp 28) rfl w.heap.size 0 rfl (bys key) _ (fun v h => LwS.ky (TwS.l h)) Try.underlying22 rfl (by rw [bys_length, hk]; kernel_rfl)) hS0 ?_
  (try simp only [Act.put]); (try simp only [List.setIfInBounds_toArray]); (repeat (first | simp only [List.set_cons_succ] | simp only [List.set_cons_zero]))
  refine wpTo_take (i := 3) (show _ = some _ by simp only [List.getElem?_toArray, List.getElem?_cons_succ, List.getElem?_cons_zero]; exact rfl) (by kernel_rfl) (by kernel_rfl) (by kernel_rfl) (by kernel_rfl) (by exact fun _ _ _ h => h) (yieldsIf_load_mid (by rfl) 23 (.tmp 30) rfl w.heap.size 32 rfl (bys nonce) _ (fun v h => LwS.non (TwS.l h)) Try.underlying23 rfl (by rw [bys_length, hn]; kernel_rfl)) hS0 ?_
  (try simp only [Act.put]); (try simp only [List.setIfInBounds_toArray]); (repeat (first | simp only [List.set_cons_succ] | simp only [List.set_cons_zero]))
  refine wpTo_take (i := 5) (v := ?v5r3) (show _ = some _ by simp only [List.getElem?_toArray, List.getElem?_cons_succ, List.getElem?_cons_zero]; exact rfl) (by kernel_rfl) (by kernel_rfl) (by kernel_rfl) (by kernel_rfl) (by exact fun _ _ _ h => h) (Or.inl ⟨by rfl, ?hy5r3⟩) hS0 ?r5r3
  case hy5r3 => (intro w hSw; (try dsimp only at hSw); have hcc := LwS.va (TwS.l hSw); go_simp; try with_reducible rfl)
  (try simp only [Act.put]); (try simp only [List.setIfInBounds_toArray]); (repeat (first | simp only [List.set_cons_succ] | simp only [List.set_cons_zero]))
  refine wpTo_take (i := 8) (v := ?v8r3) (show _ = some _ by simp only [List.getElem?_toArray, List.getElem?_cons_succ, List.getElem?_cons_zero]; exact rfl) (by kernel_rfl) (by kernel_rfl) (by kernel_rfl) (by kernel_rfl) (by exact fun _ _ _ h => h) (Or.inl ⟨by rfl, ?hy8r3⟩) hS0 ?r8r3
  case hy8r3 => (intro w hSw; (try dsimp only at hSw); have hcc := LwS.vb (TwS.l hSw); go_simp; try with_reducible rfl)
  (try simp only [Act.put]); (try simp only [List.setIfInBounds_toArray]); (repeat (first | simp only [List.set_cons_succ] | simp only [List.set_cons_zero]))
  refine wpTo_one (i := 6) (by kernel_rfl) (show _ = some _ by simp only [List.getElem?_toArray, List.getElem?_cons_succ, List.getElem?_cons_zero]; exact rfl) (fun K hK => ?_)
  go_simp
  go_at_call 17; refine (copyBytes_any ao n c (v8s ad) _ (ha.later hS0.l.k) hca (by omega)).mono ?_; rintro e v1 ⟨va, rfl, own1, k1⟩; obtain ⟨ao1, c1, rfl, s1, hc1, -, hn1, -⟩ := own_shape own1 (v8s_rng ad)
  (try simp only [])
  refine hK.out _ _ (TwS.call hS0 k1) (fun hS1 => ?_)
  clear hK K
  (try simp only [Act.put]); (try simp only [List.setIfInBounds_toArray]); (repeat (first | simp only [List.set_cons_succ] | simp only [List.set_cons_zero]))
  refine wpTo_one (i := 9) (by kernel_rfl) (show _ = some _ by simp only [List.getElem?_toArray, List.getElem?_cons_succ, List.getElem?_cons_zero]; exact rfl) (fun K hK => ?_)
  go_simp
  go_at_call 17; refine (copyBytes_any bo m d (v8s p) _ (hb.later hS1.l.k) hcb (by omega)).mono ?_; rintro e v2 ⟨vb, rfl, own2, k2⟩; obtain ⟨bo1, d1, rfl, s2, hc2, -, hn2, -⟩ := own_shape own2 (v8s_rng p)
  (try simp only [])
  refine hK.out _ _ (TwS.call hS1 k2) (fun hS2 => ?_)
  clear hK K
  (try simp only [Act.put]); (try simp only [List.setIfInBounds_toArray]); (repeat (first | simp only [List.set_cons_succ] | simp only [List.set_cons_zero]))
  refine wpTo_one (i := 10) (by kernel_rfl) (show _ = some _ by simp only [List.getElem?_toArray, List.getElem?_cons_succ, List.getElem?_cons_zero]; exact rfl) (fun K hK => ?_)
  go_simp
  go_at_call 10; refine (seal_any key nonce ad p hk hn ao1 bo1 n m c1 d1 _ (s1.later k2) s2 hn1 hc1 (by omega) (by omega)).mono ?_; rintro e v3 ⟨vs, rfl, own3, k3⟩
  (try simp only [])
  refine hK.out _ _ (TwS.call hS2 k3) (fun hS3 => ?_)
  clear hK K
  (try simp only [Act.put]); (try simp only [List.setIfInBounds_toArray]); (repeat (first | simp only [List.set_cons_succ] | simp only [List.set_cons_zero]))
  refine wpTo_take (i := 11) (v := ?v11r3) (show _ = some _ by simp only [List.getElem?_toArray, List.getElem?_cons_succ, List.getElem?_cons_zero]; exact rfl) (by kernel_rfl) (by kernel_rfl) (by kernel_rfl) (by kernel_rfl) (by exact fun _ _ _ h => h) (Or.inl ⟨by rfl, ?hy11r3⟩) hS3 ?r11r3
  case hy11r3 => (intro w hSw; (try dsimp only at hSw); go_simp; try with_reducible rfl)
  (try simp only [Act.put]); (try simp only [List.setIfInBounds_toArray]); (repeat (first | simp only [List.set_cons_succ] | simp only [List.set_cons_zero]))
  refine wpTo_done (by kernel_rfl) ?_
  rw [HS.out, ← HM.out] at own3
  obtain ⟨gs, cs, rfl, -, -⟩ := own3.form (by have := HM.out; omega)
  obtain ⟨ao', cs', ev, hsl3, hcs, -, -, -⟩ := own_shape own3 (v8s_rng sl)
  cases ev
  have hgs := (own3.lt gs rfl)
  have c44 := hS3.l.va
  have c45 := hS3.l.vb
  clear own1 own2 k1 k2 s1 s2 hS0 hS1 hS2 hL own3 k3
  go_wp2_with fail
  go_at_call 17; refine (copyBytes_any ao n c (v8s ad) _ (ha.later hS3.l.k) hca (by omega)).mono ?_; rintro e v4 ⟨va, rfl, own4, k4⟩; obtain ⟨ao7, c7, rfl, s4, hc7, -, hn7, hb7⟩ := own_shape own4 (v8s_rng ad)
  have hS4 := hS3.call k4
  have hsl4 := hsl3.later k4
  clear own4 hS3 hsl3 c44 c45
  obtain ⟨Z12, hZ12, hz12⟩ : ∃ Z : List B, Z.length = 12 ∧ ∀ W : World, (zeroValue 23).run Try.prog W = .ok (.agg (bys Z).toArray) W := ⟨List.replicate 12 0#8, by simp, fun W => by kernel_rfl⟩
  have hN := Blk.new v4 23 (bys Z12)
  have hl4 := hS4.t.lt
  go_wp2_with (first
    | (refine wpList_load_mid rfl 23 _ rfl w.heap.size 32 rfl (bys nonce) _ hS4.l.non Try.underlying23 rfl (by rw [bys_length, hn]; kernel_rfl) ?_)
    | (refine law_store rfl 23 _ _ rfl _ (bys nonce) rfl rfl 23 _ hN (by rw [bys_length, bys_length, hn, hZ12]) (by rw [bys_length, hn]; kernel_rfl) (bys_one nonce) ?_; intro v5 o5 n5; have hS5 := (hS4.call ((Below.refl _ v4).alloc (Nat.le_refl _) (.cells (bys Z12).toArray 23))).on o5 hl4; have kb5 : Below v4.heap.size v4 v5 := o5.below ((Below.refl _ v4).alloc (Nat.le_refl _) _) (Nat.le_refl _); have cwh := hS5.cwh))
  have s5 := hsl4.later kb5
  have s7 := s4.later kb5
  obtain ⟨g8, e8⟩ : ∃ g, g = v4.heap.size := ⟨_, rfl⟩
  rw [← e8] at n5 hl4 ⊢
  have hg8 : w.heap.size + 1 < g8 := hl4
  have h7g : ∀ ad', ao7 = some ad' → ad'.block < g8 := fun a h => by rw [e8]; exact (hb7 a h).2
  have hsg : gs < g8 := by rw [e8]; have := k4.size; omega
  clear hN o5 kb5 hsl4 s4 hS4 e8 k4 hb7 hgs hZ12 hl4
  go_at_call 18; refine (mod_any WH 4 _ (by omega) _ rfl).mono ?_; rintro e v6 ⟨r, rfl, hr, rfl⟩
  go_upto_block 0 with fail
  go_cut [5, 7, 9, 10, 11, 12, 13] from 55 to 128 (fun s a o h i t x wc => TnC w wc key nonce (.slice ao n c) (.slice bo m d) WH AT mk n m M g8 s a o h)
  case first =>
    rcases (by omega : r = 0 ∨ r = 1 ∨ r = 2 ∨ r = 3) with rfl | rfl | rfl | rfl
    · have hT8 := hS5
      go_wp2_with (refine wpList_load_mid rfl 37 _ rfl (w.heap.size + 1) 2 rfl (bys mk) _ hT8.mask Try.underlying37 rfl (by rw [bys_length, hmk]; kernel_rfl) ?_)
      go_at_call 19; refine (lturned_any sl mk hmk (some ⟨gs, 0, none⟩) M cs m _ rfl _ s5 (by intro h; cases h) (by omega) (by omega)).mono ?_; rintro e vA ⟨vt, rfl, ownA, kA⟩
      obtain ⟨aoA, cA, rfl, sA, hcA, -, -, -⟩ := own_shape ownA (v8s_rng _)
      have ek : cutK M m = 16 := by have := HM.out; unfold cutK; omega
      rw [ek] at sA ⊢
      go_wp2_with fail
      go_meet
      case rel => exact ⟨aoA, ao7, cA, c7, _, ad, nonce, _, false, rfl, rfl, rfl, rfl, sA, hcA, s7.later kA, hn7, hc7, n5.next kA, hn, hT8.call kA, fun ho _ => T0.out ho⟩
    · obtain ⟨T, eT⟩ : ∃ T : Nat → List B, T = turnTo nonce 0 mk := ⟨_, rfl⟩
      obtain ⟨O, eO⟩ : ∃ O : Nat → Bool, O = othM mk := ⟨_, rfl⟩
      have HT0 : Hid (T 0 = nonce) := by rw [eT]; exact turnTo_zero _ _ _
      have HTS : Hid (∀ k, k < 12 → (T k).set k (nonce.getD k 0#8 ^^^ mk.getD k 0#8) = T (k + 1)) := by
        rw [eT]
        intro k hk
        have := turnTo_step nonce 0 mk k (by omega)
        rwa [Nat.zero_add] at this
      have HTN : Hid (∀ k, (T k).getD k 0#8 = nonce.getD k 0#8) := by
        rw [eT]
        intro k
        have := turnTo_next nonce 0 mk k
        rwa [Nat.zero_add] at this
      have HTL : Hid (∀ k, (T k).length = 12) := by rw [eT]; intro k; rw [turnTo_length]; exact hn
      have HO0 : Hid (O 0 = false) := by rw [eO]; exact rfl
      have HOS : Hid (∀ k, O (k + 1) = (O k || (v8 (mk.getD k 0#8) != 0))) := by rw [eO]; exact fun k => rfl
      have HF : Hid (O 12 = true → rightM key (T 12) ad sl m = false) := by rw [eO, eT]; exact T1.out
      clear eT eO
      go_wp2_with fail
      go_loopw [9, 11] (fun o i wr => ∃ k : Nat, k ≤ 12 ∧ o = .bool (O k) ∧ i = .int .i64 (k : Int) ∧ Blk wr g8 23 (bys (T k)) ∧ TwS w wr key nonce (.slice ao n c) (.slice bo m d) WH AT mk ∧ Shows wr (some ⟨gs, 0, none⟩) M (v8s sl) ∧ Shows wr ao7 n (v8s ad)) (fun _ i _ => 12 - (intOf i).toNat)
      case atStart => exact ⟨0, by omega, by rw [HO0.out], rfl, by rw [HT0.out]; exact n5, hS5, s5, s7⟩
      case round =>
        obtain ⟨k, hk, rfl, rfl, hA, hTk, q5, q7⟩ := hrel
        clear n5 hS5 s5 s7 cwh
        by_cases hlt : k < 12
        · have hkI : (k : Int) < 12 := by omega
          have hl12 := HTL.out k
          have hcell := hA.byte k (by omega)
          rw [HTN.out] at hcell
          have hfz := hA.fz k
          have hmc := hTk.mbyte k (by omega)
          have hxb : Hid (bits .xor .u8 (v8 (nonce.getD k 0#8)) (v8 (mk.getD k 0#8)) = v8 (nonce.getD k 0#8 ^^^ mk.getD k 0#8)) := v8_xor _ _
          have HSt : Hid _ := HTS.out k hlt
          have HO : Hid _ := HOS.out k
          obtain ⟨x, ex⟩ : ∃ x, x = nonce.getD k 0#8 := ⟨_, rfl⟩
          obtain ⟨y, ey⟩ : ∃ y, y = mk.getD k 0#8 := ⟨_, rfl⟩
          rw [← ex] at hcell hxb HSt
          rw [← ey] at hmc hxb HSt HO
          clear ex ey
          have x0 := v8_nn x
          have x1 := v8_le x
          have y0 := v8_nn y
          have y1 := v8_le y
          have hset := hA.put k (x ^^^ y)
          rw [HSt.out] at hset
          have ho := On.setCell wr ⟨g8, k, none⟩ (.int .u8 (v8 (x ^^^ y)))
          have hTn := hTk.on ho hg8
          have q5n := q5.on ho (fun a ha => by cases ha; simp; omega)
          have q7n := q7.on ho (fun a ha => by have := h7g a ha; simp; omega)
          have hm2 : (wr.setCell ⟨g8, k, none⟩ (.int .u8 (v8 (x ^^^ y)))).cell? ⟨w.heap.size + 1, 2 + k, none⟩ = some (.int .u8 (v8 y)) := by
            rw [cell?_of_other (by simp; omega)]
            exact hmc
          cases hok : O k
          · rw [hok] at HO
            go_wp2_with fail
            go_region
            rw [hxb.out]
            go_wp2_with fail
            go_roundw
            case rel => (repeat apply Exists.intro); refine ⟨?_, rfl⟩; exact ⟨k + 1, by omega, by rw [HO.out]; rfl, by go_num, hset.drew, hTn.drew, shows_heap q5n rfl, shows_heap q7n rfl⟩
            case measure => simp [intOf]; omega
          · rw [hok] at HO
            go_wp2_with fail
            go_region
            rw [hxb.out]
            go_wp2_with fail
            go_roundw
            case rel => (repeat apply Exists.intro); refine ⟨?_, rfl⟩; exact ⟨k + 1, by omega, by rw [HO.out]; rfl, by go_num, hset.drew, hTn.drew, shows_heap q5n rfl, shows_heap q7n rfl⟩
            case measure => simp [intOf]; omega
        · have hk12 : k = 12 := by omega
          subst hk12
          go_wp2_with fail
          go_meet
          case rel => exact ⟨some ⟨gs, 0, none⟩, ao7, cs, c7, sl, ad, T 12, O 12, false, rfl, rfl, rfl, rfl, q5, hcs, q7, hn7, hc7, hA, HTL.out 12, hTk, fun ho _ => HF.out ho⟩
    · have hT8 := hS5
      have hst : Shows v5.drew (some ⟨gs, 0, none⟩) m (v8s (sl.take m)) := by
        have := (shows_heap (w' := v5.drew) s5 rfl).take (k := m) (by have := HM.out; omega)
        rwa [v8s_take] at this
      have r2 := fun W => run_to W (some ⟨gs, 0, none⟩) M cs m (by have := HM.out; omega) (m : Int) rfl
      have z1 : IntKind.i64.wrap ((m : Int) + 15) = (m : Int) + 15 := by rw [IntKind.wrap_i64]; omega
      have z2 : ((m : Int) + 15).tdiv 16 = (nbl m : Int) := by rw [Int.tdiv_eq_ediv_of_nonneg (by omega)]; unfold nbl; omega
      have z3 : ((m : Int) + 15) / 16 = (nbl m : Int) := by unfold nbl; omega
      have z4 : IntKind.i64.wrap (nbl m : Int) = (nbl m : Int) := by rw [IntKind.wrap_i64]; have := nbl_le m; omega
      have hnb := nbl_le m
      go_wp2_with fail
      refine wp_region_to (fun v => TwS w v key nonce (.slice ao n c) (.slice bo m d) WH AT mk) 18 (by kernel_rfl) ?_
      have hS0 := hT8.drew
      refine wpTo_take (i := 0) (v := ?v0r23) (show _ = some _ by simp only [List.getElem?_toArray, List.getElem?_cons_zero]; exact rfl) (by kernel_rfl) (by kernel_rfl) (by kernel_rfl) (by kernel_rfl) (by exact fun _ _ _ h => h) (Or.inl ⟨by rfl, ?hy0r23⟩) hS0 ?r0r23
      case hy0r23 => (intro w hSw; (try dsimp only at hSw); go_simp; try with_reducible rfl)
      (try simp only [Act.put]); (try simp only [List.setIfInBounds_toArray]); (repeat (first | simp only [List.set_cons_succ] | simp only [List.set_cons_zero]))
      refine wpTo_take (i := 1) (v := ?v1r23) (show _ = some _ by simp only [List.getElem?_toArray, List.getElem?_cons_succ, List.getElem?_cons_zero]; exact rfl) (by kernel_rfl) (by kernel_rfl) (by kernel_rfl) (by kernel_rfl) (by exact fun _ _ _ h => h) (Or.inl ⟨by rfl, ?hy1r23⟩) hS0 ?r1r23
      case hy1r23 => (intro w hSw; (try dsimp only at hSw); go_simp; try with_reducible rfl)
      (try simp only [Act.put]); (try simp only [List.setIfInBounds_toArray]); (repeat (first | simp only [List.set_cons_succ] | simp only [List.set_cons_zero]))
      refine wpTo_take (i := 2) (v := ?v2r23) (show _ = some _ by simp only [List.getElem?_toArray, List.getElem?_cons_succ, List.getElem?_cons_zero]; exact rfl) (by kernel_rfl) (by kernel_rfl) (by kernel_rfl) (by kernel_rfl) (by exact fun _ _ _ h => h) (Or.inl ⟨by rfl, ?hy2r23⟩) hS0 ?r2r23
      case hy2r23 => (intro w hSw; (try dsimp only at hSw); go_simp; try with_reducible rfl)
      (try simp only [Act.put]); (try simp only [List.setIfInBounds_toArray]); (repeat (first | simp only [List.set_cons_succ] | simp only [List.set_cons_zero]))
      refine wpTo_take (i := 3) (v := ?v3r23) (show _ = some _ by simp only [List.getElem?_toArray, List.getElem?_cons_succ, List.getElem?_cons_zero]; exact rfl) (by kernel_rfl) (by kernel_rfl) (by kernel_rfl) (by kernel_rfl) (by exact fun _ _ _ h => h) (Or.inl ⟨by rfl, ?hy3r23⟩) hS0 ?r3r23
      case hy3r23 => (intro w hSw; (try dsimp only at hSw); go_simp; try with_reducible rfl)
      (try simp only [Act.put]); (try simp only [List.setIfInBounds_toArray]); (repeat (first | simp only [List.set_cons_succ] | simp only [List.set_cons_zero]))
      refine wpTo_take (i := 4) (v := ?v4r23) (show _ = some _ by simp only [List.getElem?_toArray, List.getElem?_cons_succ, List.getElem?_cons_zero]; exact rfl) (by kernel_rfl) (by kernel_rfl) (by kernel_rfl) (by kernel_rfl) (by exact fun _ _ _ h => h) (Or.inl ⟨by rfl, ?hy4r23⟩) hS0 ?r4r23
      case hy4r23 => (intro w hSw; (try dsimp only at hSw); have hcc := TwS.cat hSw; go_simp; try with_reducible rfl)
      (try simp only [Act.put]); (try simp only [List.setIfInBounds_toArray]); (repeat (first | simp only [List.set_cons_succ] | simp only [List.set_cons_zero]))
      refine wpTo_take (i := 5) (v := ?v5r23) (show _ = some _ by simp only [List.getElem?_toArray, List.getElem?_cons_succ, List.getElem?_cons_zero]; exact rfl) (by kernel_rfl) (by kernel_rfl) (by kernel_rfl) (by kernel_rfl) (by exact fun _ _ _ h => h) (Or.inl ⟨by rfl, ?hy5r23⟩) hS0 ?r5r23
      case hy5r23 => (intro w hSw; (try dsimp only at hSw); go_simp; try with_reducible rfl)
      (try simp only [Act.put]); (try simp only [List.setIfInBounds_toArray]); (repeat (first | simp only [List.set_cons_succ] | simp only [List.set_cons_zero]))
      refine wpTo_take (i := 6) (v := ?v6r23) (show _ = some _ by simp only [List.getElem?_toArray, List.getElem?_cons_succ, List.getElem?_cons_zero]; exact rfl) (by kernel_rfl) (by kernel_rfl) (by kernel_rfl) (by kernel_rfl) (by exact fun _ _ _ h => h) (Or.inl ⟨by rfl, ?hy6r23⟩) hS0 ?r6r23
      case hy6r23 => (intro w hSw; (try dsimp only at hSw); go_simp; try with_reducible rfl)
      (try simp only [Act.put]); (try simp only [List.setIfInBounds_toArray]); (repeat (first | simp only [List.set_cons_succ] | simp only [List.set_cons_zero]))
      refine wpTo_take (i := 7) (v := ?v7r23) (show _ = some _ by simp only [List.getElem?_toArray, List.getElem?_cons_succ, List.getElem?_cons_zero]; exact rfl) (by kernel_rfl) (by kernel_rfl) (by kernel_rfl) (by kernel_rfl) (by exact fun _ _ _ h => h) (Or.inl ⟨by rfl, ?hy7r23⟩) hS0 ?r7r23
      case hy7r23 => (intro w hSw; (try dsimp only at hSw); go_simp; try with_reducible rfl)
      (try simp only [Act.put]); (try simp only [List.setIfInBounds_toArray]); (repeat (first | simp only [List.set_cons_succ] | simp only [List.set_cons_zero]))
      refine wpTo_take (i := 10) (v := ?v10r23) (show _ = some _ by simp only [List.getElem?_toArray, List.getElem?_cons_succ, List.getElem?_cons_zero]; exact rfl) (by kernel_rfl) (by kernel_rfl) (by kernel_rfl) (by kernel_rfl) (by exact fun _ _ _ h => h) (Or.inl ⟨by rfl, ?hy10r23⟩) hS0 ?r10r23
      case hy10r23 => (intro w hSw; (try dsimp only at hSw); go_simp; try with_reducible rfl)
      (try simp only [Act.put]); (try simp only [List.setIfInBounds_toArray]); (repeat (first | simp only [List.set_cons_succ] | simp only [List.set_cons_zero]))
      refine wpTo_take (i := 11) (show _ = some _ by simp only [List.getElem?_toArray, List.getElem?_cons_succ, List.getElem?_cons_zero]; exact rfl) (by kernel_rfl) (by kernel_rfl) (by kernel_rfl) (by kernel_rfl) (by exact fun _ _ _ h => h) (yieldsIf_load_mid (by rfl) 37 (.tmp 117) rfl (w.heap.size + 1) 2 rfl (bys mk) _ (fun v h => TwS.mask h) Try.underlying37 rfl (by rw [bys_length, hmk]; kernel_rfl)) hS0 ?_
      (try simp only [Act.put]); (try simp only [List.setIfInBounds_toArray]); (repeat (first | simp only [List.set_cons_succ] | simp only [List.set_cons_zero]))
      refine wpTo_one (i := 8) (by kernel_rfl) (show _ = some _ by simp only [List.getElem?_toArray, List.getElem?_cons_succ, List.getElem?_cons_zero]; exact rfl) (fun K hK => ?_)
      go_simp
      go_at_call 18; refine (mod_any AT (nbl m) _ (by omega) _ rfl).mono ?_; rintro e v9 ⟨q, rfl, hq, rfl⟩
      (try simp only [])
      refine hK.out _ _ (TwS.call hS0 (Below.refl _ _)) (fun hS1 => ?_)
      clear hK K
      (try simp only [Act.put]); (try simp only [List.setIfInBounds_toArray]); (repeat (first | simp only [List.set_cons_succ] | simp only [List.set_cons_zero]))
      have hq16 : 16 * q ≤ 5000 := by have := nbl_le m; omega
      have q16 : IntKind.i64.wrap (16 * (q : Int)) = ((16 * q : Nat) : Int) := by rw [IntKind.wrap_i64]; omega
      refine wpTo_take (i := 9) (v := ?v9r23) (show _ = some _ by simp only [List.getElem?_toArray, List.getElem?_cons_succ, List.getElem?_cons_zero]; exact rfl) (by kernel_rfl) (by kernel_rfl) (by kernel_rfl) (by kernel_rfl) (by exact fun _ _ _ h => h) (Or.inl ⟨by rfl, ?hy9r23⟩) hS1 ?r9r23
      case hy9r23 => (intro w hSw; (try dsimp only at hSw); go_simp; try with_reducible rfl)
      (try simp only [Act.put]); (try simp only [List.setIfInBounds_toArray]); (repeat (first | simp only [List.set_cons_succ] | simp only [List.set_cons_zero]))
      refine wpTo_one (i := 12) (by kernel_rfl) (show _ = some _ by simp only [List.getElem?_toArray, List.getElem?_cons_succ, List.getElem?_cons_zero]; exact rfl) (fun K hK => ?_)
      go_simp
      go_at_call 19; refine (lturned_any (sl.take m) mk hmk (some ⟨gs, 0, none⟩) m cs (16 * q) _ (by first | rfl | (push_cast; rfl)) _ hst (by intro h; cases h) (by omega) (by omega)).mono ?_; rintro e vA ⟨vt, rfl, ownA, kA⟩
      (try simp only [])
      refine hK.out _ _ (TwS.call hS1 kA) (fun hS2 => ?_)
      clear hK K
      (try simp only [Act.put]); (try simp only [List.setIfInBounds_toArray]); (repeat (first | simp only [List.set_cons_succ] | simp only [List.set_cons_zero]))
      refine wpTo_take (i := 13) (v := ?v13r23) (show _ = some _ by simp only [List.getElem?_toArray, List.getElem?_cons_succ, List.getElem?_cons_zero]; exact rfl) (by kernel_rfl) (by kernel_rfl) (by kernel_rfl) (by kernel_rfl) (by exact fun _ _ _ h => h) (Or.inl ⟨by rfl, ?hy13r23⟩) hS2 ?r13r23
      case hy13r23 => (intro w hSw; (try dsimp only at hSw); go_simp; try with_reducible rfl)
      (try simp only [Act.put]); (try simp only [List.setIfInBounds_toArray]); (repeat (first | simp only [List.set_cons_succ] | simp only [List.set_cons_zero]))
      refine wpTo_take (i := 14) (v := ?v14r23) (show _ = some _ by simp only [List.getElem?_toArray, List.getElem?_cons_succ, List.getElem?_cons_zero]; exact rfl) (by kernel_rfl) (by kernel_rfl) (by kernel_rfl) (by kernel_rfl) (by exact fun _ _ _ h => h) (Or.inl ⟨by rfl, ?hy14r23⟩) hS2 ?r14r23
      case hy14r23 => (intro w hSw; (try dsimp only at hSw); go_simp; try with_reducible rfl)
      (try simp only [Act.put]); (try simp only [List.setIfInBounds_toArray]); (repeat (first | simp only [List.set_cons_succ] | simp only [List.set_cons_zero]))
      refine wpTo_take (i := 15) (v := ?v15r23) (show _ = some _ by simp only [List.getElem?_toArray, List.getElem?_cons_succ, List.getElem?_cons_zero]; exact rfl) (by kernel_rfl) (by kernel_rfl) (by kernel_rfl) (by kernel_rfl) (by exact fun _ _ _ h => h) (Or.inl ⟨by rfl, ?hy15r23⟩) hS2 ?r15r23
      case hy15r23 => (intro w hSw; (try dsimp only at hSw); go_simp; try with_reducible rfl)
      (try simp only [Act.put]); (try simp only [List.setIfInBounds_toArray]); (repeat (first | simp only [List.set_cons_succ] | simp only [List.set_cons_zero]))
      refine wpTo_take (i := 16) (v := ?v16r23) (show _ = some _ by simp only [List.getElem?_toArray, List.getElem?_cons_succ, List.getElem?_cons_zero]; exact rfl) (by kernel_rfl) (by kernel_rfl) (by kernel_rfl) (by kernel_rfl) (by exact fun _ _ _ h => h) (Or.inl ⟨by rfl, ?hy16r23⟩) hS2 ?r16r23
      case hy16r23 => (intro w hSw; (try dsimp only at hSw); go_simp; try with_reducible rfl)
      (try simp only [Act.put]); (try simp only [List.setIfInBounds_toArray]); (repeat (first | simp only [List.set_cons_succ] | simp only [List.set_cons_zero]))
      refine wpTo_take (i := 17) (v := ?v17r23) (show _ = some _ by simp only [List.getElem?_toArray, List.getElem?_cons_succ, List.getElem?_cons_zero]; exact rfl) (by kernel_rfl) (by kernel_rfl) (by kernel_rfl) (by kernel_rfl) (by exact fun _ _ _ h => h) (Or.inl ⟨by rfl, ?hy17r23⟩) hS2 ?r17r23
      case hy17r23 => (intro w hSw; (try dsimp only at hSw); go_simp; try with_reducible rfl)
      (try simp only [Act.put]); (try simp only [List.setIfInBounds_toArray]); (repeat (first | simp only [List.set_cons_succ] | simp only [List.set_cons_zero]))
      refine wpTo_done (by kernel_rfl) ?_
      have ha7 := s7
      have hkq : 16 * q + cutK m (16 * q) ≤ m := by unfold cutK; unfold nbl at hq; omega
      obtain ⟨aoA, cA, rfl, sA, hcA, -, -, -⟩ := own_shape ownA (v8s_rng _)
      have kk : Below v5.heap.size v5 vA := ((Below.refl _ v5).drew).trans kA
      have s5A := s5.later kk
      have s7A := s7.later kk
      have n5A := n5.next kk
      have hfr : fromAt (some ⟨gs, 0, none⟩) cs m = some ⟨gs, m, none⟩ := by
        have := HM.out
        unfold fromAt
        rw [if_neg (by omega)]
        simp [addz]
      have hs16 : Shows vA (some ⟨gs, m, none⟩) 16 (v8s (sl.drop m)) := by
        have := s5A.drop (k := m) (c := cs) (by have := HM.out; omega) hcs
        rwa [hfr, v8s_drop, show M - m = 16 by have := HM.out; omega] at this
      have rf : ∀ W, (Instr.sliceAt 24 (.slice (some ⟨gs, 0, none⟩) M cs) (some (.int .i64 (m : Int))) none none).run Try.prog W = .ok (.slice (some ⟨gs, m, none⟩) 16 (cs - m)) W := fun W => by
        have := run_from W (some ⟨gs, 0, none⟩) M cs m (by have := HM.out; omega) (m : Int) rfl
        rwa [hfr, show M - m = 16 by have := HM.out; omega] at this
      have hszA : v5.heap.size ≤ vA.heap.size := kk.size
      go_wp2_with (at_builtin; go_must (refine law_append rfl _ _ rfl v5.heap.size _ _ _ rfl ownA _ 16 (cs - m) _ rfl hs16 (by intro h; cases h) (by omega) hszA ?_))
      intro v' wZ hown hgr _
      rw [← v8s_append, show m + 16 = M from HM.out.symm] at hown
      obtain ⟨aoZ, cZ, rfl, sZ, hcZ, -, -, -⟩ := own_shape hown (v8s_rng _)
      have kZ : Below v5.heap.size v5 wZ := kk.grown hgr hszA (fun k hk => (ownA.lt k hk).1)
      go_wp2_with fail
      go_meet
      case rel => exact ⟨aoZ, ao7, cZ, c7, _, ad, nonce, _, true, rfl, rfl, rfl, rfl, sZ, hcZ, s7.later kZ, hn7, hc7, n5.next kZ, hn, hS5.call kZ, fun ho hh => T2.out q _ (by unfold cutK; omega) hkq ho (hh rfl)⟩
    · have hT8 := hS5
      have z1 : IntKind.i64.wrap ((n : Int) + 15) = (n : Int) + 15 := by rw [IntKind.wrap_i64]; omega
      have z2 : ((n : Int) + 15).tdiv 16 = (nbl n : Int) := by rw [Int.tdiv_eq_ediv_of_nonneg (by omega)]; unfold nbl; omega
      have z3 : ((n : Int) + 15) / 16 = (nbl n : Int) := by unfold nbl; omega
      have z4 : IntKind.i64.wrap (nbl n : Int) = (nbl n : Int) := by rw [IntKind.wrap_i64]; have := nbl_le n; omega
      have hnb := nbl_le n
      go_wp2_with fail
      refine wp_region_to (fun v => TwS w v key nonce (.slice ao n c) (.slice bo m d) WH AT mk) 17 (by kernel_rfl) ?_
      have hS0 := hT8.drew
      refine wpTo_take (i := 0) (v := ?v0r12) (show _ = some _ by simp only [List.getElem?_toArray, List.getElem?_cons_zero]; exact rfl) (by kernel_rfl) (by kernel_rfl) (by kernel_rfl) (by kernel_rfl) (by exact fun _ _ _ h => h) (Or.inl ⟨by rfl, ?hy0r12⟩) hS0 ?r0r12
      case hy0r12 => (intro w hSw; (try dsimp only at hSw); go_simp; try with_reducible rfl)
      (try simp only [Act.put]); (try simp only [List.setIfInBounds_toArray]); (repeat (first | simp only [List.set_cons_succ] | simp only [List.set_cons_zero]))
      refine wpTo_take (i := 1) (v := ?v1r12) (show _ = some _ by simp only [List.getElem?_toArray, List.getElem?_cons_succ, List.getElem?_cons_zero]; exact rfl) (by kernel_rfl) (by kernel_rfl) (by kernel_rfl) (by kernel_rfl) (by exact fun _ _ _ h => h) (Or.inl ⟨by rfl, ?hy1r12⟩) hS0 ?r1r12
      case hy1r12 => (intro w hSw; (try dsimp only at hSw); go_simp; try with_reducible rfl)
      (try simp only [Act.put]); (try simp only [List.setIfInBounds_toArray]); (repeat (first | simp only [List.set_cons_succ] | simp only [List.set_cons_zero]))
      refine wpTo_take (i := 2) (v := ?v2r12) (show _ = some _ by simp only [List.getElem?_toArray, List.getElem?_cons_succ, List.getElem?_cons_zero]; exact rfl) (by kernel_rfl) (by kernel_rfl) (by kernel_rfl) (by kernel_rfl) (by exact fun _ _ _ h => h) (Or.inl ⟨by rfl, ?hy2r12⟩) hS0 ?r2r12
      case hy2r12 => (intro w hSw; (try dsimp only at hSw); have hcc := TwS.cat hSw; go_simp; try with_reducible rfl)
      (try simp only [Act.put]); (try simp only [List.setIfInBounds_toArray]); (repeat (first | simp only [List.set_cons_succ] | simp only [List.set_cons_zero]))
      refine wpTo_take (i := 3) (v := ?v3r12) (show _ = some _ by simp only [List.getElem?_toArray, List.getElem?_cons_succ, List.getElem?_cons_zero]; exact rfl) (by kernel_rfl) (by kernel_rfl) (by kernel_rfl) (by kernel_rfl) (by exact fun _ _ _ h => h) (Or.inl ⟨by rfl, ?hy3r12⟩) hS0 ?r3r12
      case hy3r12 => (intro w hSw; (try dsimp only at hSw); go_simp; try with_reducible rfl)
      (try simp only [Act.put]); (try simp only [List.setIfInBounds_toArray]); (repeat (first | simp only [List.set_cons_succ] | simp only [List.set_cons_zero]))
      refine wpTo_take (i := 4) (v := ?v4r12) (show _ = some _ by simp only [List.getElem?_toArray, List.getElem?_cons_succ, List.getElem?_cons_zero]; exact rfl) (by kernel_rfl) (by kernel_rfl) (by kernel_rfl) (by kernel_rfl) (by exact fun _ _ _ h => h) (Or.inl ⟨by rfl, ?hy4r12⟩) hS0 ?r4r12
      case hy4r12 => (intro w hSw; (try dsimp only at hSw); go_simp; try with_reducible rfl)
      (try simp only [Act.put]); (try simp only [List.setIfInBounds_toArray]); (repeat (first | simp only [List.set_cons_succ] | simp only [List.set_cons_zero]))
      refine wpTo_take (i := 5) (v := ?v5r12) (show _ = some _ by simp only [List.getElem?_toArray, List.getElem?_cons_succ, List.getElem?_cons_zero]; exact rfl) (by kernel_rfl) (by kernel_rfl) (by kernel_rfl) (by kernel_rfl) (by exact fun _ _ _ h => h) (Or.inl ⟨by rfl, ?hy5r12⟩) hS0 ?r5r12
      case hy5r12 => (intro w hSw; (try dsimp only at hSw); go_simp; try with_reducible rfl)
      (try simp only [Act.put]); (try simp only [List.setIfInBounds_toArray]); (repeat (first | simp only [List.set_cons_succ] | simp only [List.set_cons_zero]))
      refine wpTo_take (i := 6) (v := ?v6r12) (show _ = some _ by simp only [List.getElem?_toArray, List.getElem?_cons_succ, List.getElem?_cons_zero]; exact rfl) (by kernel_rfl) (by kernel_rfl) (by kernel_rfl) (by kernel_rfl) (by exact fun _ _ _ h => h) (Or.inl ⟨by rfl, ?hy6r12⟩) hS0 ?r6r12
      case hy6r12 => (intro w hSw; (try dsimp only at hSw); go_simp; try with_reducible rfl)
      (try simp only [Act.put]); (try simp only [List.setIfInBounds_toArray]); (repeat (first | simp only [List.set_cons_succ] | simp only [List.set_cons_zero]))
      refine wpTo_take (i := 9) (v := ?v9r12) (show _ = some _ by simp only [List.getElem?_toArray, List.getElem?_cons_succ, List.getElem?_cons_zero]; exact rfl) (by kernel_rfl) (by kernel_rfl) (by kernel_rfl) (by kernel_rfl) (by exact fun _ _ _ h => h) (Or.inl ⟨by rfl, ?hy9r12⟩) hS0 ?r9r12
      case hy9r12 => (intro w hSw; (try dsimp only at hSw); go_simp; try with_reducible rfl)
      (try simp only [Act.put]); (try simp only [List.setIfInBounds_toArray]); (repeat (first | simp only [List.set_cons_succ] | simp only [List.set_cons_zero]))
      refine wpTo_take (i := 10) (show _ = some _ by simp only [List.getElem?_toArray, List.getElem?_cons_succ, List.getElem?_cons_zero]; exact rfl) (by kernel_rfl) (by kernel_rfl) (by kernel_rfl) (by kernel_rfl) (by exact fun _ _ _ h => h) (yieldsIf_load_mid (by rfl) 37 (.tmp 65) rfl (w.heap.size + 1) 2 rfl (bys mk) _ (fun v h => TwS.mask h) Try.underlying37 rfl (by rw [bys_length, hmk]; kernel_rfl)) hS0 ?_
      (try simp only [Act.put]); (try simp only [List.setIfInBounds_toArray]); (repeat (first | simp only [List.set_cons_succ] | simp only [List.set_cons_zero]))
      refine wpTo_one (i := 7) (by kernel_rfl) (show _ = some _ by simp only [List.getElem?_toArray, List.getElem?_cons_succ, List.getElem?_cons_zero]; exact rfl) (fun K hK => ?_)
      go_simp
      go_at_call 18; refine (mod_any AT (nbl n) _ (by omega) _ rfl).mono ?_; rintro e v9 ⟨q, rfl, hq, rfl⟩
      (try simp only [])
      refine hK.out _ _ (TwS.call hS0 (Below.refl _ _)) (fun hS1 => ?_)
      clear hK K
      (try simp only [Act.put]); (try simp only [List.setIfInBounds_toArray]); (repeat (first | simp only [List.set_cons_succ] | simp only [List.set_cons_zero]))
      have hq16 : 16 * q ≤ 5000 := by have := nbl_le n; omega
      have q16 : IntKind.i64.wrap (16 * (q : Int)) = ((16 * q : Nat) : Int) := by rw [IntKind.wrap_i64]; omega
      refine wpTo_take (i := 8) (v := ?v8r12) (show _ = some _ by simp only [List.getElem?_toArray, List.getElem?_cons_succ, List.getElem?_cons_zero]; exact rfl) (by kernel_rfl) (by kernel_rfl) (by kernel_rfl) (by kernel_rfl) (by exact fun _ _ _ h => h) (Or.inl ⟨by rfl, ?hy8r12⟩) hS1 ?r8r12
      case hy8r12 => (intro w hSw; (try dsimp only at hSw); go_simp; try with_reducible rfl)
      (try simp only [Act.put]); (try simp only [List.setIfInBounds_toArray]); (repeat (first | simp only [List.set_cons_succ] | simp only [List.set_cons_zero]))
      refine wpTo_one (i := 11) (by kernel_rfl) (show _ = some _ by simp only [List.getElem?_toArray, List.getElem?_cons_succ, List.getElem?_cons_zero]; exact rfl) (fun K hK => ?_)
      go_simp
      go_at_call 19; refine (lturned_any ad mk hmk ao7 n c7 (16 * q) _ (by first | rfl | (push_cast; rfl)) _ (shows_heap (w' := v5.drew) s7 rfl) hn7 (by omega) (by omega)).mono ?_; rintro e vA ⟨vt, rfl, ownA, kA⟩
      (try simp only [])
      refine hK.out _ _ (TwS.call hS1 kA) (fun hS2 => ?_)
      clear hK K
      (try simp only [Act.put]); (try simp only [List.setIfInBounds_toArray]); (repeat (first | simp only [List.set_cons_succ] | simp only [List.set_cons_zero]))
      refine wpTo_take (i := 12) (v := ?v12r12) (show _ = some _ by simp only [List.getElem?_toArray, List.getElem?_cons_succ, List.getElem?_cons_zero]; exact rfl) (by kernel_rfl) (by kernel_rfl) (by kernel_rfl) (by kernel_rfl) (by exact fun _ _ _ h => h) (Or.inl ⟨by rfl, ?hy12r12⟩) hS2 ?r12r12
      case hy12r12 => (intro w hSw; (try dsimp only at hSw); go_simp; try with_reducible rfl)
      (try simp only [Act.put]); (try simp only [List.setIfInBounds_toArray]); (repeat (first | simp only [List.set_cons_succ] | simp only [List.set_cons_zero]))
      refine wpTo_take (i := 13) (v := ?v13r12) (show _ = some _ by simp only [List.getElem?_toArray, List.getElem?_cons_succ, List.getElem?_cons_zero]; exact rfl) (by kernel_rfl) (by kernel_rfl) (by kernel_rfl) (by kernel_rfl) (by exact fun _ _ _ h => h) (Or.inl ⟨by rfl, ?hy13r12⟩) hS2 ?r13r12
      case hy13r12 => (intro w hSw; (try dsimp only at hSw); go_simp; try with_reducible rfl)
      (try simp only [Act.put]); (try simp only [List.setIfInBounds_toArray]); (repeat (first | simp only [List.set_cons_succ] | simp only [List.set_cons_zero]))
      refine wpTo_take (i := 14) (v := ?v14r12) (show _ = some _ by simp only [List.getElem?_toArray, List.getElem?_cons_succ, List.getElem?_cons_zero]; exact rfl) (by kernel_rfl) (by kernel_rfl) (by kernel_rfl) (by kernel_rfl) (by exact fun _ _ _ h => h) (Or.inl ⟨by rfl, ?hy14r12⟩) hS2 ?r14r12
      case hy14r12 => (intro w hSw; (try dsimp only at hSw); go_simp; try with_reducible rfl)
      (try simp only [Act.put]); (try simp only [List.setIfInBounds_toArray]); (repeat (first | simp only [List.set_cons_succ] | simp only [List.set_cons_zero]))
      refine wpTo_take (i := 15) (v := ?v15r12) (show _ = some _ by simp only [List.getElem?_toArray, List.getElem?_cons_succ, List.getElem?_cons_zero]; exact rfl) (by kernel_rfl) (by kernel_rfl) (by kernel_rfl) (by kernel_rfl) (by exact fun _ _ _ h => h) (Or.inl ⟨by rfl, ?hy15r12⟩) hS2 ?r15r12
      case hy15r12 => (intro w hSw; (try dsimp only at hSw); go_simp; try with_reducible rfl)
      (try simp only [Act.put]); (try simp only [List.setIfInBounds_toArray]); (repeat (first | simp only [List.set_cons_succ] | simp only [List.set_cons_zero]))
      refine wpTo_take (i := 16) (v := ?v16r12) (show _ = some _ by simp only [List.getElem?_toArray, List.getElem?_cons_succ, List.getElem?_cons_zero]; exact rfl) (by kernel_rfl) (by kernel_rfl) (by kernel_rfl) (by kernel_rfl) (by exact fun _ _ _ h => h) (Or.inl ⟨by rfl, ?hy16r12⟩) hS2 ?r16r12
      case hy16r12 => (intro w hSw; (try dsimp only at hSw); go_simp; try with_reducible rfl)
      (try simp only [Act.put]); (try simp only [List.setIfInBounds_toArray]); (repeat (first | simp only [List.set_cons_succ] | simp only [List.set_cons_zero]))
      refine wpTo_done (by kernel_rfl) ?_
      have hkq : 16 * q + cutK n (16 * q) ≤ n := by unfold cutK; unfold nbl at hq; omega
      obtain ⟨aoA, cA, rfl, sA, hcA, -, hnA, -⟩ := own_shape ownA (v8s_rng _)
      have kk : Below v5.heap.size v5 vA := ((Below.refl _ v5).drew).trans kA
      go_wp2_with fail
      go_meet
      case rel => exact ⟨some ⟨gs, 0, none⟩, aoA, cs, cA, sl, _, nonce, _, true, rfl, rfl, rfl, rfl, s5.later kk, hcs, sA, hnA, hcA, n5.next kk, hn, hS2, fun ho hh => T3.out q _ (by unfold cutK; omega) hkq ho (hh rfl)⟩
  case rest =>
    obtain ⟨ao5, ao7', c5, c7', s', ad', nonce', ob, hbl, rfl, rfl, rfl, rfl, q5, hc5, q7, hn7', hc7', nb, hn', hT, HR⟩ := hcut
    clear c44 c45 cwh hS5 n5 s5 s7 T0 T1 T2 T3
    go_wp2_with (refine wpList_load_mid rfl 22 _ rfl w.heap.size 0 rfl (bys key) _ hT.l.ky Try.underlying22 rfl (by rw [bys_length, hk]; kernel_rfl) ?_)
    go_at_call 20; refine (H20.out _).mono ?_; rintro e x1 ⟨rfl, k1⟩
    go_wp2_with (refine law_zero rfl 37 rfl _ b37 ?_)
    go_at_call 21; refine (H21.out _).mono ?_; rintro e x2 ⟨rfl, k2⟩
    have kc : Below wc.heap.size wc x2 := k1.trans (k2.mono k1.size)
    have hN := Blk.new x2 37 (bys ZB)
    clear k1 k2
    cases ob with
    | false =>
      go_wp2_with (refine law_store rfl 37 _ _ rfl _ (bys HB) rfl rfl 37 _ hN (by rw [bys_length, bys_length, hHB, hZB]) (by rw [bys_length, hHB]; kernel_rfl) (bys_one HB) ?_; intro x3 o3 h14; have k3 : Below wc.heap.size wc x3 := kc.trans ((o3.below ((Below.refl _ x2).alloc (Nat.le_refl _) (.cells (bys ZB).toArray 37)) (Nat.le_refl _)).mono kc.size); have hT3 := hT.call k3)
      go_at_call 8; refine (works_any _).mono ?_; rintro e x4 ⟨rfl, k4⟩
      go_wp2_with fail
      go_ret
      exact ⟨rfl, (hT3.call k4).l.k⟩
    | true =>
      cases hbl with
      | false =>
        have hwrong := HR.out rfl (by intro h; cases h)
        go_wp2_with (first | (refine law_store rfl 37 _ _ rfl _ (bys HB) rfl rfl 37 _ hN (by rw [bys_length, bys_length, hHB, hZB]) (by rw [bys_length, hHB]; kernel_rfl) (bys_one HB) ?_; intro x3 o3 h14; have k3 : Below wc.heap.size wc x3 := kc.trans ((o3.below ((Below.refl _ x2).alloc (Nat.le_refl _) (.cells (bys ZB).toArray 37)) (Nat.le_refl _)).mono kc.size); have hT3 := hT.call k3) | (refine wpList_load_mid rfl 22 _ rfl w.heap.size 0 rfl (bys key) _ hT3.l.ky Try.underlying22 rfl (by rw [bys_length, hk]; kernel_rfl) ?_) | (refine law_load rfl 23 _ rfl _ rfl 23 _ (nb.next k3) _ Try.underlying23 rfl (by rw [bys_length, hn']; kernel_rfl) ?_))
        go_at_call 15; refine (open_bad key nonce' ad' s' hk hn' ao7' ao5 n m M c7' c5 _ HM.out (q7.later k3) (q5.later k3) hn7' hc7' hc5 (by omega) (by omega) hwrong).mono ?_; rintro e x4 ⟨rfl, k4⟩
        go_wp2_with fail
        go_at_call 8; refine (works_any _).mono ?_; rintro e x5 ⟨rfl, k5⟩
        go_wp2_with fail
        go_ret
        exact ⟨rfl, ((hT3.call k4).call k5).l.k⟩
      | true =>
        by_cases hz : HB = ZB
        · have hq := eq37 HB ZB hHB hZB
          rw [decide_eq_true hz] at hq
          have hgd := guard37
          clear hz
          go_wp2_with (first | (refine law_store rfl 37 _ _ rfl _ (bys HB) rfl rfl 37 _ hN (by rw [bys_length, bys_length, hHB, hZB]) (by rw [bys_length, hHB]; kernel_rfl) (bys_one HB) ?_; intro x3 o3 h14; have k3 : Below wc.heap.size wc x3 := kc.trans ((o3.below ((Below.refl _ x2).alloc (Nat.le_refl _) (.cells (bys ZB).toArray 37)) (Nat.le_refl _)).mono kc.size); have hT3 := hT.call k3) | (refine law_loadW rfl 37 (.tmp 14) rfl _ rfl 37 _ h14 _ Try.underlying37 rfl (by rw [bys_length, hHB]; kernel_rfl) ?_) | (refine law_zero rfl 37 rfl _ b37 ?_))
          go_at_call 8; refine (works_any _).mono ?_; rintro e x4 ⟨rfl, k4⟩
          go_wp2_with fail
          go_ret
          exact ⟨rfl, (hT3.call k4).l.k⟩
        · have hwrong := HR.out rfl (fun _ => HZ.out hz)
          have hq := eq37 HB ZB hHB hZB
          rw [decide_eq_false hz] at hq
          have hgd := guard37
          clear hz
          go_wp2_with (first | (refine law_store rfl 37 _ _ rfl _ (bys HB) rfl rfl 37 _ hN (by rw [bys_length, bys_length, hHB, hZB]) (by rw [bys_length, hHB]; kernel_rfl) (bys_one HB) ?_; intro x3 o3 h14; have k3 : Below wc.heap.size wc x3 := kc.trans ((o3.below ((Below.refl _ x2).alloc (Nat.le_refl _) (.cells (bys ZB).toArray 37)) (Nat.le_refl _)).mono kc.size); have hT3 := hT.call k3) | (refine law_loadW rfl 37 (.tmp 14) rfl _ rfl 37 _ h14 _ Try.underlying37 rfl (by rw [bys_length, hHB]; kernel_rfl) ?_) | (refine law_zero rfl 37 rfl _ b37 ?_) | (refine wpList_load_mid rfl 22 _ rfl w.heap.size 0 rfl (bys key) _ hT3.l.ky Try.underlying22 rfl (by rw [bys_length, hk]; kernel_rfl) ?_) | (refine law_load rfl 23 _ rfl _ rfl 23 _ (nb.next k3) _ Try.underlying23 rfl (by rw [bys_length, hn']; kernel_rfl) ?_))
          go_at_call 15; refine (open_bad key nonce' ad' s' hk hn' ao7' ao5 n m M c7' c5 _ HM.out (q7.later k3) (q5.later k3) hn7' hc7' hc5 (by omega) (by omega) hwrong).mono ?_; rintro e x4 ⟨rfl, k4⟩
          go_wp2_with fail
          go_at_call 8; refine (works_any _).mono ?_; rintro e x5 ⟨rfl, k5⟩
          go_wp2_with fail
          go_ret
          exact ⟨rfl, ((hT3.call k4).call k5).l.k⟩

theorem turned_short (key nonce ad p mk : List B) (WH AT : Int) (hk : key.length = 32) (hn : nonce.length = 12) (hmk : mk.length = 16) (ao bo : Option Addr) (n m c d : Nat) (w : World) (ha : Shows w ao n (v8s ad)) (hb : Shows w bo m (v8s p)) (hca : ao = none → c = 0) (hcb : bo = none → d = 0) (hbn : n ≤ 4096) (hbm : m ≤ 4096) :
    Calls Try.prog 6 #[.agg (sc key nonce (.slice ao n c) (.slice bo m d)).toArray, .agg (tc WH AT mk).toArray] w fun e w' => e = .returned (.bool true) ∧ Below w.heap.size w w' := by
  have hl : p.length = m := by have := hb.len; rw [v8s_length] at this; exact this
  have hla : ad.length = n := by have := ha.len; rw [v8s_length] at this; exact this
  have hR := ready_length key hk
  have l16 : (List.replicate 16 0#8).length = 16 := List.length_replicate
  have hE := enc_length _ _ hR l16 14 (Nat.le_refl _)
  refine turned_walk key nonce ad p mk (sealM key nonce ad p) (ready key ++ tabs) (enc (ready key) (List.replicate 16 0#8) 14) (List.replicate 16 0#8) WH AT hk hn hmk ao bo n m (m + 16) c d w ha hb hca hcb hbn hbm rfl rfl (by rw [sealM_length, hl]) hE l16 (by kernel_rfl) zero37 ?_ ?_ ?_ ?_ ?_ ?_ ?_
  · intro ho
    exact turned_tag key nonce ad p mk m hl ho
  · intro ho
    exact turned_nonce key nonce ad p mk m hk hn hl ho
  · intro q k h1 h2 h3 h4
    exact turned_text key nonce ad p mk m q k h4 hl h1 h2 h3
  · intro q k h1 h2 h3 h4
    exact turned_ad key nonce ad p mk m q k h4 hl h1 (by omega) h3
  · intro W
    exact rexpand_any key hk W
  · intro W
    exact rblock_any (ready key) tabs _ hR tabs_length l16 (tabs_there _ hR) W
  · intro hne e
    apply hne
    have := bq_qb _ hE
    unfold hkey at e
    rw [e, bq_zero] at this
    exact this.symm

set_option maxHeartbeats 1000000 in
set_option maxRecDepth 100000 in
theorem turned_long (key nonce mk : List B) (WH AT : Int) (hk : key.length = 32) (hn : nonce.length = 12) (hmk : mk.length = 16) (ao bo : Option Addr) (n m c d : Nat) (w : World) (h : 4096 < n ∨ 4096 < m) :
    Calls Try.prog 6 #[.agg (sc key nonce (.slice ao n c) (.slice bo m d)).toArray, .agg (tc WH AT mk).toArray] w fun e w' => e = .returned (.bool true) ∧ Below w.heap.size w w' := by
  have hL : TwS w ((w.alloc (.cells (sc key nonce (.slice ao n c) (.slice bo m d)).toArray 26)).alloc (.cells (tc WH AT mk).toArray 39)) key nonce (.slice ao n c) (.slice bo m d) WH AT mk := by
    obtain ⟨h1, h2, h3⟩ := blk2 w 26 39 (sc key nonce (.slice ao n c) (.slice bo m d)) (tc WH AT mk)
    exact ⟨⟨h1, h3, hk, hn⟩, h2, hmk⟩
  have c44 := hL.l.va
  have c45 := hL.l.vb
  have hbk := hL.l.k
  obtain ⟨X, eX⟩ : ∃ X, X = sc key nonce (.slice ao n c) (.slice bo m d) := ⟨_, rfl⟩
  obtain ⟨Y, eY⟩ : ∃ Y, Y = tc WH AT mk := ⟨_, rfl⟩
  rw [← eX, ← eY]
  rw [← eX, ← eY] at c44 c45 hbk
  clear eX eY hL
  by_cases hnn : 4096 < n
  · have hnI : (n : Int) > 4096 := by omega
    go_enter Try.func6, Try.ntmps6
    go_wp2_with fail
    go_at_call 8; refine (works_any _).mono ?_; rintro e v8 ⟨rfl, k8⟩
    go_wp2_with fail
    go_ret
    exact ⟨rfl, hbk.trans (k8.mono hbk.size)⟩
  · have hnI : ¬ ((n : Int) > 4096) := by omega
    have hmI : (m : Int) > 4096 := by omega
    go_enter Try.func6, Try.ntmps6
    go_wp2_with fail
    go_at_call 8; refine (works_any _).mono ?_; rintro e v8 ⟨rfl, k8⟩
    go_wp2_with fail
    go_ret
    exact ⟨rfl, hbk.trans (k8.mono hbk.size)⟩
theorem turned_all (key nonce ad p mk : List B) (WH AT : Int) (hk : key.length = 32) (hn : nonce.length = 12) (hmk : mk.length = 16) (ao bo : Option Addr) (n m c d : Nat) (w : World) (ha : Shows w ao n (v8s ad)) (hb : Shows w bo m (v8s p)) (hca : ao = none → c = 0) (hcb : bo = none → d = 0) :
    Calls Try.prog 6 #[.agg (sc key nonce (.slice ao n c) (.slice bo m d)).toArray, .agg (tc WH AT mk).toArray] w fun e w' => e = .returned (.bool true) ∧ Below w.heap.size w w' := by
  by_cases h : 4096 < n ∨ 4096 < m
  · exact turned_long key nonce mk WH AT hk hn hmk ao bo n m c d w h
  · exact turned_short key nonce ad p mk WH AT hk hn hmk ao bo n m c d w ha hb hca hcb (by omega) (by omega)
end Go.Proofs.Ytjhkicfndbceoaa
