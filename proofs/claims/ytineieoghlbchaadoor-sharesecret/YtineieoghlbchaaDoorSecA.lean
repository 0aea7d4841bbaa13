/- ShareSecret: the call, where the arguments are not too long. -/
import Derived.Test.YtineieoghlbchaaDoorSecL
namespace Go.Proofs.YtineieoghlbchaaDoor
open Go.RowKit

set_option maxRecDepth 100000 in
theorem secret_big (so xo ro oo : Option Addr) (m sc xn xc dn rc on oc : Nat) (N K : Int) (w : World) (ht : Tab w) (hbig : (40 : Int) < m ∨ (100 : Int) < on) :
    Calls Tryd.prog 7 #[.agg #[.slice so m sc, .slice xo xn xc, .int .i64 N, .int .i64 K, .slice ro dn rc, .slice oo on oc]] w fun e w' => e = .returned (.bool true) ∧ Below w.heap.size w w' := by
  have hbA : Below w.heap.size w (w.alloc (.cells #[.slice so m sc, .slice xo xn xc, .int .i64 N, .int .i64 K, .slice ro dn rc, .slice oo on oc] 51)) := (Below.refl _ w).alloc (Nat.le_refl _) _
  have hw := works_any _ (ht.later hbA) (by simp)
  by_cases h1 : (40 : Int) < m
  · go_enter Tryd.func7, Tryd.ntmps7
    go_wp2_with (go_at_call 8; refine hw.mono ?_; rintro e w1 ⟨rfl, hb⟩)
    go_ret
    exact ⟨rfl, hbA.trans (hb.mono (by simp))⟩
  · have h2 : (100 : Int) < on := by omega
    go_enter Tryd.func7, Tryd.ntmps7
    go_wp2_with (go_at_call 8; refine hw.mono ?_; rintro e w1 ⟨rfl, hb⟩)
    go_ret
    exact ⟨rfl, hbA.trans (hb.mono (by simp))⟩

theorem own_slice {w : World} {b e sz : Nat} {v : Value} {n : Nat} {xs : List Value} (h : w.ownsRow b e sz v n xs) : ∃ ao c, v = .slice ao n c ∧ (0 < n → ∃ g, ao = some ⟨g, 0, none⟩) := by
  rcases h.2 with ⟨rfl, rfl⟩ | ⟨g, cap, cur, rfl, _⟩
  · exact ⟨none, 0, rfl, fun h => by omega⟩
  · exact ⟨_, _, rfl, fun _ => ⟨g, rfl⟩⟩

set_option maxRecDepth 100000 in
set_option maxHeartbeats 4000000 in
theorem secret_walk (so xo ro oo : Option Addr) (m sc xn xc dn rc on oc : Nat) (N K : Int) (S X D : List B) (os : List Int) (w : World) (hs : Shows w so m (S.map v8)) (hsc : so = none → sc = 0) (hx : Shows w xo xn (X.map v8)) (hxn : (xn : Int) ≤ 9223372036854775807) (hd : Shows w ro dn (D.map v8)) (hdn : (dn : Int) ≤ 9223372036854775807) (ho : IShows w oo on os) (ht : Tab w) (h0 : 0 < w.heap.size) (hm : (m : Int) ≤ 40) (hon : (on : Int) ≤ 100) :
    Calls Tryd.prog 7 #[.agg #[.slice so m sc, .slice xo xn xc, .int .i64 N, .int .i64 K, .slice ro dn rc, .slice oo on oc]] w fun e w' => e = .returned (.bool true) ∧ Below w.heap.size w w' := by
  have hbA : Below w.heap.size w (w.alloc (.cells #[.slice so m sc, .slice xo xn xc, .int .i64 N, .int .i64 K, .slice ro dn rc, .slice oo on oc] 51)) := (Below.refl _ w).alloc (Nat.le_refl _) _
  have hS : Blk (w.alloc (.cells #[.slice so m sc, .slice xo xn xc, .int .i64 N, .int .i64 K, .slice ro dn rc, .slice oo on oc] 51)) w.heap.size 51 [.slice so m sc, .slice xo xn xc, .int .i64 N, .int .i64 K, .slice ro dn rc, .slice oo on oc] := Blk.new w 51 [_, _, _, _, _, _]
  have hd1 : decide ((40 : Int) < (m : Int)) = false := by simp; omega
  have hd2 : decide ((100 : Int) < (on : Int)) = false := by simp; omega
  have hm16 := fun W => mod_any N 16 W (by omega) (by omega)
  rw [show ((16 : Nat) : Int) = 16 from rfl] at hm16
  obtain ⟨n1, hn1⟩ : ∃ n1 : Nat, N % 16 = n1 := ⟨(N % 16).toNat, by omega⟩
  have hn16 : n1 < 16 := by omega
  rw [hn1] at hm16
  obtain ⟨n, hn⟩ : ∃ n, n = n1 + 1 := ⟨_, rfl⟩
  have hnI : (1 : Int) + (n1 : Int) = (n : Int) := by omega
  have hnb : (n : Int) ≤ 16 := by omega
  have hn0 : 0 < n := by omega
  clear hn hn1
  have hmk := fun W => mod_any K n W hn0 (by omega)
  obtain ⟨k1, hk1⟩ : ∃ k1 : Nat, K % (n : Int) = k1 := ⟨(K % (n : Int)).toNat, by have := Int.emod_nonneg K (show (n : Int) ≠ 0 by omega); omega⟩
  have hk16 : k1 < n := by have := Int.emod_lt_of_pos K (show (0 : Int) < n by omega); omega
  rw [hk1] at hmk
  obtain ⟨k, hk⟩ : ∃ k, k = k1 + 1 := ⟨_, rfl⟩
  have hkI : (1 : Int) + (k1 : Int) = (k : Int) := by omega
  have hkn : k ≤ n := by omega
  have hk0 : 1 ≤ k := by omega
  clear hk hk1
  obtain ⟨q, hq⟩ : ∃ q, q = k - 1 := ⟨_, rfl⟩
  have Hq : Hid (q = k - 1) := hq
  have hqI : (k : Int) - 1 = (q : Int) := by omega
  have hqn : q ≤ n := by omega
  obtain ⟨Q, hQ⟩ : ∃ Q, Q = (k - 1) * m := ⟨_, rfl⟩
  have hQI : (q : Int) * (m : Int) = (Q : Int) := by
    rw [hQ, Int.natCast_mul, hq]
  have hQb : Q ≤ 15 * 40 := by rw [hQ]; exact Nat.mul_le_mul (by omega) (by omega)
  have HQ : Hid (Q = (k - 1) * m) := hQ
  have hw1 : IntKind.i64.wrap (q : Int) = (q : Int) := by rw [IntKind.wrap_i64]; omega
  have hw2 : IntKind.i64.wrap (Q : Int) = (Q : Int) := by rw [IntKind.wrap_i64]; omega
  clear hQ hq
  obtain ⟨A, HA⟩ : ∃ A, Hid (A = w.alloc (.cells #[.slice so m sc, .slice xo xn xc, .int .i64 N, .int .i64 K, .slice ro dn rc, .slice oo on oc] 51)) := ⟨_, rfl⟩
  have hzA : w.heap.size < A.heap.size := by rw [HA.out]; simp
  rw [← HA.out] at hbA hS
  have hxA := hx.later hbA
  obtain ⟨a0, a1, a2, a3, a4, a5⟩ := six_cells hS
  go_enter Tryd.func7, Tryd.ntmps7
  go_wp2_with fail
  rw [← HA.out]
  refine (hm16 A).mono ?_
  rintro e w' ⟨rfl, rfl⟩
  go_wp2_with fail
  refine (hmk A).mono ?_
  rintro e w' ⟨rfl, rfl⟩
  go_wp2_with fail
  refine (filled_any xo xn xc m X A hxA hxn (by omega)).mono ?_
  rintro e wO ⟨vO, O, rfl, hoO, hbO⟩
  obtain ⟨po, pc, rfl, hsO, hcO, -⟩ := own_shape hoO (v8s_rng _)
  have BO : Below w.heap.size w wO := hbA.trans (hbO.mono hbA.size)
  have SO := hS.next hbO
  clear a0 a1 a2 a3 a4 a5 hS hxA hoO
  obtain ⟨a0, -, -, -, a4, -⟩ := six_cells SO
  have hsA := hs.later BO
  have hdA := hd.later BO
  go_wp2_with fail
  have keep : ∀ {W W' : World}, Below W.heap.size W W' → (W.cell? ⟨w.heap.size, 0, none⟩ = some (.slice so m sc) ∧ W.cell? ⟨w.heap.size, 4, none⟩ = some (.slice ro dn rc)) → (W'.cell? ⟨w.heap.size, 0, none⟩ = some (.slice so m sc) ∧ W'.cell? ⟨w.heap.size, 4, none⟩ = some (.slice ro dn rc)) := fun hb h => ⟨cell_later hb h.1, cell_later hb h.2⟩
  go_region_held3 (fun w' => w'.cell? ⟨w.heap.size, 0, none⟩ = some (.slice so m sc) ∧ w'.cell? ⟨w.heap.size, 4, none⟩ = some (.slice ro dn rc)) (first | exact ⟨a0, a4⟩ | (go_split_ands; exact keep hb1 ⟨by assumption, by assumption⟩) | (go_split_ands; exact keep hb2 ⟨by assumption, by assumption⟩) | (go_split_ands; exact keep hb3 ⟨by assumption, by assumption⟩)) ((first
    | (go_at_call 29; refine (copyBytes_any so m sc (S.map v8) wO.drew (shows_heap hsA rfl) hsc (by omega)).mono ?_; rintro e w1 ⟨v1, rfl, ho1, hb1⟩; obtain ⟨c1o, c1c, rfl, hs1, -⟩ := own_shape ho1 (v8s_rng _))
    | (go_at_call 30; refine (filled_any ro dn rc Q D w1 ((shows_heap (w' := wO.drew) hdA rfl).later hb1) hdn (by omega)).mono ?_; rintro e w2 ⟨v2, F, rfl, ho2, hb2⟩; obtain ⟨c2o, c2c, rfl, hs2, hc2, -⟩ := own_shape ho2 (v8s_rng _))
    | (go_at_call 10; refine (split_Q c1o c2o m c1c c2c n k Q S F w2 HQ.out (hs1.later hb2) hs2 hc2 (by omega) hk0 hkn (by omega)).mono ?_; rintro e w3 ⟨rfl, hB3, hR3, hb3⟩)))
  have B1 : Below w.heap.size w w1 := BO.drew.trans (hb1.mono BO.size)
  have B2 : Below w.heap.size w w2 := B1.trans (hb2.mono B1.size)
  have B3 : Below w.heap.size w w3 := B2.trans (hb3.mono B2.size)
  have S3 := (((Blk.drew SO).next hb1).next hb2).next hb3
  have hsO3 := (((shows_heap (w' := wO.drew) hsO rfl).later hb1).later hb2).later hb3
  have hFl : F.length = Q := by have := hs2.len; rwa [List.length_map] at this
  obtain ⟨G, hG⟩ : ∃ G, G = w2.heap.size := ⟨_, rfl⟩
  rw [← hG] at hB3 hR3 ⊢
  have hGl : G < w3.heap.size := hB3.lt
  have L3 : Shs w3 (some ⟨G, 0, none⟩) n (mkL G m (yRow S F k m) n) := shs_split (by omega) hB3 hR3
  have R3 : ∀ i, i < n → w3.ownsRow 0 5 1 (.slice (some ⟨G + 1 + i, 0, none⟩) m m) m (u8s ((yRow S F k m i).map v8)) := fun i hi => own_of_heap (hR3 i hi) (by rw [List.length_map, yRow_length]) (by unfold maxLen; omega) (Nat.zero_le _)
  have HOl : Hid (O.length = m) := by show _ = _; have := hsO.len; rwa [List.length_map] at this
  obtain ⟨-, -, -, -, -, a5⟩ := six_cells S3
  have htk := taken_any oo on oc n q os w3 (ho.later B3) hon hn0 hnb hqn
  clear hR3 hB3 hG S3 hs1 hs2 hc2 ho1 ho2 hb1 hb2 hb3 B1 B2 a0 a4 hm16 hmk hsA hdA keep BO SO hbO hsO
  go_wp2_with (go_at_call 31; refine htk.mono ?_; rintro e w4 ⟨av, P, rfl, hav, hPl, hnd, hPn, hb4⟩)
  obtain ⟨ao, ac, rfl, hag⟩ := own_slice hav
  have hq16 : q < 16 := by have := Hq.out; omega
  have HP1 : Hid (P.length = q) := hPl
  have HP2 : Hid (P.Nodup) := hnd
  have HP3 : Hid (∀ p ∈ P, p < n) := hPn
  have hz4 := hb4.size
  have B4 : Below w.heap.size w w4 := B3.trans (hb4.mono B3.size)
  have catP : ∀ W, Below w4.heap.size w4 W → ∀ (ag i p : Nat), ao = some ⟨ag, 0, none⟩ → P[i]? = some p → W.cell? ⟨ag, i, none⟩ = some (.int .i64 (p : Int)) := fun W hb ag i p e hp => by
    subst e
    refine cell_later hb ?_
    rw [hav.cellAt i (by have := (List.getElem?_eq_some_iff.1 hp).1; have := HP1.out; omega)]
    unfold i64s
    rw [List.getElem?_map, hp]
    rfl
  have cL : ∀ W, Below w4.heap.size w4 W → ∀ p, p < n → W.cell? ⟨G, p * 2, none⟩ = some (.int .u8 ((p : Int) + 1)) ∧ W.cell? ⟨G, p * 2 + 1, none⟩ = some (.slice (some ⟨G + 1 + p, 0, none⟩) m m) := fun W hb p hp => by
    have hsp := mkL_at G m (yRow S F k m) n p hp
    have hb' := hb4.trans (hb.mono hz4)
    have cx := (L3.later hb').cx ⟨G, 0, none⟩ rfl p _ hsp
    have cy := (L3.later hb').cy ⟨G, 0, none⟩ rfl p _ hsp
    rw [lit_add] at cx cy
    simp only [shareAt] at cx cy
    rw [v8_place p (by omega)] at cx
    exact ⟨cx, cy⟩
  have cR : ∀ W, Below w4.heap.size w4 W → ∀ p, p < n → ∀ j, j < m → W.cell? ⟨G + 1 + p, j, none⟩ = some (.int .u8 (v8 ((yRow S F k m p).getD j 0#8))) := fun W hb p hp j hj => by
    have hb' := hb4.trans (hb.mono hz4)
    refine cell_later hb' ?_
    rw [(R3 p hp).cellAt j (by omega)]
    simp [u8s, List.getD, List.getElem?_eq_getElem (show j < (yRow S F k m p).length by rw [yRow_length]; exact hj)]
  have cO : ∀ W, Below w4.heap.size w4 W → Shows W po m (O.map v8) := fun W hb => (hsO3.later hb4).later hb
  have HcatP : Hid _ := catP
  have HcL : Hid _ := cL
  have HcR : Hid _ := cR
  have HcO : Hid _ := cO
  clear hPl hnd hPn htk a5 hav hsO3 catP cL cR cO
  go_wp2
  go_loopw [9, 10] (fun dv x wr => ∃ (j e : Nat) (D : List B), j ≤ m ∧ x = .int .i64 j ∧ Hid (e = (k - 1) * j) ∧ e ≤ 600 ∧ Own5 w4.heap.size wr dv e (D.map v8) ∧ Hid (DrOk O S F P k m j D) ∧ Below w4.heap.size w4 wr) (fun _ x _ => m - (intOf x).toNat)
  case atStart => exact ⟨0, 0, [], Nat.zero_le _, rfl, (by show _ = _; simp), by omega, ⟨World.ownsRow_nil _ _ _ _⟩, DrOk.start _ _ _ _ _ _, Below.refl _ _⟩
  case round =>
    obtain ⟨j, e, DD, hj, rfl, HE, heb, hDr, HDr, hb⟩ := hrel
    have hzb := hb.size
    by_cases hlt : j < m
    · have hjm : (j : Int) < (m : Int) := by omega
      obtain ⟨pd, rfl⟩ := (HcO.out _ hb).some (by omega)
      have co := (HcO.out _ hb).elem j hlt
      obtain ⟨y, HY⟩ : ∃ y, Hid (y = v8 (O.getD j 0#8)) := ⟨_, rfl⟩
      rw [← HY.out] at co
      have co' := cellA co (.cells #[.int .u8 0] 5)
      obtain ⟨wI, HI⟩ : ∃ wI, Hid (wI = (wr.alloc (.cells #[.int .u8 0] 5)).alloc (.cells #[.int .u8 y] 5)) := ⟨_, rfl⟩
      have hbI : Below wr.heap.size wr wI := by rw [HI.out]; exact ((Below.refl _ wr).alloc (Nat.le_refl _) _).alloc (by simp) _
      have oX : Own5 wr.heap.size wI (.slice (some ⟨wr.heap.size, 0, none⟩) 1 1) 1 [0] := ⟨built_own (by rw [HI.out]; exact old_at (new_at rfl)) (Nat.le_refl _)⟩
      have oY : Own5 wr.heap.size wI (.slice (some ⟨wr.heap.size + 1, 0, none⟩) 1 1) 1 [y] := ⟨built_own (by rw [HI.out]; exact new_at (by simp)) (by omega)⟩
      have hNE : NeB (.slice (some ⟨wr.heap.size, 0, none⟩) 1 1) (.slice (some ⟨wr.heap.size + 1, 0, none⟩) 1 1) := .inr (by simp [Value.ownBlock])
      obtain ⟨XS, HXS⟩ : ∃ XS, Hid (XS = (sX P).map v8) := ⟨_, rfl⟩
      obtain ⟨YS, HYS⟩ : ∃ YS, Hid (YS = (sY (O.getD j 0#8) S F P k m j).map v8) := ⟨_, rfl⟩
      have hX1 : XS.take 1 = [0] := by rw [HXS.out]; simp [sX, v8]
      have hY1 : YS.take 1 = [y] := by rw [HYS.out, HY.out]; simp [sY]
      rw [← hX1] at oX
      rw [← hY1] at oY
      clear hX1 hY1
      go_wp2
      rw [← HI.out]
      clear co co'
      obtain ⟨wB, h⟩ : ∃ x, x = wr := ⟨_, rfl⟩; subst h
      go_loopw [11, 12, 13] (fun v u x wr => ∃ i : Nat, i ≤ q ∧ x = .int .i64 i ∧ Own5 wB.heap.size wr v (i + 1) (XS.take (i + 1)) ∧ Own5 wB.heap.size wr u (i + 1) (YS.take (i + 1)) ∧ NeB v u ∧ Below wB.heap.size wB wr) (fun _ _ x _ => q - (intOf x).toNat)
      case atStart => exact ⟨0, Nat.zero_le _, rfl, oX, oY, hNE, hbI⟩
      case round =>
        clear oX oY hNE hbI HI
        obtain ⟨i, hi, rfl, hX, hY, hNE, hb5⟩ := hrel
        have hz5 := hb5.size
        have B5 : Below w4.heap.size w4 wr := hb.trans (hb5.mono hzb)
        by_cases hlti : i < q
        · have hiq : (i : Int) < (q : Int) := by omega
          obtain ⟨p, hp⟩ : ∃ p, P[i]? = some p := ⟨_, List.getElem?_eq_getElem (by have := HP1.out; omega)⟩
          have hpn : p < n := HP3.out p (List.mem_of_getElem? hp)
          have hpn' : (p : Int) < (n : Int) := by omega
          obtain ⟨ag, rfl⟩ := hag (by omega)
          have ca := HcatP.out _ B5 ag i p rfl hp
          obtain ⟨cx, cy⟩ := HcL.out _ B5 p hpn
          have cz := HcR.out _ B5 p hpn j hlt
          obtain ⟨z, HZ⟩ : ∃ z, Hid (z = v8 ((yRow S F k m p).getD j 0#8)) := ⟨_, rfl⟩
          rw [← HZ.out] at cz
          obtain ⟨bp, HBP⟩ : ∃ bp, Hid (bp = G + 1 + p) := ⟨_, rfl⟩
          rw [← HBP.out] at cy cz
          have hwp : IntKind.u8.wrap ((p : Int) + 1) = (p : Int) + 1 := by simp only [IntKind.wrap, IntKind.bits, IntKind.signed]; simp; omega
          have HX : Hid (XS.take (i + 1 + 1) = XS.take (i + 1) ++ [(p : Int) + 1]) := by
            refine take_next' ?_
            rw [HXS.out]
            unfold sX
            rw [List.map_cons, List.getElem?_cons_succ, List.getElem?_map, List.getElem?_map, hp]
            show some (v8 (BitVec.ofNat 8 (p + 1))) = _
            rw [v8_place p (by omega)]
          have HYT : Hid (YS.take (i + 1 + 1) = YS.take (i + 1) ++ [z]) := by
            refine take_next' ?_
            rw [HYS.out]
            unfold sY
            rw [List.map_cons, List.getElem?_cons_succ, List.getElem?_map, List.getElem?_map, hp, HZ.out]
            rfl
          obtain ⟨xk, HXK⟩ : ∃ xk, Hid (xk = XS.take (i + 1)) := ⟨_, rfl⟩
          obtain ⟨yk, HYK⟩ : ∃ yk, Hid (yk = YS.take (i + 1)) := ⟨_, rfl⟩
          rw [← HXK.out] at hX
          rw [← HYK.out] at hY
          have HPI : Hid (P[i]? = some p) := hp
          clear hp
          go_wp2
          go_quiet ((fail))
          obtain ⟨wD, HD⟩ : ∃ wD, Hid (wD = wr.drewN nq) := ⟨_, rfl⟩
          have hDh : wD.heap = wr.heap := by rw [HD.out]; exact drewN_heap _ _
          have hzD : wr.heap.size ≤ wD.heap.size := by rw [hDh]; exact Nat.le_refl _
          have hbD : Below wB.heap.size wB wD := by rw [HD.out]; exact below_drewN hb5 _
          have BD : Below w4.heap.size w4 wD := by rw [HD.out]; exact below_drewN B5 _
          have hXD : Own5 wB.heap.size wD u11 (i + 1) xk := ⟨own_heap hX.own hDh⟩
          have hYD : Own5 wB.heap.size wD u12 (i + 1) yk := ⟨own_heap hY.own hDh⟩
          have ca := HcatP.out _ BD ag i p rfl HPI.out
          obtain ⟨cx, cy⟩ := HcL.out _ BD p hpn
          rw [← HBP.out] at cy
          have HDH : Hid (wD.heap = wr.heap) := hDh
          clear hX hY hDh
          rw [← HD.out]
          go_wp2_with (at_builtin; go_must (refine law_one rfl _ _ rfl wB.heap.size _ _ _ rfl (hXD.alloc _) wD.heap.size ((p : Int) + 1) rfl (new_at rfl) (by omega) (by simp; omega) ?_))
          intro g6 c6 w6 hX6 hg6 hat6 hlt6
          have hY6 := (hYD.alloc (.cells #[.int .u8 ((p : Int) + 1)] 5)).kept hg6 hNE.symm
          have hb6 : Below wB.heap.size wB w6 := (hbD.alloc (by omega) _).grown hg6 (by simp; omega) (fun b hb => (hXD.own.lt b hb).1)
          have B6 : Below w4.heap.size w4 w6 := hb.trans (hb6.mono hzb)
          have hz6 := hb6.size
          clear ca cx cy
          have ca := HcatP.out _ B6 ag i p rfl HPI.out
          obtain ⟨cx, cy⟩ := HcL.out _ B6 p hpn
          have cz := HcR.out _ B6 p hpn j hlt
          rw [← HZ.out] at cz
          rw [← HBP.out] at cy cz
          go_wp2_with (at_builtin; go_must (refine law_one rfl _ _ rfl wB.heap.size _ _ _ rfl (hY6.alloc _) w6.heap.size z rfl (new_at rfl) (by omega) (by simp; omega) ?_))
          intro g7 c7 w7 hY7 hg7 hat7 hlt7
          have hE := two_end (wr := wD) hNE (fun b hb => hXD.own.lt b hb) (fun b hb => hYD.own.lt b hb) (by simp) (hbD.alloc (by omega) _) (by simp; omega) hg6 hX6 (by simpa using hat6) hlt6 (World.grownBy_alloc _ _ _) hg7 hY7 (by simpa using hat7)
          obtain ⟨E1, E2, E3, E4⟩ := hE
          clear hX6 hg6 hat6 hlt6 hY6 hY7 hg7 hat7 hlt7 hXD hYD ca cx cy cz
          go_wp2
          go_roundw
          case rel =>
            refine ⟨i + 1, by omega, by go_num, ?_, ?_, E3, E4⟩
            · rw [HX.out, ← HXK.out]; exact E1
            · rw [HYT.out, ← HYK.out]; exact E2
          case measure => simp [intOf]; omega
        · have hiq : q = i := by omega
          subst hiq
          have hXl : XS.length = q + 1 := by rw [HXS.out]; unfold sX; rw [List.length_map, List.length_cons, List.length_map, HP1.out]
          have hYl : YS.length = q + 1 := by rw [HYS.out]; unfold sY; rw [List.length_map, List.length_cons, List.length_map, HP1.out]
          rw [List.take_of_length_le (by omega), HXS.out] at hX
          rw [List.take_of_length_le (by omega), HYS.out] at hY
          obtain ⟨xg, xcap, rfl, -, -⟩ := hX.own.form (by omega)
          obtain ⟨yg, ycap, rfl, -, -⟩ := hY.own.form (by omega)
          have hth := through_any ⟨xg, 0, none⟩ ⟨yg, 0, none⟩ (q + 1) xcap ycap (sX P) (sY (O.getD j 0#8) S F P k m j) wr (shows_lit hX.own (v8s_rng _)) (shows_lit hY.own (v8s_rng _)) (sX_nodup P HP2.out (fun p hp => by have := HP3.out p hp; omega)) (by omega)
          clear hX hY hNE hXl hYl HXS HYS
          go_wp2_with fail
          refine hth.mono ?_
          rintro e w7 ⟨T, rfl, hE7, HTl, hI7, hb7⟩
          have HI7 : Hid _ := hI7
          have hb57 : Below wB.heap.size wB w7 := hb5.trans (hb7.mono hz5)
          have hDr7 := hDr.later hb57
          have HT7 : Hid (Shows w7 (fromAt (some ⟨wr.heap.size, 0, none⟩) (q + 1) 1) (q + 1 - 1) ((T.map v8).drop 1)) := (shows_row (n := q + 1) (show RowIs w7 wr.heap.size (T.map v8) from hE7.blk) (by rw [List.length_map]; exact HTl.out) (v8s_rng _)).drop (by omega) (Nat.le_refl _)
          obtain ⟨fo, HFO⟩ : ∃ fo, Hid (fo = fromAt (some ⟨wr.heap.size, 0, none⟩) (q + 1) 1) := ⟨_, rfl⟩
          have hfn : fo ≠ none := by rw [HFO.out]; unfold fromAt; split <;> simp
          have hsT : Shows w7 fo q ((T.map v8).drop 1) := by have := HT7.out; rw [← HFO.out] at this; exact this
          clear hI7 hth hE7 hb7
          have hq1 : (1 : Nat) ≤ q + 1 := by omega
          go_wp2_with (first
            | (refine law_tail rfl _ _ rfl wr.heap.size (q + 1) rfl rfl hq1 fo HFO q rfl ?_)
            | (at_builtin; go_must (refine law_append rfl _ _ rfl w4.heap.size _ _ _ rfl hDr7.own fo q q _ rfl hsT (fun e => absurd e hfn) (by omega) (by have := hb57.size; omega) ?_)))
          intro v' w8 hv8 hg8 _
          have B7 : Below w4.heap.size w4 w7 := hb.trans (hb57.mono hzb)
          have B8 : Below w4.heap.size w4 w8 := B7.grown hg8 B7.size (fun b hb => (hDr7.own.lt b hb).1)
          clear hDr7 hg8 hsT hfn HT7
          go_wp2
          go_roundw
          case rel =>
            have hkq : k = q + 1 := by have := Hq.out; omega
            have hee : e + q = (k - 1) * (j + 1) := by rw [HE.out, Nat.mul_succ, Hq.out]
            refine ⟨j + 1, e + q, DD ++ T.drop 1, by omega, by go_num, hee, ?_, ⟨?_⟩, ?_, B8⟩
            · rw [hee]; exact Nat.le_trans (Nat.mul_le_mul (show k - 1 ≤ 15 by omega) (show j + 1 ≤ 40 by omega)) (by decide)
            · rw [List.map_append, List.drop_one, List.map_tail]; exact hv8
            · refine HDr.out.next hk0 (by rw [HP1.out]; omega) (by rw [HTl.out]; omega) ?_
              have := HI7.out
              rw [← hkq] at this
              exact this
          case measure => simp [intOf]; omega
    · have hjm : m = j := by omega
      subst hjm
      have heQ : Q = e := by rw [HE.out, HQ.out]
      subst heQ
      obtain ⟨dvo, dc, rfl, hsD, hcD, -⟩ := own_shape hDr.own (v8s_rng _)
      have hsp := split_Q po dvo m pc dc n k Q O DD wr HQ.out (HcO.out _ hb) hsD hcD (by omega) hk0 hkn (by omega)
      have hBw : Below w.heap.size w wr := B4.trans (hb.mono B4.size)
      clear hDr hsD
      go_wp2_with fail
      refine hsp.mono ?_
      rintro e w5 ⟨rfl, hB5, hR5, hb5⟩
      have hz5 := hb5.size
      have B5 : Below w4.heap.size w4 w5 := hb.trans (hb5.mono hzb)
      have B5w : Below w.heap.size w w5 := hBw.trans (hb5.mono hBw.size)
      have L5 : Shs w5 (some ⟨wr.heap.size, 0, none⟩) n (mkL wr.heap.size m (yRow O DD k m) n) := shs_split (by omega) hB5 hR5
      have R5 : ∀ i, i < n → w5.ownsRow 0 5 1 (.slice (some ⟨wr.heap.size + 1 + i, 0, none⟩) m m) m (u8s ((yRow O DD k m i).map v8)) := fun i hi => own_of_heap (hR5 i hi) (by rw [List.length_map, yRow_length]) (by unfold maxLen; omega) (Nat.zero_le _)
      have HR : Hid (∀ W, Below w5.heap.size w5 W → ∀ p ∈ P, W.cell? ⟨wr.heap.size, p * 2, none⟩ = some (.int .u8 ((p : Int) + 1)) ∧ W.cell? ⟨wr.heap.size, p * 2 + 1, none⟩ = some (.slice (some ⟨wr.heap.size + 1 + p, 0, none⟩) m m) ∧ Shows W (some ⟨wr.heap.size + 1 + p, 0, none⟩) m ((yRow S F k m p).map v8) ∧ Shows W (some ⟨G + 1 + p, 0, none⟩) m ((yRow S F k m p).map v8)) := fun W hb' p hpP => by
        have hp := HP3.out p hpP
        have hsp := mkL_at wr.heap.size m (yRow O DD k m) n p hp
        have cx := (L5.later hb').cx ⟨wr.heap.size, 0, none⟩ rfl p _ hsp
        have cy := (L5.later hb').cy ⟨wr.heap.size, 0, none⟩ rfl p _ hsp
        rw [lit_add] at cx cy
        simp only [shareAt] at cx cy
        rw [v8_place p (by omega)] at cx
        refine ⟨cx, cy, ?_, ?_⟩
        · rw [← HDr.out.same p hpP]
          exact (shows_lit (R5 p hp) (v8s_rng _)).later hb'
        · exact (((shows_lit (R3 p hp) (v8s_rng _)).later hb4).later B5).later hb'
      obtain ⟨GG, HGG⟩ : ∃ GG, Hid (GG = wr.heap.size) := ⟨_, rfl⟩
      rw [← HGG.out] at HR ⊢
      clear hB5 hR5 L5 R5 hsp
      obtain ⟨wB, h⟩ : ∃ x, x = wr := ⟨_, rfl⟩; subst h
      go_wp2
      go_loopw [17] (fun x wr => ∃ i : Nat, i ≤ q ∧ x = .int .i64 i ∧ Below w5.heap.size w5 wr) (fun x _ => q - (intOf x).toNat)
      case atStart => exact ⟨0, Nat.zero_le _, rfl, Below.refl _ _⟩
      case round =>
        obtain ⟨i, hi, rfl, hb6⟩ := hrel
        have B6 : Below w4.heap.size w4 wr := B5.trans (hb6.mono B5.size)
        have B6w : Below w.heap.size w wr := B5w.trans (hb6.mono B5w.size)
        by_cases hlti : i < q
        · have hiq : (i : Int) < (q : Int) := by omega
          obtain ⟨p, hp⟩ : ∃ p, P[i]? = some p := ⟨_, List.getElem?_eq_getElem (by have := HP1.out; omega)⟩
          have hpP := List.mem_of_getElem? hp
          have hpn : p < n := HP3.out p hpP
          have hpn' : (p : Int) < (n : Int) := by omega
          obtain ⟨ag, rfl⟩ := hag (by omega)
          have ca := HcatP.out _ B6 ag i p rfl hp
          obtain ⟨cx, cy⟩ := HcL.out _ B6 p hpn
          obtain ⟨dx, dy, s1, s2⟩ := HR.out _ hb6 p hpP
          obtain ⟨bp, HBP⟩ : ∃ bp, Hid (bp = G + 1 + p) := ⟨_, rfl⟩
          rw [← HBP.out] at cy s2
          obtain ⟨bq, HBQ⟩ : ∃ bq, Hid (bq = GG + 1 + p) := ⟨_, rfl⟩
          rw [← HBQ.out] at dy s1
          have hq := fun N => eqB_same _ _ m m m m ((yRow S F k m p).map v8) ((yRow S F k m p).map v8) (wr.drewN N) (shows_heap s1 (drewN_heap _ _)) (shows_heap s2 (drewN_heap _ _))
          simp only [decide_true] at hq
          clear hp hpP s1 s2
          go_wp2
          go_quiet ((go_at_call 20; exact Calls.quiet_of_same (hq _)))
          go_wp2
          go_roundw
          case rel => exact ⟨i + 1, by omega, by go_num, below_drewN hb6 _⟩
          case measure => simp [intOf]; omega
        · have hwk := works_any wr (ht.later B6w) (by have := B6w.size; omega)
          have hiq : ¬ (i : Int) < (q : Int) := by omega
          go_wp2_with (go_at_call 8; refine hwk.mono ?_; rintro e w9 ⟨rfl, hb9⟩)
          go_ret
          exact ⟨rfl, B6w.trans (hb9.mono B6w.size)⟩
end Go.Proofs.YtineieoghlbchaaDoor
