/- ShareBack: the call, where the arguments are not too long. -/
import Derived.Test.YtineieoghlbchaaDoorBackM
namespace Go.Proofs.YtineieoghlbchaaDoor
open Go.RowKit

theorem back_big (so xo ro oo : Option Addr) (m sc xn xc dn rc on oc : Nat) (N K : Int) (w : World) (ht : Tab w) (hbig : (200 : Int) < m ∨ (100 : Int) < on) :
    Calls Tryd.prog 6 #[.agg #[.slice so m sc, .slice xo xn xc, .int .i64 N, .int .i64 K, .slice ro dn rc, .slice oo on oc]] w fun e w' => e = .returned (.bool true) ∧ Below w.heap.size w w' := by
  have hbA : Below w.heap.size w (w.alloc (.cells #[.slice so m sc, .slice xo xn xc, .int .i64 N, .int .i64 K, .slice ro dn rc, .slice oo on oc] 51)) := (Below.refl _ w).alloc (Nat.le_refl _) _
  have hw := works_any _ (ht.later hbA) (by simp)
  by_cases h1 : (200 : Int) < m
  · go_enter Tryd.func6, Tryd.ntmps6
    go_wp2_with (go_at_call 8; refine hw.mono ?_; rintro e w1 ⟨rfl, hb⟩)
    go_ret
    exact ⟨rfl, hbA.trans (hb.mono (by simp))⟩
  · have h2 : (100 : Int) < on := by omega
    go_enter Tryd.func6, Tryd.ntmps6
    go_wp2_with (go_at_call 8; refine hw.mono ?_; rintro e w1 ⟨rfl, hb⟩)
    go_ret
    exact ⟨rfl, hbA.trans (hb.mono (by simp))⟩

theorem split_Q (so ro : Option Addr) (m sc rc n k Q : Nat) (S D : List B) (w : World) (hQ : Q = (k - 1) * m) (hs : Shows w so m (S.map v8)) (hd : Shows w ro Q (D.map v8)) (hrc : Q ≤ rc) (hm : (m : Int) ≤ 1024) (hk : 1 ≤ k) (hkn : k ≤ n) (hn : n ≤ 16) :
    Calls Tryd.prog 10 #[.slice so m sc, .int .i64 n, .int .i64 k, .slice ro Q rc] w fun e w' => e = .returned (.tuple #[.slice (some ⟨w.heap.size, 0, none⟩) n n, .int .i64 0]) ∧ Blk w' w.heap.size 44 (shv (mkL w.heap.size m (yRow S D k m) n)) ∧ (∀ i, i < n → RowIs w' (w.heap.size + 1 + i) ((yRow S D k m i).map v8)) ∧ Below w.heap.size w w' := by
  subst hQ
  exact split_good so ro m sc rc n k S D w hs hd hrc hm hk hkn hn

theorem six_cells {w : World} {g : Nat} {a b c d e f : Value} (h : Blk w g 51 [a, b, c, d, e, f]) : w.cell? ⟨g, 0, none⟩ = some a ∧ w.cell? ⟨g, 1, none⟩ = some b ∧ w.cell? ⟨g, 2, none⟩ = some c ∧ w.cell? ⟨g, 3, none⟩ = some d ∧ w.cell? ⟨g, 4, none⟩ = some e ∧ w.cell? ⟨g, 5, none⟩ = some f :=
  ⟨h.cell 0 _ rfl, h.cell 1 _ rfl, h.cell 2 _ rfl, h.cell 3 _ rfl, h.cell 4 _ rfl, h.cell 5 _ rfl⟩

set_option maxRecDepth 100000 in
set_option maxHeartbeats 4000000 in
theorem back_walk (so xo ro oo : Option Addr) (m sc xn xc dn rc on oc : Nat) (N K : Int) (S D : List B) (os : List Int) (w : World) (hs : Shows w so m (S.map v8)) (hsc : so = none → sc = 0) (hd : Shows w ro dn (D.map v8)) (hdn : (dn : Int) ≤ 9223372036854775807) (ho : IShows w oo on os) (ht : Tab w) (h0 : 0 < w.heap.size) (hm : (m : Int) ≤ 200) (hon : (on : Int) ≤ 100) :
    Calls Tryd.prog 6 #[.agg #[.slice so m sc, .slice xo xn xc, .int .i64 N, .int .i64 K, .slice ro dn rc, .slice oo on oc]] w fun e w' => e = .returned (.bool true) ∧ Below w.heap.size w w' := by
  have hbA : Below w.heap.size w (w.alloc (.cells #[.slice so m sc, .slice xo xn xc, .int .i64 N, .int .i64 K, .slice ro dn rc, .slice oo on oc] 51)) := (Below.refl _ w).alloc (Nat.le_refl _) _
  have hS : Blk (w.alloc (.cells #[.slice so m sc, .slice xo xn xc, .int .i64 N, .int .i64 K, .slice ro dn rc, .slice oo on oc] 51)) w.heap.size 51 [.slice so m sc, .slice xo xn xc, .int .i64 N, .int .i64 K, .slice ro dn rc, .slice oo on oc] := Blk.new w 51 [_, _, _, _, _, _]
  have hd1 : decide ((200 : Int) < (m : Int)) = false := by simp; omega
  have hd2 : decide ((100 : Int) < (on : Int)) = false := by simp; omega
  have hm16 := fun W => mod_any N 16 W (by omega) (by omega)
  rw [show ((16 : Nat) : Int) = 16 from rfl] at hm16
  obtain ⟨n1, hn1⟩ : ∃ n1 : Nat, N % 16 = n1 := ⟨(N % 16).toNat, by omega⟩
  have hn16 : n1 < 16 := by omega
  rw [hn1] at hm16
  obtain ⟨n, hn⟩ : ∃ n, n = n1 + 1 := ⟨_, rfl⟩
  have hnI : (1 : Int) + (n1 : Int) = (n : Int) := by omega
  have hnb : (n : Int) ≤ 16 := by omega
  have hn0 : 0 < n := by omega
  clear hn hn1
  have hmk := fun W => mod_any K n W hn0 (by omega)
  obtain ⟨k1, hk1⟩ : ∃ k1 : Nat, K % (n : Int) = k1 := ⟨(K % (n : Int)).toNat, by have := Int.emod_nonneg K (show (n : Int) ≠ 0 by omega); omega⟩
  have hk16 : k1 < n := by have := Int.emod_lt_of_pos K (show (0 : Int) < n by omega); omega
  rw [hk1] at hmk
  obtain ⟨k, hk⟩ : ∃ k, k = k1 + 1 := ⟨_, rfl⟩
  have hkI : (1 : Int) + (k1 : Int) = (k : Int) := by omega
  have hkn : k ≤ n := by omega
  have hk0 : 1 ≤ k := by omega
  clear hk hk1
  obtain ⟨Q, hQ⟩ : ∃ Q, Q = (k - 1) * m := ⟨_, rfl⟩
  have hQI : ((k : Int) - 1) * (m : Int) = (Q : Int) := by
    rw [hQ, Int.natCast_mul]
    congr 1
    omega
  have hQb : Q ≤ 15 * 200 := by rw [hQ]; exact Nat.mul_le_mul (by omega) (by omega)
  have HQ : Hid (Q = (k - 1) * m) := hQ
  have hw1 : IntKind.i64.wrap ((k : Int) - 1) = (k : Int) - 1 := by rw [IntKind.wrap_i64]; omega
  have hw2 : IntKind.i64.wrap (Q : Int) = (Q : Int) := by rw [IntKind.wrap_i64]; omega
  clear hQ
  obtain ⟨A, HA⟩ : ∃ A, Hid (A = w.alloc (.cells #[.slice so m sc, .slice xo xn xc, .int .i64 N, .int .i64 K, .slice ro dn rc, .slice oo on oc] 51)) := ⟨_, rfl⟩
  have hzA : w.heap.size < A.heap.size := by rw [HA.out]; simp
  rw [← HA.out] at hbA hS
  have hsA := hs.later hbA
  have hdA := hd.later hbA
  obtain ⟨a0, -, a2, a3, a4, a5⟩ := six_cells hS
  go_enter Tryd.func6, Tryd.ntmps6
  go_wp2_with fail
  rw [← HA.out]
  refine (hm16 A).mono ?_
  rintro e w' ⟨rfl, rfl⟩
  go_wp2_with fail
  refine (hmk A).mono ?_
  rintro e w' ⟨rfl, rfl⟩
  go_wp2_with fail
  have keep : ∀ {W W' : World}, Below W.heap.size W W' → (W.cell? ⟨w.heap.size, 0, none⟩ = some (.slice so m sc) ∧ W.cell? ⟨w.heap.size, 4, none⟩ = some (.slice ro dn rc)) → (W'.cell? ⟨w.heap.size, 0, none⟩ = some (.slice so m sc) ∧ W'.cell? ⟨w.heap.size, 4, none⟩ = some (.slice ro dn rc)) := fun hb h => ⟨cell_later hb h.1, cell_later hb h.2⟩
  go_region_held3 (fun w' => w'.cell? ⟨w.heap.size, 0, none⟩ = some (.slice so m sc) ∧ w'.cell? ⟨w.heap.size, 4, none⟩ = some (.slice ro dn rc)) (first | exact ⟨a0, a4⟩ | (go_split_ands; exact keep hb1 ⟨by assumption, by assumption⟩) | (go_split_ands; exact keep hb2 ⟨by assumption, by assumption⟩) | (go_split_ands; exact keep hb3 ⟨by assumption, by assumption⟩)) ((first
    | (go_at_call 29; refine (copyBytes_any so m sc (S.map v8) A.drew (shows_heap hsA rfl) hsc (by omega)).mono ?_; rintro e w1 ⟨v1, rfl, ho1, hb1⟩; obtain ⟨c1o, c1c, rfl, hs1, -⟩ := own_shape ho1 (v8s_rng _))
    | (go_at_call 30; refine (filled_any ro dn rc Q D w1 ((shows_heap (w' := A.drew) hdA rfl).later hb1) hdn (by omega)).mono ?_; rintro e w2 ⟨v2, F, rfl, ho2, hb2⟩; obtain ⟨c2o, c2c, rfl, hs2, hc2, -⟩ := own_shape ho2 (v8s_rng _))
    | (go_at_call 10; refine (split_Q c1o c2o m c1c c2c n k Q S F w2 HQ.out (hs1.later hb2) hs2 hc2 (by omega) hk0 hkn (by omega)).mono ?_; rintro e w3 ⟨rfl, hB3, hR3, hb3⟩)))
  have B1 : Below w.heap.size w w1 := hbA.drew.trans (hb1.mono hbA.size)
  have B2 : Below w.heap.size w w2 := B1.trans (hb2.mono B1.size)
  have B3 : Below w.heap.size w w3 := B2.trans (hb3.mono B2.size)
  have S3 := (((Blk.drew hS).next hb1).next hb2).next hb3
  have hFl : F.length = Q := by have := hs2.len; rwa [List.length_map] at this
  obtain ⟨G, hG⟩ : ∃ G, G = w2.heap.size := ⟨_, rfl⟩
  rw [← hG] at hB3 hR3 ⊢
  have hGl : G < w3.heap.size := hB3.lt
  have L3 : Shs w3 (some ⟨G, 0, none⟩) n (mkL G m (yRow S F k m) n) := shs_split (by omega) hB3 hR3
  have R3 : ∀ i, i < n → w3.ownsRow 0 5 1 (.slice (some ⟨G + 1 + i, 0, none⟩) m m) m (u8s ((yRow S F k m i).map v8)) := fun i hi => own_of_heap (hR3 i hi) (by rw [List.length_map, yRow_length]) (by unfold maxLen; omega) (Nat.zero_le _)
  have HS3 : Hid (Blk w3 w.heap.size 51 _) := S3
  have HSl : Hid (S.length = m) := by show _ = _; have := hs.len; rwa [List.length_map] at this
  clear hR3 hB3 hG S3 hs1 hs2 hc2 ho1 ho2 hb1 hb2 hb3 B1 B2 a0 a2 a3 a4 a5 hm16 hmk hsA hdA keep
  go_wp2
  go_loopw [7] (fun x wr => ∃ j : Nat, k ≤ j ∧ j ≤ n + 1 ∧ x = .int .i64 j ∧ Below w3.heap.size w3 wr) (fun x _ => n + 1 - (intOf x).toNat)
  case atStart => exact ⟨k, Nat.le_refl _, by omega, rfl, Below.refl _ _⟩
  case round =>
    obtain ⟨j, hkj, hjn, rfl, hb⟩ := hrel
    have hBw : Below w.heap.size w wr := B3.trans (hb.mono B3.size)
    have hz3 := hb.size
    have hzw := hBw.size
    by_cases hlt : j ≤ n
    · have hlt' : (j : Int) ≤ (n : Int) := by omega
      obtain ⟨-, -, -, -, -, a5⟩ := six_cells (Blk.next HS3.out hb)
      have htk := taken_any oo on oc n j os wr (ho.later hBw) hon hn0 hnb hlt
      go_wp2_with (go_at_call 31; refine htk.mono ?_; rintro e w4 ⟨av, P, rfl, hav, hPl, hnd, hPn, hb4⟩; obtain ⟨ag, ac, rfl, -, -⟩ := hav.form (by omega))
      have B4 : Below w3.heap.size w3 w4 := hb.trans (hb4.mono hz3)
      have HP1 : Hid (P.length = j) := hPl
      have HP2 : Hid (P.Nodup) := hnd
      have HP3 : Hid (∀ p ∈ P, p < n) := hPn
      have hav0 := hav
      have hz4 := B4.size
      obtain ⟨wB, h⟩ : ∃ x, x = wr := ⟨_, rfl⟩; subst h
      clear htk hPl hnd hPn
      go_loopw [8, 10] (fun l x wr => ∃ i : Nat, i ≤ j ∧ x = .int .i64 i ∧ OwnL w4.heap.size wr l i (pick G m (yRow S F k m) (P.take i)) ∧ Below w4.heap.size w4 wr) (fun _ x _ => j - (intOf x).toNat)
      case atStart => exact ⟨0, Nat.zero_le _, rfl, OwnL.nil _ _, Below.refl _ _⟩
      case round =>
        obtain ⟨i, hij, rfl, hO, hb5⟩ := hrel
        have hz5 := hb5.size
        have B5 : Below w3.heap.size w3 wr := B4.trans (hb5.mono hz4)
        by_cases hlti : i < j
        · have hij' : (i : Int) < (j : Int) := by omega
          obtain ⟨p, hp⟩ : ∃ p, P[i]? = some p := ⟨_, List.getElem?_eq_getElem (by have := HP1.out; omega)⟩
          have hpn : p < n := HP3.out p (List.mem_of_getElem? hp)
          have hpn' : (p : Int) < (n : Int) := by omega
          have ca : wr.cell? ⟨ag, i, none⟩ = some (.int .i64 (p : Int)) := by
            refine cell_later hb5 ?_
            rw [hav0.cellAt i (by omega)]
            unfold i64s
            rw [List.getElem?_map, hp]
            rfl
          have hsp := mkL_at G m (yRow S F k m) n p hpn
          have cx := (L3.later B5).cx ⟨G, 0, none⟩ rfl p _ hsp
          have cy := (L3.later B5).cy ⟨G, 0, none⟩ rfl p _ hsp
          rw [lit_add] at cx cy
          simp only [shareAt] at cx cy
          have HT : Hid (P.take (i + 1) = P.take i ++ [p]) := take_next' hp
          obtain ⟨L, HL⟩ : ∃ L, Hid (L = pick G m (yRow S F k m) (P.take i)) := ⟨_, rfl⟩
          rw [← HL.out] at hO
          have hrw := own_below (R3 p hpn) B5
          obtain ⟨xp, HXP⟩ : ∃ xp, Hid (xp = v8 (BitVec.ofNat 8 (p + 1))) := ⟨_, rfl⟩
          rw [← HXP.out] at cx
          obtain ⟨bp, HBP⟩ : ∃ bp, Hid (bp = G + 1 + p) := ⟨_, rfl⟩
          rw [← HBP.out] at cy hrw
          have hO1 := hO.alloc (.cells #[.int .u8 xp, .slice (some ⟨bp, 0, none⟩) m m] 44)
          have hnew : (wr.alloc (.cells #[.int .u8 xp, .slice (some ⟨bp, 0, none⟩) m m] 44)).heap[wr.heap.size]? = some (.cells #[.int .u8 (v8 (BitVec.ofNat 8 (p + 1))), .slice (some ⟨bp, 0, none⟩) m m] 44 (0, 0)) := by rw [← HXP.out]; exact new_at rfl
          clear hp hsp
          go_wp2_with (at_builtin; go_must (refine law_pushL rfl _ _ rfl w4.heap.size _ _ _ rfl hO1 wr.heap.size ⟨BitVec.ofNat 8 (p + 1), some ⟨bp, 0, none⟩, m, m, yRow S F k m p⟩ rfl hnew (hrw.alloc _) (by omega) (by simp; omega) ?_))
          intro v' w6 hO6 hb6
          have B6 : Below w4.heap.size w4 w6 := (hb5.alloc hz5 _).trans hb6
          clear hO hO1 hnew hrw cx cy ca
          go_wp2
          go_roundw
          case rel =>
            refine ⟨i + 1, by omega, by go_num, ?_, B6⟩
            rw [HT.out]
            unfold pick
            rw [List.map_append]
            have : L = (P.take i).map (shareAt G m (yRow S F k m)) := HL.out
            rw [← this]
            have e : shareAt G m (yRow S F k m) p = ⟨BitVec.ofNat 8 (p + 1), some ⟨bp, 0, none⟩, m, m, yRow S F k m p⟩ := by rw [HBP.out]; rfl
            rw [List.map_cons, List.map_nil, e]
            exact hO6
          case measure => simp [intOf]; omega
        · have hij' : j = i := by omega
          subst hij'
          rw [List.take_of_length_le (by rw [HP1.out]; exact Nat.le_refl _)] at hO
          obtain ⟨so', sc', rfl, hSh, hcap, hmax⟩ := hO.shs
          have hgood := pick_good G m (yRow S F k m) P HP2.out (fun p hp => by have := HP3.out p hp; omega)
          have hpl : (pick G m (yRow S F k m) P).length = j := hSh.len
          have hj0 : 0 < j := by omega
          obtain ⟨p0, hp0⟩ : ∃ p, P[0]? = some p := ⟨_, List.getElem?_eq_getElem (by have := HP1.out; omega)⟩
          have hs0 : (pick G m (yRow S F k m) P)[0]? = some (shareAt G m (yRow S F k m) p0) := by unfold pick; rw [List.getElem?_map, hp0]; rfl
          obtain ⟨sa, rfl⟩ := hSh.adr hj0
          have hsame : sameB m (pick G m (yRow S F k m) P) = true := by
            unfold sameB pick
            rw [List.all_eq_true]
            intro s hs
            obtain ⟨p, _, rfl⟩ := List.mem_map.1 hs
            simp [shareAt]
          have hlong : anyLong (pick G m (yRow S F k m) P) = false := by
            unfold anyLong pick
            rw [List.any_eq_false]
            intro s hs
            obtain ⟨p, _, rfl⟩ := List.mem_map.1 hs
            show ¬ decide ((1024 : Int) < (m : Int)) = true
            rw [decide_eq_true_iff]
            omega
          have hback := back_all S F k m G P hk0 HSl.out (by rw [hFl, HQ.out]) HP2.out (fun p hp => by have := HP3.out p hp; omega) (by rw [HP1.out]; exact hkj)
          have need1 := fun W (hb : Below wr.heap.size wr W) => need_any (some sa) j sc' (k : Int) (pick G m (yRow S F k m) P) W (hSh.later hb) (by omega) (by omega)
          rw [(ded_good _).2 hgood, List.length_map, hpl, show nd j (k : Int) = 0 by unfold nd; rw [if_pos (by omega)]] at need1
          have hgood2 : Good (((pick G m (yRow S F k m) P).take (k - 1)).map Sh.x) := by rw [List.map_take]; exact good_take _ hgood _
          have need2 := fun W (hb : Below wr.heap.size wr W) => need_any (some sa) (k - 1) sc' (k : Int) ((pick G m (yRow S F k m) P).take (k - 1)) W ((hSh.later hb).take (by omega)) (by omega) (by omega)
          rw [(ded_good _).2 hgood2, List.length_map, List.length_take, hpl, show nd (min (k - 1) j) (k : Int) = 1 by unfold nd; rw [if_neg (by omega)]; omega] at need2
          have comb := fun W (hb : Below wr.heap.size wr W) => comb_good sa j sc' (pick G m (yRow S F k m) P) (shareAt G m (yRow S F k m) p0) W (hSh.later hb) hs0 (by omega) hlong hgood hsame
          rw [show (shareAt G m (yRow S F k m) p0).n = m from rfl, hback] at comb
          have hk1' : ((k - 1 : Nat) : Int) = (k : Int) - 1 := by omega
          have hkm1 : (0 : Int) ≤ (k : Int) - 1 := by omega
          have hkm2 : (k : Int) - 1 ≤ (sc' : Int) := by omega
          have htn : ((k : Int) - 1).toNat = k - 1 := by omega
          have Bwr : Below w.heap.size w wr := B3.trans (B5.mono B3.size)
          have S5 := Blk.next HS3.out B5
          clear hO hgood hgood2 hpl hp0 hs0 hsame hlong hback hSh L3 R3
          go_wp2_with fail
          refine (need1 _ (Below.refl _ _)).mono ?_
          rintro e w5 ⟨rfl, hb6⟩
          clear need1
          go_wp2_with fail
          refine (need2 _ hb6).mono ?_
          rintro e w6 ⟨rfl, hb7⟩
          have hb67 := hb6.trans (hb7.mono hb6.size)
          clear need2
          go_wp2_with fail
          refine (comb _ hb67).mono ?_
          rintro e w7 ⟨bv, rfl, hbv, hb8⟩
          have hb68 := hb67.trans (hb8.mono hb67.size)
          obtain ⟨bo, bc, rfl, hsb, -⟩ := own_shape hbv.own (v8s_rng _)
          have B7 : Below w.heap.size w w7 := Bwr.trans (hb68.mono Bwr.size)
          have B73 : Below w3.heap.size w3 w7 := B5.trans (hb68.mono B5.size)
          obtain ⟨c0, -⟩ := six_cells (Blk.next HS3.out B73)
          have heq := eqBytes_any bo so m m bc sc (S.map v8) (S.map v8) w7 hsb (hs.later B7)
          rw [decide_eq_true rfl] at heq
          clear comb hbv hb8 hb7 hb6 hb67 hb68
          go_wp2_with fail
          refine heq.mono ?_
          rintro e w' ⟨rfl, rfl⟩
          go_wp2
          go_roundw
          case rel => exact ⟨j + 1, by omega, by omega, by go_num, B73⟩
          case measure => simp [intOf]; omega
    · have hlt' : ¬ (j : Int) ≤ (n : Int) := by omega
      have hwk := works_any wr (ht.later hBw) (by omega)
      go_wp2_with (go_at_call 8; refine hwk.mono ?_; rintro e w9 ⟨rfl, hb9⟩)
      go_ret
      exact ⟨rfl, hBw.trans (hb9.mono hzw)⟩
end Go.Proofs.YtineieoghlbchaaDoor
