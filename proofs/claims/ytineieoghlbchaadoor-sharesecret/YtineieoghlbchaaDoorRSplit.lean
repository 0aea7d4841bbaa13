/- A secret in shares, by the document's answer. -/
import Derived.Test.YtineieoghlbchaaDoorOwnS
namespace Go.Proofs.YtineieoghlbchaaDoor
open Go.RowKit

theorem rsplit_arg (so ro : Option Addr) (m sc dn rc : Nat) (n k : Int) (w : World) (h : k < 1 ∨ n < k ∨ 16 < n) :
    Calls Tryd.prog 11 #[.slice so m sc, .int .i64 n, .int .i64 k, .slice ro dn rc] w fun e w' => e = .returned (.tuple #[.slice none 0 0, .int .i64 2]) ∧ w = w' := by
  by_cases h1 : k < 1
  · go_enter Tryd.func11, Tryd.ntmps11
    go_wp2
    go_ret2
    exact ⟨rfl, rfl⟩
  · by_cases h2 : n < k
    · go_enter Tryd.func11, Tryd.ntmps11
      go_wp2
      go_ret2
      exact ⟨rfl, rfl⟩
    · have h3 : 16 < n := by omega
      clear h
      go_enter Tryd.func11, Tryd.ntmps11
      go_wp2
      go_ret2
      exact ⟨rfl, rfl⟩
theorem rsplit_long (so ro : Option Addr) (m sc dn rc : Nat) (n k : Int) (w : World) (h1 : 1 ≤ k) (h2 : k ≤ n) (h3 : n ≤ 16) (hm : (1024 : Int) < m) :
    Calls Tryd.prog 11 #[.slice so m sc, .int .i64 n, .int .i64 k, .slice ro dn rc] w fun e w' => e = .returned (.tuple #[.slice none 0 0, .int .i64 3]) ∧ w = w' := by
  go_enter Tryd.func11, Tryd.ntmps11
  go_wp2
  go_ret2
  exact ⟨rfl, rfl⟩
theorem rsplit_draws (so ro : Option Addr) (m sc dn rc : Nat) (n k : Int) (w : World) (h1 : 1 ≤ k) (h2 : k ≤ n) (h3 : n ≤ 16) (hm : (m : Int) ≤ 1024) (hd : ¬ (dn : Int) = (k - 1) * m) :
    Calls Tryd.prog 11 #[.slice so m sc, .int .i64 n, .int .i64 k, .slice ro dn rc] w fun e w' => e = .returned (.tuple #[.slice none 0 0, .int .i64 41]) ∧ w = w' := by
  have hb1 : 0 ≤ (k - 1) * (m : Int) := Int.mul_nonneg (by omega) (by omega)
  have hb2 : (k - 1) * (m : Int) ≤ 15 * 1024 := Int.mul_le_mul (by omega) hm (by omega) (by omega)
  obtain ⟨p, hp⟩ : ∃ p, p = (k - 1) * (m : Int) := ⟨_, rfl⟩
  have hp' : (k - 1) * (m : Int) = p := hp.symm
  rw [← hp] at hb1 hb2 hd
  clear hp
  have hd' : ((dn : Int) == p) = false := by simp [hd]
  go_enter Tryd.func11, Tryd.ntmps11
  go_wp2
  go_ret2
  exact ⟨rfl, rfl⟩

/-- The keys of the shares of a Split. -/
def keyOf (S D : List B) (k m n : Nat) : List (B × List B) := (List.range n).map (fun i => (BitVec.ofNat 8 (i + 1), yRow S D k m i))
theorem key_mkL (S D : List B) (k m n G : Nat) : key (mkL G m (yRow S D k m) n) = keyOf S D k m n := by
  unfold key mkL keyOf
  rw [List.map_map]
  rfl
theorem keyOf_succ (S D : List B) (k m n : Nat) : keyOf S D k m (n + 1) = keyOf S D k m n ++ [(BitVec.ofNat 8 (n + 1), yRow S D k m n)] := by
  unfold keyOf
  rw [List.range_succ, List.map_append]
  rfl

set_option maxRecDepth 100000 in
set_option maxHeartbeats 2000000 in
theorem rsplit_one (so ro : Option Addr) (m sc rc n k : Nat) (S D : List B) (w : World) (hs : Shows w so m (S.map v8)) (hd : Shows w ro ((k - 1) * m) (D.map v8)) (hrc : (k - 1) * m ≤ rc) (hrb : ro = none → rc = 0) (hm : (m : Int) ≤ 1024) (hk : 1 ≤ k) (hkn : k ≤ n) (hn : n ≤ 16) (hq0 : k - 1 = 0) :
    Calls Tryd.prog 11 #[.slice so m sc, .int .i64 n, .int .i64 k, .slice ro ((k - 1) * m) rc] w fun e w' => ∃ v L, e = .returned (.tuple #[v, .int .i64 0]) ∧ OwnS w.heap.size w' v n L ∧ key L = keyOf S D k m n ∧ Below w.heap.size w w' := by
  have hq1 : ((k : Int) - 1) * (m : Int) = (((k - 1) * m : Nat) : Int) := by
    rw [Int.natCast_mul]
    congr 1
    omega
  have hqb : (k - 1) * m ≤ 15 * 1024 := Nat.mul_le_mul (by omega) (by omega)
  obtain ⟨q, hq⟩ : ∃ q, q = k - 1 := ⟨_, rfl⟩
  rw [← hq] at hq0 hq1 hqb hd hrc ⊢
  subst hq0
  obtain ⟨N, hN⟩ : ∃ N, N = 0 * m := ⟨_, rfl⟩
  rw [← hN] at hq1 hqb hd hrc ⊢
  have hk1 : (1 : Int) ≤ k := by omega
  have hkn' : (k : Int) ≤ n := by omega
  have hn' : (n : Int) ≤ 16 := by omega
  have hkq : (k : Int) - 1 = 0 := by omega
  have HKK : Hid (k = 0 + 1) := by show _ = _; omega
  obtain rfl : N = 0 := by rw [hN, Nat.zero_mul]
  have HQ : Hid (0 = k - 1) := hq
  have hd1 : decide ((k : Int) < 1) = false := by simp; omega
  have hd2 : decide (n < k) = false := by simp; omega
  have hd3 : decide ((16 : Int) < (n : Int)) = false := by simp; omega
  have hd4 : decide ((1024 : Int) < (m : Int)) = false := by simp; omega
  have hd5 : decide ((n : Int) < (k : Int)) = false := by simp; omega
  clear hN hq hq1
  go_enter Tryd.func11, Tryd.ntmps11
  go_wp2
  go_loopw [10, 11] (fun l x wr => ∃ (i : Nat) (L : List Sh), i ≤ n ∧ x = .int .i64 ((i : Int) + 1) ∧ OwnS w.heap.size wr l i L ∧ Hid (key L = keyOf S D k m i) ∧ Below w.heap.size w wr) (fun _ x _ => n + 1 - (intOf x).toNat)
  case atStart => exact ⟨0, [], Nat.zero_le _, rfl, OwnS.nil _ _, rfl, Below.refl _ _⟩
  case round =>
    obtain ⟨i, L, hi, rfl, hO, HK, hb⟩ := hrel
    obtain ⟨wA, h⟩ : ∃ x, x = wr := ⟨_, rfl⟩; subst h
    have hszw := hb.size
    by_cases hlti : i < n
    · have hin : (i : Int) + 1 ≤ (n : Int) := by omega
      go_wp2
      go_loopw [12, 13] (fun yv q wr => ∃ j : Nat, j ≤ m ∧ q = .int .i64 j ∧ wr.ownsRow wA.heap.size 5 1 yv j (u8s (((List.range j).map (yAt S D k (BitVec.ofNat 8 (i + 1)))).map v8)) ∧ Below wA.heap.size wA wr) (fun _ q _ => m - (intOf q).toNat)
      case atStart => exact ⟨0, Nat.zero_le _, rfl, World.ownsRow_nil _ _ _ _, Below.refl _ _⟩
      case round =>
        obtain ⟨j, hj, rfl, hyr, hbr⟩ := hrel
        have hszA := hbr.size
        obtain ⟨yj, HYJ⟩ : ∃ yj, Hid (yj = ((List.range j).map (yAt S D k (BitVec.ofNat 8 (i + 1)))).map v8) := ⟨_, rfl⟩
        rw [← HYJ.out] at hyr
        by_cases hltj : j < m
        · have hjm : (j : Int) < (m : Int) := by omega
          obtain ⟨sd, rfl⟩ := hs.some (by omega)
          have hbw : Below w.heap.size w wr := hb.trans (hbr.mono hszw)
          have hcj := (hs.later hbw).elem j hltj
          obtain ⟨y, HY⟩ : ∃ y, Hid (y = v8 (S.getD j 0#8)) := ⟨_, rfl⟩
          rw [← HY.out] at hcj
          have HPOL : Hid ((pol S D k j).map v8 = [y] ++ ((D.map v8).drop 0).take 0) := by
            show _ = _
            rw [map_pol, ← HQ.out, ← HY.out, Nat.zero_mul]; rfl
          have hdB := hd.later (hbw.trans (((Below.refl _ wr).alloc (Nat.le_refl _) (.cells #[.int .u8 y] 5)).mono hbw.size))
          have hne0 : ∀ c, u12.ownBlock = none ∨ u12.ownBlock ≠ (Value.slice (some ⟨wr.heap.size, 0, none⟩) 1 c).ownBlock := fun c => by
            cases hu : u12.ownBlock with
            | none => exact .inl rfl
            | some b => right; simp only [Value.ownBlock]; intro e; cases e; have := (hyr.lt _ hu).2; omega
          have hds0 := (hdB.take (Nat.zero_le _) : Shows _ ro 0 _)
          obtain ⟨ds, HDS⟩ : ∃ ds, Hid (ds = (D.map v8).take 0) := ⟨_, rfl⟩
          rw [← HDS.out] at hds0
          have hds := hds0
          have HPOL : Hid ((pol S D k j).map v8 = [y] ++ ds) := by show _ = _; rw [HPOL.out, HDS.out]; rfl
          have hcv0 : (wr.alloc (.cells #[.int .u8 y] 5)).ownsRow wA.heap.size 5 1 (.slice (some ⟨wr.heap.size, 0, none⟩) 1 1) 1 (u8s [y]) := built_own (new_at rfl) hszA
          go_wp2_with (at_builtin; go_must (refine law_append rfl _ _ rfl wA.heap.size _ _ _ rfl hcv0 ro 0 rc ds rfl hds hrb (by omega) (by simp; omega) ?_))
          intro cv w2 hcv hg2 _
          have hb2 : Below wA.heap.size wA w2 := (hbr.alloc hszA _).grown hg2 (by simp; omega) (fun b hb => by simp [Value.ownBlock] at hb; omega)
          have hy2 := (hyr.alloc (.cells #[.int .u8 y] 5)).kept hg2 (hne0 _)
          have hcv' : w2.ownsRow wA.heap.size 5 1 cv k (u8s ((pol S D k j).map v8)) := by
            rw [HPOL.out]
            rw [show k = 1 + 0 by have := HKK.out; omega]
            exact hcv
          obtain ⟨co, cc, rfl, hsc, -⟩ := own_shape hcv' (v8s_rng _)
          have hev := refEval_any co k cc (pol S D k j) (BitVec.ofNat 8 (i + 1)) w2 hsc (by omega)
          rw [v8_byte i (by omega)] at hev
          have hz2 := hb2.size
          have hsn := shows_new w2 [v8 (ev (pol S D k j) (BitVec.ofNat 8 (i + 1)))] (by intro z hz; rw [List.mem_singleton] at hz; rw [hz]; exact ⟨v8_nn _, v8_le _⟩)
          clear hcv0 hcv hcv' hg2 hyr hds
          go_wp2_with (first
            | (go_at_call 36; refine hev.mono ?_; rintro e w' ⟨rfl, rfl⟩)
            | (at_builtin; go_must (refine law_append rfl _ _ rfl wA.heap.size _ _ _ rfl (hy2.alloc _) _ 1 1 [v8 (ev (pol S D k j) (BitVec.ofNat 8 (i + 1)))] rfl hsn (fun e => (by cases e)) (by omega) (by simp; omega) ?_)))
          intro yv w3 hyv hg3 _
          have hb3 : Below wA.heap.size wA w3 := (hb2.alloc hz2 _).grown hg3 (by simp; omega) (fun b hb => (hy2.lt b hb).1)
          go_wp2
          go_roundw
          case rel =>
            refine ⟨j + 1, by omega, by go_num, ?_, hb3⟩
            have e1 : ((List.range (j + 1)).map (yAt S D k (BitVec.ofNat 8 (i + 1)))).map v8 = ((List.range j).map (yAt S D k (BitVec.ofNat 8 (i + 1)))).map v8 ++ [v8 (ev (pol S D k j) (BitVec.ofNat 8 (i + 1)))] := by
              rw [List.range_succ, List.map_append, List.map_append]; rfl
            rw [e1, ← HYJ.out]
            exact hyv
          case measure => simp [intOf]; omega
        · have hjm : m = j := by omega
          subst hjm
          rw [HYJ.out] at hyr
          obtain ⟨yo, yc, rfl, hsy, -⟩ := own_shape hyr (v8s_rng _)
          have hO1 := (hO.later hbr).alloc (.cells #[.int .u8 (v8 (BitVec.ofNat 8 (i + 1))), .slice yo m yc] 44)
          rw [v8_byte i (by omega)] at hO1
          have hbw : Below w.heap.size w wr := hb.trans (hbr.mono hszw)
          have hzr := hbw.size
          have hpush := fun {ops : Array Oper} {rest : List Oper} {o : Oper} {a : Act} {Q : Exit → Act → World → Prop} => @law_pushS (wr.alloc (.cells #[.int .u8 ((i : Int) + 1), .slice yo m yc] 44)) ops rest o a Q
          go_wp2_with (at_builtin; go_must (refine law_pushS rfl _ _ rfl w.heap.size _ _ _ rfl hO1 wr.heap.size ⟨BitVec.ofNat 8 (i + 1), yo, m, yc, yRow S D k m i⟩ rfl (by rw [v8_byte i (by omega)]; exact new_at rfl) ((own_base' hyr hszw).alloc _) (by omega) (by simp; omega) ?_))
          intro v' w4 hO4 hb4
          clear hpush
          go_wp2
          go_roundw
          case rel =>
            refine ⟨i + 1, _, by omega, by go_num, hO4, ?_, (hbw.alloc hzr _).trans hb4⟩
            show _ = _
            unfold key at *
            rw [List.map_append, keyOf_succ, HK.out]
            rfl
          case measure => simp [intOf]; omega
    · have hin : n = i := by omega
      subst hin
      go_wp2
      go_ret2
      exact ⟨_, L, rfl, hO, HK.out, hb⟩
set_option maxRecDepth 100000 in
set_option maxHeartbeats 2000000 in
theorem rsplit_many (so ro : Option Addr) (m sc rc n k : Nat) (S D : List B) (w : World) (hs : Shows w so m (S.map v8)) (hd : Shows w ro ((k - 1) * m) (D.map v8)) (hrc : (k - 1) * m ≤ rc) (hm : (m : Int) ≤ 1024) (hk : 1 ≤ k) (hkn : k ≤ n) (hn : n ≤ 16) (hq0 : 0 < k - 1) :
    Calls Tryd.prog 11 #[.slice so m sc, .int .i64 n, .int .i64 k, .slice ro ((k - 1) * m) rc] w fun e w' => ∃ v L, e = .returned (.tuple #[v, .int .i64 0]) ∧ OwnS w.heap.size w' v n L ∧ key L = keyOf S D k m n ∧ Below w.heap.size w w' := by
  have hq1 : ((k : Int) - 1) * (m : Int) = (((k - 1) * m : Nat) : Int) := by
    rw [Int.natCast_mul]
    congr 1
    omega
  have hqb : (k - 1) * m ≤ 15 * 1024 := Nat.mul_le_mul (by omega) (by omega)
  have hmb := fun j (hj : j < m) => mul_bound k j m hj
  obtain ⟨q, hq⟩ : ∃ q, q = k - 1 := ⟨_, rfl⟩
  rw [← hq] at hq0 hq1 hqb hmb hd hrc ⊢
  obtain ⟨N, hN⟩ : ∃ N, N = q * m := ⟨_, rfl⟩
  rw [← hN] at hq1 hqb hmb hd hrc ⊢
  have hk1 : (1 : Int) ≤ k := by omega
  have hkn' : (k : Int) ≤ n := by omega
  have hn' : (n : Int) ≤ 16 := by omega
  have hkq : (k : Int) - 1 = (q : Int) := by omega
  have HKK : Hid (k = q + 1) := by show _ = _; omega
  have hq2 : (q : Int) * (m : Int) = (N : Int) := by rw [hN, Int.natCast_mul]
  have hq15 : q ≤ 15 := by omega
  have HQ : Hid (q = k - 1) := hq
  have hd1 : decide ((k : Int) < 1) = false := by simp; omega
  have hd2 : decide (n < k) = false := by simp; omega
  have hd3 : decide ((16 : Int) < (n : Int)) = false := by simp; omega
  have hd4 : decide ((1024 : Int) < (m : Int)) = false := by simp; omega
  have hd5 : decide ((n : Int) < (k : Int)) = false := by simp; omega
  clear hN hq hq1
  go_enter Tryd.func11, Tryd.ntmps11
  go_wp2
  go_loopw [10, 11] (fun l x wr => ∃ (i : Nat) (L : List Sh), i ≤ n ∧ x = .int .i64 ((i : Int) + 1) ∧ OwnS w.heap.size wr l i L ∧ Hid (key L = keyOf S D k m i) ∧ Below w.heap.size w wr) (fun _ x _ => n + 1 - (intOf x).toNat)
  case atStart => exact ⟨0, [], Nat.zero_le _, rfl, OwnS.nil _ _, rfl, Below.refl _ _⟩
  case round =>
    obtain ⟨i, L, hi, rfl, hO, HK, hb⟩ := hrel
    obtain ⟨wA, h⟩ : ∃ x, x = wr := ⟨_, rfl⟩; subst h
    have hszw := hb.size
    by_cases hlti : i < n
    · have hin : (i : Int) + 1 ≤ (n : Int) := by omega
      go_wp2
      go_loopw [12, 13] (fun yv q wr => ∃ j : Nat, j ≤ m ∧ q = .int .i64 j ∧ wr.ownsRow wA.heap.size 5 1 yv j (u8s (((List.range j).map (yAt S D k (BitVec.ofNat 8 (i + 1)))).map v8)) ∧ Below wA.heap.size wA wr) (fun _ q _ => m - (intOf q).toNat)
      case atStart => exact ⟨0, Nat.zero_le _, rfl, World.ownsRow_nil _ _ _ _, Below.refl _ _⟩
      case round =>
        obtain ⟨j, hj, rfl, hyr, hbr⟩ := hrel
        have hszA := hbr.size
        obtain ⟨yj, HYJ⟩ : ∃ yj, Hid (yj = ((List.range j).map (yAt S D k (BitVec.ofNat 8 (i + 1)))).map v8) := ⟨_, rfl⟩
        rw [← HYJ.out] at hyr
        by_cases hltj : j < m
        · have hjm : (j : Int) < (m : Int) := by omega
          obtain ⟨sd, rfl⟩ := hs.some (by omega)
          have hbw : Below w.heap.size w wr := hb.trans (hbr.mono hszw)
          have hcj := (hs.later hbw).elem j hltj
          have hb' := hmb j hltj
          obtain ⟨y, HY⟩ : ∃ y, Hid (y = v8 (S.getD j 0#8)) := ⟨_, rfl⟩
          rw [← HY.out] at hcj
          obtain ⟨f, hf⟩ : ∃ f, f = q * j := ⟨_, rfl⟩
          have ef : (q : Int) * (j : Int) = (f : Int) := by rw [hf, Int.natCast_mul]
          have et : (q : Int) * ((j : Int) + 1) = (f : Int) + (q : Int) := by rw [Int.mul_add, ef, Int.mul_one]
          have HPOL : Hid ((pol S D k j).map v8 = [y] ++ ((D.map v8).drop f).take q) := by
            show _ = _
            rw [map_pol, ← HQ.out, ← hf, ← HY.out]; rfl
          rw [← hf] at hb'
          clear hf
          have hdB := hd.later (hbw.trans (((Below.refl _ wr).alloc (Nat.le_refl _) (.cells #[.int .u8 y] 5)).mono hbw.size))
          have hfq1 : ((f : Int) + (q : Int)).toNat = f + q := by omega
          have hfq2 : f + q - f = q := by omega
          have hfq4 : (f : Int) ≤ (f : Int) + (q : Int) := by omega
          have hne0 : ∀ c, u12.ownBlock = none ∨ u12.ownBlock ≠ (Value.slice (some ⟨wr.heap.size, 0, none⟩) 1 c).ownBlock := fun c => by
            cases hu : u12.ownBlock with
            | none => exact .inl rfl
            | some b => right; simp only [Value.ownBlock]; intro e; cases e; have := (hyr.lt _ hu).2; omega
          have hNp : 0 < N := by omega
          obtain ⟨rd, rfl⟩ := hd.some hNp
          have hfr : ¬ rc = f := by omega
          have hds0 : Shows (wr.alloc (.cells #[.int .u8 y] 5)) (fromAt (some rd) rc f) q (((D.map v8).drop f).take q) := (hdB.drop (c := rc) (k := f) (by omega) hrc).take (by omega)
          unfold fromAt at hds0
          rw [if_neg hfr] at hds0
          obtain ⟨ds, HDS⟩ : ∃ ds, Hid (ds = ((D.map v8).drop f).take q) := ⟨_, rfl⟩
          rw [← HDS.out] at hds0
          have hds : Shows (wr.alloc (.cells #[.int .u8 y] 5)) (some (rd.add f)) q ds := hds0
          have HPOL : Hid ((pol S D k j).map v8 = [y] ++ ds) := by show _ = _; rw [HPOL.out, HDS.out]
          have hfq3 : (f : Int) + (q : Int) ≤ (rc : Int) := by omega
          have hcv0 : (wr.alloc (.cells #[.int .u8 y] 5)).ownsRow wA.heap.size 5 1 (.slice (some ⟨wr.heap.size, 0, none⟩) 1 1) 1 (u8s [y]) := built_own (new_at rfl) hszA
          go_wp2_with (at_builtin; go_must (refine law_append rfl _ _ rfl wA.heap.size _ _ _ rfl hcv0 (some (rd.add f)) q (rc - f) ds rfl hds (fun e => (by cases e)) (by omega) (by simp; omega) ?_))
          intro cv w2 hcv hg2 _
          have hb2 : Below wA.heap.size wA w2 := (hbr.alloc hszA _).grown hg2 (by simp; omega) (fun b hb => by simp [Value.ownBlock] at hb; omega)
          have hy2 := (hyr.alloc (.cells #[.int .u8 y] 5)).kept hg2 (hne0 _)
          have hcv' : w2.ownsRow wA.heap.size 5 1 cv k (u8s ((pol S D k j).map v8)) := by
            rw [HPOL.out]
            rw [show k = 1 + q by have := HKK.out; omega]
            exact hcv
          obtain ⟨co, cc, rfl, hsc, -⟩ := own_shape hcv' (v8s_rng _)
          have hev := refEval_any co k cc (pol S D k j) (BitVec.ofNat 8 (i + 1)) w2 hsc (by omega)
          rw [v8_byte i (by omega)] at hev
          have hz2 := hb2.size
          have hsn := shows_new w2 [v8 (ev (pol S D k j) (BitVec.ofNat 8 (i + 1)))] (by intro z hz; rw [List.mem_singleton] at hz; rw [hz]; exact ⟨v8_nn _, v8_le _⟩)
          clear hcv0 hcv hcv' hg2 hyr hds
          go_wp2_with (first
            | (go_at_call 36; refine hev.mono ?_; rintro e w' ⟨rfl, rfl⟩)
            | (at_builtin; go_must (refine law_append rfl _ _ rfl wA.heap.size _ _ _ rfl (hy2.alloc _) _ 1 1 [v8 (ev (pol S D k j) (BitVec.ofNat 8 (i + 1)))] rfl hsn (fun e => (by cases e)) (by omega) (by simp; omega) ?_)))
          intro yv w3 hyv hg3 _
          have hb3 : Below wA.heap.size wA w3 := (hb2.alloc hz2 _).grown hg3 (by simp; omega) (fun b hb => (hy2.lt b hb).1)
          go_wp2
          go_roundw
          case rel =>
            refine ⟨j + 1, by omega, by go_num, ?_, hb3⟩
            have e1 : ((List.range (j + 1)).map (yAt S D k (BitVec.ofNat 8 (i + 1)))).map v8 = ((List.range j).map (yAt S D k (BitVec.ofNat 8 (i + 1)))).map v8 ++ [v8 (ev (pol S D k j) (BitVec.ofNat 8 (i + 1)))] := by
              rw [List.range_succ, List.map_append, List.map_append]; rfl
            rw [e1, ← HYJ.out]
            exact hyv
          case measure => simp [intOf]; omega
        · have hjm : m = j := by omega
          subst hjm
          rw [HYJ.out] at hyr
          obtain ⟨yo, yc, rfl, hsy, -⟩ := own_shape hyr (v8s_rng _)
          have hO1 := (hO.later hbr).alloc (.cells #[.int .u8 (v8 (BitVec.ofNat 8 (i + 1))), .slice yo m yc] 44)
          rw [v8_byte i (by omega)] at hO1
          have hbw : Below w.heap.size w wr := hb.trans (hbr.mono hszw)
          have hzr := hbw.size
          have hpush := fun {ops : Array Oper} {rest : List Oper} {o : Oper} {a : Act} {Q : Exit → Act → World → Prop} => @law_pushS (wr.alloc (.cells #[.int .u8 ((i : Int) + 1), .slice yo m yc] 44)) ops rest o a Q
          go_wp2_with (at_builtin; go_must (refine law_pushS rfl _ _ rfl w.heap.size _ _ _ rfl hO1 wr.heap.size ⟨BitVec.ofNat 8 (i + 1), yo, m, yc, yRow S D k m i⟩ rfl (by rw [v8_byte i (by omega)]; exact new_at rfl) ((own_base' hyr hszw).alloc _) (by omega) (by simp; omega) ?_))
          intro v' w4 hO4 hb4
          clear hpush
          go_wp2
          go_roundw
          case rel =>
            refine ⟨i + 1, _, by omega, by go_num, hO4, ?_, (hbw.alloc hzr _).trans hb4⟩
            show _ = _
            unfold key at *
            rw [List.map_append, keyOf_succ, HK.out]
            rfl
          case measure => simp [intOf]; omega
    · have hin : n = i := by omega
      subst hin
      go_wp2
      go_ret2
      exact ⟨_, L, rfl, hO, HK.out, hb⟩
theorem rsplit_good (so ro : Option Addr) (m sc rc n k : Nat) (S D : List B) (w : World) (hs : Shows w so m (S.map v8)) (hd : Shows w ro ((k - 1) * m) (D.map v8)) (hrc : (k - 1) * m ≤ rc) (hrb : ro = none → rc = 0) (hm : (m : Int) ≤ 1024) (hk : 1 ≤ k) (hkn : k ≤ n) (hn : n ≤ 16) :
    Calls Tryd.prog 11 #[.slice so m sc, .int .i64 n, .int .i64 k, .slice ro ((k - 1) * m) rc] w fun e w' => ∃ v L, e = .returned (.tuple #[v, .int .i64 0]) ∧ OwnS w.heap.size w' v n L ∧ key L = keyOf S D k m n ∧ Below w.heap.size w w' := by
  rcases Nat.eq_zero_or_pos (k - 1) with h | h
  · exact rsplit_one so ro m sc rc n k S D w hs hd hrc hrb hm hk hkn hn h
  · exact rsplit_many so ro m sc rc n k S D w hs hd hrc hm hk hkn hn h
end Go.Proofs.YtineieoghlbchaaDoor
