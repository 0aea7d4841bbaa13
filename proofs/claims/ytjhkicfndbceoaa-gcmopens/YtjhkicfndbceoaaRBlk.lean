/- The document's: a block enciphered. -/
import Derived.Test.YtjhkicfndbceoaaRCol
namespace Go.Proofs.Ytjhkicfndbceoaa
open Go.RowKit

theorem rk_append (W T : List B) (n : Nat) (hW : W.length = 240) (hn : n ≤ 14) : rk (W ++ T) n = rk W n := by
  refine List.ext_getElem (by simp [rk, hW]; omega) fun i h1 h2 => ?_
  have hi : i < 16 := by simp [rk] at h2; omega
  simp only [rk, List.getElem_take, List.getElem_drop]
  rw [List.getElem_append_left]
theorem built51 (a b c d : Int) : Try.prog.built 51 [(0, .int .u8 a), (1, .int .u8 b), (2, .int .u8 c), (3, .int .u8 d)] = some #[.int .u8 a, .int .u8 b, .int .u8 c, .int .u8 d] := by kernel_rfl
theorem law_four {w : World} {ops : Array Oper} {rest : List Oper} {o : Oper} {a : Act} {Q : Exit → Act → World → Prop} (hgd : o.guard = none) (p q r s : Operand) (ho : o.op = .build 51 #[(0, p), (1, q), (2, r), (3, s)]) (x y z u : B)
    (hp : a.eval p = .int .u8 (v8 x)) (hq : a.eval q = .int .u8 (v8 y)) (hr : a.eval r = .int .u8 (v8 z)) (hs : a.eval s = .int .u8 (v8 u))
    (h : wpList Try.prog ops Q rest (a.put o.dst (.agg (bys [x, y, z, u]).toArray)) w) : wpList Try.prog ops Q (o :: rest) a w := by
  have hb : Try.prog.built 51 ((#[(0, p), (1, q), (2, r), (3, s)] : Array (Nat × Operand)).map fun (i, x) => (i, a.eval x)).toList = some (bys [x, y, z, u]).toArray := by
    have := built51 (v8 x) (v8 y) (v8 z) (v8 u)
    rw [← hp, ← hq, ← hr, ← hs] at this
    rw [show (bys [x, y, z, u]).toArray = #[a.eval p, a.eval q, a.eval r, a.eval s] by rw [hp, hq, hr, hs]; rfl, ← this]
    simp
  exact wpList_build hgd 51 _ ho (by rw [hb]; rfl) (by rw [hb]; exact h)

/-- What lies there while a block is enciphered. -/
structure RbS (w v : World) (KL Z cur : List B) : Prop where
  k : Blk v w.heap.size 46 (bys KL)
  b : Blk v (w.heap.size + 1) 37 (bys cur)
  r : Blk v (w.heap.size + 1 + 1) 37 (bys Z)
  below : Below w.heap.size w v
section
variable {w v v' : World} {KL Z cur nxt : List B}
theorem RbS.call (h : RbS w v KL Z cur) (hb : Below v.heap.size v v') : RbS w v' KL Z cur := ⟨h.k.next hb, h.b.next hb, h.r.next hb, h.below.trans (hb.mono h.below.size)⟩
theorem RbS.alloc (h : RbS w v KL Z cur) (o : Obj) : RbS w (v.alloc o) KL Z cur := ⟨h.k.alloc o, h.b.alloc o, h.r.alloc o, h.below.alloc h.below.size o⟩
theorem RbS.lt (h : RbS w v KL Z cur) : w.heap.size + 1 + 1 < v.heap.size := h.r.lt
theorem RbS.set (h : RbS w v KL Z cur) (a : Addr) (x : Value) (ha : w.heap.size + 1 + 1 < a.block) : RbS w (v.setCell a x) KL Z cur :=
  ⟨h.k.beside _ (by omega), h.b.beside _ (by omega), h.r.beside _ (by omega), h.below.setCell (by omega) _⟩
theorem RbS.put (h : RbS w v KL Z cur) (ho : On v v' (w.heap.size + 1)) (hb : Blk v' (w.heap.size + 1) 37 (bys nxt)) : RbS w v' KL Z nxt :=
  ⟨h.k.on ho (by omega), hb, h.r.on ho (by omega), ho.below h.below (by omega)⟩
end

set_option maxHeartbeats 2000000 in
set_option maxRecDepth 100000 in
theorem rblock_any (W T bs : List B) (hW : W.length = 240) (hT : T.length = 512) (hl : bs.length = 16) (HT : ∀ x : B, (W ++ T).getD (240 + x.toNat) 0#8 = sb x) (w : World) :
    Calls Try.prog 21 #[.agg (bys (W ++ T)).toArray, .agg (bys bs).toArray] w fun e w' => e = .returned (.agg (bys (enc W bs 14)).toArray) ∧ Below w.heap.size w w' := by
  have hK : (W ++ T).length = 752 := by rw [List.length_append, hW, hT]
  have h24 : ∀ (b : List B) (r : Nat) (m : Int) (_ : b.length = 16) (_ : r ≤ 14) (_ : m = r) (U : World), Calls Try.prog 33 #[.agg (bys (W ++ T)).toArray, .agg (bys b).toArray, .int .i64 m] U fun e w' => e = .returned (.agg (bys (addL b (rk W r))).toArray) ∧ Below U.heap.size U w' := fun b r m hb hr hm U => by
    have := radded_any (W ++ T) b r m hK hb hr hm U
    rwa [rk_append W T r hW hr] at this
  have HT' : Hid (∀ x : B, (W ++ T).getD (240 + x.toNat) 0#8 = sb x) := HT
  clear HT
  obtain ⟨KL, eK⟩ : ∃ K, K = W ++ T := ⟨_, rfl⟩
  rw [← eK] at hK h24 HT' ⊢
  clear eK
  have H24 : Hid _ := h24
  clear h24
  obtain ⟨Z, hZ, hz, -⟩ := zeroed37
  have hSS : RbS w (((w.alloc (.cells (bys KL).toArray 46)).alloc (.cells (bys bs).toArray 37)).alloc (.cells (bys Z).toArray 37)) KL Z bs := by
    refine ⟨((Blk.new w 46 (bys KL)).alloc _).alloc _, ?_, ?_, (((Below.refl _ w).alloc (Nat.le_refl _) _).alloc (by simp) _).alloc (by simp; omega) _⟩
    · have h := (Blk.new (w.alloc (.cells (bys KL).toArray 46)) 37 (bys bs)).alloc (.cells (bys Z).toArray 37)
      rwa [World.size_alloc] at h
    · have h := Blk.new ((w.alloc (.cells (bys KL).toArray 46)).alloc (.cells (bys bs).toArray 37)) 37 (bys Z)
      rwa [World.size_alloc, World.size_alloc] at h
  have h0 := fun U => H24.out bs 0 0 hl (by omega) rfl U
  have e0 : addL bs (rk W 0) = enc W bs 0 := rfl
  rw [e0] at h0
  have HL : Hid (∀ n, n ≤ 14 → (enc W bs n).length = 16) := enc_length W bs hW hl
  obtain ⟨C0, eC0⟩ : ∃ C, C = enc W bs 0 := ⟨_, rfl⟩
  have hC0 : C0.length = 16 := by rw [eC0]; exact HL.out 0 (by omega)
  rw [← eC0] at h0
  clear e0
  have E0 : Hid (C0 = enc W bs 0) := eC0
  clear eC0
  obtain ⟨L14, e14⟩ : ∃ L, L = enc W bs 14 := ⟨_, rfl⟩
  have E14 : Hid (L14 = enc W bs 14) := e14
  rw [← e14]
  clear e14
  go_enter Try.func21, Try.ntmps21
  go_wp2_with (first
    | (refine law_load rfl 46 _ rfl _ rfl 46 _ hSS.k _ Try.underlying46 rfl (by rw [bys_length, hK]; kernel_rfl) ?_)
    | (refine law_load rfl 37 _ rfl _ rfl 37 _ hSS.b _ Try.underlying37 rfl (by rw [bys_length, hl]; kernel_rfl) ?_)
    | (go_at_call 33; refine (h0 _).mono ?_; rintro e w1 ⟨rfl, k1⟩; have hS1 := hSS.call k1; clear hSS k1)
    | (refine law_store rfl 37 _ _ rfl _ (bys C0) rfl rfl 37 _ hS1.b (by rw [bys_length, bys_length, hC0, hl]) (by rw [bys_length, hC0]; kernel_rfl) (bys_one _) ?_; intro w2 ho2 hb2; have hS2 := hS1.put ho2 hb2; clear hS1 ho2 hb2))
  go_loopw [5] (fun i wr => ∃ n : Nat, n ≤ 14 ∧ i = .int .i64 ((n : Int) + 1) ∧ ∃ cur : List B, Hid (cur = enc W bs n) ∧ RbS w wr KL Z cur) (fun i _ => 16 - (intOf i).toNat)
  case atStart => exact ⟨0, by omega, rfl, C0, E0, hS2⟩
  case round =>
    obtain ⟨n, hn, rfl, cur, hcur, hA⟩ := hrel
    clear hS2 E0 hC0 h0
    have hcl : cur.length = 16 := by rw [hcur.out]; exact HL.out n hn
    by_cases hlt : n < 14
    · have hnI : (n : Int) + 1 ≤ 14 := by omega
      obtain ⟨L, eL⟩ : ∃ L, L = turnL (cur.map sb) := ⟨_, rfl⟩
      have hL : L.length = 16 := by rw [eL]; exact turnL_length _
      have HS : Hid (∀ c q, c < 4 → q < 4 → sb (cur.getD (4 * ((c + q) % 4) + q) 0#8) = L.getD (4 * c + q) 0#8) := fun c q hc hq => by
        rw [eL]
        unfold turnL
        rw [getD_range _ 16 _ (by omega), getD_map sb cur _ (by rw [hcl]; exact tf_lt _)]
        congr 2
        unfold tf
        omega
      have HE : Hid (enc W bs (n + 1) = addL (mixR (isL (n + 1)) L) (rk W (n + 1))) := by
        show addL (mixR (isL (n + 1)) (turnL ((enc W bs n).map sb))) (rk W (n + 1)) = _
        rw [eL, hcur.out]
      clear eL hcur
      have hgl := hA.lt
      have hA0 := hA.alloc (.cells (bys Z).toArray 37)
      have hO0 := Blk.new wr 37 (bys Z)
      clear hA
      go_wp2
      obtain ⟨g, eg⟩ : ∃ g, g = wr.heap.size := ⟨_, rfl⟩
      rw [← eg] at hgl hO0
      (try simp only [← eg])
      obtain ⟨wA, hwA⟩ : ∃ x, x = wr.alloc (.cells (bys Z).toArray 37) := ⟨_, rfl⟩
      rw [← hwA] at hA0 hO0 ⊢
      clear eg hwA
      go_loopw [7] (fun i wr => ∃ c : Nat, c ≤ 4 ∧ i = .int .i64 c ∧ RbS w wr KL Z cur ∧ Blk wr g 37 (bys (mid L Z (4 * c)))) (fun i _ => 4 - (intOf i).toNat)
      case atStart => exact ⟨0, by omega, rfl, hA0, by rw [mid_zero]; exact hO0⟩
      case round =>
        obtain ⟨c, hc4, rfl, hA, hO⟩ := hrel
        clear hA0 hO0
        by_cases hct : c < 4
        · have hcI : (c : Int) < 4 := by omega
          go_wp2
          obtain ⟨wB, hwB⟩ : ∃ x, x = wr := ⟨_, rfl⟩
          subst hwB
          go_loopw [8] (fun i wr => ∃ q : Nat, q ≤ 4 ∧ i = .int .i64 q ∧ RbS w wr KL Z cur ∧ Blk wr g 37 (bys (mid L Z (4 * c + q)))) (fun i _ => 4 - (intOf i).toNat)
          case atStart => exact ⟨0, by omega, rfl, hA, hO⟩
          case round =>
            clear hA hO
            obtain ⟨q, hq4, rfl, hA, hO⟩ := hrel
            by_cases hqt : q < 4
            · have hqI : (q : Int) < 4 := by omega
              have hmm := mid_length L Z 16 (4 * c + q) hL hZ
              have hst := hO.put (4 * c + q) (L.getD (4 * c + q) 0#8)
              rw [mid_step L Z (4 * c + q) 16 hL hZ (by omega), ← HS.out c q hct hqt] at hst
              have hA' := fun x : Value => hA.set ⟨g, 4 * c + q, none⟩ x hgl
              have d0 := hO.byte (4 * c + q) (by omega)
              have f0 := hO.fz (4 * c + q)
              have c0 := hA.b.byte (4 * ((c + q) % 4) + q) (by omega)
              have hp4 : ((c : Int) + q) % 4 = ((c + q) % 4 : Nat) := by omega
              obtain ⟨p, ep⟩ : ∃ p, p = (c + q) % 4 := ⟨_, rfl⟩
              have hpl : p < 4 := by omega
              rw [← ep] at c0 hst hp4
              obtain ⟨x, ex⟩ : ∃ x, x = cur.getD (4 * p + q) 0#8 := ⟨_, rfl⟩
              rw [← ex] at c0 hst
              have c1 := hA.k.byte (240 + x.toNat) (by have := x.isLt; omega)
              rw [HT'.out x, ← v8_toNat] at c1
              have x0 := v8_nn x
              have x1 := v8_le x
              obtain ⟨y, ey⟩ : ∃ y, y = sb x := ⟨_, rfl⟩
              rw [← ey] at c1 hst
              have q0 : (0 : Int) ≤ 4 * (c : Int) + q := by omega
              have q1 : 4 * (c : Int) + q < 16 := by omega
              have q2 : (4 * (c : Int) + q).toNat = 4 * c + q := by omega
              have q3 : (0 : Int) ≤ 4 * (p : Int) + q := by omega
              have q4 : 4 * (p : Int) + q < 16 := by omega
              have q5 : (4 * (p : Int) + q).toNat = 4 * p + q := by omega
              have q6 : (p : Int) < 4 := by omega
              clear HS HE HT' H24 HL hA hO ex ey ep
              go_wp2
              refine ⟨⟨q + 1, by omega, by go_num, hA' _, hst⟩, by simp [intOf]; omega⟩
            · have hq : q = 4 := by omega
              subst hq
              clear HS HE HT' H24 HL
              go_wp2
              refine ⟨⟨c + 1, by omega, by go_num, hA, by rw [show 4 * (c + 1) = 4 * c + 4 by omega]; exact hO⟩, by simp [intOf]; omega⟩
        · have hc : c = 4 := by omega
          subst hc
          rw [mid_full L Z 16 hL hZ] at hO
          obtain ⟨M, eM⟩ : ∃ M, M = mixR (isL (n + 1)) L := ⟨_, rfl⟩
          have hM : M.length = 16 := by rw [eM]; exact mixR_length _ _ hL
          have h24 := fun U => H24.out M (n + 1) ((n : Int) + 1) hM (by omega) (by omega) U
          have hN := HL.out (n + 1) (by omega)
          rw [← eM] at HE
          rw [← HE.out] at h24
          obtain ⟨N, eN⟩ : ∃ N, N = enc W bs (n + 1) := ⟨_, rfl⟩
          rw [← eN] at h24 hN
          have EN : Hid (N = enc W bs (n + 1)) := eN
          clear eN HE HS HT' H24 HL
          by_cases h13 : n < 13
          · have hI : (n : Int) + 1 < 14 := by omega
            have e1 : isL (n + 1) = false := by unfold isL; simp; omega
            rw [e1] at eM
            have hmx := fun U => rmixed_any [2#8, 3#8, 1#8, 1#8] L rfl hL U
            rw [rmix_there L hL, show mixL L = M from eM.symm] at hmx
            clear eM e1
            go_wp2_with (first
              | (refine law_load rfl 37 (.tmp 6) rfl _ rfl 37 _ hO _ Try.underlying37 rfl (by rw [bys_length, hL]; kernel_rfl) ?_)
              | (refine law_store rfl 37 (.tmp 3) (.tmp 41) rfl _ (bys L) rfl rfl 37 _ hA.b (by rw [bys_length, bys_length, hL, hcl]) (by rw [bys_length, hL]; kernel_rfl) (bys_one _) ?_; intro w3 ho3 hb3; have hS3 := hA.put ho3 hb3; clear hA hO ho3 hb3)
              | (refine law_load rfl 37 (.tmp 3) rfl _ rfl 37 _ hS3.b _ Try.underlying37 rfl (by rw [bys_length, hL]; kernel_rfl) ?_)
              | (refine law_four rfl _ _ _ _ rfl 2#8 3#8 1#8 1#8 rfl rfl rfl rfl ?_)
              | (go_at_call 34; refine (hmx _).mono ?_; rintro e w4 ⟨rfl, k4⟩; have hS4 := hS3.call k4; clear hS3 k4)
              | (refine law_store rfl 37 (.tmp 3) _ rfl _ (bys M) rfl rfl 37 _ hS4.b (by rw [bys_length, bys_length, hL, hM]) (by rw [bys_length, hM]; kernel_rfl) (bys_one _) ?_; intro w5 ho5 hb5; have hS5 := hS4.put ho5 hb5; clear hS4 ho5 hb5)
              | (refine law_load rfl 46 (.tmp 2) rfl _ rfl 46 _ hS5.k _ Try.underlying46 rfl (by rw [bys_length, hK]; kernel_rfl) ?_)
              | (refine law_load rfl 37 (.tmp 3) rfl _ rfl 37 _ hS5.b _ Try.underlying37 rfl (by rw [bys_length, hM]; kernel_rfl) ?_)
              | (go_at_call 33; refine (h24 _).mono ?_; rintro e w6 ⟨rfl, k6⟩; have hS6 := hS5.call k6; clear hS5 k6)
              | (refine law_store rfl 37 (.tmp 3) (.tmp 50) rfl _ (bys N) rfl rfl 37 _ hS6.b (by rw [bys_length, bys_length, hM, hN]) (by rw [bys_length, hN]; kernel_rfl) (bys_one _) ?_; intro w7 ho7 hb7; have hS7 := hS6.put ho7 hb7; clear hS6 ho7 hb7))
            refine ⟨⟨n + 1, by omega, by go_num, N, EN, hS7⟩, by simp [intOf]; omega⟩
          · have hn13 : n = 13 := by omega
            subst hn13
            rw [show isL (13 + 1) = true from rfl] at eM
            have eM' : L = M := eM.symm
            subst eM'
            clear eM
            rw [show (((13 : Nat) : Int) + 1) = 14 from rfl] at h24 ⊢
            go_wp2_with (first
              | (refine law_load rfl 37 (.tmp 6) rfl _ rfl 37 _ hO _ Try.underlying37 rfl (by rw [bys_length, hL]; kernel_rfl) ?_)
              | (refine law_store rfl 37 (.tmp 3) (.tmp 41) rfl _ (bys L) rfl rfl 37 _ hA.b (by rw [bys_length, bys_length, hL, hcl]) (by rw [bys_length, hL]; kernel_rfl) (bys_one _) ?_; intro w3 ho3 hb3; have hS3 := hA.put ho3 hb3; clear hA hO ho3 hb3)
              | (refine law_load rfl 46 (.tmp 2) rfl _ rfl 46 _ hS3.k _ Try.underlying46 rfl (by rw [bys_length, hK]; kernel_rfl) ?_)
              | (refine law_load rfl 37 (.tmp 3) rfl _ rfl 37 _ hS3.b _ Try.underlying37 rfl (by rw [bys_length, hM]; kernel_rfl) ?_)
              | (go_at_call 33; refine (h24 _).mono ?_; rintro e w6 ⟨rfl, k6⟩; have hS6 := hS3.call k6; clear hS3 k6)
              | (refine law_store rfl 37 (.tmp 3) (.tmp 50) rfl _ (bys N) rfl rfl 37 _ hS6.b (by rw [bys_length, bys_length, hM, hN]) (by rw [bys_length, hN]; kernel_rfl) (bys_one _) ?_; intro w7 ho7 hb7; have hS7 := hS6.put ho7 hb7; clear hS6 ho7 hb7))
            refine ⟨⟨14, by omega, by go_num, N, EN, hS7⟩, by simp [intOf]⟩
    · have hn14 : n = 14 := by omega
      subst hn14
      obtain rfl : cur = L14 := by rw [hcur.out, E14.out]
      clear E14 hcur H24 HT' HL
      have hZr := hA.r
      have hO := hA.b
      have hbr := hA.below
      rw [show (((14 : Nat) : Int) + 1) = 15 from rfl]
      go_wp2_with (first | (refine law_load rfl 37 _ rfl _ rfl 37 _ hO _ Try.underlying37 rfl (by rw [bys_length, hcl]; kernel_rfl) ?_) | (refine law_store rfl 37 _ _ rfl _ (bys cur) rfl rfl 37 _ hZr (by rw [bys_length, bys_length, hcl, hZ]) (by rw [bys_length, hcl]; kernel_rfl) (bys_one _) ?_; intro wF hoF hAF))
      refine bodyPost_ret (v := .agg (bys cur).toArray) (results_cell_row rfl _ _ (w.heap.size + 1 + 1) 37 _ _ _ rfl hAF Try.underlying37 rfl (by rw [List.size_toArray, bys_length, hcl]; kernel_rfl)) rfl ⟨rfl, hoF.below hbr (by omega)⟩
end Go.Proofs.Ytjhkicfndbceoaa
