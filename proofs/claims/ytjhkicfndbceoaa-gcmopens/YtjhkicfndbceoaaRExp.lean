/- The document's key made ready. -/
import Derived.Test.YtjhkicfndbceoaaRExM
namespace Go.Proofs.Ytjhkicfndbceoaa
open Go.RowKit

/-- What lies there while a key is made ready. -/
structure ReS (w v : World) (key Z KL : List B) : Prop where
  key : Blk v w.heap.size 22 (bys key)
  r : Blk v (w.heap.size + 1) 46 (bys Z)
  k : Blk v (w.heap.size + 1 + 1) 46 (bys KL)
  below : Below w.heap.size w v
section
variable {w v v' : World} {key Z KL : List B}
theorem ReS.call (h : ReS w v key Z KL) (hb : Below v.heap.size v v') : ReS w v' key Z KL := ⟨h.key.next hb, h.r.next hb, h.k.next hb, h.below.trans (hb.mono h.below.size)⟩
theorem ReS.drew (h : ReS w v key Z KL) : ReS w v.drew key Z KL := ⟨h.key, h.r, h.k, h.below.drew⟩
theorem ReS.alloc (h : ReS w v key Z KL) (o : Obj) : ReS w (v.alloc o) key Z KL := ⟨h.key.alloc o, h.r.alloc o, h.k.alloc o, h.below.alloc h.below.size o⟩
theorem ReS.lt (h : ReS w v key Z KL) : w.heap.size + 1 + 1 < v.heap.size := h.k.lt
theorem ReS.put (h : ReS w v key Z KL) (i : Nat) (x : B) : ReS w (v.setCell ⟨w.heap.size + 1 + 1, i, none⟩ (.int .u8 (v8 x))) key Z (KL.set i x) :=
  ⟨h.key.beside _ (by simp <;> omega), h.r.beside _ (by simp <;> omega), h.k.put i x, h.below.setCell (by simp <;> omega) _⟩
theorem ReS.on (h : ReS w v key Z KL) {g : Nat} (ho : On v v' g) (hg : w.heap.size + 1 + 1 < g) : ReS w v' key Z KL :=
  ⟨h.key.on ho (by omega), h.r.on ho (by omega), h.k.on ho (by omega), ho.below h.below (by omega)⟩
end
theorem zero51 (W : World) : (zeroValue 51).run Try.prog W = .ok (.agg (bys (List.replicate 4 0#8)).toArray) W := by kernel_rfl
theorem zeroed51 : ∃ Z : List B, Z.length = 4 ∧ ∀ W : World, (zeroValue 51).run Try.prog W = .ok (.agg (bys Z).toArray) W := ⟨List.replicate 4 0#8, by simp, zero51⟩
theorem yieldsIf_four {ops : Array Oper} {S : World → Prop} {op : Oper} {a : Act} (hw : Region.wanted op (yielded ops a.tmps) = true) (p q r s : Operand) (ho : op.op = .build 51 #[(0, p), (1, q), (2, r), (3, s)]) (x y z u : B)
    (hp : a.eval p = .int .u8 (v8 x)) (hq : a.eval q = .int .u8 (v8 y)) (hr : a.eval r = .int .u8 (v8 z)) (hs : a.eval s = .int .u8 (v8 u)) : YieldsIf Try.prog ops S op (.agg (bys [x, y, z, u]).toArray) a := by
  have hb : Try.prog.built 51 ((#[(0, p), (1, q), (2, r), (3, s)] : Array (Nat × Operand)).map fun (i, x) => (i, a.eval x)).toList = some (bys [x, y, z, u]).toArray := by
    have := built51 (v8 x) (v8 y) (v8 z) (v8 u)
    rw [← hp, ← hq, ← hr, ← hs] at this
    rw [show (bys [x, y, z, u]).toArray = #[a.eval p, a.eval q, a.eval r, a.eval s] by rw [hp, hq, hr, hs]; rfl, ← this]
    simp
  refine .inl ⟨hw, fun w _ => ?_⟩
  unfold execOp
  simp only [ho, Sem.run_bind, run_build w 51 _ _ hb, Result.andThen_ok]
  rfl

set_option maxHeartbeats 4000000 in
set_option maxRecDepth 100000 in
theorem rexpand_any (key : List B) (hl : key.length = 32) (w : World) :
    Calls Try.prog 20 #[.agg (bys key).toArray] w fun e w' => e = .returned (.agg (bys (ready key ++ tabs)).toArray) ∧ Below w.heap.size w w' := by
  obtain ⟨R, eR⟩ : ∃ R, R = ready key ++ tabs := ⟨_, rfl⟩
  have hR : R.length = 752 := by rw [eR, List.length_append, ready_length key hl, tabs_length]
  have ER : Hid (R = ready key ++ tabs) := eR
  rw [← eR]
  clear eR
  obtain ⟨Z, eZ⟩ : ∃ Z, Z = pad [] ++ tabJ 0 := ⟨_, rfl⟩
  have hZ : Z.length = 752 := by rw [eZ, List.length_append, pad_length [] (by simp), tabJ_length]
  have z33 := zero46
  rw [← eZ] at z33
  have EZ : Hid (Z = pad [] ++ tabJ 0) := eZ
  clear eZ
  have hSS : ReS w (((w.alloc (.cells (bys key).toArray 22)).alloc (.cells (bys Z).toArray 46)).alloc (.cells (bys Z).toArray 46)) key Z Z := by
    refine ⟨((Blk.new w 22 (bys key)).alloc _).alloc _, ?_, ?_, (((Below.refl _ w).alloc (Nat.le_refl _) _).alloc (by simp) _).alloc (by simp; omega) _⟩
    · have h := (Blk.new (w.alloc (.cells (bys key).toArray 22)) 46 (bys Z)).alloc (.cells (bys Z).toArray 46)
      rwa [World.size_alloc] at h
    · have h := Blk.new ((w.alloc (.cells (bys key).toArray 22)).alloc (.cells (bys Z).toArray 46)) 46 (bys Z)
      rwa [World.size_alloc, World.size_alloc] at h
  go_enter Try.func20, Try.ntmps20
  go_wp2
  go_loopw [4] (fun i wr => ∃ j : Nat, j ≤ 256 ∧ i = .int .i64 (j : Int) ∧ ∃ KL : List B, Hid (KL = pad [] ++ tabJ j) ∧ ReS w wr key Z KL) (fun i _ => 256 - (intOf i).toNat)
  case atStart => exact ⟨0, by omega, rfl, Z, EZ, hSS⟩
  case round =>
    obtain ⟨j, hj, rfl, KL, hKL, hA⟩ := hrel
    clear hSS EZ
    by_cases hlt : j < 256
    · have hjI : (j : Int) < 256 := by omega
      obtain ⟨x, ex⟩ : ∃ x : B, x = BitVec.ofNat 8 j := ⟨_, rfl⟩
      have hv : v8 x = (j : Int) := by rw [ex]; exact (v8_of j (by omega) (by omega)).symm
      obtain ⟨y, ey⟩ : ∃ y, y = sb x := ⟨_, rfl⟩
      have hc := fun U => refSub_any x (j : Int) U hv.symm
      rw [← ey] at hc
      have hKl : KL.length = 752 := by rw [hKL.out, List.length_append, pad_length [] (by simp), tabJ_length]
      have HN : Hid ((KL.set (240 + j) y).set (496 + y.toNat) x = pad [] ++ tabJ (j + 1)) := by rw [hKL.out]; exact tabJ_step (pad []) (pad_length [] (by simp)) j hlt x y ex ey
      have hw8 : IntKind.u8.wrap (j : Int) = j := by rw [IntKind.wrap_u8']; omega
      have y0 := v8_nn y
      have y1 := v8_le y
      have hyn : (v8 y).toNat = y.toNat := v8_toNat y
      have hyl := y.isLt
      clear ex ey hKL
      go_wp2_with (go_at_call 31; refine (hc _).mono ?_; rintro e w1 ⟨rfl, k1⟩; have hS1 := hA.call k1; clear hA k1; have c1 := hS1.k.byte (240 + j) (by omega); have f1 := hS1.k.fz (240 + j); have hS2 := hS1.put (240 + j) y; have c2 := hS2.k.byte (496 + y.toNat) (by rw [List.length_set]; omega); have f2 := hS2.k.fz (496 + y.toNat); have hS3 := hS2.put (496 + y.toNat) x; rw [HN.out, hv] at hS3; rw [← hyn] at c2 f2 hS3; clear hS1 hS2 hc hyn)
      refine ⟨⟨j + 1, by omega, by go_num, _, rfl, hS3⟩, by simp [intOf]; omega⟩
    · have hj6 : j = 256 := by omega
      subst hj6
      have hKL0 : Hid (KL = pad (key.take 0) ++ tabs) := by
        have := hKL.out
        rw [tabJ_full] at this
        exact this
      clear hKL
      rw [show ((256 : Nat) : Int) = 256 from rfl]
      go_wp2
      obtain ⟨wA, hwA⟩ : ∃ x, x = wr := ⟨_, rfl⟩
      subst hwA
      go_loopw [6] (fun i wr => ∃ j : Nat, j ≤ 32 ∧ i = .int .i64 (j : Int) ∧ ∃ KL : List B, Hid (KL = pad (key.take j) ++ tabs) ∧ ReS w wr key Z KL) (fun i _ => 32 - (intOf i).toNat)
      case atStart => exact ⟨0, by omega, rfl, KL, hKL0, hA⟩
      case round =>
        clear hA hKL0 KL
        obtain ⟨j, hj, rfl, KL, hKL, hA⟩ := hrel
        by_cases hlt : j < 32
        · have hjI : (j : Int) < 32 := by omega
          have hKl : KL.length = 752 := by rw [hKL.out, List.length_append, pad_length _ (by simp; omega), tabs_length]
          have HN : Hid (KL.set j (key.getD j 0#8) = pad (key.take (j + 1)) ++ tabs) := by
            have h := push_at (key.take j) tabs (key.getD j 0#8) (by simp; omega)
            rw [List.length_take, hl, Nat.min_eq_left (by omega), take_push key j (by omega)] at h
            rw [hKL.out]
            exact h
          have hst := hA.put j (key.getD j 0#8)
          rw [HN.out] at hst
          have c0 := hA.key.byte j (by omega)
          have c1 := hA.k.byte j (by omega)
          have f1 := hA.k.fz j
          obtain ⟨x, ex⟩ : ∃ x, x = key.getD j 0#8 := ⟨_, rfl⟩
          rw [← ex] at c0 hst
          clear ex HN hKL hA
          go_wp2
          refine ⟨⟨j + 1, by omega, by go_num, _, rfl, hst⟩, by simp [intOf]; omega⟩
        · have hj32 : j = 32 := by omega
          subst hj32
          have hKL0 : Hid (KL = pad (expd key 0) ++ tabs) := by
            have := hKL.out
            rw [List.take_of_length_le (by omega)] at this
            exact this
          clear hKL
          rw [show ((32 : Nat) : Int) = 32 from rfl]
          go_wp2
          obtain ⟨wB, hwB⟩ : ∃ x, x = wr := ⟨_, rfl⟩
          subst hwB
          go_loopw [7] (fun i wr => ∃ m : Nat, 8 ≤ m ∧ m ≤ 60 ∧ i = .int .i64 (m : Int) ∧ ∃ KL : List B, Hid (KL = pad (expd key (m - 8)) ++ tabs) ∧ ReS w wr key Z KL) (fun i _ => 60 - (intOf i).toNat)
          case atStart => exact ⟨8, by omega, by omega, rfl, KL, hKL0, hA⟩
          case round =>
            clear hA hKL0 KL
            obtain ⟨m, hm8, hm60, rfl, KL, hKL, hA⟩ := hrel
            by_cases hlt : m < 60
            · have hmI : (m : Int) < 60 := by omega
              have hmJ : (8 : Int) ≤ m := by omega
              obtain ⟨E, eE⟩ : ∃ E, E = expd key (m - 8) := ⟨_, rfl⟩
              have hE : E.length = 4 * m := by rw [eE, expd_length key hl]; omega
              have hKl : KL.length = 752 := by rw [hKL.out, List.length_append, pad_length _ (by rw [← eE, hE]; omega), tabs_length]
              obtain ⟨C, eC⟩ : ∃ C, C = chg m (wd E (m - 1)) := ⟨_, rfl⟩
              have hw1 := wd_length E (m - 1) (by omega)
              have hw8 := wd_length E (m - 8) (by omega)
              have hC : C.length = 4 := by rw [eC]; exact chg_length _ _ hw1
              obtain ⟨D, eD⟩ : ∃ D, D = addL (wd E (m - 8)) C := ⟨_, rfl⟩
              have hD : D.length = 4 := by rw [eD]; exact addL_length _ _ 4 hw8 hC
              have HX : Hid (expd key (m + 1 - 8) = E ++ D) := by
                obtain ⟨n, rfl⟩ : ∃ n, m = n + 8 := ⟨m - 8, by omega⟩
                rw [show n + 8 + 1 - 8 = n + 1 by omega, eD, eC]
                rw [show n + 8 - 8 = n by omega] at eE ⊢
                rw [show n + 8 - 1 = n + 7 by omega, eE]
                rfl
              have HD : Hid (∀ q, q < 4 → E.getD (4 * m - 32 + q) 0#8 ^^^ C.getD q 0#8 = D.getD q 0#8) := fun q hq => by
                rw [eD, addL_at _ _ q (by omega) (by omega), wd_at _ _ _ hq, show (m - 8) * 4 + q = 4 * m - 32 + q by omega]
              have g0 : (wd E (m - 1)).getD 0 0#8 = E.getD (4 * m - 4) 0#8 := by rw [wd_at _ _ _ (by omega)]; congr 1; omega
              have g1 : (wd E (m - 1)).getD 1 0#8 = E.getD (4 * m - 3) 0#8 := by rw [wd_at _ _ _ (by omega)]; congr 1; omega
              have g2 : (wd E (m - 1)).getD 2 0#8 = E.getD (4 * m - 2) 0#8 := by rw [wd_at _ _ _ (by omega)]; congr 1; omega
              have g3 : (wd E (m - 1)).getD 3 0#8 = E.getD (4 * m - 1) 0#8 := by rw [wd_at _ _ _ (by omega)]; congr 1; omega
              rw [← eE] at hKL
              have cc : ∀ v : World, ReS w v key Z KL → v.cell? ⟨w.heap.size + 1 + 1, 4 * m - 4, none⟩ = some (.int .u8 (v8 (E.getD (4 * m - 4) 0#8))) ∧ v.cell? ⟨w.heap.size + 1 + 1, 4 * m - 3, none⟩ = some (.int .u8 (v8 (E.getD (4 * m - 3) 0#8))) ∧ v.cell? ⟨w.heap.size + 1 + 1, 4 * m - 2, none⟩ = some (.int .u8 (v8 (E.getD (4 * m - 2) 0#8))) ∧ v.cell? ⟨w.heap.size + 1 + 1, 4 * m - 1, none⟩ = some (.int .u8 (v8 (E.getD (4 * m - 1) 0#8))) := fun v h => by
                have c0 := h.k.byte (4 * m - 4) (by omega)
                have c1 := h.k.byte (4 * m - 3) (by omega)
                have c2 := h.k.byte (4 * m - 2) (by omega)
                have c3 := h.k.byte (4 * m - 1) (by omega)
                rw [hKL.out, pad_at _ _ _ (by omega)] at c0 c1 c2 c3
                exact ⟨c0, c1, c2, c3⟩
              obtain ⟨e0, f0⟩ : ∃ x, x = E.getD (4 * m - 4) 0#8 := ⟨_, rfl⟩
              obtain ⟨e1, f1⟩ : ∃ x, x = E.getD (4 * m - 3) 0#8 := ⟨_, rfl⟩
              obtain ⟨e2, f2⟩ : ∃ x, x = E.getD (4 * m - 2) 0#8 := ⟨_, rfl⟩
              obtain ⟨e3, f3⟩ : ∃ x, x = E.getD (4 * m - 1) 0#8 := ⟨_, rfl⟩
              rw [← f0] at cc g0
              rw [← f1] at cc g1
              rw [← f2] at cc g2
              rw [← f3] at cc g3
              have HC : Hid (C = if m % 8 = 0 then [sb e1 ^^^ rc m, sb e2, sb e3, sb e0] else if m % 8 = 4 then [sb e0, sb e1, sb e2, sb e3] else [e0, e1, e2, e3]) := by
                have h4 := four_of _ hw1
                rw [g0, g1, g2, g3] at h4
                rw [eC, chg, g0, g1, g2, g3, h4]
                rfl
              have hgl := hA.lt
              obtain ⟨p0, ep0⟩ : ∃ p, p = 4 * m - 4 := ⟨_, rfl⟩
              obtain ⟨p1, ep1⟩ : ∃ p, p = 4 * m - 3 := ⟨_, rfl⟩
              obtain ⟨p2, ep2⟩ : ∃ p, p = 4 * m - 2 := ⟨_, rfl⟩
              obtain ⟨p3, ep3⟩ : ∃ p, p = 4 * m - 1 := ⟨_, rfl⟩
              have r0 : IntKind.i64.wrap (4 * (m : Int)) = 4 * m := by rw [IntKind.wrap_i64]; omega
              have r1 : IntKind.i64.wrap (4 * (m : Int) - 4) = (p0 : Int) := by rw [IntKind.wrap_i64]; omega
              have j1 : (p0 : Int) < 240 := by omega
              rw [← ep0] at cc
              have r2 : IntKind.i64.wrap (4 * (m : Int) - 3) = (p1 : Int) := by rw [IntKind.wrap_i64]; omega
              have j2 : (p1 : Int) < 240 := by omega
              rw [← ep1] at cc
              have r3 : IntKind.i64.wrap (4 * (m : Int) - 2) = (p2 : Int) := by rw [IntKind.wrap_i64]; omega
              have j3 : (p2 : Int) < 240 := by omega
              rw [← ep2] at cc
              have r4 : IntKind.i64.wrap (4 * (m : Int) - 1) = (p3 : Int) := by rw [IntKind.wrap_i64]; omega
              have j4 : (p3 : Int) < 240 := by omega
              rw [← ep3] at cc
              clear ep0 ep1 ep2 ep3
              have CC : Hid _ := cc
              clear cc
              clear f0 f1 f2 f3 g0 g1 g2 g3 eC eD hw1 hw8
              have EE : Hid (E = expd key (m - 8)) := eE
              clear eE
              obtain ⟨Z4, hZ4, z24⟩ := zeroed51
              obtain ⟨g, eg⟩ : ∃ g, g = wr.heap.size := ⟨_, rfl⟩
              rw [← eg] at hgl
              go_wp2_with fail
              refine wp_region_to (fun v : World => v.cell? ⟨w.heap.size + 1 + 1, p0, none⟩ = some (.int .u8 (v8 e0)) ∧ v.cell? ⟨w.heap.size + 1 + 1, p1, none⟩ = some (.int .u8 (v8 e1)) ∧ v.cell? ⟨w.heap.size + 1 + 1, p2, none⟩ = some (.int .u8 (v8 e2)) ∧ v.cell? ⟨w.heap.size + 1 + 1, p3, none⟩ = some (.int .u8 (v8 e3))) 26 (by kernel_rfl) ?_
              have hS0 : (fun v : World => v.cell? ⟨w.heap.size + 1 + 1, p0, none⟩ = some (.int .u8 (v8 e0)) ∧ v.cell? ⟨w.heap.size + 1 + 1, p1, none⟩ = some (.int .u8 (v8 e1)) ∧ v.cell? ⟨w.heap.size + 1 + 1, p2, none⟩ = some (.int .u8 (v8 e2)) ∧ v.cell? ⟨w.heap.size + 1 + 1, p3, none⟩ = some (.int .u8 (v8 e3))) wr.drew := CC.out _ hA.drew
              refine wpTo_take (i := 0) (v := ?v0) (show _ = some _ by simp only [List.getElem?_toArray, List.getElem?_cons_zero]; exact rfl) (by kernel_rfl) (by kernel_rfl) (by kernel_rfl) (by kernel_rfl) (by exact fun _ _ _ h => h) (Or.inl ⟨by rfl, ?hy0⟩) hS0 ?r0
              case hy0 => (intro w hSw; (try dsimp only at hSw); go_simp; try with_reducible rfl)
              (try simp only [Act.put]); (try simp only [List.setIfInBounds_toArray]); (repeat (first | simp only [List.set_cons_succ] | simp only [List.set_cons_zero]))
              refine wpTo_take (i := 1) (v := ?v1) (show _ = some _ by simp only [List.getElem?_toArray, List.getElem?_cons_succ, List.getElem?_cons_zero]; exact rfl) (by kernel_rfl) (by kernel_rfl) (by kernel_rfl) (by kernel_rfl) (by exact fun _ _ _ h => h) (Or.inl ⟨by rfl, ?hy1⟩) hS0 ?r1
              case hy1 => (intro w hSw; (try dsimp only at hSw); go_simp; try with_reducible rfl)
              (try simp only [Act.put]); (try simp only [List.setIfInBounds_toArray]); (repeat (first | simp only [List.set_cons_succ] | simp only [List.set_cons_zero]))
              refine wpTo_take (i := 2) (v := ?v2) (show _ = some _ by simp only [List.getElem?_toArray, List.getElem?_cons_succ, List.getElem?_cons_zero]; exact rfl) (by kernel_rfl) (by kernel_rfl) (by kernel_rfl) (by kernel_rfl) (by exact fun _ _ _ h => h) (Or.inl ⟨by rfl, ?hy2⟩) hS0 ?r2
              case hy2 => (intro w hSw; (try dsimp only at hSw); go_simp; try with_reducible rfl)
              (try simp only [Act.put]); (try simp only [List.setIfInBounds_toArray]); (repeat (first | simp only [List.set_cons_succ] | simp only [List.set_cons_zero]))
              refine wpTo_take (i := 3) (v := ?v3) (show _ = some _ by simp only [List.getElem?_toArray, List.getElem?_cons_succ, List.getElem?_cons_zero]; exact rfl) (by kernel_rfl) (by kernel_rfl) (by kernel_rfl) (by kernel_rfl) (by exact fun _ _ _ h => h) (Or.inl ⟨by rfl, ?hy3⟩) hS0 ?r3
              case hy3 => (intro w hSw; (try dsimp only at hSw); go_simp; try with_reducible rfl)
              (try simp only [Act.put]); (try simp only [List.setIfInBounds_toArray]); (repeat (first | simp only [List.set_cons_succ] | simp only [List.set_cons_zero]))
              refine wpTo_take (i := 4) (v := ?v4) (show _ = some _ by simp only [List.getElem?_toArray, List.getElem?_cons_succ, List.getElem?_cons_zero]; exact rfl) (by kernel_rfl) (by kernel_rfl) (by kernel_rfl) (by kernel_rfl) (by exact fun _ _ _ h => h) (Or.inl ⟨by rfl, ?hy4⟩) hS0 ?r4
              case hy4 => (intro w hSw; (try dsimp only at hSw); go_simp; try with_reducible rfl)
              (try simp only [Act.put]); (try simp only [List.setIfInBounds_toArray]); (repeat (first | simp only [List.set_cons_succ] | simp only [List.set_cons_zero]))
              refine wpTo_take (i := 5) (v := ?v5) (show _ = some _ by simp only [List.getElem?_toArray, List.getElem?_cons_succ, List.getElem?_cons_zero]; exact rfl) (by kernel_rfl) (by kernel_rfl) (by kernel_rfl) (by kernel_rfl) (by exact fun _ _ _ h => h) (Or.inl ⟨by rfl, ?hy5⟩) hS0 ?r5
              case hy5 => (intro w hSw; (try dsimp only at hSw); go_simp; try with_reducible rfl)
              (try simp only [Act.put]); (try simp only [List.setIfInBounds_toArray]); (repeat (first | simp only [List.set_cons_succ] | simp only [List.set_cons_zero]))
              refine wpTo_take (i := 6) (v := ?v6) (show _ = some _ by simp only [List.getElem?_toArray, List.getElem?_cons_succ, List.getElem?_cons_zero]; exact rfl) (by kernel_rfl) (by kernel_rfl) (by kernel_rfl) (by kernel_rfl) (by exact fun _ _ _ h => h) (Or.inl ⟨by rfl, ?hy6⟩) hS0 ?r6
              case hy6 => (intro w hSw; (try dsimp only at hSw); go_simp; try with_reducible rfl)
              (try simp only [Act.put]); (try simp only [List.setIfInBounds_toArray]); (repeat (first | simp only [List.set_cons_succ] | simp only [List.set_cons_zero]))
              refine wpTo_take (i := 7) (v := ?v7) (show _ = some _ by simp only [List.getElem?_toArray, List.getElem?_cons_succ, List.getElem?_cons_zero]; exact rfl) (by kernel_rfl) (by kernel_rfl) (by kernel_rfl) (by kernel_rfl) (by exact fun _ _ _ h => h) (Or.inl ⟨by rfl, ?hy7⟩) hS0 ?r7
              case hy7 => (intro w hSw; (try dsimp only at hSw); go_simp; try with_reducible rfl)
              (try simp only [Act.put]); (try simp only [List.setIfInBounds_toArray]); (repeat (first | simp only [List.set_cons_succ] | simp only [List.set_cons_zero]))
              refine wpTo_take (i := 8) (v := ?v8) (show _ = some _ by simp only [List.getElem?_toArray, List.getElem?_cons_succ, List.getElem?_cons_zero]; exact rfl) (by kernel_rfl) (by kernel_rfl) (by kernel_rfl) (by kernel_rfl) (by exact fun _ _ _ h => h) (Or.inl ⟨by rfl, ?hy8⟩) hS0 ?r8
              case hy8 => (intro w hSw; (try dsimp only at hSw); go_simp; try with_reducible rfl)
              (try simp only [Act.put]); (try simp only [List.setIfInBounds_toArray]); (repeat (first | simp only [List.set_cons_succ] | simp only [List.set_cons_zero]))
              refine wpTo_take (i := 9) (v := ?v9) (show _ = some _ by simp only [List.getElem?_toArray, List.getElem?_cons_succ, List.getElem?_cons_zero]; exact rfl) (by kernel_rfl) (by kernel_rfl) (by kernel_rfl) (by kernel_rfl) (by exact fun _ _ _ h => h) (Or.inl ⟨by rfl, ?hy9⟩) hS0 ?r9
              case hy9 => (intro w hSw; (try dsimp only at hSw); go_simp; try with_reducible rfl)
              (try simp only [Act.put]); (try simp only [List.setIfInBounds_toArray]); (repeat (first | simp only [List.set_cons_succ] | simp only [List.set_cons_zero]))
              refine wpTo_take (i := 10) (v := ?v10) (show _ = some _ by simp only [List.getElem?_toArray, List.getElem?_cons_succ, List.getElem?_cons_zero]; exact rfl) (by kernel_rfl) (by kernel_rfl) (by kernel_rfl) (by kernel_rfl) (by exact fun _ _ _ h => h) (Or.inl ⟨by rfl, ?hy10⟩) hS0 ?r10
              case hy10 => (intro w hSw; (try dsimp only at hSw); go_simp; try with_reducible rfl)
              (try simp only [Act.put]); (try simp only [List.setIfInBounds_toArray]); (repeat (first | simp only [List.set_cons_succ] | simp only [List.set_cons_zero]))
              refine wpTo_take (i := 11) (v := ?v11) (show _ = some _ by simp only [List.getElem?_toArray, List.getElem?_cons_succ, List.getElem?_cons_zero]; exact rfl) (by kernel_rfl) (by kernel_rfl) (by kernel_rfl) (by kernel_rfl) (by exact fun _ _ _ h => h) (Or.inl ⟨by rfl, ?hy11⟩) hS0 ?r11
              case hy11 => (intro w hSw; (try dsimp only at hSw); go_simp; try with_reducible rfl)
              (try simp only [Act.put]); (try simp only [List.setIfInBounds_toArray]); (repeat (first | simp only [List.set_cons_succ] | simp only [List.set_cons_zero]))
              refine wpTo_take (i := 12) (v := ?v12) (show _ = some _ by simp only [List.getElem?_toArray, List.getElem?_cons_succ, List.getElem?_cons_zero]; exact rfl) (by kernel_rfl) (by kernel_rfl) (by kernel_rfl) (by kernel_rfl) (by exact fun _ _ _ h => h) (Or.inl ⟨by rfl, ?hy12⟩) hS0 ?r12
              case hy12 => (intro w hSw; (try dsimp only at hSw); go_simp; try with_reducible rfl)
              (try simp only [Act.put]); (try simp only [List.setIfInBounds_toArray]); (repeat (first | simp only [List.set_cons_succ] | simp only [List.set_cons_zero]))
              refine wpTo_take (i := 13) (v := ?v13) (show _ = some _ by simp only [List.getElem?_toArray, List.getElem?_cons_succ, List.getElem?_cons_zero]; exact rfl) (by kernel_rfl) (by kernel_rfl) (by kernel_rfl) (by kernel_rfl) (by exact fun _ _ _ h => h) (Or.inl ⟨by rfl, ?hy13⟩) hS0 ?r13
              case hy13 => (intro w hSw; (try dsimp only at hSw); go_simp; try with_reducible rfl)
              (try simp only [Act.put]); (try simp only [List.setIfInBounds_toArray]); (repeat (first | simp only [List.set_cons_succ] | simp only [List.set_cons_zero]))
              refine wpTo_take (i := 14) (v := ?v14) (show _ = some _ by simp only [List.getElem?_toArray, List.getElem?_cons_succ, List.getElem?_cons_zero]; exact rfl) (by kernel_rfl) (by kernel_rfl) (by kernel_rfl) (by kernel_rfl) (by exact fun _ _ _ h => h) (Or.inl ⟨by rfl, ?hy14⟩) hS0 ?r14
              case hy14 => (intro w hSw; (try dsimp only at hSw); go_simp; try with_reducible rfl)
              (try simp only [Act.put]); (try simp only [List.setIfInBounds_toArray]); (repeat (first | simp only [List.set_cons_succ] | simp only [List.set_cons_zero]))
              refine wpTo_take (i := 15) (v := ?v15) (show _ = some _ by simp only [List.getElem?_toArray, List.getElem?_cons_succ, List.getElem?_cons_zero]; exact rfl) (by kernel_rfl) (by kernel_rfl) (by kernel_rfl) (by kernel_rfl) (by exact fun _ _ _ h => h) (Or.inl ⟨by rfl, ?hy15⟩) hS0 ?r15
              case hy15 => (intro w hSw; (try dsimp only at hSw); go_simp; try with_reducible rfl)
              (try simp only [Act.put]); (try simp only [List.setIfInBounds_toArray]); (repeat (first | simp only [List.set_cons_succ] | simp only [List.set_cons_zero]))
              refine wpTo_take (i := 16) (v := ?v16) (show _ = some _ by simp only [List.getElem?_toArray, List.getElem?_cons_succ, List.getElem?_cons_zero]; exact rfl) (by kernel_rfl) (by kernel_rfl) (by kernel_rfl) (by kernel_rfl) (by exact fun _ _ _ h => h) (Or.inl ⟨by rfl, ?hy16⟩) hS0 ?r16
              case hy16 => (intro w hSw; (try dsimp only at hSw); go_simp; try with_reducible rfl)
              (try simp only [Act.put]); (try simp only [List.setIfInBounds_toArray]); (repeat (first | simp only [List.set_cons_succ] | simp only [List.set_cons_zero]))
              refine wpTo_take (i := 17) (v := ?v17) (show _ = some _ by simp only [List.getElem?_toArray, List.getElem?_cons_succ, List.getElem?_cons_zero]; exact rfl) (by kernel_rfl) (by kernel_rfl) (by kernel_rfl) (by kernel_rfl) (by exact fun _ _ _ h => h) (Or.inl ⟨by rfl, ?hy17⟩) hS0 ?r17
              case hy17 => (intro w hSw; (try dsimp only at hSw); go_simp; try with_reducible rfl)
              (try simp only [Act.put]); (try simp only [List.setIfInBounds_toArray]); (repeat (first | simp only [List.set_cons_succ] | simp only [List.set_cons_zero]))
              refine wpTo_take (i := 18) (v := ?v18) (show _ = some _ by simp only [List.getElem?_toArray, List.getElem?_cons_succ, List.getElem?_cons_zero]; exact rfl) (by kernel_rfl) (by kernel_rfl) (by kernel_rfl) (by kernel_rfl) (by exact fun _ _ _ h => h) (Or.inl ⟨by rfl, ?hy18⟩) hS0 ?r18
              case hy18 => (intro w hSw; (try dsimp only at hSw); go_simp; try with_reducible rfl)
              (try simp only [Act.put]); (try simp only [List.setIfInBounds_toArray]); (repeat (first | simp only [List.set_cons_succ] | simp only [List.set_cons_zero]))
              refine wpTo_take (i := 19) (v := ?v19) (show _ = some _ by simp only [List.getElem?_toArray, List.getElem?_cons_succ, List.getElem?_cons_zero]; exact rfl) (by kernel_rfl) (by kernel_rfl) (by kernel_rfl) (by kernel_rfl) (by exact fun _ _ _ h => h) (Or.inl ⟨by rfl, ?hy19⟩) hS0 ?r19
              case hy19 => (intro w hSw; (try dsimp only at hSw); go_simp; try with_reducible rfl)
              (try simp only [Act.put]); (try simp only [List.setIfInBounds_toArray]); (repeat (first | simp only [List.set_cons_succ] | simp only [List.set_cons_zero]))
              refine wpTo_take (i := 20) (v := ?v20) (show _ = some _ by simp only [List.getElem?_toArray, List.getElem?_cons_succ, List.getElem?_cons_zero]; exact rfl) (by kernel_rfl) (by kernel_rfl) (by kernel_rfl) (by kernel_rfl) (by exact fun _ _ _ h => h) (Or.inl ⟨by rfl, ?hy20⟩) hS0 ?r20
              case hy20 => (intro w hSw; (try dsimp only at hSw); go_simp; try with_reducible rfl)
              (try simp only [Act.put]); (try simp only [List.setIfInBounds_toArray]); (repeat (first | simp only [List.set_cons_succ] | simp only [List.set_cons_zero]))
              refine wpTo_take (i := 21) (v := ?v21) (show _ = some _ by simp only [List.getElem?_toArray, List.getElem?_cons_succ, List.getElem?_cons_zero]; exact rfl) (by kernel_rfl) (by kernel_rfl) (by kernel_rfl) (by kernel_rfl) (by exact fun _ _ _ h => h) (Or.inl ⟨by rfl, ?hy21⟩) hS0 ?r21
              case hy21 => (intro w hSw; (try dsimp only at hSw); go_simp; try with_reducible rfl)
              (try simp only [Act.put]); (try simp only [List.setIfInBounds_toArray]); (repeat (first | simp only [List.set_cons_succ] | simp only [List.set_cons_zero]))
              refine wpTo_take (i := 22) (v := ?v22) (show _ = some _ by simp only [List.getElem?_toArray, List.getElem?_cons_succ, List.getElem?_cons_zero]; exact rfl) (by kernel_rfl) (by kernel_rfl) (by kernel_rfl) (by kernel_rfl) (by exact fun _ _ _ h => h) (Or.inl ⟨by rfl, ?hy22⟩) hS0 ?r22
              case hy22 => (intro w hSw; (try dsimp only at hSw); go_simp; try with_reducible rfl)
              (try simp only [Act.put]); (try simp only [List.setIfInBounds_toArray]); (repeat (first | simp only [List.set_cons_succ] | simp only [List.set_cons_zero]))
              refine wpTo_take (i := 23) (v := ?v23) (show _ = some _ by simp only [List.getElem?_toArray, List.getElem?_cons_succ, List.getElem?_cons_zero]; exact rfl) (by kernel_rfl) (by kernel_rfl) (by kernel_rfl) (by kernel_rfl) (by exact fun _ _ _ h => h) (Or.inl ⟨by rfl, ?hy23⟩) hS0 ?r23
              case hy23 => (intro w hSw; (try dsimp only at hSw); go_simp; try with_reducible rfl)
              (try simp only [Act.put]); (try simp only [List.setIfInBounds_toArray]); (repeat (first | simp only [List.set_cons_succ] | simp only [List.set_cons_zero]))
              refine wpTo_take (i := 24) (show _ = some _ by simp only [List.getElem?_toArray, List.getElem?_cons_succ, List.getElem?_cons_zero]; exact rfl) (by kernel_rfl) (by kernel_rfl) (by kernel_rfl) (by kernel_rfl) (by exact fun _ _ _ h => h) (yieldsIf_four (by rfl) _ _ _ _ rfl e0 e1 e2 e3 rfl rfl rfl rfl) hS0 ?_
              (try simp only [Act.put]); (try simp only [List.setIfInBounds_toArray]); (repeat (first | simp only [List.set_cons_succ] | simp only [List.set_cons_zero]))
              refine wpTo_one (i := 25) (by kernel_rfl) (show _ = some _ by simp only [List.getElem?_toArray, List.getElem?_cons_succ, List.getElem?_cons_zero]; exact rfl) (fun K hK => ?_)
              go_simp
              refine hK.out _ _ (CC.out _ (hA.alloc _).drew) (fun hSx => ?_)
              clear hK K
              (try simp only [Act.put]); (try simp only [List.setIfInBounds_toArray]); (repeat (first | simp only [List.set_cons_succ] | simp only [List.set_cons_zero]))
              have hB8 : Blk ((wr.alloc (.cells (bys Z4).toArray 51)).drew) wr.heap.size 51 (bys Z4) := (Blk.new wr 51 (bys Z4)).drew
              refine wpTo_last (by kernel_rfl) (show _ = some _ by simp only [List.getElem?_toArray, List.getElem?_cons_succ, List.getElem?_cons_zero]; exact rfl) (by kernel_rfl) (fun K hK => ?_)
              rw [if_pos (by rfl)]
              refine wp_store_row 51 (.tmp 8) (.tmp 64) rfl wr.heap.size (bys [e0, e1, e2, e3]).toArray rfl rfl 51 _ hB8 (by rw [List.size_toArray, bys_length]; kernel_rfl) (by rw [List.size_toArray, List.size_toArray, bys_length, bys_length, hZ4]; rfl) (bys_one _) ?_
              refine hK.out _ _ ?_
              clear hK K
              (try simp only [Act.put]); (try simp only [List.setIfInBounds_toArray]); (repeat (first | simp only [List.set_cons_succ] | simp only [List.set_cons_zero]))
              have hoF := On.setRow ((wr.alloc (.cells (bys Z4).toArray 51)).drew) wr.heap.size (bys [e0, e1, e2, e3]).toArray
              have hT2 : Blk _ wr.heap.size 51 (bys [e0, e1, e2, e3]) := setRow_heap ((wr.alloc (.cells (bys Z4).toArray 51)).drew) wr.heap.size _ (bys [e0, e1, e2, e3]).toArray 51 _ hB8
              generalize World.setRow ((wr.alloc (.cells (bys Z4).toArray 51)).drew) wr.heap.size (bys [e0, e1, e2, e3]).toArray = w2 at hoF hT2 ⊢
              rw [← eg] at hoF hT2 ⊢
              have hA2 := ((hA.alloc (.cells (bys Z4).toArray 51)).drew).on hoF hgl
              clear hoF hB8 hA hS0 hSx CC eg
              by_cases h0 : m % 8 = 0
              · have k0 : (m : Int) % 8 = 0 := by omega
                have hT0 := hT2
                have d0 := hT2.byte 0 (by simp)
                have b0 := hA2.k.byte (240 + e0.toNat) (by have := e0.isLt; omega)
                rw [hKL.out, tabs_there _ (pad_length E (by omega)), ← v8_toNat] at b0
                have x0 := v8_nn e0
                have y0 : v8 e0 < 256 := by have := v8_le e0; omega
                obtain ⟨s0, es0⟩ : ∃ s, s = sb e0 := ⟨_, rfl⟩
                rw [← es0] at b0
                have d1 := hT2.byte 1 (by simp)
                have b1 := hA2.k.byte (240 + e1.toNat) (by have := e1.isLt; omega)
                rw [hKL.out, tabs_there _ (pad_length E (by omega)), ← v8_toNat] at b1
                have x1 := v8_nn e1
                have y1 : v8 e1 < 256 := by have := v8_le e1; omega
                obtain ⟨s1, es1⟩ : ∃ s, s = sb e1 := ⟨_, rfl⟩
                rw [← es1] at b1
                have d2 := hT2.byte 2 (by simp)
                have b2 := hA2.k.byte (240 + e2.toNat) (by have := e2.isLt; omega)
                rw [hKL.out, tabs_there _ (pad_length E (by omega)), ← v8_toNat] at b2
                have x2 := v8_nn e2
                have y2 : v8 e2 < 256 := by have := v8_le e2; omega
                obtain ⟨s2, es2⟩ : ∃ s, s = sb e2 := ⟨_, rfl⟩
                rw [← es2] at b2
                have d3 := hT2.byte 3 (by simp)
                have b3 := hA2.k.byte (240 + e3.toNat) (by have := e3.isLt; omega)
                rw [hKL.out, tabs_there _ (pad_length E (by omega)), ← v8_toNat] at b3
                have x3 := v8_nn e3
                have y3 : v8 e3 < 256 := by have := v8_le e3; omega
                obtain ⟨s3, es3⟩ : ∃ s, s = sb e3 := ⟨_, rfl⟩
                rw [← es3] at b3
                simp only [List.getD_cons_zero, List.getD_cons_succ] at d0 d1 d2 d3
                have HP : Hid (rc m = powI 2#8 ((m : Int) / 8 - 1)) := rfl
                have hc := fun U => refPow_any 2#8 2 ((m : Int) / 8 - 1) U rfl
                rw [← HP.out] at hc
                obtain ⟨rcm, erc⟩ : ∃ r, r = rc m := ⟨_, rfl⟩
                rw [← erc] at hc
                rw [if_pos h0] at HC
                rw [← es0, ← es1, ← es2, ← es3, ← erc] at HC
                have hq0 : (1 : Int) ≤ (m : Int) / 8 := by omega
                have hq1 : (m : Int) / 8 < 8 := by omega
                have a1 : IntKind.i64.wrap ((m : Int) / 8) = (m : Int) / 8 := by rw [IntKind.wrap_i64]; omega
                have a2 : IntKind.i64.wrap ((m : Int) / 8 - 1) = (m : Int) / 8 - 1 := by rw [IntKind.wrap_i64]; omega
                have hwx := v8_xor s1 rcm
                clear HP erc es0 es1 es2 es3
                go_wp2_with fail
                refine wp_region_to (fun v : World => v.cell? ⟨g, 0, none⟩ = some (.int .u8 (v8 e0)) ∧ v.cell? ⟨g, 1, none⟩ = some (.int .u8 (v8 e1)) ∧ v.cell? ⟨g, 2, none⟩ = some (.int .u8 (v8 e2)) ∧ v.cell? ⟨g, 3, none⟩ = some (.int .u8 (v8 e3)) ∧ v.cell? ⟨w.heap.size + 1 + 1, 240 + (v8 e0).toNat, none⟩ = some (.int .u8 (v8 s0)) ∧ v.cell? ⟨w.heap.size + 1 + 1, 240 + (v8 e1).toNat, none⟩ = some (.int .u8 (v8 s1)) ∧ v.cell? ⟨w.heap.size + 1 + 1, 240 + (v8 e2).toNat, none⟩ = some (.int .u8 (v8 s2)) ∧ v.cell? ⟨w.heap.size + 1 + 1, 240 + (v8 e3).toNat, none⟩ = some (.int .u8 (v8 s3))) 26 (by kernel_rfl) ?_
                have hS1 : (fun v : World => v.cell? ⟨g, 0, none⟩ = some (.int .u8 (v8 e0)) ∧ v.cell? ⟨g, 1, none⟩ = some (.int .u8 (v8 e1)) ∧ v.cell? ⟨g, 2, none⟩ = some (.int .u8 (v8 e2)) ∧ v.cell? ⟨g, 3, none⟩ = some (.int .u8 (v8 e3)) ∧ v.cell? ⟨w.heap.size + 1 + 1, 240 + (v8 e0).toNat, none⟩ = some (.int .u8 (v8 s0)) ∧ v.cell? ⟨w.heap.size + 1 + 1, 240 + (v8 e1).toNat, none⟩ = some (.int .u8 (v8 s1)) ∧ v.cell? ⟨w.heap.size + 1 + 1, 240 + (v8 e2).toNat, none⟩ = some (.int .u8 (v8 s2)) ∧ v.cell? ⟨w.heap.size + 1 + 1, 240 + (v8 e3).toNat, none⟩ = some (.int .u8 (v8 s3))) w2.drew := ⟨d0, d1, d2, d3, b0, b1, b2, b3⟩
                refine wpTo_take (i := 0) (v := ?v0z) (show _ = some _ by simp only [List.getElem?_toArray, List.getElem?_cons_zero]; exact rfl) (by kernel_rfl) (by kernel_rfl) (by kernel_rfl) (by kernel_rfl) (by exact fun _ _ _ h => h) (Or.inl ⟨by rfl, ?hy0z⟩) hS1 ?r0z
                case hy0z => (intro w hSw; (try dsimp only at hSw); go_simp; try with_reducible rfl)
                (try simp only [Act.put]); (try simp only [List.setIfInBounds_toArray]); (repeat (first | simp only [List.set_cons_succ] | simp only [List.set_cons_zero]))
                refine wpTo_take (i := 1) (v := ?v1z) (show _ = some _ by simp only [List.getElem?_toArray, List.getElem?_cons_succ, List.getElem?_cons_zero]; exact rfl) (by kernel_rfl) (by kernel_rfl) (by kernel_rfl) (by kernel_rfl) (by exact fun _ _ _ h => h) (Or.inl ⟨by rfl, ?hy1z⟩) hS1 ?r1z
                case hy1z => (intro w hSw; (try dsimp only at hSw); go_simp; try with_reducible rfl)
                (try simp only [Act.put]); (try simp only [List.setIfInBounds_toArray]); (repeat (first | simp only [List.set_cons_succ] | simp only [List.set_cons_zero]))
                refine wpTo_take (i := 2) (v := ?v2z) (show _ = some _ by simp only [List.getElem?_toArray, List.getElem?_cons_succ, List.getElem?_cons_zero]; exact rfl) (by kernel_rfl) (by kernel_rfl) (by kernel_rfl) (by kernel_rfl) (by exact fun _ _ _ h => h) (Or.inl ⟨by rfl, ?hy2z⟩) hS1 ?r2z
                case hy2z => (intro w hSw; (try dsimp only at hSw); go_simp; try with_reducible rfl)
                (try simp only [Act.put]); (try simp only [List.setIfInBounds_toArray]); (repeat (first | simp only [List.set_cons_succ] | simp only [List.set_cons_zero]))
                refine wpTo_take (i := 3) (v := ?v3z) (show _ = some _ by simp only [List.getElem?_toArray, List.getElem?_cons_succ, List.getElem?_cons_zero]; exact rfl) (by kernel_rfl) (by kernel_rfl) (by kernel_rfl) (by kernel_rfl) (by exact fun _ _ _ h => h) (Or.inl ⟨by rfl, ?hy3z⟩) hS1 ?r3z
                case hy3z => (intro w hSw; (try dsimp only at hSw); go_simp; try with_reducible rfl)
                (try simp only [Act.put]); (try simp only [List.setIfInBounds_toArray]); (repeat (first | simp only [List.set_cons_succ] | simp only [List.set_cons_zero]))
                refine wpTo_take (i := 4) (v := ?v4z) (show _ = some _ by simp only [List.getElem?_toArray, List.getElem?_cons_succ, List.getElem?_cons_zero]; exact rfl) (by kernel_rfl) (by kernel_rfl) (by kernel_rfl) (by kernel_rfl) (by exact fun _ _ _ h => h) (Or.inl ⟨by rfl, ?hy4z⟩) hS1 ?r4z
                case hy4z => (intro w hSw; (try dsimp only at hSw); go_simp; try with_reducible rfl)
                (try simp only [Act.put]); (try simp only [List.setIfInBounds_toArray]); (repeat (first | simp only [List.set_cons_succ] | simp only [List.set_cons_zero]))
                refine wpTo_take (i := 5) (v := ?v5z) (show _ = some _ by simp only [List.getElem?_toArray, List.getElem?_cons_succ, List.getElem?_cons_zero]; exact rfl) (by kernel_rfl) (by kernel_rfl) (by kernel_rfl) (by kernel_rfl) (by exact fun _ _ _ h => h) (Or.inl ⟨by rfl, ?hy5z⟩) hS1 ?r5z
                case hy5z => (intro w hSw; (try dsimp only at hSw); go_simp; try with_reducible rfl)
                (try simp only [Act.put]); (try simp only [List.setIfInBounds_toArray]); (repeat (first | simp only [List.set_cons_succ] | simp only [List.set_cons_zero]))
                refine wpTo_take (i := 6) (v := ?v6z) (show _ = some _ by simp only [List.getElem?_toArray, List.getElem?_cons_succ, List.getElem?_cons_zero]; exact rfl) (by kernel_rfl) (by kernel_rfl) (by kernel_rfl) (by kernel_rfl) (by exact fun _ _ _ h => h) (Or.inl ⟨by rfl, ?hy6z⟩) hS1 ?r6z
                case hy6z => (intro w hSw; (try dsimp only at hSw); go_simp; try with_reducible rfl)
                (try simp only [Act.put]); (try simp only [List.setIfInBounds_toArray]); (repeat (first | simp only [List.set_cons_succ] | simp only [List.set_cons_zero]))
                refine wpTo_take (i := 7) (v := ?v7z) (show _ = some _ by simp only [List.getElem?_toArray, List.getElem?_cons_succ, List.getElem?_cons_zero]; exact rfl) (by kernel_rfl) (by kernel_rfl) (by kernel_rfl) (by kernel_rfl) (by exact fun _ _ _ h => h) (Or.inl ⟨by rfl, ?hy7z⟩) hS1 ?r7z
                case hy7z => (intro w hSw; (try dsimp only at hSw); go_simp; try with_reducible rfl)
                (try simp only [Act.put]); (try simp only [List.setIfInBounds_toArray]); (repeat (first | simp only [List.set_cons_succ] | simp only [List.set_cons_zero]))
                refine wpTo_take (i := 10) (v := ?v10z) (show _ = some _ by simp only [List.getElem?_toArray, List.getElem?_cons_succ, List.getElem?_cons_zero]; exact rfl) (by kernel_rfl) (by kernel_rfl) (by kernel_rfl) (by kernel_rfl) (by exact fun _ _ _ h => h) (Or.inl ⟨by rfl, ?hy10z⟩) hS1 ?r10z
                case hy10z => (intro w hSw; (try dsimp only at hSw); go_simp; try with_reducible rfl)
                (try simp only [Act.put]); (try simp only [List.setIfInBounds_toArray]); (repeat (first | simp only [List.set_cons_succ] | simp only [List.set_cons_zero]))
                refine wpTo_take (i := 11) (v := ?v11z) (show _ = some _ by simp only [List.getElem?_toArray, List.getElem?_cons_succ, List.getElem?_cons_zero]; exact rfl) (by kernel_rfl) (by kernel_rfl) (by kernel_rfl) (by kernel_rfl) (by exact fun _ _ _ h => h) (Or.inl ⟨by rfl, ?hy11z⟩) hS1 ?r11z
                case hy11z => (intro w hSw; (try dsimp only at hSw); go_simp; try with_reducible rfl)
                (try simp only [Act.put]); (try simp only [List.setIfInBounds_toArray]); (repeat (first | simp only [List.set_cons_succ] | simp only [List.set_cons_zero]))
                refine wpTo_take (i := 12) (v := ?v12z) (show _ = some _ by simp only [List.getElem?_toArray, List.getElem?_cons_succ, List.getElem?_cons_zero]; exact rfl) (by kernel_rfl) (by kernel_rfl) (by kernel_rfl) (by kernel_rfl) (by exact fun _ _ _ h => h) (Or.inl ⟨by rfl, ?hy12z⟩) hS1 ?r12z
                case hy12z => (intro w hSw; (try dsimp only at hSw); go_simp; try with_reducible rfl)
                (try simp only [Act.put]); (try simp only [List.setIfInBounds_toArray]); (repeat (first | simp only [List.set_cons_succ] | simp only [List.set_cons_zero]))
                refine wpTo_take (i := 13) (v := ?v13z) (show _ = some _ by simp only [List.getElem?_toArray, List.getElem?_cons_succ, List.getElem?_cons_zero]; exact rfl) (by kernel_rfl) (by kernel_rfl) (by kernel_rfl) (by kernel_rfl) (by exact fun _ _ _ h => h) (Or.inl ⟨by rfl, ?hy13z⟩) hS1 ?r13z
                case hy13z => (intro w hSw; (try dsimp only at hSw); go_simp; try with_reducible rfl)
                (try simp only [Act.put]); (try simp only [List.setIfInBounds_toArray]); (repeat (first | simp only [List.set_cons_succ] | simp only [List.set_cons_zero]))
                refine wpTo_take (i := 14) (v := ?v14z) (show _ = some _ by simp only [List.getElem?_toArray, List.getElem?_cons_succ, List.getElem?_cons_zero]; exact rfl) (by kernel_rfl) (by kernel_rfl) (by kernel_rfl) (by kernel_rfl) (by exact fun _ _ _ h => h) (Or.inl ⟨by rfl, ?hy14z⟩) hS1 ?r14z
                case hy14z => (intro w hSw; (try dsimp only at hSw); go_simp; try with_reducible rfl)
                (try simp only [Act.put]); (try simp only [List.setIfInBounds_toArray]); (repeat (first | simp only [List.set_cons_succ] | simp only [List.set_cons_zero]))
                refine wpTo_take (i := 15) (v := ?v15z) (show _ = some _ by simp only [List.getElem?_toArray, List.getElem?_cons_succ, List.getElem?_cons_zero]; exact rfl) (by kernel_rfl) (by kernel_rfl) (by kernel_rfl) (by kernel_rfl) (by exact fun _ _ _ h => h) (Or.inl ⟨by rfl, ?hy15z⟩) hS1 ?r15z
                case hy15z => (intro w hSw; (try dsimp only at hSw); go_simp; try with_reducible rfl)
                (try simp only [Act.put]); (try simp only [List.setIfInBounds_toArray]); (repeat (first | simp only [List.set_cons_succ] | simp only [List.set_cons_zero]))
                refine wpTo_take (i := 16) (v := ?v16z) (show _ = some _ by simp only [List.getElem?_toArray, List.getElem?_cons_succ, List.getElem?_cons_zero]; exact rfl) (by kernel_rfl) (by kernel_rfl) (by kernel_rfl) (by kernel_rfl) (by exact fun _ _ _ h => h) (Or.inl ⟨by rfl, ?hy16z⟩) hS1 ?r16z
                case hy16z => (intro w hSw; (try dsimp only at hSw); go_simp; try with_reducible rfl)
                (try simp only [Act.put]); (try simp only [List.setIfInBounds_toArray]); (repeat (first | simp only [List.set_cons_succ] | simp only [List.set_cons_zero]))
                refine wpTo_take (i := 17) (v := ?v17z) (show _ = some _ by simp only [List.getElem?_toArray, List.getElem?_cons_succ, List.getElem?_cons_zero]; exact rfl) (by kernel_rfl) (by kernel_rfl) (by kernel_rfl) (by kernel_rfl) (by exact fun _ _ _ h => h) (Or.inl ⟨by rfl, ?hy17z⟩) hS1 ?r17z
                case hy17z => (intro w hSw; (try dsimp only at hSw); go_simp; try with_reducible rfl)
                (try simp only [Act.put]); (try simp only [List.setIfInBounds_toArray]); (repeat (first | simp only [List.set_cons_succ] | simp only [List.set_cons_zero]))
                refine wpTo_take (i := 18) (v := ?v18z) (show _ = some _ by simp only [List.getElem?_toArray, List.getElem?_cons_succ, List.getElem?_cons_zero]; exact rfl) (by kernel_rfl) (by kernel_rfl) (by kernel_rfl) (by kernel_rfl) (by exact fun _ _ _ h => h) (Or.inl ⟨by rfl, ?hy18z⟩) hS1 ?r18z
                case hy18z => (intro w hSw; (try dsimp only at hSw); go_simp; try with_reducible rfl)
                (try simp only [Act.put]); (try simp only [List.setIfInBounds_toArray]); (repeat (first | simp only [List.set_cons_succ] | simp only [List.set_cons_zero]))
                refine wpTo_take (i := 19) (v := ?v19z) (show _ = some _ by simp only [List.getElem?_toArray, List.getElem?_cons_succ, List.getElem?_cons_zero]; exact rfl) (by kernel_rfl) (by kernel_rfl) (by kernel_rfl) (by kernel_rfl) (by exact fun _ _ _ h => h) (Or.inl ⟨by rfl, ?hy19z⟩) hS1 ?r19z
                case hy19z => (intro w hSw; (try dsimp only at hSw); go_simp; try with_reducible rfl)
                (try simp only [Act.put]); (try simp only [List.setIfInBounds_toArray]); (repeat (first | simp only [List.set_cons_succ] | simp only [List.set_cons_zero]))
                refine wpTo_take (i := 20) (v := ?v20z) (show _ = some _ by simp only [List.getElem?_toArray, List.getElem?_cons_succ, List.getElem?_cons_zero]; exact rfl) (by kernel_rfl) (by kernel_rfl) (by kernel_rfl) (by kernel_rfl) (by exact fun _ _ _ h => h) (Or.inl ⟨by rfl, ?hy20z⟩) hS1 ?r20z
                case hy20z => (intro w hSw; (try dsimp only at hSw); go_simp; try with_reducible rfl)
                (try simp only [Act.put]); (try simp only [List.setIfInBounds_toArray]); (repeat (first | simp only [List.set_cons_succ] | simp only [List.set_cons_zero]))
                refine wpTo_take (i := 21) (v := ?v21z) (show _ = some _ by simp only [List.getElem?_toArray, List.getElem?_cons_succ, List.getElem?_cons_zero]; exact rfl) (by kernel_rfl) (by kernel_rfl) (by kernel_rfl) (by kernel_rfl) (by exact fun _ _ _ h => h) (Or.inl ⟨by rfl, ?hy21z⟩) hS1 ?r21z
                case hy21z => (intro w hSw; (try dsimp only at hSw); go_simp; try with_reducible rfl)
                (try simp only [Act.put]); (try simp only [List.setIfInBounds_toArray]); (repeat (first | simp only [List.set_cons_succ] | simp only [List.set_cons_zero]))
                refine wpTo_take (i := 22) (v := ?v22z) (show _ = some _ by simp only [List.getElem?_toArray, List.getElem?_cons_succ, List.getElem?_cons_zero]; exact rfl) (by kernel_rfl) (by kernel_rfl) (by kernel_rfl) (by kernel_rfl) (by exact fun _ _ _ h => h) (Or.inl ⟨by rfl, ?hy22z⟩) hS1 ?r22z
                case hy22z => (intro w hSw; (try dsimp only at hSw); go_simp; try with_reducible rfl)
                (try simp only [Act.put]); (try simp only [List.setIfInBounds_toArray]); (repeat (first | simp only [List.set_cons_succ] | simp only [List.set_cons_zero]))
                refine wpTo_take (i := 23) (v := ?v23z) (show _ = some _ by simp only [List.getElem?_toArray, List.getElem?_cons_succ, List.getElem?_cons_zero]; exact rfl) (by kernel_rfl) (by kernel_rfl) (by kernel_rfl) (by kernel_rfl) (by exact fun _ _ _ h => h) (Or.inl ⟨by rfl, ?hy23z⟩) hS1 ?r23z
                case hy23z => (intro w hSw; (try dsimp only at hSw); go_simp; try with_reducible rfl)
                (try simp only [Act.put]); (try simp only [List.setIfInBounds_toArray]); (repeat (first | simp only [List.set_cons_succ] | simp only [List.set_cons_zero]))
                refine wpTo_take (i := 24) (v := ?v24z) (show _ = some _ by simp only [List.getElem?_toArray, List.getElem?_cons_succ, List.getElem?_cons_zero]; exact rfl) (by kernel_rfl) (by kernel_rfl) (by kernel_rfl) (by kernel_rfl) (by exact fun _ _ _ h => h) (Or.inl ⟨by rfl, ?hy24z⟩) hS1 ?r24z
                case hy24z => (intro w hSw; (try dsimp only at hSw); go_simp; try with_reducible rfl)
                (try simp only [Act.put]); (try simp only [List.setIfInBounds_toArray]); (repeat (first | simp only [List.set_cons_succ] | simp only [List.set_cons_zero]))
                refine wpTo_one (i := 8) (by kernel_rfl) (show _ = some _ by simp only [List.getElem?_toArray, List.getElem?_cons_succ, List.getElem?_cons_zero]; exact rfl) (fun K hK => ?_)
                go_simp
                go_at_call 32; refine (hc _).mono ?_; rintro e w' ⟨rfl, rfl⟩
                (try simp only [])
                refine hK.out _ _ (hS1) (fun _ => ?_)
                clear hK K
                (try simp only [Act.put]); (try simp only [List.setIfInBounds_toArray]); (repeat (first | simp only [List.set_cons_succ] | simp only [List.set_cons_zero]))
                refine wpTo_take (i := 9) (v := ?v9z) (show _ = some _ by simp only [List.getElem?_toArray, List.getElem?_cons_succ, List.getElem?_cons_zero]; exact rfl) (by kernel_rfl) (by kernel_rfl) (by kernel_rfl) (by kernel_rfl) (by exact fun _ _ _ h => h) (Or.inl ⟨by rfl, ?hy9z⟩) hS1 ?r9z
                case hy9z => (intro w hSw; (try dsimp only at hSw); go_simp; try with_reducible rfl)
                (try simp only [Act.put]); (try simp only [List.setIfInBounds_toArray]); (repeat (first | simp only [List.set_cons_succ] | simp only [List.set_cons_zero]))
                refine wpTo_take (i := 25) (show _ = some _ by simp only [List.getElem?_toArray, List.getElem?_cons_succ, List.getElem?_cons_zero]; exact rfl) (by kernel_rfl) (by kernel_rfl) (by kernel_rfl) (by kernel_rfl) (by exact fun _ _ _ h => h) (yieldsIf_four (by rfl) _ _ _ _ rfl (s1 ^^^ rcm) s2 s3 s0 rfl rfl rfl rfl) hS1 ?_
                (try simp only [Act.put]); (try simp only [List.setIfInBounds_toArray]); (repeat (first | simp only [List.set_cons_succ] | simp only [List.set_cons_zero]))
                refine wpTo_last (by kernel_rfl) (show _ = some _ by simp only [List.getElem?_toArray, List.getElem?_cons_succ, List.getElem?_cons_zero]; exact rfl) (by kernel_rfl) (fun K hK => ?_)
                rw [if_pos (by rfl)]
                refine wp_store_row 51 (.tmp 8) (.tmp 93) rfl g (bys [s1 ^^^ rcm, s2, s3, s0]).toArray rfl rfl 51 _ hT2.drew (by rw [List.size_toArray, bys_length]; kernel_rfl) (by rw [List.size_toArray, List.size_toArray, bys_length, bys_length]; rfl) (bys_one _) ?_
                refine hK.out _ _ ?_
                clear hK K
                (try simp only [Act.put]); (try simp only [List.setIfInBounds_toArray]); (repeat (first | simp only [List.set_cons_succ] | simp only [List.set_cons_zero]))
                have hoG := On.setRow w2.drew g (bys [s1 ^^^ rcm, s2, s3, s0]).toArray
                have hT3 : Blk _ g 51 (bys [s1 ^^^ rcm, s2, s3, s0]) := setRow_heap w2.drew g _ (bys [s1 ^^^ rcm, s2, s3, s0]).toArray 51 _ hT2.drew
                generalize World.setRow w2.drew g (bys [s1 ^^^ rcm, s2, s3, s0]).toArray = w3 at hoG hT3 ⊢
                have hA3 := hA2.drew.on hoG hgl
                rw [← HC.out] at hT3
                clear hoG hA2 hT2 hS1 HC d0 d1 d2 d3 b0 b1 b2 b3 x0 x1 x2 x3 y0 y1 y2 y3
                have k4 : (((m : Int) % 8) == 4) = false := by simp; omega
                clear k0 h0 hq0 hq1 a1 a2 hwx hc
                have hK0 : Hid (KL = pad (E ++ D.take 0) ++ tabs) := by
                  rw [List.take_zero, List.append_nil]
                  exact hKL
                go_wp2
                obtain ⟨wC, hwC⟩ : ∃ x, x = w3 := ⟨_, rfl⟩
                rw [← hwC] at hA3 hT3 ⊢
                clear hwC hKL
                go_loopw [9] (fun i wr => ∃ q : Nat, q ≤ 4 ∧ i = .int .i64 (q : Int) ∧ ∃ KQ : List B, Hid (KQ = pad (E ++ D.take q) ++ tabs) ∧ ReS w wr key Z KQ ∧ Blk wr g 51 (bys C)) (fun i _ => 4 - (intOf i).toNat)
                case atStart => exact ⟨0, by omega, rfl, KL, hK0, hA3, hT3⟩
                case round =>
                  obtain ⟨q, hq, rfl, KQ, hKQ, hA, hT⟩ := hrel
                  clear hA3 hT3 hK0
                  by_cases hqt : q < 4
                  · have hqI : (q : Int) < 4 := by omega
                    have hlen : (E ++ D.take q).length = 4 * m + q := by rw [List.length_append, hE, List.length_take, hD, Nat.min_eq_left (by omega)]
                    have hKq : KQ.length = 752 := by rw [hKQ.out, List.length_append, pad_length _ (by omega), tabs_length]
                    have HN : Hid (KQ.set (4 * m + q) (D.getD q 0#8) = pad (E ++ D.take (q + 1)) ++ tabs) := by
                      have h := push_at (E ++ D.take q) tabs (D.getD q 0#8) (by omega)
                      rw [hlen, List.append_assoc, take_push D q (by omega)] at h
                      rw [hKQ.out]
                      exact h
                    have hst := hA.put (4 * m + q) (D.getD q 0#8)
                    rw [HN.out] at hst
                    have c0 := hA.k.byte (4 * m - 32 + q) (by omega)
                    rw [hKQ.out, pad_at _ _ _ (by omega), getD_left _ _ _ (by omega)] at c0
                    have c1 := hT.byte q (by omega)
                    have c2 := hA.k.byte (4 * m + q) (by omega)
                    have f2 := hA.k.fz (4 * m + q)
                    have hwx := v8_xor (E.getD (4 * m - 32 + q) 0#8) (C.getD q 0#8)
                    rw [HD.out q hqt] at hwx
                    have hTn := fun x : Value => hT.beside (a := ⟨w.heap.size + 1 + 1, 4 * m + q, none⟩) x (by simp <;> omega)
                    obtain ⟨x, ex⟩ : ∃ x, x = E.getD (4 * m - 32 + q) 0#8 := ⟨_, rfl⟩
                    obtain ⟨y, ey⟩ : ∃ x, x = C.getD q 0#8 := ⟨_, rfl⟩
                    obtain ⟨z, ez⟩ : ∃ x, x = D.getD q 0#8 := ⟨_, rfl⟩
                    rw [← ex] at c0 hwx
                    rw [← ey] at c1 hwx
                    rw [← ez] at hst hwx
                    obtain ⟨o, eo⟩ : ∃ o, o = 4 * m + q := ⟨_, rfl⟩
                    obtain ⟨p, ep⟩ : ∃ o, o = 4 * m - 32 + q := ⟨_, rfl⟩
                    rw [← eo] at hst c2 f2 hTn
                    rw [← ep] at c0
                    have ra : IntKind.i64.wrap (4 * (m : Int) + q) = (o : Int) := by rw [IntKind.wrap_i64]; omega
                    have rb : IntKind.i64.wrap (4 * (m : Int) - 32) = 4 * m - 32 := by rw [IntKind.wrap_i64]; omega
                    have rd : IntKind.i64.wrap (4 * (m : Int) - 32 + q) = (p : Int) := by rw [IntKind.wrap_i64]; omega
                    have ja : (o : Int) < 240 := by omega
                    have jb : (p : Int) < 240 := by omega
                    clear ex ey ez eo ep HN hKQ HD HX hA hT EE
                    go_wp2_with fail
                    go_region
                    go_wp2
                    refine ⟨⟨q + 1, by omega, by go_num, _, rfl, hst.drew, (hTn _).drew⟩, by simp [intOf]; omega⟩
                  · have hq4 : q = 4 := by omega
                    subst hq4
                    have hKX : Hid (KQ = pad (expd key (m + 1 - 8)) ++ tabs) := by
                      have := hKQ.out
                      rw [List.take_of_length_le (by omega), ← HX.out] at this
                      exact this
                    clear hKQ HX HD EE
                    go_wp2
                    refine ⟨⟨m + 1, by omega, by omega, by go_num, KQ, hKX, hA⟩, by simp [intOf]; omega⟩
              · by_cases h4 : m % 8 = 4
                · have k0 : (((m : Int) % 8) == 0) = false := by simp; omega
                  have k4 : (m : Int) % 8 = 4 := by omega
                  have hT0 := hT2
                  have d0 := hT2.byte 0 (by simp)
                  have b0 := hA2.k.byte (240 + e0.toNat) (by have := e0.isLt; omega)
                  rw [hKL.out, tabs_there _ (pad_length E (by omega)), ← v8_toNat] at b0
                  have x0 := v8_nn e0
                  have y0 : v8 e0 < 256 := by have := v8_le e0; omega
                  obtain ⟨s0, es0⟩ : ∃ s, s = sb e0 := ⟨_, rfl⟩
                  rw [← es0] at b0
                  have d1 := hT2.byte 1 (by simp)
                  have b1 := hA2.k.byte (240 + e1.toNat) (by have := e1.isLt; omega)
                  rw [hKL.out, tabs_there _ (pad_length E (by omega)), ← v8_toNat] at b1
                  have x1 := v8_nn e1
                  have y1 : v8 e1 < 256 := by have := v8_le e1; omega
                  obtain ⟨s1, es1⟩ : ∃ s, s = sb e1 := ⟨_, rfl⟩
                  rw [← es1] at b1
                  have d2 := hT2.byte 2 (by simp)
                  have b2 := hA2.k.byte (240 + e2.toNat) (by have := e2.isLt; omega)
                  rw [hKL.out, tabs_there _ (pad_length E (by omega)), ← v8_toNat] at b2
                  have x2 := v8_nn e2
                  have y2 : v8 e2 < 256 := by have := v8_le e2; omega
                  obtain ⟨s2, es2⟩ : ∃ s, s = sb e2 := ⟨_, rfl⟩
                  rw [← es2] at b2
                  have d3 := hT2.byte 3 (by simp)
                  have b3 := hA2.k.byte (240 + e3.toNat) (by have := e3.isLt; omega)
                  rw [hKL.out, tabs_there _ (pad_length E (by omega)), ← v8_toNat] at b3
                  have x3 := v8_nn e3
                  have y3 : v8 e3 < 256 := by have := v8_le e3; omega
                  obtain ⟨s3, es3⟩ : ∃ s, s = sb e3 := ⟨_, rfl⟩
                  rw [← es3] at b3
                  simp only [List.getD_cons_zero, List.getD_cons_succ] at d0 d1 d2 d3
                  rw [if_neg h0, if_pos h4] at HC
                  rw [← es0, ← es1, ← es2, ← es3] at HC
                  clear es0 es1 es2 es3
                  go_wp2_with fail
                  refine wp_region_to (fun v : World => v.cell? ⟨g, 0, none⟩ = some (.int .u8 (v8 e0)) ∧ v.cell? ⟨g, 1, none⟩ = some (.int .u8 (v8 e1)) ∧ v.cell? ⟨g, 2, none⟩ = some (.int .u8 (v8 e2)) ∧ v.cell? ⟨g, 3, none⟩ = some (.int .u8 (v8 e3)) ∧ v.cell? ⟨w.heap.size + 1 + 1, 240 + (v8 e0).toNat, none⟩ = some (.int .u8 (v8 s0)) ∧ v.cell? ⟨w.heap.size + 1 + 1, 240 + (v8 e1).toNat, none⟩ = some (.int .u8 (v8 s1)) ∧ v.cell? ⟨w.heap.size + 1 + 1, 240 + (v8 e2).toNat, none⟩ = some (.int .u8 (v8 s2)) ∧ v.cell? ⟨w.heap.size + 1 + 1, 240 + (v8 e3).toNat, none⟩ = some (.int .u8 (v8 s3))) 21 (by kernel_rfl) ?_
                  have hS1 : (fun v : World => v.cell? ⟨g, 0, none⟩ = some (.int .u8 (v8 e0)) ∧ v.cell? ⟨g, 1, none⟩ = some (.int .u8 (v8 e1)) ∧ v.cell? ⟨g, 2, none⟩ = some (.int .u8 (v8 e2)) ∧ v.cell? ⟨g, 3, none⟩ = some (.int .u8 (v8 e3)) ∧ v.cell? ⟨w.heap.size + 1 + 1, 240 + (v8 e0).toNat, none⟩ = some (.int .u8 (v8 s0)) ∧ v.cell? ⟨w.heap.size + 1 + 1, 240 + (v8 e1).toNat, none⟩ = some (.int .u8 (v8 s1)) ∧ v.cell? ⟨w.heap.size + 1 + 1, 240 + (v8 e2).toNat, none⟩ = some (.int .u8 (v8 s2)) ∧ v.cell? ⟨w.heap.size + 1 + 1, 240 + (v8 e3).toNat, none⟩ = some (.int .u8 (v8 s3))) w2.drew := ⟨d0, d1, d2, d3, b0, b1, b2, b3⟩
                  refine wpTo_take (i := 0) (v := ?v0f) (show _ = some _ by simp only [List.getElem?_toArray, List.getElem?_cons_zero]; exact rfl) (by kernel_rfl) (by kernel_rfl) (by kernel_rfl) (by kernel_rfl) (by exact fun _ _ _ h => h) (Or.inl ⟨by rfl, ?hy0f⟩) hS1 ?r0f
                  case hy0f => (intro w hSw; (try dsimp only at hSw); go_simp; try with_reducible rfl)
                  (try simp only [Act.put]); (try simp only [List.setIfInBounds_toArray]); (repeat (first | simp only [List.set_cons_succ] | simp only [List.set_cons_zero]))
                  refine wpTo_take (i := 1) (v := ?v1f) (show _ = some _ by simp only [List.getElem?_toArray, List.getElem?_cons_succ, List.getElem?_cons_zero]; exact rfl) (by kernel_rfl) (by kernel_rfl) (by kernel_rfl) (by kernel_rfl) (by exact fun _ _ _ h => h) (Or.inl ⟨by rfl, ?hy1f⟩) hS1 ?r1f
                  case hy1f => (intro w hSw; (try dsimp only at hSw); go_simp; try with_reducible rfl)
                  (try simp only [Act.put]); (try simp only [List.setIfInBounds_toArray]); (repeat (first | simp only [List.set_cons_succ] | simp only [List.set_cons_zero]))
                  refine wpTo_take (i := 2) (v := ?v2f) (show _ = some _ by simp only [List.getElem?_toArray, List.getElem?_cons_succ, List.getElem?_cons_zero]; exact rfl) (by kernel_rfl) (by kernel_rfl) (by kernel_rfl) (by kernel_rfl) (by exact fun _ _ _ h => h) (Or.inl ⟨by rfl, ?hy2f⟩) hS1 ?r2f
                  case hy2f => (intro w hSw; (try dsimp only at hSw); go_simp; try with_reducible rfl)
                  (try simp only [Act.put]); (try simp only [List.setIfInBounds_toArray]); (repeat (first | simp only [List.set_cons_succ] | simp only [List.set_cons_zero]))
                  refine wpTo_take (i := 3) (v := ?v3f) (show _ = some _ by simp only [List.getElem?_toArray, List.getElem?_cons_succ, List.getElem?_cons_zero]; exact rfl) (by kernel_rfl) (by kernel_rfl) (by kernel_rfl) (by kernel_rfl) (by exact fun _ _ _ h => h) (Or.inl ⟨by rfl, ?hy3f⟩) hS1 ?r3f
                  case hy3f => (intro w hSw; (try dsimp only at hSw); go_simp; try with_reducible rfl)
                  (try simp only [Act.put]); (try simp only [List.setIfInBounds_toArray]); (repeat (first | simp only [List.set_cons_succ] | simp only [List.set_cons_zero]))
                  refine wpTo_take (i := 4) (v := ?v4f) (show _ = some _ by simp only [List.getElem?_toArray, List.getElem?_cons_succ, List.getElem?_cons_zero]; exact rfl) (by kernel_rfl) (by kernel_rfl) (by kernel_rfl) (by kernel_rfl) (by exact fun _ _ _ h => h) (Or.inl ⟨by rfl, ?hy4f⟩) hS1 ?r4f
                  case hy4f => (intro w hSw; (try dsimp only at hSw); go_simp; try with_reducible rfl)
                  (try simp only [Act.put]); (try simp only [List.setIfInBounds_toArray]); (repeat (first | simp only [List.set_cons_succ] | simp only [List.set_cons_zero]))
                  refine wpTo_take (i := 5) (v := ?v5f) (show _ = some _ by simp only [List.getElem?_toArray, List.getElem?_cons_succ, List.getElem?_cons_zero]; exact rfl) (by kernel_rfl) (by kernel_rfl) (by kernel_rfl) (by kernel_rfl) (by exact fun _ _ _ h => h) (Or.inl ⟨by rfl, ?hy5f⟩) hS1 ?r5f
                  case hy5f => (intro w hSw; (try dsimp only at hSw); go_simp; try with_reducible rfl)
                  (try simp only [Act.put]); (try simp only [List.setIfInBounds_toArray]); (repeat (first | simp only [List.set_cons_succ] | simp only [List.set_cons_zero]))
                  refine wpTo_take (i := 6) (v := ?v6f) (show _ = some _ by simp only [List.getElem?_toArray, List.getElem?_cons_succ, List.getElem?_cons_zero]; exact rfl) (by kernel_rfl) (by kernel_rfl) (by kernel_rfl) (by kernel_rfl) (by exact fun _ _ _ h => h) (Or.inl ⟨by rfl, ?hy6f⟩) hS1 ?r6f
                  case hy6f => (intro w hSw; (try dsimp only at hSw); go_simp; try with_reducible rfl)
                  (try simp only [Act.put]); (try simp only [List.setIfInBounds_toArray]); (repeat (first | simp only [List.set_cons_succ] | simp only [List.set_cons_zero]))
                  refine wpTo_take (i := 7) (v := ?v7f) (show _ = some _ by simp only [List.getElem?_toArray, List.getElem?_cons_succ, List.getElem?_cons_zero]; exact rfl) (by kernel_rfl) (by kernel_rfl) (by kernel_rfl) (by kernel_rfl) (by exact fun _ _ _ h => h) (Or.inl ⟨by rfl, ?hy7f⟩) hS1 ?r7f
                  case hy7f => (intro w hSw; (try dsimp only at hSw); go_simp; try with_reducible rfl)
                  (try simp only [Act.put]); (try simp only [List.setIfInBounds_toArray]); (repeat (first | simp only [List.set_cons_succ] | simp only [List.set_cons_zero]))
                  refine wpTo_take (i := 8) (v := ?v8f) (show _ = some _ by simp only [List.getElem?_toArray, List.getElem?_cons_succ, List.getElem?_cons_zero]; exact rfl) (by kernel_rfl) (by kernel_rfl) (by kernel_rfl) (by kernel_rfl) (by exact fun _ _ _ h => h) (Or.inl ⟨by rfl, ?hy8f⟩) hS1 ?r8f
                  case hy8f => (intro w hSw; (try dsimp only at hSw); go_simp; try with_reducible rfl)
                  (try simp only [Act.put]); (try simp only [List.setIfInBounds_toArray]); (repeat (first | simp only [List.set_cons_succ] | simp only [List.set_cons_zero]))
                  refine wpTo_take (i := 9) (v := ?v9f) (show _ = some _ by simp only [List.getElem?_toArray, List.getElem?_cons_succ, List.getElem?_cons_zero]; exact rfl) (by kernel_rfl) (by kernel_rfl) (by kernel_rfl) (by kernel_rfl) (by exact fun _ _ _ h => h) (Or.inl ⟨by rfl, ?hy9f⟩) hS1 ?r9f
                  case hy9f => (intro w hSw; (try dsimp only at hSw); go_simp; try with_reducible rfl)
                  (try simp only [Act.put]); (try simp only [List.setIfInBounds_toArray]); (repeat (first | simp only [List.set_cons_succ] | simp only [List.set_cons_zero]))
                  refine wpTo_take (i := 10) (v := ?v10f) (show _ = some _ by simp only [List.getElem?_toArray, List.getElem?_cons_succ, List.getElem?_cons_zero]; exact rfl) (by kernel_rfl) (by kernel_rfl) (by kernel_rfl) (by kernel_rfl) (by exact fun _ _ _ h => h) (Or.inl ⟨by rfl, ?hy10f⟩) hS1 ?r10f
                  case hy10f => (intro w hSw; (try dsimp only at hSw); go_simp; try with_reducible rfl)
                  (try simp only [Act.put]); (try simp only [List.setIfInBounds_toArray]); (repeat (first | simp only [List.set_cons_succ] | simp only [List.set_cons_zero]))
                  refine wpTo_take (i := 11) (v := ?v11f) (show _ = some _ by simp only [List.getElem?_toArray, List.getElem?_cons_succ, List.getElem?_cons_zero]; exact rfl) (by kernel_rfl) (by kernel_rfl) (by kernel_rfl) (by kernel_rfl) (by exact fun _ _ _ h => h) (Or.inl ⟨by rfl, ?hy11f⟩) hS1 ?r11f
                  case hy11f => (intro w hSw; (try dsimp only at hSw); go_simp; try with_reducible rfl)
                  (try simp only [Act.put]); (try simp only [List.setIfInBounds_toArray]); (repeat (first | simp only [List.set_cons_succ] | simp only [List.set_cons_zero]))
                  refine wpTo_take (i := 12) (v := ?v12f) (show _ = some _ by simp only [List.getElem?_toArray, List.getElem?_cons_succ, List.getElem?_cons_zero]; exact rfl) (by kernel_rfl) (by kernel_rfl) (by kernel_rfl) (by kernel_rfl) (by exact fun _ _ _ h => h) (Or.inl ⟨by rfl, ?hy12f⟩) hS1 ?r12f
                  case hy12f => (intro w hSw; (try dsimp only at hSw); go_simp; try with_reducible rfl)
                  (try simp only [Act.put]); (try simp only [List.setIfInBounds_toArray]); (repeat (first | simp only [List.set_cons_succ] | simp only [List.set_cons_zero]))
                  refine wpTo_take (i := 13) (v := ?v13f) (show _ = some _ by simp only [List.getElem?_toArray, List.getElem?_cons_succ, List.getElem?_cons_zero]; exact rfl) (by kernel_rfl) (by kernel_rfl) (by kernel_rfl) (by kernel_rfl) (by exact fun _ _ _ h => h) (Or.inl ⟨by rfl, ?hy13f⟩) hS1 ?r13f
                  case hy13f => (intro w hSw; (try dsimp only at hSw); go_simp; try with_reducible rfl)
                  (try simp only [Act.put]); (try simp only [List.setIfInBounds_toArray]); (repeat (first | simp only [List.set_cons_succ] | simp only [List.set_cons_zero]))
                  refine wpTo_take (i := 14) (v := ?v14f) (show _ = some _ by simp only [List.getElem?_toArray, List.getElem?_cons_succ, List.getElem?_cons_zero]; exact rfl) (by kernel_rfl) (by kernel_rfl) (by kernel_rfl) (by kernel_rfl) (by exact fun _ _ _ h => h) (Or.inl ⟨by rfl, ?hy14f⟩) hS1 ?r14f
                  case hy14f => (intro w hSw; (try dsimp only at hSw); go_simp; try with_reducible rfl)
                  (try simp only [Act.put]); (try simp only [List.setIfInBounds_toArray]); (repeat (first | simp only [List.set_cons_succ] | simp only [List.set_cons_zero]))
                  refine wpTo_take (i := 15) (v := ?v15f) (show _ = some _ by simp only [List.getElem?_toArray, List.getElem?_cons_succ, List.getElem?_cons_zero]; exact rfl) (by kernel_rfl) (by kernel_rfl) (by kernel_rfl) (by kernel_rfl) (by exact fun _ _ _ h => h) (Or.inl ⟨by rfl, ?hy15f⟩) hS1 ?r15f
                  case hy15f => (intro w hSw; (try dsimp only at hSw); go_simp; try with_reducible rfl)
                  (try simp only [Act.put]); (try simp only [List.setIfInBounds_toArray]); (repeat (first | simp only [List.set_cons_succ] | simp only [List.set_cons_zero]))
                  refine wpTo_take (i := 16) (v := ?v16f) (show _ = some _ by simp only [List.getElem?_toArray, List.getElem?_cons_succ, List.getElem?_cons_zero]; exact rfl) (by kernel_rfl) (by kernel_rfl) (by kernel_rfl) (by kernel_rfl) (by exact fun _ _ _ h => h) (Or.inl ⟨by rfl, ?hy16f⟩) hS1 ?r16f
                  case hy16f => (intro w hSw; (try dsimp only at hSw); go_simp; try with_reducible rfl)
                  (try simp only [Act.put]); (try simp only [List.setIfInBounds_toArray]); (repeat (first | simp only [List.set_cons_succ] | simp only [List.set_cons_zero]))
                  refine wpTo_take (i := 17) (v := ?v17f) (show _ = some _ by simp only [List.getElem?_toArray, List.getElem?_cons_succ, List.getElem?_cons_zero]; exact rfl) (by kernel_rfl) (by kernel_rfl) (by kernel_rfl) (by kernel_rfl) (by exact fun _ _ _ h => h) (Or.inl ⟨by rfl, ?hy17f⟩) hS1 ?r17f
                  case hy17f => (intro w hSw; (try dsimp only at hSw); go_simp; try with_reducible rfl)
                  (try simp only [Act.put]); (try simp only [List.setIfInBounds_toArray]); (repeat (first | simp only [List.set_cons_succ] | simp only [List.set_cons_zero]))
                  refine wpTo_take (i := 18) (v := ?v18f) (show _ = some _ by simp only [List.getElem?_toArray, List.getElem?_cons_succ, List.getElem?_cons_zero]; exact rfl) (by kernel_rfl) (by kernel_rfl) (by kernel_rfl) (by kernel_rfl) (by exact fun _ _ _ h => h) (Or.inl ⟨by rfl, ?hy18f⟩) hS1 ?r18f
                  case hy18f => (intro w hSw; (try dsimp only at hSw); go_simp; try with_reducible rfl)
                  (try simp only [Act.put]); (try simp only [List.setIfInBounds_toArray]); (repeat (first | simp only [List.set_cons_succ] | simp only [List.set_cons_zero]))
                  refine wpTo_take (i := 19) (v := ?v19f) (show _ = some _ by simp only [List.getElem?_toArray, List.getElem?_cons_succ, List.getElem?_cons_zero]; exact rfl) (by kernel_rfl) (by kernel_rfl) (by kernel_rfl) (by kernel_rfl) (by exact fun _ _ _ h => h) (Or.inl ⟨by rfl, ?hy19f⟩) hS1 ?r19f
                  case hy19f => (intro w hSw; (try dsimp only at hSw); go_simp; try with_reducible rfl)
                  (try simp only [Act.put]); (try simp only [List.setIfInBounds_toArray]); (repeat (first | simp only [List.set_cons_succ] | simp only [List.set_cons_zero]))
                  refine wpTo_take (i := 20) (show _ = some _ by simp only [List.getElem?_toArray, List.getElem?_cons_succ, List.getElem?_cons_zero]; exact rfl) (by kernel_rfl) (by kernel_rfl) (by kernel_rfl) (by kernel_rfl) (by exact fun _ _ _ h => h) (yieldsIf_four (by rfl) _ _ _ _ rfl s0 s1 s2 s3 rfl rfl rfl rfl) hS1 ?_
                  (try simp only [Act.put]); (try simp only [List.setIfInBounds_toArray]); (repeat (first | simp only [List.set_cons_succ] | simp only [List.set_cons_zero]))
                  refine wpTo_last (by kernel_rfl) (show _ = some _ by simp only [List.getElem?_toArray, List.getElem?_cons_succ, List.getElem?_cons_zero]; exact rfl) (by kernel_rfl) (fun K hK => ?_)
                  rw [if_pos (by rfl)]
                  refine wp_store_row 51 (.tmp 8) (.tmp 117) rfl g (bys [s0, s1, s2, s3]).toArray rfl rfl 51 _ hT2.drew (by rw [List.size_toArray, bys_length]; kernel_rfl) (by rw [List.size_toArray, List.size_toArray, bys_length, bys_length]; rfl) (bys_one _) ?_
                  refine hK.out _ _ ?_
                  clear hK K
                  (try simp only [Act.put]); (try simp only [List.setIfInBounds_toArray]); (repeat (first | simp only [List.set_cons_succ] | simp only [List.set_cons_zero]))
                  have hoG := On.setRow w2.drew g (bys [s0, s1, s2, s3]).toArray
                  have hT3 : Blk _ g 51 (bys [s0, s1, s2, s3]) := setRow_heap w2.drew g _ (bys [s0, s1, s2, s3]).toArray 51 _ hT2.drew
                  generalize World.setRow w2.drew g (bys [s0, s1, s2, s3]).toArray = w3 at hoG hT3 ⊢
                  have hA3 := hA2.drew.on hoG hgl
                  rw [← HC.out] at hT3
                  clear hoG hA2 hT2 hS1 HC d0 d1 d2 d3 b0 b1 b2 b3 x0 x1 x2 x3 y0 y1 y2 y3
                  clear k0 k4 h0 h4
                  have hK0 : Hid (KL = pad (E ++ D.take 0) ++ tabs) := by
                    rw [List.take_zero, List.append_nil]
                    exact hKL
                  go_wp2
                  obtain ⟨wC, hwC⟩ : ∃ x, x = w3 := ⟨_, rfl⟩
                  rw [← hwC] at hA3 hT3 ⊢
                  clear hwC hKL
                  go_loopw [9] (fun i wr => ∃ q : Nat, q ≤ 4 ∧ i = .int .i64 (q : Int) ∧ ∃ KQ : List B, Hid (KQ = pad (E ++ D.take q) ++ tabs) ∧ ReS w wr key Z KQ ∧ Blk wr g 51 (bys C)) (fun i _ => 4 - (intOf i).toNat)
                  case atStart => exact ⟨0, by omega, rfl, KL, hK0, hA3, hT3⟩
                  case round =>
                    obtain ⟨q, hq, rfl, KQ, hKQ, hA, hT⟩ := hrel
                    clear hA3 hT3 hK0
                    by_cases hqt : q < 4
                    · have hqI : (q : Int) < 4 := by omega
                      have hlen : (E ++ D.take q).length = 4 * m + q := by rw [List.length_append, hE, List.length_take, hD, Nat.min_eq_left (by omega)]
                      have hKq : KQ.length = 752 := by rw [hKQ.out, List.length_append, pad_length _ (by omega), tabs_length]
                      have HN : Hid (KQ.set (4 * m + q) (D.getD q 0#8) = pad (E ++ D.take (q + 1)) ++ tabs) := by
                        have h := push_at (E ++ D.take q) tabs (D.getD q 0#8) (by omega)
                        rw [hlen, List.append_assoc, take_push D q (by omega)] at h
                        rw [hKQ.out]
                        exact h
                      have hst := hA.put (4 * m + q) (D.getD q 0#8)
                      rw [HN.out] at hst
                      have c0 := hA.k.byte (4 * m - 32 + q) (by omega)
                      rw [hKQ.out, pad_at _ _ _ (by omega), getD_left _ _ _ (by omega)] at c0
                      have c1 := hT.byte q (by omega)
                      have c2 := hA.k.byte (4 * m + q) (by omega)
                      have f2 := hA.k.fz (4 * m + q)
                      have hwx := v8_xor (E.getD (4 * m - 32 + q) 0#8) (C.getD q 0#8)
                      rw [HD.out q hqt] at hwx
                      have hTn := fun x : Value => hT.beside (a := ⟨w.heap.size + 1 + 1, 4 * m + q, none⟩) x (by simp <;> omega)
                      obtain ⟨x, ex⟩ : ∃ x, x = E.getD (4 * m - 32 + q) 0#8 := ⟨_, rfl⟩
                      obtain ⟨y, ey⟩ : ∃ x, x = C.getD q 0#8 := ⟨_, rfl⟩
                      obtain ⟨z, ez⟩ : ∃ x, x = D.getD q 0#8 := ⟨_, rfl⟩
                      rw [← ex] at c0 hwx
                      rw [← ey] at c1 hwx
                      rw [← ez] at hst hwx
                      obtain ⟨o, eo⟩ : ∃ o, o = 4 * m + q := ⟨_, rfl⟩
                      obtain ⟨p, ep⟩ : ∃ o, o = 4 * m - 32 + q := ⟨_, rfl⟩
                      rw [← eo] at hst c2 f2 hTn
                      rw [← ep] at c0
                      have ra : IntKind.i64.wrap (4 * (m : Int) + q) = (o : Int) := by rw [IntKind.wrap_i64]; omega
                      have rb : IntKind.i64.wrap (4 * (m : Int) - 32) = 4 * m - 32 := by rw [IntKind.wrap_i64]; omega
                      have rd : IntKind.i64.wrap (4 * (m : Int) - 32 + q) = (p : Int) := by rw [IntKind.wrap_i64]; omega
                      have ja : (o : Int) < 240 := by omega
                      have jb : (p : Int) < 240 := by omega
                      clear ex ey ez eo ep HN hKQ HD HX hA hT EE
                      go_wp2_with fail
                      go_region
                      go_wp2
                      refine ⟨⟨q + 1, by omega, by go_num, _, rfl, hst.drew, (hTn _).drew⟩, by simp [intOf]; omega⟩
                    · have hq4 : q = 4 := by omega
                      subst hq4
                      have hKX : Hid (KQ = pad (expd key (m + 1 - 8)) ++ tabs) := by
                        have := hKQ.out
                        rw [List.take_of_length_le (by omega), ← HX.out] at this
                        exact this
                      clear hKQ HX HD EE
                      go_wp2
                      refine ⟨⟨m + 1, by omega, by omega, by go_num, KQ, hKX, hA⟩, by simp [intOf]; omega⟩
                · have k0 : (((m : Int) % 8) == 0) = false := by simp; omega
                  have k4 : (((m : Int) % 8) == 4) = false := by simp; omega
                  rw [if_neg h0, if_neg h4] at HC
                  rw [← HC.out] at hT2
                  have hT3 := hT2
                  have hA3 := hA2
                  clear hT2 hA2 HC h0 h4
                  have hK0 : Hid (KL = pad (E ++ D.take 0) ++ tabs) := by
                    rw [List.take_zero, List.append_nil]
                    exact hKL
                  go_wp2
                  obtain ⟨wC, hwC⟩ : ∃ x, x = w2 := ⟨_, rfl⟩
                  rw [← hwC] at hA3 hT3 ⊢
                  clear hwC hKL
                  go_loopw [9] (fun i wr => ∃ q : Nat, q ≤ 4 ∧ i = .int .i64 (q : Int) ∧ ∃ KQ : List B, Hid (KQ = pad (E ++ D.take q) ++ tabs) ∧ ReS w wr key Z KQ ∧ Blk wr g 51 (bys C)) (fun i _ => 4 - (intOf i).toNat)
                  case atStart => exact ⟨0, by omega, rfl, KL, hK0, hA3, hT3⟩
                  case round =>
                    obtain ⟨q, hq, rfl, KQ, hKQ, hA, hT⟩ := hrel
                    clear hA3 hT3 hK0
                    by_cases hqt : q < 4
                    · have hqI : (q : Int) < 4 := by omega
                      have hlen : (E ++ D.take q).length = 4 * m + q := by rw [List.length_append, hE, List.length_take, hD, Nat.min_eq_left (by omega)]
                      have hKq : KQ.length = 752 := by rw [hKQ.out, List.length_append, pad_length _ (by omega), tabs_length]
                      have HN : Hid (KQ.set (4 * m + q) (D.getD q 0#8) = pad (E ++ D.take (q + 1)) ++ tabs) := by
                        have h := push_at (E ++ D.take q) tabs (D.getD q 0#8) (by omega)
                        rw [hlen, List.append_assoc, take_push D q (by omega)] at h
                        rw [hKQ.out]
                        exact h
                      have hst := hA.put (4 * m + q) (D.getD q 0#8)
                      rw [HN.out] at hst
                      have c0 := hA.k.byte (4 * m - 32 + q) (by omega)
                      rw [hKQ.out, pad_at _ _ _ (by omega), getD_left _ _ _ (by omega)] at c0
                      have c1 := hT.byte q (by omega)
                      have c2 := hA.k.byte (4 * m + q) (by omega)
                      have f2 := hA.k.fz (4 * m + q)
                      have hwx := v8_xor (E.getD (4 * m - 32 + q) 0#8) (C.getD q 0#8)
                      rw [HD.out q hqt] at hwx
                      have hTn := fun x : Value => hT.beside (a := ⟨w.heap.size + 1 + 1, 4 * m + q, none⟩) x (by simp <;> omega)
                      obtain ⟨x, ex⟩ : ∃ x, x = E.getD (4 * m - 32 + q) 0#8 := ⟨_, rfl⟩
                      obtain ⟨y, ey⟩ : ∃ x, x = C.getD q 0#8 := ⟨_, rfl⟩
                      obtain ⟨z, ez⟩ : ∃ x, x = D.getD q 0#8 := ⟨_, rfl⟩
                      rw [← ex] at c0 hwx
                      rw [← ey] at c1 hwx
                      rw [← ez] at hst hwx
                      obtain ⟨o, eo⟩ : ∃ o, o = 4 * m + q := ⟨_, rfl⟩
                      obtain ⟨p, ep⟩ : ∃ o, o = 4 * m - 32 + q := ⟨_, rfl⟩
                      rw [← eo] at hst c2 f2 hTn
                      rw [← ep] at c0
                      have ra : IntKind.i64.wrap (4 * (m : Int) + q) = (o : Int) := by rw [IntKind.wrap_i64]; omega
                      have rb : IntKind.i64.wrap (4 * (m : Int) - 32) = 4 * m - 32 := by rw [IntKind.wrap_i64]; omega
                      have rd : IntKind.i64.wrap (4 * (m : Int) - 32 + q) = (p : Int) := by rw [IntKind.wrap_i64]; omega
                      have ja : (o : Int) < 240 := by omega
                      have jb : (p : Int) < 240 := by omega
                      clear ex ey ez eo ep HN hKQ HD HX hA hT EE
                      go_wp2_with fail
                      go_region
                      go_wp2
                      refine ⟨⟨q + 1, by omega, by go_num, _, rfl, hst.drew, (hTn _).drew⟩, by simp [intOf]; omega⟩
                    · have hq4 : q = 4 := by omega
                      subst hq4
                      have hKX : Hid (KQ = pad (expd key (m + 1 - 8)) ++ tabs) := by
                        have := hKQ.out
                        rw [List.take_of_length_le (by omega), ← HX.out] at this
                        exact this
                      clear hKQ HX HD EE
                      go_wp2
                      refine ⟨⟨m + 1, by omega, by omega, by go_num, KQ, hKX, hA⟩, by simp [intOf]; omega⟩
            · have hm : m = 60 := by omega
              subst hm
              obtain rfl : KL = R := by
                rw [hKL.out, ER.out, pad_full _ (expd_length key hl 52)]
                rfl
              have hO := hA.k
              have hZr := hA.r
              have hbr := hA.below
              clear hKL ER
              rw [show ((60 : Nat) : Int) = 60 from rfl]
              go_wp2_with (first | (refine law_load rfl 46 _ rfl _ rfl 46 _ hO _ Try.underlying46 rfl (by rw [bys_length, hR]; kernel_rfl) ?_) | (refine law_store rfl 46 _ _ rfl _ (bys KL) rfl rfl 46 _ hZr (by rw [bys_length, bys_length, hR, hZ]) (by rw [bys_length, hR]; kernel_rfl) (bys_one _) ?_; intro wF hoF hAF))
              refine bodyPost_ret (v := .agg (bys KL).toArray) (results_cell_row rfl _ _ (w.heap.size + 1) 46 _ _ _ rfl hAF Try.underlying46 rfl (by rw [List.size_toArray, bys_length, hR]; kernel_rfl)) rfl ⟨rfl, hoF.below hbr (by omega)⟩
end Go.Proofs.Ytjhkicfndbceoaa
