/- The document's disk: what is pending is flushed. -/
import Derived.Test.YteimfnnkjhopdaaRWrite
namespace Go.Proofs.Yteimfnnkjhopdaa
open Go.RowKit

theorem st_ext {d e : St} (h1 : d.n = e.n) (h2 : ∀ i, d.lasts i = e.lasts i) (h3 : ∀ i, d.waits i = e.waits i) (h4 : d.off = e.off) (h5 : d.armed = e.armed) (h6 : d.writes = e.writes) (h7 : d.flushes = e.flushes) : d = e := by
  cases d
  cases e
  simp only at h1 h4 h5 h6 h7
  have h2' := funext h2
  have h3' := funext h3
  simp only at h2' h3'
  subst h1 h4 h5 h6 h7 h2' h3'
  rfl
/-- What is pending is flushed in the first j sectors. -/
def half (d : St) (j : Nat) : St := { d with lasts := fun i => if i < j then d.at i else d.lasts i, waits := fun i => if i < j then none else d.waits i }
/-- Sector i has s, and nothing is pending in it. -/
def St.one (d : St) (i : Nat) (s : Sec) : St := { d with lasts := upd d.lasts i s, waits := upd d.waits i none }
/-- Nothing is pending in sector i. -/
def St.bare (d : St) (i : Nat) : St := { d with waits := upd d.waits i none }
theorem half_zero (d : St) : half d 0 = d := st_ext rfl (fun i => by simp [half]) (fun i => by simp [half]) rfl rfl rfl rfl
theorem half_none (d : St) (j : Nat) (h : d.waits j = none) : half d (j + 1) = half d j := by
  refine st_ext rfl (fun i => ?_) (fun i => ?_) rfl rfl rfl rfl
  · show (if i < j + 1 then d.at i else d.lasts i) = if i < j then d.at i else d.lasts i
    by_cases e : i = j
    · subst e
      rw [if_pos (by omega), if_neg (by omega)]
      unfold St.at
      rw [h]
      rfl
    · by_cases q : i < j
      · rw [if_pos q, if_pos (by omega)]
      · rw [if_neg q, if_neg (by omega)]
  · show (if i < j + 1 then none else d.waits i) = if i < j then none else d.waits i
    by_cases e : i = j
    · subst e
      rw [if_pos (by omega), if_neg (by omega), h]
    · by_cases q : i < j
      · rw [if_pos q, if_pos (by omega)]
      · rw [if_neg q, if_neg (by omega)]
theorem half_some (d : St) (j : Nat) (s : Sec) (h : d.waits j = some s) : (half d j).one j s = half d (j + 1) := by
  refine st_ext rfl (fun i => ?_) (fun i => ?_) rfl rfl rfl rfl
  · show upd (fun i => if i < j then d.at i else d.lasts i) j s i = if i < j + 1 then d.at i else d.lasts i
    by_cases e : i = j
    · subst e
      rw [upd_same, if_pos (by omega)]
      unfold St.at
      rw [h]
      rfl
    · rw [upd_ne _ _ _ _ e]
      by_cases q : i < j
      · rw [if_pos q, if_pos (by omega)]
      · rw [if_neg q, if_neg (by omega)]
  · show upd (fun i => if i < j then none else d.waits i) j none i = if i < j + 1 then none else d.waits i
    by_cases e : i = j
    · subst e
      rw [upd_same, if_pos (by omega)]
    · rw [upd_ne _ _ _ _ e]
      by_cases q : i < j
      · rw [if_pos q, if_pos (by omega)]
      · rw [if_neg q, if_neg (by omega)]
theorem half_all (d : St) (hlow : ∀ i, d.n ≤ i → d.waits i = none) : half d d.n = d.all := by
  refine st_ext rfl (fun i => ?_) (fun i => ?_) rfl rfl rfl rfl
  · show (if i < d.n then d.at i else d.lasts i) = d.at i
    by_cases q : i < d.n
    · rw [if_pos q]
    · rw [if_neg q]
      unfold St.at
      rw [hlow i (by omega)]
      rfl
  · show (if i < d.n then none else d.waits i) = none
    by_cases q : i < d.n
    · rw [if_pos q]
    · rw [if_neg q, hlow i (by omega)]
theorem isSome_upd (W : Nat → Option Sec) (i : Nat) : upd (fun k => (W k).isSome) i false = fun k => (upd W i none k).isSome := by
  funext k
  unfold upd
  split <;> rfl
theorem rbare_lay {w : World} {r a b h : Nat} {d : St} (L : RLay w r a b h d) (i : Nat) : RLay (w.setCell ⟨h, i, none⟩ (.bool false)) r a b h (d.bare i) := by
  obtain ⟨W, hW, hWs⟩ := L.wts
  refine ⟨L.blk.beside _ L.hr.symm, L.row.same (heap_setCell_other _ _ _ _ L.ah), ⟨W, hW.same (heap_setCell_other _ _ _ _ L.bh), fun j t hj => ?_⟩, ?_, L.ab, L.one, L.top, fun j hj => ?_, L.arm⟩
  · have hj' : upd d.waits i none j = some t := hj
    by_cases e : j = i
    · subst e
      rw [upd_same] at hj'
      cases hj'
    · rw [upd_ne _ _ _ _ e] at hj'
      exact hWs j t hj'
  · have h1 := L.has.set i (.bool false)
    rw [bools_set, isSome_upd] at h1
    exact h1
  · show upd d.waits i none j = none
    by_cases e : j = i
    · rw [e, upd_same]
    · rw [upd_ne _ _ _ _ e]
      exact L.low j hj
theorem rlast_lay {w : World} {r a b h : Nat} {d : St} (L : RLay w r a b h d) (i : Nat) (hi : i < d.n) (s : Sec) : RLay (w.setCells a (i * 512) (sb s)) r a b h { d with lasts := upd d.lasts i s } := by
  obtain ⟨W, hW, hWs⟩ := L.wts
  have hF := (Fr.refl (fun k => k = a) w).setCells a (i * 512) (sb s) (.inl rfl)
  exact ⟨L.blk.fr hF (fun e => L.ar e.symm), L.row.put hi s, ⟨W, hW.fr hF (fun e => L.ab e.symm), hWs⟩, L.has.fr hF (fun e => L.ah e.symm), L.ab, L.one, L.top, L.low, L.arm⟩
theorem rtick_lay (w : World) (r a b h : Nat) (d : St) (L : RLay w r a b h d) (T : Nat) (hT : T = d.flushes + 1) : RLay (w.setCell ⟨r, 6, none⟩ (.int .i64 (T : Int))) r a b h d.tick ∧ Fr (rfp r a b h) w (w.setCell ⟨r, 6, none⟩ (.int .i64 (T : Int))) := by
  subst hT
  exact ⟨L.put 6 _ d.tick rfl rfl rfl rfl L.arm, (Fr.refl _ w).setCell _ _ (.inl (.inl rfl))⟩
set_option maxRecDepth 100000 in
set_option maxHeartbeats 2000000 in
theorem rfl_off (w : World) (r a b h : Nat) (d : St) (L : RLay w r a b h d) (ho : d.off = true) : Calls Try.prog 34 #[.pointer (some ⟨r, 0, none⟩)] w fun e w' => e = .returned (.int .i64 6) ∧ w = w' := by
  have c3 := L.c3
  rw [ho] at c3
  go_enter Try.func34, Try.ntmps34
  go_wp2
  go_ret
  exact ⟨rfl, rfl⟩
set_option maxRecDepth 100000 in
set_option maxHeartbeats 2000000 in
theorem rfl_good (w : World) (r a b h : Nat) (d : St) (L : RLay w r a b h d) (ho : d.off = false) (hf : d.flushes < 1000000000) (D : St) (β : Bool) (E : Int) (hE : Hid (E = if β = true then 6 else 0)) (hn : D.n = d.n) (hlow : ∀ i, D.n ≤ i → D.waits i = none)
    (HG : Hid (∀ (v : World), RLay v r a b h d.tick → Calls Try.prog 48 #[.pointer (some ⟨r, 0, none⟩)] v fun e w' => e = .returned (.bool β) ∧ RTurn v w' r a b h D)) :
    Calls Try.prog 34 #[.pointer (some ⟨r, 0, none⟩)] w fun e w' => e = .returned (.int .i64 E) ∧ RTurn w w' r a b h (if β = true then D else D.all) := by
  have c3 := L.c3
  have c6 := L.c6
  have f6 := L.fz 6
  rw [ho] at c3
  obtain ⟨T, hT⟩ : ∃ T, T = d.flushes + 1 := ⟨_, rfl⟩
  have hwI : (d.flushes : Int) + 1 = (T : Int) := by omega
  have hwr : IntKind.i64.wrap ((d.flushes : Int) + 1) = (T : Int) := by rw [IntKind.wrap_i64]; omega
  have hwr2 : IntKind.i64.wrap (T : Int) = (T : Int) := by rw [IntKind.wrap_i64]; omega
  obtain ⟨hL1, hF1⟩ := rtick_lay w r a b h d L T hT
  have htop := L.top
  have htopD : D.n ≤ 16384 := by omega
  have HLOW : Hid (∀ i, D.n ≤ i → D.waits i = none) := hlow
  clear hT ho hf hn htop hlow
  cases β
  · go_enter Try.func34, Try.ntmps34
    go_wp2_with fail
    go_at_call 48; refine (HG.out _ hL1).mono ?_; rintro e w4 ⟨rfl, hL4, hF4⟩
    have hF5 := hF1.trans hF4 (fun _ _ q => q)
    clear hF1 hF4 hL1 c3 c6 f6 HG L
    go_wp2_with fail
    go_loopw [4] (fun v wr => ∃ (j : Nat), j ≤ D.n ∧ v = .int .i64 (j : Int) ∧ RLay wr r a b h (half D j) ∧ Fr (rfp r a b h) w wr) (fun v _ => D.n - (intOf v).toNat)
    case atStart => exact ⟨0, by omega, rfl, by rw [half_zero]; exact hL4, hF5⟩
    case round =>
      obtain ⟨j, hj, rfl, hL, hF⟩ := hrel
      clear hL4 hF5
      have c2 : wr.cell? ⟨r, 2, none⟩ = some (.slice (some ⟨h, 0, none⟩) D.n D.n) := hL.c2
      by_cases hi : j < D.n
      · have hjI : (j : Int) < D.n := by omega
        have cH := hL.cH j hi
        have hwj : (half D j).waits j = D.waits j := by simp [half]
        rw [hwj] at cH
        cases hw : D.waits j with
        | none =>
          rw [hw] at cH
          simp only [Option.isSome_none] at cH
          have HH : Hid (half D (j + 1) = half D j) := half_none D j hw
          clear hw hwj
          go_wp2_with fail
          go_roundw
          case rel => exact ⟨j + 1, by omega, by go_num, by rw [HH.out]; exact hL, hF⟩
          case measure => simp [intOf]; omega
        | some s =>
          rw [hw] at cH hwj
          simp only [Option.isSome_some] at cH
          have HH : Hid ((half D j).one j s = half D (j + 1)) := half_some D j s hw
          have c0 : wr.cell? ⟨r, 0, none⟩ = some (.slice (some ⟨a, 0, none⟩) D.n D.n) := hL.c0
          have c1 : wr.cell? ⟨r, 1, none⟩ = some (.slice (some ⟨b, 0, none⟩) D.n D.n) := hL.c1
          have hRA : Rw wr a D.n (half D j).lasts := hL.row
          obtain ⟨W, hW, hWs⟩ := hL.wts
          have hRB : Hid (∀ v : World, Sm wr v → v.rangeAt b (j * 512) (sb s)) := fun v q => hWs j s hwj ▸ (q.row (show Rw wr b D.n W from hW)).range hi
          have h0j : (0 : Int) ≤ j := by omega
          clear hW hWs hw hwj
          go_wp2_with fail
          refine wp_region_to (fun v => Sm wr v) 13 (by kernel_rfl) ?_
          have hS0 := Sm.drew wr
          refine wpTo_take (i := 0) (v := ?v0q) (show _ = some _ by simp only [List.getElem?_toArray, List.getElem?_cons_zero]; exact rfl) (by kernel_rfl) (by kernel_rfl) (by kernel_rfl) (by kernel_rfl) (by exact fun _ _ _ h => h) (Or.inl ⟨by rfl, ?hy0q⟩) hS0 ?r0q
          case hy0q => (intro w hSw; (try dsimp only at hSw); go_simp; try with_reducible rfl)
          (try simp only [Act.put]); (try simp only [List.setIfInBounds_toArray]); (repeat (first | simp only [List.set_cons_succ] | simp only [List.set_cons_zero]))
          refine wpTo_take (i := 1) (v := ?v1q) (show _ = some _ by simp only [List.getElem?_toArray, List.getElem?_cons_succ, List.getElem?_cons_zero]; exact rfl) (by kernel_rfl) (by kernel_rfl) (by kernel_rfl) (by kernel_rfl) (by exact fun _ _ _ h => h) (Or.inl ⟨by rfl, ?hy1q⟩) hS0 ?r1q
          case hy1q => (intro w hSw; (try dsimp only at hSw); go_simp; try with_reducible rfl)
          (try simp only [Act.put]); (try simp only [List.setIfInBounds_toArray]); (repeat (first | simp only [List.set_cons_succ] | simp only [List.set_cons_zero]))
          refine wpTo_take (i := 2) (v := ?v2q) (show _ = some _ by simp only [List.getElem?_toArray, List.getElem?_cons_succ, List.getElem?_cons_zero]; exact rfl) (by kernel_rfl) (by kernel_rfl) (by kernel_rfl) (by kernel_rfl) (by exact fun _ _ _ h => h) (Or.inl ⟨by rfl, ?hy2q⟩) hS0 ?r2q
          case hy2q => (intro w hSw; (try dsimp only at hSw); go_simp; try with_reducible rfl)
          (try simp only [Act.put]); (try simp only [List.setIfInBounds_toArray]); (repeat (first | simp only [List.set_cons_succ] | simp only [List.set_cons_zero]))
          refine wpTo_take (i := 3) (v := ?v3q) (show _ = some _ by simp only [List.getElem?_toArray, List.getElem?_cons_succ, List.getElem?_cons_zero]; exact rfl) (by kernel_rfl) (by kernel_rfl) (by kernel_rfl) (by kernel_rfl) (by exact fun _ _ _ h => h) (Or.inl ⟨by rfl, ?hy3q⟩) hS0 ?r3q
          case hy3q => (intro w hSw; (try dsimp only at hSw); have hcc := (hSw.cell _).trans c0; have hcd := (hSw.cell _).trans c1; go_simp; try with_reducible rfl)
          (try simp only [Act.put]); (try simp only [List.setIfInBounds_toArray]); (repeat (first | simp only [List.set_cons_succ] | simp only [List.set_cons_zero]))
          refine wpTo_take (i := 4) (v := ?v4q) (show _ = some _ by simp only [List.getElem?_toArray, List.getElem?_cons_succ, List.getElem?_cons_zero]; exact rfl) (by kernel_rfl) (by kernel_rfl) (by kernel_rfl) (by kernel_rfl) (by exact fun _ _ _ h => h) (Or.inl ⟨by rfl, ?hy4q⟩) hS0 ?r4q
          case hy4q => (intro w hSw; (try dsimp only at hSw); go_simp; try with_reducible rfl)
          (try simp only [Act.put]); (try simp only [List.setIfInBounds_toArray]); (repeat (first | simp only [List.set_cons_succ] | simp only [List.set_cons_zero]))
          refine wpTo_take (i := 5) (v := ?v5q) (show _ = some _ by simp only [List.getElem?_toArray, List.getElem?_cons_succ, List.getElem?_cons_zero]; exact rfl) (by kernel_rfl) (by kernel_rfl) (by kernel_rfl) (by kernel_rfl) (by exact fun _ _ _ h => h) (Or.inl ⟨by rfl, ?hy5q⟩) hS0 ?r5q
          case hy5q => (intro w hSw; (try dsimp only at hSw); go_simp; try with_reducible rfl)
          (try simp only [Act.put]); (try simp only [List.setIfInBounds_toArray]); (repeat (first | simp only [List.set_cons_succ] | simp only [List.set_cons_zero]))
          refine wpTo_take (i := 6) (v := ?v6q) (show _ = some _ by simp only [List.getElem?_toArray, List.getElem?_cons_succ, List.getElem?_cons_zero]; exact rfl) (by kernel_rfl) (by kernel_rfl) (by kernel_rfl) (by kernel_rfl) (by exact fun _ _ _ h => h) (Or.inl ⟨by rfl, ?hy6q⟩) hS0 ?r6q
          case hy6q => (intro w hSw; (try dsimp only at hSw); go_simp; try with_reducible rfl)
          (try simp only [Act.put]); (try simp only [List.setIfInBounds_toArray]); (repeat (first | simp only [List.set_cons_succ] | simp only [List.set_cons_zero]))
          refine wpTo_take (i := 7) (v := ?v7q) (show _ = some _ by simp only [List.getElem?_toArray, List.getElem?_cons_succ, List.getElem?_cons_zero]; exact rfl) (by kernel_rfl) (by kernel_rfl) (by kernel_rfl) (by kernel_rfl) (by exact fun _ _ _ h => h) (Or.inl ⟨by rfl, ?hy7q⟩) hS0 ?r7q
          case hy7q => (intro w hSw; (try dsimp only at hSw); go_simp; try with_reducible rfl)
          (try simp only [Act.put]); (try simp only [List.setIfInBounds_toArray]); (repeat (first | simp only [List.set_cons_succ] | simp only [List.set_cons_zero]))
          refine wpTo_take (i := 8) (v := ?v8q) (show _ = some _ by simp only [List.getElem?_toArray, List.getElem?_cons_succ, List.getElem?_cons_zero]; exact rfl) (by kernel_rfl) (by kernel_rfl) (by kernel_rfl) (by kernel_rfl) (by exact fun _ _ _ h => h) (Or.inl ⟨by rfl, ?hy8q⟩) hS0 ?r8q
          case hy8q => (intro w hSw; (try dsimp only at hSw); have hcc := (hSw.cell _).trans c0; have hcd := (hSw.cell _).trans c1; go_simp; try with_reducible rfl)
          (try simp only [Act.put]); (try simp only [List.setIfInBounds_toArray]); (repeat (first | simp only [List.set_cons_succ] | simp only [List.set_cons_zero]))
          refine wpTo_take (i := 9) (v := ?v9q) (show _ = some _ by simp only [List.getElem?_toArray, List.getElem?_cons_succ, List.getElem?_cons_zero]; exact rfl) (by kernel_rfl) (by kernel_rfl) (by kernel_rfl) (by kernel_rfl) (by exact fun _ _ _ h => h) (Or.inl ⟨by rfl, ?hy9q⟩) hS0 ?r9q
          case hy9q => (intro w hSw; (try dsimp only at hSw); go_simp; try with_reducible rfl)
          (try simp only [Act.put]); (try simp only [List.setIfInBounds_toArray]); (repeat (first | simp only [List.set_cons_succ] | simp only [List.set_cons_zero]))
          refine wpTo_take (i := 10) (v := ?v10q) (show _ = some _ by simp only [List.getElem?_toArray, List.getElem?_cons_succ, List.getElem?_cons_zero]; exact rfl) (by kernel_rfl) (by kernel_rfl) (by kernel_rfl) (by kernel_rfl) (by exact fun _ _ _ h => h) (Or.inl ⟨by rfl, ?hy10q⟩) hS0 ?r10q
          case hy10q => (intro w hSw; (try dsimp only at hSw); go_simp; try with_reducible rfl)
          (try simp only [Act.put]); (try simp only [List.setIfInBounds_toArray]); (repeat (first | simp only [List.set_cons_succ] | simp only [List.set_cons_zero]))
          refine wpTo_take (i := 11) (show _ = some _ by simp only [List.getElem?_toArray, List.getElem?_cons_succ, List.getElem?_cons_zero]; exact rfl) (by kernel_rfl) (by kernel_rfl) (by kernel_rfl) (by kernel_rfl) (by exact fun _ _ _ h => h) (yieldsIf_load_mid (by rfl) 39 (.tmp 45) rfl b (j * 512) rfl (sb s) _ (fun v q => hRB.out v q) Try.underlying39 rfl (by rw [sb_length]; kernel_rfl)) hS0 ?_
          (try simp only [Act.put]); (try simp only [List.setIfInBounds_toArray]); (repeat (first | simp only [List.set_cons_succ] | simp only [List.set_cons_zero]))
          refine wpTo_take (i := 12) (v := ?v12q) (show _ = some _ by simp only [List.getElem?_toArray, List.getElem?_cons_succ, List.getElem?_cons_zero]; exact rfl) (by kernel_rfl) (by kernel_rfl) (by kernel_rfl) (by kernel_rfl) (by exact fun _ _ _ h => h) (Or.inl ⟨by rfl, ?hy12q⟩) hS0 ?r12q
          case hy12q => (intro w hSw; (try dsimp only at hSw); go_simp; try with_reducible rfl)
          (try simp only [Act.put]); (try simp only [List.setIfInBounds_toArray]); (repeat (first | simp only [List.set_cons_succ] | simp only [List.set_cons_zero]))
          refine wpTo_last (by kernel_rfl) (show _ = some _ by simp only [List.getElem?_toArray, List.getElem?_cons_succ, List.getElem?_cons_zero]; exact rfl) (by kernel_rfl) (fun K hK => ?_)
          rw [if_pos (by rfl)]
          refine put_row _ _ rfl a D.n _ (hS0.row hRA) j hi s rfl rfl (fun hR5 => ?_)
          refine hK.out _ _ ?_
          clear hK K
          (try simp only [Act.put]); (try simp only [List.setIfInBounds_toArray]); (repeat (first | simp only [List.set_cons_succ] | simp only [List.set_cons_zero]))
          have hLx := rlast_lay hL.drew j hi s
          have c2x : (wr.drew.setCells a (j * 512) (sb s)).cell? ⟨r, 2, none⟩ = some (.slice (some ⟨h, 0, none⟩) D.n D.n) := hLx.c2
          have cHx := hLx.cH j hi
          have fHx := hLx.has.fz j
          have hFx := ((Fr.drew hF).setCells a (j * 512) (sb s) (.inl (.inr (.inl rfl)))).setCell ⟨h, j, none⟩ (.bool false) (.inl (.inr (.inr (.inr rfl))))
          have hLy := rbare_lay hLx j
          go_wp2_with fail
          go_roundw
          case rel => exact ⟨j + 1, by omega, by go_num, by rw [← HH.out]; exact hLy, hFx⟩
          case measure => simp [intOf]; omega
      · have hjI : ¬ (j : Int) < D.n := by omega
        have ej : j = D.n := by omega
        go_wp2_with fail
        go_ret
        refine ⟨by rw [hE.out]; rfl, ?_, hF⟩
        rw [ej, half_all D HLOW.out] at hL
        exact hL
  · go_enter Try.func34, Try.ntmps34
    go_wp2_with fail
    go_at_call 48; refine (HG.out _ hL1).mono ?_; rintro e w4 ⟨rfl, hL4, hF4⟩
    go_wp2_with fail
    go_ret
    exact ⟨by rw [hE.out]; rfl, hL4, hF1.trans hF4 (fun _ _ q => q)⟩
theorem rfl_any (w : World) (r a b h : Nat) (d : St) (L : RLay w r a b h d) (hf : d.flushes < 1000000000) : Calls Try.prog 34 #[.pointer (some ⟨r, 0, none⟩)] w fun e w' => e = .returned (.int .i64 d.fl.2) ∧ RTurn w w' r a b h d.fl.1 := by
  unfold St.fl
  by_cases ho : d.off = true
  · rw [if_pos ho]
    exact (rfl_off w r a b h d L ho).mono fun e w' ⟨he, hb⟩ => by subst hb; exact ⟨he, L, Fr.refl _ _⟩
  · rw [if_neg ho]
    have ho' : d.off = false := by simpa using ho
    have h1 := rfl_good w r a b h d L ho' hf d.tick.op.1 (decide (d.tick.armed = 1)) (if decide (d.tick.armed = 1) = true then 6 else 0) rfl (op_n _) (by rw [op_n, op_waits]; exact L.low) (fun v q => rgoes_any v r a b h d.tick q ho')
    have h2 := op_two d.tick
    by_cases hq : d.tick.armed = 1
    · rw [if_pos hq] at h2
      rw [if_neg (by rw [h2]; decide), h2]
      simp only [hq, decide_true, if_true] at h1
      exact h1
    · rw [if_neg hq] at h2
      rw [if_pos h2]
      simp only [hq, decide_false, Bool.false_eq_true, if_false] at h1
      exact h1
end Go.Proofs.Yteimfnnkjhopdaa
