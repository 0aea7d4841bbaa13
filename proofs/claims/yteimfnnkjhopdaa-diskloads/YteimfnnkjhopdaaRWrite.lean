/- The document's disk: a sector written. -/
import Derived.Test.YteimfnnkjhopdaaRRead
namespace Go.Proofs.Yteimfnnkjhopdaa
open Go.RowKit

theorem rwrite_lay (w : World) (r a b h : Nat) (d : St) (L : RLay w r a b h d.more) (i : Nat) (hi : i < d.n) (s : Sec) : RLay ((w.setCells b (i * 512) (sb s)).setCell ⟨h, i, none⟩ (.bool true)) r a b h (d.write i s) := by
  obtain ⟨W, hW, hWs⟩ := L.wts
  have hF := (Fr.refl (fun k => k = b) w).setCells b (i * 512) (sb s) (.inl rfl)
  refine ⟨(L.blk.fr hF (fun e => L.br e.symm)).beside _ L.hr.symm, (L.row.fr hF L.ab).same (heap_setCell_other _ _ _ _ L.ah), ⟨upd W i s, (hW.put hi s).same (heap_setCell_other _ _ _ _ L.bh), fun j t hj => ?_⟩, ?_, L.ab, L.one, L.top, fun j hj => ?_, L.arm⟩
  · have hj' : upd d.waits i (some s) j = some t := hj
    by_cases e : j = i
    · subst e
      rw [upd_same] at hj' ⊢
      cases hj'
      rfl
    · rw [upd_ne _ _ _ _ e] at hj' ⊢
      exact hWs j t hj'
  · have h1 := (L.has.fr hF (fun e => L.bh e.symm)).set i (.bool true)
    rw [bools_set] at h1
    have e : upd (fun i => ((d.more).waits i).isSome) i true = fun j => ((d.write i s).waits j).isSome := by
      funext j
      show upd (fun i => (d.waits i).isSome) i true j = (upd d.waits i (some s) j).isSome
      unfold upd
      split <;> rfl
    rw [e] at h1
    exact h1
  · have hj2 : d.n ≤ j := hj
    show upd d.waits i (some s) j = none
    rw [upd_ne _ _ _ _ (by omega)]
    exact L.low j hj2
theorem rmore_lay (w : World) (r a b h : Nat) (d : St) (L : RLay w r a b h d) (T : Nat) (hT : T = d.writes + 1) : RLay (w.setCell ⟨r, 5, none⟩ (.int .i64 (T : Int))) r a b h d.more ∧ Fr (rfp r a b h) w (w.setCell ⟨r, 5, none⟩ (.int .i64 (T : Int))) := by
  subst hT
  exact ⟨L.put 5 _ d.more rfl rfl rfl rfl L.arm, (Fr.refl _ w).setCell _ _ (.inl (.inl rfl))⟩
set_option maxRecDepth 100000 in
set_option maxHeartbeats 2000000 in
theorem rwr_bad (w : World) (r a b h : Nat) (d : St) (L : RLay w r a b h d) (i E : Int) (s : Sec) (hE : d.no i = E) (h0 : E ≠ 0) :
    Calls Try.prog 33 #[.pointer (some ⟨r, 0, none⟩), .int .i64 i, .agg (sb s).toArray] w fun e w' => e = .returned (.int .i64 E) ∧ Below w.heap.size w w' := by
  have hL := L.alloc (.cells (sb s).toArray 39)
  have c3 := hL.c3
  have c0 := hL.c0
  have fin : Below w.heap.size w (w.alloc (.cells (sb s).toArray 39)) := (Below.refl _ w).alloc (Nat.le_refl _) _
  unfold St.no at hE
  by_cases ho : d.off = true
  · rw [if_pos ho] at hE
    rw [ho] at c3
    subst hE
    go_enter Try.func33, Try.ntmps33
    go_wp2
    go_ret
    exact ⟨rfl, fin⟩
  · rw [if_neg ho] at hE
    have ho' : d.off = false := by simpa using ho
    rw [ho'] at c3
    by_cases hi : i < 0 ∨ (d.n : Int) ≤ i
    · rw [if_pos hi] at hE
      subst hE
      by_cases h1 : i < 0
      · go_enter Try.func33, Try.ntmps33
        go_wp2
        go_ret
        exact ⟨rfl, fin⟩
      · have h2 : (d.n : Int) ≤ i := by omega
        go_enter Try.func33, Try.ntmps33
        go_wp2
        go_ret
        exact ⟨rfl, fin⟩
    · rw [if_neg hi] at hE
      exact absurd hE.symm h0
set_option maxRecDepth 100000 in
set_option maxHeartbeats 2000000 in
theorem rwr_good (w : World) (r a b h : Nat) (d : St) (L : RLay w r a b h d) (i : Nat) (s : Sec) (ho : d.off = false) (hi0 : i < d.n) (hw : d.writes < 1000000000) :
    Calls Try.prog 33 #[.pointer (some ⟨r, 0, none⟩), .int .i64 i, .agg (sb s).toArray] w fun e w' => e = .returned (.int .i64 (d.write i s).op.2) ∧ RTurn w w' r a b h (d.write i s).op.1 := by
  have hL := L.alloc (.cells (sb s).toArray 39)
  have hA := Blk.new w 39 (sb s)
  obtain ⟨G, hG⟩ : ∃ G, G = w.heap.size := ⟨_, rfl⟩
  have hGr : r ≠ G := by have := L.blk.lt; omega
  have htop := L.top
  have c3 := hL.c3
  have c0 := hL.c0
  have c5 := hL.c5
  have f5 := hL.fz 5
  rw [ho] at c3
  obtain ⟨T, hT⟩ : ∃ T, T = d.writes + 1 := ⟨_, rfl⟩
  have hwI : (d.writes : Int) + 1 = (T : Int) := by omega
  obtain ⟨hL1, hF1⟩ := rmore_lay _ r a b h d hL T hT
  have hwr : IntKind.i64.wrap ((d.writes : Int) + 1) = (T : Int) := by rw [IntKind.wrap_i64]; omega
  have hwr2 : IntKind.i64.wrap (T : Int) = (T : Int) := by rw [IntKind.wrap_i64]; omega
  have hG1 : Blk ((w.alloc (.cells (sb s).toArray 39)).setCell ⟨r, 5, none⟩ (.int .i64 (T : Int))) G 39 (sb s) := by
    rw [hG]
    exact hA.beside (a := ⟨r, 5, none⟩) _ (by rw [← hG]; exact fun e => hGr e.symm)
  have hI0 : ¬ (i : Int) < 0 := by omega
  have hI1 : ¬ (d.n : Int) ≤ i := by omega
  have hI2 : (i : Int) < d.n := by omega
  have hF2 : Fr (rfp r a b h) w ((w.alloc (.cells (sb s).toArray 39)).setCell ⟨r, 5, none⟩ (.int .i64 (T : Int))) := ((Fr.refl _ w).alloc _).setCell _ _ (.inl (.inl rfl))
  have HW : Hid (d.writes < 1000000000) := hw
  have HO : Hid (d.off = false) := ho
  obtain ⟨D, hD⟩ : ∃ D, D = d.write i s := ⟨_, rfl⟩
  have hoD : D.off = false := by rw [hD]; exact ho
  have hop := op_two D
  have hg := fun v q => rgoes_any v r a b h D q hoD
  rw [← hD]
  obtain ⟨β, hβ⟩ : ∃ β, β = decide (D.armed = 1) := ⟨_, rfl⟩
  obtain ⟨E, hE⟩ : ∃ E, E = D.op.2 := ⟨_, rfl⟩
  rw [← hβ] at hg
  have HD : Hid (D = d.write i s) := hD
  have HE : Hid (E = if β = true then 6 else 0) := by
    show _ = _
    rw [hE, hop, hβ]
    by_cases q : D.armed = 1 <;> simp [q]
  rw [← hE]
  have HG : Hid (∀ (v : World), RLay v r a b h D → Calls Try.prog 48 #[.pointer (some ⟨r, 0, none⟩)] v fun e w' => e = .returned (.bool β) ∧ RTurn v w' r a b h D.op.1) := hg
  clear hT hw ho hF1 hD hop hg hβ hE hoD
  go_enter Try.func33, Try.ntmps33
  go_wp2_with fail
  rw [← hG]
  obtain ⟨w1, hw1⟩ : ∃ U, U = ((w.alloc (.cells (sb s).toArray 39)).setCell ⟨r, 5, none⟩ (.int .i64 (T : Int))) := ⟨_, rfl⟩
  rw [← hw1] at hL1 hG1 hF2 ⊢
  clear hw1 hG hA hL c0 c3 c5 f5 hGr
  have c1 := hL1.c1
  obtain ⟨W, hW1, -⟩ := hL1.wts
  obtain ⟨k, hk⟩ : ∃ k, k = d.n := ⟨_, rfl⟩
  have HK : Hid (k = d.n) := hk
  have hmn : d.more.n = k := hk.symm
  rw [hmn] at hW1 c1
  have hi : i < k := by omega
  rw [← hk] at hI1 hI2 hi0 htop
  clear hk hmn
  have h0i : (0 : Int) ≤ i := by omega
  refine wp_region_to (fun v => Sm w1 v) 7 (by kernel_rfl) ?_
  have hS0 := Sm.drew w1
  refine wpTo_take (i := 0) (v := ?v0q) (show _ = some _ by simp only [List.getElem?_toArray, List.getElem?_cons_zero]; exact rfl) (by kernel_rfl) (by kernel_rfl) (by kernel_rfl) (by kernel_rfl) (by exact fun _ _ _ h => h) (Or.inl ⟨by rfl, ?hy0q⟩) hS0 ?r0q
  case hy0q => (intro w hSw; (try dsimp only at hSw); go_simp; try with_reducible rfl)
  (try simp only [Act.put]); (try simp only [List.setIfInBounds_toArray]); (repeat (first | simp only [List.set_cons_succ] | simp only [List.set_cons_zero]))
  refine wpTo_take (i := 1) (v := ?v1q) (show _ = some _ by simp only [List.getElem?_toArray, List.getElem?_cons_succ, List.getElem?_cons_zero]; exact rfl) (by kernel_rfl) (by kernel_rfl) (by kernel_rfl) (by kernel_rfl) (by exact fun _ _ _ h => h) (Or.inl ⟨by rfl, ?hy1q⟩) hS0 ?r1q
  case hy1q => (intro w hSw; (try dsimp only at hSw); go_simp; try with_reducible rfl)
  (try simp only [Act.put]); (try simp only [List.setIfInBounds_toArray]); (repeat (first | simp only [List.set_cons_succ] | simp only [List.set_cons_zero]))
  refine wpTo_take (i := 2) (v := ?v2q) (show _ = some _ by simp only [List.getElem?_toArray, List.getElem?_cons_succ, List.getElem?_cons_zero]; exact rfl) (by kernel_rfl) (by kernel_rfl) (by kernel_rfl) (by kernel_rfl) (by exact fun _ _ _ h => h) (Or.inl ⟨by rfl, ?hy2q⟩) hS0 ?r2q
  case hy2q => (intro w hSw; (try dsimp only at hSw); go_simp; try with_reducible rfl)
  (try simp only [Act.put]); (try simp only [List.setIfInBounds_toArray]); (repeat (first | simp only [List.set_cons_succ] | simp only [List.set_cons_zero]))
  refine wpTo_take (i := 3) (v := ?v3q) (show _ = some _ by simp only [List.getElem?_toArray, List.getElem?_cons_succ, List.getElem?_cons_zero]; exact rfl) (by kernel_rfl) (by kernel_rfl) (by kernel_rfl) (by kernel_rfl) (by exact fun _ _ _ h => h) (Or.inl ⟨by rfl, ?hy3q⟩) hS0 ?r3q
  case hy3q => (intro w hSw; (try dsimp only at hSw); have hcc := (hSw.cell _).trans c1; go_simp; try with_reducible rfl)
  (try simp only [Act.put]); (try simp only [List.setIfInBounds_toArray]); (repeat (first | simp only [List.set_cons_succ] | simp only [List.set_cons_zero]))
  refine wpTo_take (i := 4) (v := ?v4q) (show _ = some _ by simp only [List.getElem?_toArray, List.getElem?_cons_succ, List.getElem?_cons_zero]; exact rfl) (by kernel_rfl) (by kernel_rfl) (by kernel_rfl) (by kernel_rfl) (by exact fun _ _ _ h => h) (Or.inl ⟨by rfl, ?hy4q⟩) hS0 ?r4q
  case hy4q => (intro w hSw; (try dsimp only at hSw); go_simp; try with_reducible rfl)
  (try simp only [Act.put]); (try simp only [List.setIfInBounds_toArray]); (repeat (first | simp only [List.set_cons_succ] | simp only [List.set_cons_zero]))
  refine wpTo_take (i := 5) (show _ = some _ by simp only [List.getElem?_toArray, List.getElem?_cons_succ, List.getElem?_cons_zero]; exact rfl) (by kernel_rfl) (by kernel_rfl) (by kernel_rfl) (by kernel_rfl) (by exact fun _ _ _ h => h) (yieldsIf_load_mid (by rfl) 39 (.tmp 5) rfl G 0 rfl (sb s) _ (fun v q => (q.blk hG1).whole) Try.underlying39 rfl (by rw [sb_length]; kernel_rfl)) hS0 ?_
  (try simp only [Act.put]); (try simp only [List.setIfInBounds_toArray]); (repeat (first | simp only [List.set_cons_succ] | simp only [List.set_cons_zero]))
  refine wpTo_take (i := 6) (v := ?v6q) (show _ = some _ by simp only [List.getElem?_toArray, List.getElem?_cons_succ, List.getElem?_cons_zero]; exact rfl) (by kernel_rfl) (by kernel_rfl) (by kernel_rfl) (by kernel_rfl) (by exact fun _ _ _ h => h) (Or.inl ⟨by rfl, ?hy6q⟩) hS0 ?r6q
  case hy6q => (intro w hSw; (try dsimp only at hSw); go_simp; try with_reducible rfl)
  (try simp only [Act.put]); (try simp only [List.setIfInBounds_toArray]); (repeat (first | simp only [List.set_cons_succ] | simp only [List.set_cons_zero]))
  refine wpTo_last (by kernel_rfl) (show _ = some _ by simp only [List.getElem?_toArray, List.getElem?_cons_succ, List.getElem?_cons_zero]; exact rfl) (by kernel_rfl) (fun K hK => ?_)
  rw [if_pos (by rfl)]
  refine put_row _ _ rfl b k _ (hS0.row hW1) i hi s rfl rfl (fun hR5 => ?_)
  refine hK.out _ _ ?_
  clear hK K
  (try simp only [Act.put]); (try simp only [List.setIfInBounds_toArray]); (repeat (first | simp only [List.set_cons_succ] | simp only [List.set_cons_zero]))
  have hL2 := hL1.drew
  have hi' : i < d.n := HK.out ▸ hi
  have hL3 := rwrite_lay w1.drew r a b h d hL2 i hi' s
  have hFb := (Fr.refl (fun k => k = b) w1.drew).setCells b (i * 512) (sb s) (.inl rfl)
  have hB2 := hL2.blk.fr hFb (fun e => hL2.br e.symm)
  have hH2 := hL2.has.fr hFb (fun e => hL2.bh e.symm)
  have c2 := hB2.cell 2 _ rfl
  have cH := hH2.cell i _ (bools_get _ _ i hi')
  have fH := hH2.fz i
  have hF3 := ((Fr.drew hF2).setCells b (i * 512) (sb s) (.inl (.inr (.inr (.inl rfl))))).setCell ⟨h, i, none⟩ (.bool true) (.inl (.inr (.inr (.inr rfl))))
  have hmn : d.more.n = k := HK.out.symm
  rw [hmn] at c2
  rw [← HD.out] at hL3
  clear hL1 hL2 hG1 hF2 hB2 hH2 c1 hFb hW1 hR5 hS0
  clear hmn hi' hi0
  cases β
  · go_wp2_with fail
    go_at_call 48; refine (HG.out _ hL3).mono ?_; rintro e w4 ⟨rfl, hL4, hF4⟩
    go_wp2_with fail
    go_ret
    exact ⟨by rw [HE.out]; rfl, hL4, hF3.trans hF4 (fun _ _ q => q)⟩
  · go_wp2_with fail
    go_at_call 48; refine (HG.out _ hL3).mono ?_; rintro e w4 ⟨rfl, hL4, hF4⟩
    go_wp2_with fail
    go_ret
    exact ⟨by rw [HE.out]; rfl, hL4, hF3.trans hF4 (fun _ _ q => q)⟩
theorem rwr_any (w : World) (r a b h : Nat) (d : St) (L : RLay w r a b h d) (i : Int) (s : Sec) (hw : d.writes < 1000000000) :
    Calls Try.prog 33 #[.pointer (some ⟨r, 0, none⟩), .int .i64 i, .agg (sb s).toArray] w fun e w' => e = .returned (.int .i64 (d.wr i s).2) ∧ RTurn w w' r a b h (d.wr i s).1 := by
  unfold St.wr
  by_cases ho : d.off = true
  · rw [if_pos ho]
    exact (rwr_bad w r a b h d L i 6 s (by unfold St.no; rw [if_pos ho]) (by decide)).mono fun e w' ⟨he, hb⟩ => ⟨he, L.next hb, Fr.of_below hb (Nat.le_refl _)⟩
  · rw [if_neg ho]
    by_cases hi : i < 0 ∨ (d.n : Int) ≤ i
    · rw [if_pos hi]
      exact (rwr_bad w r a b h d L i 2 s (by unfold St.no; rw [if_neg ho, if_pos hi]) (by decide)).mono fun e w' ⟨he, hb⟩ => ⟨he, L.next hb, Fr.of_below hb (Nat.le_refl _)⟩
    · rw [if_neg hi]
      obtain ⟨k, rfl⟩ := Int.eq_ofNat_of_zero_le (show 0 ≤ i by omega)
      exact rwr_good w r a b h d L k s (by simpa using ho) (by omega) hw
end Go.Proofs.Yteimfnnkjhopdaa
