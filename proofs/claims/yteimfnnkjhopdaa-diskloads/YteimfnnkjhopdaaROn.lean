/- The document's disk: the power back on. -/
import Derived.Test.YteimfnnkjhopdaaRFlush
namespace Go.Proofs.Yteimfnnkjhopdaa
open Go.RowKit

/-- The power is on again, the first j numbers have been gone through. -/
def onAt (d : St) (xs : List Int) (j : Nat) : St := { d with off := false, lasts := kept d (xs.take j), waits := fun i => if (i : Int) ∈ xs.take j then none else d.waits i }
theorem onAt_zero (d : St) (xs : List Int) : onAt d xs 0 = { d with off := false } := st_ext rfl (fun i => by simp [onAt, kept_nil]) (fun i => by simp [onAt]) rfl rfl rfl rfl
theorem onAt_skip (d : St) (xs : List Int) (j : Nat) (x : Int) (ht : xs.take (j + 1) = xs.take j ++ [x]) (hm : ∀ i : Nat, (i : Int) = x → (onAt d xs j).waits i = none) : onAt d xs (j + 1) = onAt d xs j := by
  refine st_ext rfl (fun i => ?_) (fun i => ?_) rfl rfl rfl rfl
  · show kept d (xs.take (j + 1)) i = kept d (xs.take j) i
    rw [ht]
    unfold kept
    by_cases e : (i : Int) = x
    · by_cases q : (i : Int) ∈ xs.take j
      · rw [if_pos q, if_pos (List.mem_append_left _ q)]
      · rw [if_neg q, if_pos (by simp [e])]
        have h1 : (if (i : Int) ∈ xs.take j then none else d.waits i) = none := hm i e
        rw [if_neg q] at h1
        unfold St.at
        rw [h1]
        rfl
    · simp [e]
  · show (if (i : Int) ∈ xs.take (j + 1) then none else d.waits i) = if (i : Int) ∈ xs.take j then none else d.waits i
    rw [ht]
    by_cases e : (i : Int) = x
    · have h1 : (if (i : Int) ∈ xs.take j then none else d.waits i) = none := hm i e
      rw [h1, if_pos (by simp [e])]
    · simp [e]
theorem onAt_hit (d : St) (xs : List Int) (j i : Nat) (ht : xs.take (j + 1) = xs.take j ++ [(i : Int)]) (s : Sec) (hw : (onAt d xs j).waits i = some s) : (onAt d xs j).one i s = onAt d xs (j + 1) := by
  have h1 : (if (i : Int) ∈ xs.take j then none else d.waits i) = some s := hw
  have hq : ¬ (i : Int) ∈ xs.take j := fun q => by rw [if_pos q] at h1; cases h1
  rw [if_neg hq] at h1
  refine st_ext rfl (fun k => ?_) (fun k => ?_) rfl rfl rfl rfl
  · show upd (kept d (xs.take j)) i s k = kept d (xs.take (j + 1)) k
    rw [ht, kept_hit d _ i s h1]
  · show upd (fun k : Nat => if (k : Int) ∈ xs.take j then none else d.waits k) i none k = if (k : Int) ∈ xs.take (j + 1) then none else d.waits k
    rw [ht]
    by_cases e : k = i
    · subst e
      rw [upd_same, if_pos (by simp)]
    · rw [upd_ne _ _ _ _ e]
      have : ¬ (k : Int) = (i : Int) := by omega
      simp [this]
/-- Nothing is pending in the first j sectors. -/
def bareTo (d : St) (j : Nat) : St := { d with waits := fun i => if i < j then none else d.waits i }
theorem bareTo_zero (d : St) : bareTo d 0 = d := st_ext rfl (fun i => rfl) (fun i => by simp [bareTo]) rfl rfl rfl rfl
theorem bareTo_succ (d : St) (j : Nat) : (bareTo d j).bare j = bareTo d (j + 1) := by
  refine st_ext rfl (fun i => rfl) (fun i => ?_) rfl rfl rfl rfl
  show upd (fun i => if i < j then none else d.waits i) j none i = if i < j + 1 then none else d.waits i
  by_cases e : i = j
  · subst e
    rw [upd_same, if_pos (by omega)]
  · rw [upd_ne _ _ _ _ e]
    by_cases q : i < j
    · rw [if_pos q, if_pos (by omega)]
    · rw [if_neg q, if_neg (by omega)]
theorem bareTo_all (d : St) (xs : List Int) (j : Nat) (hj : xs.take j = xs) (hlow : ∀ i, d.n ≤ i → d.waits i = none) : bareTo (onAt d xs j) d.n = d.on xs := by
  refine st_ext rfl (fun i => ?_) (fun i => ?_) rfl rfl rfl rfl
  · show kept d (xs.take j) i = kept d xs i
    rw [hj]
  · show (if i < d.n then none else (if (i : Int) ∈ xs.take j then none else d.waits i)) = none
    by_cases q : i < d.n
    · rw [if_pos q]
    · rw [if_neg q, hlow i (by omega)]
      split <;> rfl
theorem rpo_not (w : World) (r a b h : Nat) (d : St) (L : RLay w r a b h d) (ho : d.off = false) (ao : Option Addr) (n c : Nat) : Calls Try.prog 39 #[.pointer (some ⟨r, 0, none⟩), .slice ao n c] w fun e w' => e = .returned (.int .i64 70) ∧ w = w' := by
  have c3 := L.c3
  rw [ho] at c3
  go_enter Try.func39, Try.ntmps39
  go_wp2
  go_ret
  exact ⟨rfl, rfl⟩
set_option maxRecDepth 100000 in
set_option maxHeartbeats 4000000 in
theorem rpo_good (w : World) (r a b h : Nat) (d : St) (L : RLay w r a b h d) (ho : d.off = true) (ao : Option Addr) (n c : Nat) (xs : List Int) (hx : Ints w ao n xs) (hap : ∀ ad, ao = some ad → 0 < n → ¬ rfp r a b h ad.block) (hn : n ≤ maxLen) :
    Calls Try.prog 39 #[.pointer (some ⟨r, 0, none⟩), .slice ao n c] w fun e w' => e = .returned (.int .i64 0) ∧ RTurn w w' r a b h (d.on xs) := by
  have c3 := L.c3
  rw [ho] at c3
  have f3 := L.fz 3
  have hL1 : RLay (w.setCell ⟨r, 3, none⟩ (.bool false)) r a b h { d with off := false } := L.put 3 _ _ rfl rfl rfl rfl L.arm
  have hF1 : Fr (rfp r a b h) w (w.setCell ⟨r, 3, none⟩ (.bool false)) := (Fr.refl _ w).setCell _ _ (.inl (.inl rfl))
  have hl := hx.len
  have hnI : (n : Int) ≤ 9223372036854775807 := by unfold maxLen at hn; omega
  have htop := L.top
  have HLOW : Hid (∀ i, d.n ≤ i → d.waits i = none) := L.low
  rw [← onAt_zero d xs] at hL1
  go_enter Try.func39, Try.ntmps39
  go_wp2_with fail
  go_loopw [5] (fun v wr => ∃ (j : Nat), j ≤ n ∧ v = .int .i64 (j : Int) ∧ RLay wr r a b h (onAt d xs j) ∧ Fr (rfp r a b h) w wr) (fun v _ => n - (intOf v).toNat)
  case atStart => exact ⟨0, by omega, rfl, hL1, hF1⟩
  case round =>
    obtain ⟨j, hj, rfl, hL, hF⟩ := hrel
    clear hL1 hF1 c3 f3 ho
    have c2 : wr.cell? ⟨r, 2, none⟩ = some (.slice (some ⟨h, 0, none⟩) d.n d.n) := hL.c2
    by_cases hjn : j < n
    · have hjI : (j : Int) < n := by omega
      cases ao with
      | none => have := hx.bare rfl; omega
      | some ad =>
        have cx := (hx.fr hF hap).cell ad rfl j hjn
        have hts := take_snoc xs j n hl hjn
        obtain ⟨x, ex⟩ : ∃ x, x = xs.getD j 0 := ⟨_, rfl⟩
        rw [← ex] at cx hts
        clear ex
        have HTS : Hid (xs.take (j + 1) = xs.take j ++ [x]) := hts
        clear hts
        by_cases hx0 : 0 ≤ x
        · obtain ⟨i, rfl⟩ := Int.eq_ofNat_of_zero_le hx0
          by_cases hi : i < d.n
          · have hiI : (i : Int) < d.n := by omega
            have cH := hL.cH i hi
            cases hw : (onAt d xs j).waits i with
            | none =>
              rw [hw] at cH
              simp only [Option.isSome_none] at cH
              have HH : Hid (onAt d xs (j + 1) = onAt d xs j) := onAt_skip d xs j (i : Int) HTS.out (fun k hk => by rw [show k = i by omega]; exact hw)
              clear hw
              go_wp2_with fail
              go_roundw
              case rel => exact ⟨j + 1, by omega, by go_num, by rw [HH.out]; exact hL, hF⟩
              case measure => simp [intOf]; omega
            | some s =>
              rw [hw] at cH
              simp only [Option.isSome_some] at cH
              have HH : Hid ((onAt d xs j).one i s = onAt d xs (j + 1)) := onAt_hit d xs j i HTS.out s hw
              have c0 : wr.cell? ⟨r, 0, none⟩ = some (.slice (some ⟨a, 0, none⟩) d.n d.n) := hL.c0
              have c1 : wr.cell? ⟨r, 1, none⟩ = some (.slice (some ⟨b, 0, none⟩) d.n d.n) := hL.c1
              have hRA : Rw wr a d.n (onAt d xs j).lasts := hL.row
              obtain ⟨W, hW, hWs⟩ := hL.wts
              have hRB : Hid (∀ v : World, Sm wr v → v.rangeAt b (i * 512) (sb s)) := fun v q => hWs i s hw ▸ (q.row (show Rw wr b d.n W from hW)).range hi
              have h0i : (0 : Int) ≤ i := by omega
              clear hW hWs hw
              go_wp2_with fail
              refine wp_region_to (fun v => Sm wr v) 13 (by kernel_rfl) ?_
              have hS0 := Sm.drew wr
              refine wpTo_take (i := 0) (v := ?v0q) (show _ = some _ by simp only [List.getElem?_toArray, List.getElem?_cons_zero]; exact rfl) (by kernel_rfl) (by kernel_rfl) (by kernel_rfl) (by kernel_rfl) (by exact fun _ _ _ h => h) (Or.inl ⟨by rfl, ?hy0q⟩) hS0 ?r0q
              case hy0q => (intro w hSw; (try dsimp only at hSw); go_simp; try with_reducible rfl)
              (try simp only [Act.put]); (try simp only [List.setIfInBounds_toArray]); (repeat (first | simp only [List.set_cons_succ] | simp only [List.set_cons_zero]))
              refine wpTo_take (i := 1) (v := ?v1q) (show _ = some _ by simp only [List.getElem?_toArray, List.getElem?_cons_succ, List.getElem?_cons_zero]; exact rfl) (by kernel_rfl) (by kernel_rfl) (by kernel_rfl) (by kernel_rfl) (by exact fun _ _ _ h => h) (Or.inl ⟨by rfl, ?hy1q⟩) hS0 ?r1q
              case hy1q => (intro w hSw; (try dsimp only at hSw); go_simp; try with_reducible rfl)
              (try simp only [Act.put]); (try simp only [List.setIfInBounds_toArray]); (repeat (first | simp only [List.set_cons_succ] | simp only [List.set_cons_zero]))
              refine wpTo_take (i := 2) (v := ?v2q) (show _ = some _ by simp only [List.getElem?_toArray, List.getElem?_cons_succ, List.getElem?_cons_zero]; exact rfl) (by kernel_rfl) (by kernel_rfl) (by kernel_rfl) (by kernel_rfl) (by exact fun _ _ _ h => h) (Or.inl ⟨by rfl, ?hy2q⟩) hS0 ?r2q
              case hy2q => (intro w hSw; (try dsimp only at hSw); go_simp; try with_reducible rfl)
              (try simp only [Act.put]); (try simp only [List.setIfInBounds_toArray]); (repeat (first | simp only [List.set_cons_succ] | simp only [List.set_cons_zero]))
              refine wpTo_take (i := 3) (v := ?v3q) (show _ = some _ by simp only [List.getElem?_toArray, List.getElem?_cons_succ, List.getElem?_cons_zero]; exact rfl) (by kernel_rfl) (by kernel_rfl) (by kernel_rfl) (by kernel_rfl) (by exact fun _ _ _ h => h) (Or.inl ⟨by rfl, ?hy3q⟩) hS0 ?r3q
              case hy3q => (intro w hSw; (try dsimp only at hSw); have hcc := (hSw.cell _).trans c0; have hcd := (hSw.cell _).trans c1; go_simp; try with_reducible rfl)
              (try simp only [Act.put]); (try simp only [List.setIfInBounds_toArray]); (repeat (first | simp only [List.set_cons_succ] | simp only [List.set_cons_zero]))
              refine wpTo_take (i := 4) (v := ?v4q) (show _ = some _ by simp only [List.getElem?_toArray, List.getElem?_cons_succ, List.getElem?_cons_zero]; exact rfl) (by kernel_rfl) (by kernel_rfl) (by kernel_rfl) (by kernel_rfl) (by exact fun _ _ _ h => h) (Or.inl ⟨by rfl, ?hy4q⟩) hS0 ?r4q
              case hy4q => (intro w hSw; (try dsimp only at hSw); go_simp; try with_reducible rfl)
              (try simp only [Act.put]); (try simp only [List.setIfInBounds_toArray]); (repeat (first | simp only [List.set_cons_succ] | simp only [List.set_cons_zero]))
              refine wpTo_take (i := 5) (v := ?v5q) (show _ = some _ by simp only [List.getElem?_toArray, List.getElem?_cons_succ, List.getElem?_cons_zero]; exact rfl) (by kernel_rfl) (by kernel_rfl) (by kernel_rfl) (by kernel_rfl) (by exact fun _ _ _ h => h) (Or.inl ⟨by rfl, ?hy5q⟩) hS0 ?r5q
              case hy5q => (intro w hSw; (try dsimp only at hSw); go_simp; try with_reducible rfl)
              (try simp only [Act.put]); (try simp only [List.setIfInBounds_toArray]); (repeat (first | simp only [List.set_cons_succ] | simp only [List.set_cons_zero]))
              refine wpTo_take (i := 6) (v := ?v6q) (show _ = some _ by simp only [List.getElem?_toArray, List.getElem?_cons_succ, List.getElem?_cons_zero]; exact rfl) (by kernel_rfl) (by kernel_rfl) (by kernel_rfl) (by kernel_rfl) (by exact fun _ _ _ h => h) (Or.inl ⟨by rfl, ?hy6q⟩) hS0 ?r6q
              case hy6q => (intro w hSw; (try dsimp only at hSw); go_simp; try with_reducible rfl)
              (try simp only [Act.put]); (try simp only [List.setIfInBounds_toArray]); (repeat (first | simp only [List.set_cons_succ] | simp only [List.set_cons_zero]))
              refine wpTo_take (i := 7) (v := ?v7q) (show _ = some _ by simp only [List.getElem?_toArray, List.getElem?_cons_succ, List.getElem?_cons_zero]; exact rfl) (by kernel_rfl) (by kernel_rfl) (by kernel_rfl) (by kernel_rfl) (by exact fun _ _ _ h => h) (Or.inl ⟨by rfl, ?hy7q⟩) hS0 ?r7q
              case hy7q => (intro w hSw; (try dsimp only at hSw); go_simp; try with_reducible rfl)
              (try simp only [Act.put]); (try simp only [List.setIfInBounds_toArray]); (repeat (first | simp only [List.set_cons_succ] | simp only [List.set_cons_zero]))
              refine wpTo_take (i := 8) (v := ?v8q) (show _ = some _ by simp only [List.getElem?_toArray, List.getElem?_cons_succ, List.getElem?_cons_zero]; exact rfl) (by kernel_rfl) (by kernel_rfl) (by kernel_rfl) (by kernel_rfl) (by exact fun _ _ _ h => h) (Or.inl ⟨by rfl, ?hy8q⟩) hS0 ?r8q
              case hy8q => (intro w hSw; (try dsimp only at hSw); have hcc := (hSw.cell _).trans c0; have hcd := (hSw.cell _).trans c1; go_simp; try with_reducible rfl)
              (try simp only [Act.put]); (try simp only [List.setIfInBounds_toArray]); (repeat (first | simp only [List.set_cons_succ] | simp only [List.set_cons_zero]))
              refine wpTo_take (i := 9) (v := ?v9q) (show _ = some _ by simp only [List.getElem?_toArray, List.getElem?_cons_succ, List.getElem?_cons_zero]; exact rfl) (by kernel_rfl) (by kernel_rfl) (by kernel_rfl) (by kernel_rfl) (by exact fun _ _ _ h => h) (Or.inl ⟨by rfl, ?hy9q⟩) hS0 ?r9q
              case hy9q => (intro w hSw; (try dsimp only at hSw); go_simp; try with_reducible rfl)
              (try simp only [Act.put]); (try simp only [List.setIfInBounds_toArray]); (repeat (first | simp only [List.set_cons_succ] | simp only [List.set_cons_zero]))
              refine wpTo_take (i := 10) (v := ?v10q) (show _ = some _ by simp only [List.getElem?_toArray, List.getElem?_cons_succ, List.getElem?_cons_zero]; exact rfl) (by kernel_rfl) (by kernel_rfl) (by kernel_rfl) (by kernel_rfl) (by exact fun _ _ _ h => h) (Or.inl ⟨by rfl, ?hy10q⟩) hS0 ?r10q
              case hy10q => (intro w hSw; (try dsimp only at hSw); go_simp; try with_reducible rfl)
              (try simp only [Act.put]); (try simp only [List.setIfInBounds_toArray]); (repeat (first | simp only [List.set_cons_succ] | simp only [List.set_cons_zero]))
              refine wpTo_take (i := 11) (show _ = some _ by simp only [List.getElem?_toArray, List.getElem?_cons_succ, List.getElem?_cons_zero]; exact rfl) (by kernel_rfl) (by kernel_rfl) (by kernel_rfl) (by kernel_rfl) (by exact fun _ _ _ h => h) (yieldsIf_load_mid (by rfl) 39 (.tmp 56) rfl b (i * 512) rfl (sb s) _ (fun v q => hRB.out v q) Try.underlying39 rfl (by rw [sb_length]; kernel_rfl)) hS0 ?_
              (try simp only [Act.put]); (try simp only [List.setIfInBounds_toArray]); (repeat (first | simp only [List.set_cons_succ] | simp only [List.set_cons_zero]))
              refine wpTo_take (i := 12) (v := ?v12q) (show _ = some _ by simp only [List.getElem?_toArray, List.getElem?_cons_succ, List.getElem?_cons_zero]; exact rfl) (by kernel_rfl) (by kernel_rfl) (by kernel_rfl) (by kernel_rfl) (by exact fun _ _ _ h => h) (Or.inl ⟨by rfl, ?hy12q⟩) hS0 ?r12q
              case hy12q => (intro w hSw; (try dsimp only at hSw); go_simp; try with_reducible rfl)
              (try simp only [Act.put]); (try simp only [List.setIfInBounds_toArray]); (repeat (first | simp only [List.set_cons_succ] | simp only [List.set_cons_zero]))
              refine wpTo_last (by kernel_rfl) (show _ = some _ by simp only [List.getElem?_toArray, List.getElem?_cons_succ, List.getElem?_cons_zero]; exact rfl) (by kernel_rfl) (fun K hK => ?_)
              rw [if_pos (by rfl)]
              refine put_row _ _ rfl a d.n _ (hS0.row hRA) i hi s rfl rfl (fun hR5 => ?_)
              refine hK.out _ _ ?_
              clear hK K
              (try simp only [Act.put]); (try simp only [List.setIfInBounds_toArray]); (repeat (first | simp only [List.set_cons_succ] | simp only [List.set_cons_zero]))
              have hLx := rlast_lay hL.drew i hi s
              have c2x : (wr.drew.setCells a (i * 512) (sb s)).cell? ⟨r, 2, none⟩ = some (.slice (some ⟨h, 0, none⟩) d.n d.n) := hLx.c2
              have cHx := hLx.cH i hi
              have fHx := hLx.has.fz i
              have hFx := ((Fr.drew hF).setCells a (i * 512) (sb s) (.inl (.inr (.inl rfl)))).setCell ⟨h, i, none⟩ (.bool false) (.inl (.inr (.inr (.inr rfl))))
              have hLy := rbare_lay hLx i
              go_wp2_with fail
              go_roundw
              case rel => exact ⟨j + 1, by omega, by go_num, by rw [← HH.out]; exact hLy, hFx⟩
              case measure => simp [intOf]; omega
          · have hiI : ¬ (i : Int) < d.n := by omega
            have HH : Hid (onAt d xs (j + 1) = onAt d xs j) := onAt_skip d xs j (i : Int) HTS.out (fun k hk => by rw [show k = i by omega]; exact hL.low i (by show d.n ≤ i; omega))
            go_wp2_with fail
            go_roundw
            case rel => exact ⟨j + 1, by omega, by go_num, by rw [HH.out]; exact hL, hF⟩
            case measure => simp [intOf]; omega
        · have HH : Hid (onAt d xs (j + 1) = onAt d xs j) := onAt_skip d xs j x HTS.out (fun k hk => by omega)
          go_wp2_with fail
          go_roundw
          case rel => exact ⟨j + 1, by omega, by go_num, by rw [HH.out]; exact hL, hF⟩
          case measure => simp [intOf]; omega
    · have hjI : ¬ (j : Int) < n := by omega
      have htk : xs.take j = xs := List.take_of_length_le (by omega)
      have HALL : Hid (bareTo (onAt d xs j) d.n = d.on xs) := bareTo_all d xs j htk HLOW.out
      obtain ⟨D, hD⟩ : ∃ D, D = onAt d xs j := ⟨_, rfl⟩
      have hDn : Hid (D.n = d.n) := by show _ = _; rw [hD]; rfl
      have HA : Hid (bareTo D d.n = d.on xs) := by rw [hD]; exact HALL.out
      rw [← hD] at hL
      clear hD htk HALL
      go_wp2_with fail
      obtain ⟨w2, hw2⟩ : ∃ u, u = wr := ⟨_, rfl⟩
      subst hw2
      go_loopw [7] (fun v w3 => ∃ (j : Nat), j ≤ d.n ∧ v = .int .i64 (j : Int) ∧ RLay w3 r a b h (bareTo D j) ∧ Fr (rfp r a b h) w w3) (fun v _ => d.n - (intOf v).toNat)
      case atStart => exact ⟨0, by omega, rfl, by rw [bareTo_zero]; exact hL, hF⟩
      case round =>
        clear hL hF c2
        obtain ⟨j, hj, rfl, hL, hF⟩ := hrel
        have c2 := hL.c2
        have hbn : (bareTo D j).n = d.n := hDn.out
        rw [hbn] at c2
        by_cases hi : j < d.n
        · have hjI : (j : Int) < d.n := by omega
          have cH := hL.cH j (by rw [hbn]; exact hi)
          have fH := hL.has.fz j
          have hLy := rbare_lay hL j
          rw [bareTo_succ] at hLy
          have hFx := hF.setCell ⟨h, j, none⟩ (.bool false) (.inl (.inr (.inr (.inr rfl))))
          clear hbn
          go_wp2_with fail
          go_roundw
          case rel => exact ⟨j + 1, by omega, by go_num, hLy, hFx⟩
          case measure => simp [intOf]; omega
        · have hjI : ¬ (j : Int) < d.n := by omega
          have ej : j = d.n := by omega
          rw [ej, HA.out] at hL
          clear ej hbn
          go_wp2_with fail
          go_ret
          exact ⟨rfl, hL, hF⟩
theorem rpo_any (w : World) (r a b h : Nat) (d : St) (L : RLay w r a b h d) (ao : Option Addr) (n c : Nat) (xs : List Int) (hx : Ints w ao n xs) (hap : ∀ ad, ao = some ad → 0 < n → ¬ rfp r a b h ad.block) (hn : n ≤ maxLen) :
    Calls Try.prog 39 #[.pointer (some ⟨r, 0, none⟩), .slice ao n c] w fun e w' => e = .returned (.int .i64 (d.po xs).2) ∧ RTurn w w' r a b h (d.po xs).1 := by
  unfold St.po
  by_cases ho : d.off = true
  · rw [if_pos ho]
    exact rpo_good w r a b h d L ho ao n c xs hx hap hn
  · rw [if_neg ho]
    exact (rpo_not w r a b h d L (by simpa using ho) ao n c).mono fun e w' ⟨he, hb⟩ => by subst hb; exact ⟨he, L, Fr.refl _ _⟩
end Go.Proofs.Yteimfnnkjhopdaa
