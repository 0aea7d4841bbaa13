import Derived.Test.YtndfhmlcfaaaiaaGreatDoorComR
/- Rows of sectors held against one another. -/
namespace Go.Proofs.YtndfhmlcfaaaiaaGreatDoor
open Go.RowKit

/-- The first n are the same. -/
def sm (n : Nat) (F G : Nat → Sec) : Prop := ∀ i, i < n → F i = G i
instance (n : Nat) (F G : Nat → Sec) : Decidable (sm n F G) := by unfold sm; exact inferInstance
structure QS (w v : World) (A B n : Nat) (F G : Nat → Sec) : Prop where
  a : Rw v A n F
  b : Rw v B n G
  k : Below w.heap.size w v
theorem QS.drew {w v : World} {A B n : Nat} {F G : Nat → Sec} (h : QS w v A B n F G) : QS w v.drew A B n F G := ⟨h.a.same rfl, h.b.same rfl, h.k.trans ⟨rfl, rfl, rfl, Nat.le_refl _, fun _ _ => rfl⟩⟩
set_option maxRecDepth 100000 in
set_option maxHeartbeats 2000000 in
theorem equal_any (w : World) (A B n c1 c2 : Nat) (F G : Nat → Sec) (hA : Rw w A n F) (hB : Rw w B n G) (hn : n ≤ 100000) :
    Calls Tryz.prog 108 #[.slice (some ⟨A, 0, none⟩) n c1, .slice (some ⟨B, 0, none⟩) n c2] w fun e w' => e = .returned (.bool (decide (sm n F G))) ∧ Below w.heap.size w w' := by
  obtain ⟨R, hR⟩ : ∃ R, R = decide (sm n F G) := ⟨_, rfl⟩
  rw [← hR]
  have HR : Hid (R = decide (sm n F G)) := hR
  clear hR
  go_enter Tryz.func108, Tryz.ntmps108
  go_wp2_with fail
  go_loopw [13] (fun i wr => ∃ k : Nat, k ≤ n ∧ i = .int .i64 (k : Int) ∧ Below w.heap.size w wr ∧ sm k F G) (fun i _ => n - (intOf i).toNat)
  case atStart => exact ⟨0, by omega, rfl, Below.refl _ _, fun i hi => by omega⟩
  case round =>
    obtain ⟨k, hk, rfl, hb, hs⟩ := hrel
    by_cases hlt : k < n
    · have hkI : (k : Int) < (n : Int) := by omega
      have hQ : QS w wr A B n F G := ⟨hA.same (hb.block A hA.lt), hB.same (hb.block B hB.lt), hb⟩
      obtain ⟨s, hsd⟩ : ∃ s, s = F k := ⟨_, rfl⟩
      obtain ⟨t, htd⟩ : ∃ t, t = G k := ⟨_, rfl⟩
      have HSd : Hid (s = F k) := hsd
      have HTd : Hid (t = G k) := htd
      have gA : ∀ v, QS w v A B n F G → v.rangeAt A (k * 512) (sb s) := fun v h => by rw [hsd]; exact h.a.range hlt
      have gB : ∀ v, QS w v A B n F G → v.rangeAt B (k * 512) (sb t) := fun v h => by rw [htd]; exact h.b.range hlt
      have GA : Hid (∀ v, QS w v A B n F G → v.rangeAt A (k * 512) (sb s)) := gA
      have GB : Hid (∀ v, QS w v A B n F G → v.rangeAt B (k * 512) (sb t)) := gB
      have hq := fun W => eq39 s t W
      clear hsd htd gA gB
      by_cases e : s = t
      · rw [decide_eq_true e] at hq
        have HE : Hid (s = t) := e
        clear e
        go_wp2_with fail
        refine wp_region_s (fun v => QS w v A B n F G) 9 (by kernel_rfl) hQ.drew ?_
        refine wpS_take (i := 0) (v := ?v0u) (show _ = some _ by simp only [List.getElem?_toArray, List.getElem?_cons_zero]; exact rfl) (by kernel_rfl) (by kernel_rfl) (by kernel_rfl) (by kernel_rfl) (by exact fun _ _ _ h => h) (Tells.of_yields (Or.inl ⟨by rfl, ?hy0u⟩)) ?r0u
        case hy0u => (intro w hSw; (try dsimp only at hSw); go_simp; try with_reducible rfl)
        (try simp only [Act.put]); (try simp only [List.setIfInBounds_toArray]); (repeat (first | simp only [List.set_cons_succ] | simp only [List.set_cons_zero]))
        refine wpS_take (i := 1) (v := ?v1u) (show _ = some _ by simp only [List.getElem?_toArray, List.getElem?_cons_succ, List.getElem?_cons_zero]; exact rfl) (by kernel_rfl) (by kernel_rfl) (by kernel_rfl) (by kernel_rfl) (by exact fun _ _ _ h => h) (Tells.of_yields (Or.inl ⟨by rfl, ?hy1u⟩)) ?r1u
        case hy1u => (intro w hSw; (try dsimp only at hSw); go_simp; try with_reducible rfl)
        (try simp only [Act.put]); (try simp only [List.setIfInBounds_toArray]); (repeat (first | simp only [List.set_cons_succ] | simp only [List.set_cons_zero]))
        refine wpS_take (i := 2) (v := ?v2u) (show _ = some _ by simp only [List.getElem?_toArray, List.getElem?_cons_succ, List.getElem?_cons_zero]; exact rfl) (by kernel_rfl) (by kernel_rfl) (by kernel_rfl) (by kernel_rfl) (by exact fun _ _ _ h => h) (Tells.of_yields (Or.inl ⟨by rfl, ?hy2u⟩)) ?r2u
        case hy2u => (intro w hSw; (try dsimp only at hSw); go_simp; try with_reducible rfl)
        (try simp only [Act.put]); (try simp only [List.setIfInBounds_toArray]); (repeat (first | simp only [List.set_cons_succ] | simp only [List.set_cons_zero]))
        refine wpS_take (i := 3) (show _ = some _ by simp only [List.getElem?_toArray, List.getElem?_cons_succ, List.getElem?_cons_zero]; exact rfl) (by kernel_rfl) (by kernel_rfl) (by kernel_rfl) (by kernel_rfl) (by exact fun _ _ _ h => h) (Tells.of_yields (yieldsIf_load_mid (by rfl) 26 (.tmp 18) rfl A (k * 512) rfl (sb s) _ (fun v h => GA.out v h) Tryz.underlying26 rfl (by rw [sb_length]; kernel_rfl))) ?_
        (try simp only [Act.put]); (try simp only [List.setIfInBounds_toArray]); (repeat (first | simp only [List.set_cons_succ] | simp only [List.set_cons_zero]))
        refine wpS_take (i := 4) (v := ?v4u) (show _ = some _ by simp only [List.getElem?_toArray, List.getElem?_cons_succ, List.getElem?_cons_zero]; exact rfl) (by kernel_rfl) (by kernel_rfl) (by kernel_rfl) (by kernel_rfl) (by exact fun _ _ _ h => h) (Tells.of_yields (Or.inl ⟨by rfl, ?hy4u⟩)) ?r4u
        case hy4u => (intro w hSw; (try dsimp only at hSw); go_simp; try with_reducible rfl)
        (try simp only [Act.put]); (try simp only [List.setIfInBounds_toArray]); (repeat (first | simp only [List.set_cons_succ] | simp only [List.set_cons_zero]))
        refine wpS_take (i := 5) (v := ?v5u) (show _ = some _ by simp only [List.getElem?_toArray, List.getElem?_cons_succ, List.getElem?_cons_zero]; exact rfl) (by kernel_rfl) (by kernel_rfl) (by kernel_rfl) (by kernel_rfl) (by exact fun _ _ _ h => h) (Tells.of_yields (Or.inl ⟨by rfl, ?hy5u⟩)) ?r5u
        case hy5u => (intro w hSw; (try dsimp only at hSw); go_simp; try with_reducible rfl)
        (try simp only [Act.put]); (try simp only [List.setIfInBounds_toArray]); (repeat (first | simp only [List.set_cons_succ] | simp only [List.set_cons_zero]))
        refine wpS_take (i := 6) (v := ?v6u) (show _ = some _ by simp only [List.getElem?_toArray, List.getElem?_cons_succ, List.getElem?_cons_zero]; exact rfl) (by kernel_rfl) (by kernel_rfl) (by kernel_rfl) (by kernel_rfl) (by exact fun _ _ _ h => h) (Tells.of_yields (Or.inl ⟨by rfl, ?hy6u⟩)) ?r6u
        case hy6u => (intro w hSw; (try dsimp only at hSw); go_simp; try with_reducible rfl)
        (try simp only [Act.put]); (try simp only [List.setIfInBounds_toArray]); (repeat (first | simp only [List.set_cons_succ] | simp only [List.set_cons_zero]))
        refine wpS_take (i := 7) (show _ = some _ by simp only [List.getElem?_toArray, List.getElem?_cons_succ, List.getElem?_cons_zero]; exact rfl) (by kernel_rfl) (by kernel_rfl) (by kernel_rfl) (by kernel_rfl) (by exact fun _ _ _ h => h) (Tells.of_yields (yieldsIf_load_mid (by rfl) 26 (.tmp 22) rfl B (k * 512) rfl (sb t) _ (fun v h => GB.out v h) Tryz.underlying26 rfl (by rw [sb_length]; kernel_rfl))) ?_
        (try simp only [Act.put]); (try simp only [List.setIfInBounds_toArray]); (repeat (first | simp only [List.set_cons_succ] | simp only [List.set_cons_zero]))
        refine wpS_take (i := 8) (v := ?v8u) (show _ = some _ by simp only [List.getElem?_toArray, List.getElem?_cons_succ, List.getElem?_cons_zero]; exact rfl) (by kernel_rfl) (by kernel_rfl) (by kernel_rfl) (by kernel_rfl) (by exact fun _ _ _ h => h) (Tells.of_yields (Or.inl ⟨by rfl, ?hy8u⟩)) ?r8u
        case hy8u => (intro w hSw; (try dsimp only at hSw); go_simp; try with_reducible rfl)
        (try simp only [Act.put]); (try simp only [List.setIfInBounds_toArray]); (repeat (first | simp only [List.set_cons_succ] | simp only [List.set_cons_zero]))
        refine wpS_done (by kernel_rfl) ?_
        intro u hSu
        go_wp2_with fail
        refine ⟨⟨k + 1, by omega, by go_num, hSu.k, fun i hi => ?_⟩, by simp only [intOf]; omega⟩
        by_cases hik : i < k
        · exact hs i hik
        · have e2 : i = k := by omega
          rw [e2, ← HSd.out, ← HTd.out]
          exact HE.out
      · rw [decide_eq_false e] at hq
        have HE : Hid (¬ s = t) := e
        clear e
        have hres : R = false := by
          rw [HR.out, decide_eq_false]
          intro h
          exact HE.out (by rw [HSd.out, HTd.out]; exact h k hlt)
        go_wp2_with fail
        refine wp_region_s (fun v => QS w v A B n F G) 9 (by kernel_rfl) hQ.drew ?_
        refine wpS_take (i := 0) (v := ?v0v) (show _ = some _ by simp only [List.getElem?_toArray, List.getElem?_cons_zero]; exact rfl) (by kernel_rfl) (by kernel_rfl) (by kernel_rfl) (by kernel_rfl) (by exact fun _ _ _ h => h) (Tells.of_yields (Or.inl ⟨by rfl, ?hy0v⟩)) ?r0v
        case hy0v => (intro w hSw; (try dsimp only at hSw); go_simp; try with_reducible rfl)
        (try simp only [Act.put]); (try simp only [List.setIfInBounds_toArray]); (repeat (first | simp only [List.set_cons_succ] | simp only [List.set_cons_zero]))
        refine wpS_take (i := 1) (v := ?v1v) (show _ = some _ by simp only [List.getElem?_toArray, List.getElem?_cons_succ, List.getElem?_cons_zero]; exact rfl) (by kernel_rfl) (by kernel_rfl) (by kernel_rfl) (by kernel_rfl) (by exact fun _ _ _ h => h) (Tells.of_yields (Or.inl ⟨by rfl, ?hy1v⟩)) ?r1v
        case hy1v => (intro w hSw; (try dsimp only at hSw); go_simp; try with_reducible rfl)
        (try simp only [Act.put]); (try simp only [List.setIfInBounds_toArray]); (repeat (first | simp only [List.set_cons_succ] | simp only [List.set_cons_zero]))
        refine wpS_take (i := 2) (v := ?v2v) (show _ = some _ by simp only [List.getElem?_toArray, List.getElem?_cons_succ, List.getElem?_cons_zero]; exact rfl) (by kernel_rfl) (by kernel_rfl) (by kernel_rfl) (by kernel_rfl) (by exact fun _ _ _ h => h) (Tells.of_yields (Or.inl ⟨by rfl, ?hy2v⟩)) ?r2v
        case hy2v => (intro w hSw; (try dsimp only at hSw); go_simp; try with_reducible rfl)
        (try simp only [Act.put]); (try simp only [List.setIfInBounds_toArray]); (repeat (first | simp only [List.set_cons_succ] | simp only [List.set_cons_zero]))
        refine wpS_take (i := 3) (show _ = some _ by simp only [List.getElem?_toArray, List.getElem?_cons_succ, List.getElem?_cons_zero]; exact rfl) (by kernel_rfl) (by kernel_rfl) (by kernel_rfl) (by kernel_rfl) (by exact fun _ _ _ h => h) (Tells.of_yields (yieldsIf_load_mid (by rfl) 26 (.tmp 18) rfl A (k * 512) rfl (sb s) _ (fun v h => GA.out v h) Tryz.underlying26 rfl (by rw [sb_length]; kernel_rfl))) ?_
        (try simp only [Act.put]); (try simp only [List.setIfInBounds_toArray]); (repeat (first | simp only [List.set_cons_succ] | simp only [List.set_cons_zero]))
        refine wpS_take (i := 4) (v := ?v4v) (show _ = some _ by simp only [List.getElem?_toArray, List.getElem?_cons_succ, List.getElem?_cons_zero]; exact rfl) (by kernel_rfl) (by kernel_rfl) (by kernel_rfl) (by kernel_rfl) (by exact fun _ _ _ h => h) (Tells.of_yields (Or.inl ⟨by rfl, ?hy4v⟩)) ?r4v
        case hy4v => (intro w hSw; (try dsimp only at hSw); go_simp; try with_reducible rfl)
        (try simp only [Act.put]); (try simp only [List.setIfInBounds_toArray]); (repeat (first | simp only [List.set_cons_succ] | simp only [List.set_cons_zero]))
        refine wpS_take (i := 5) (v := ?v5v) (show _ = some _ by simp only [List.getElem?_toArray, List.getElem?_cons_succ, List.getElem?_cons_zero]; exact rfl) (by kernel_rfl) (by kernel_rfl) (by kernel_rfl) (by kernel_rfl) (by exact fun _ _ _ h => h) (Tells.of_yields (Or.inl ⟨by rfl, ?hy5v⟩)) ?r5v
        case hy5v => (intro w hSw; (try dsimp only at hSw); go_simp; try with_reducible rfl)
        (try simp only [Act.put]); (try simp only [List.setIfInBounds_toArray]); (repeat (first | simp only [List.set_cons_succ] | simp only [List.set_cons_zero]))
        refine wpS_take (i := 6) (v := ?v6v) (show _ = some _ by simp only [List.getElem?_toArray, List.getElem?_cons_succ, List.getElem?_cons_zero]; exact rfl) (by kernel_rfl) (by kernel_rfl) (by kernel_rfl) (by kernel_rfl) (by exact fun _ _ _ h => h) (Tells.of_yields (Or.inl ⟨by rfl, ?hy6v⟩)) ?r6v
        case hy6v => (intro w hSw; (try dsimp only at hSw); go_simp; try with_reducible rfl)
        (try simp only [Act.put]); (try simp only [List.setIfInBounds_toArray]); (repeat (first | simp only [List.set_cons_succ] | simp only [List.set_cons_zero]))
        refine wpS_take (i := 7) (show _ = some _ by simp only [List.getElem?_toArray, List.getElem?_cons_succ, List.getElem?_cons_zero]; exact rfl) (by kernel_rfl) (by kernel_rfl) (by kernel_rfl) (by kernel_rfl) (by exact fun _ _ _ h => h) (Tells.of_yields (yieldsIf_load_mid (by rfl) 26 (.tmp 22) rfl B (k * 512) rfl (sb t) _ (fun v h => GB.out v h) Tryz.underlying26 rfl (by rw [sb_length]; kernel_rfl))) ?_
        (try simp only [Act.put]); (try simp only [List.setIfInBounds_toArray]); (repeat (first | simp only [List.set_cons_succ] | simp only [List.set_cons_zero]))
        refine wpS_take (i := 8) (v := ?v8v) (show _ = some _ by simp only [List.getElem?_toArray, List.getElem?_cons_succ, List.getElem?_cons_zero]; exact rfl) (by kernel_rfl) (by kernel_rfl) (by kernel_rfl) (by kernel_rfl) (by exact fun _ _ _ h => h) (Tells.of_yields (Or.inl ⟨by rfl, ?hy8v⟩)) ?r8v
        case hy8v => (intro w hSw; (try dsimp only at hSw); go_simp; try with_reducible rfl)
        (try simp only [Act.put]); (try simp only [List.setIfInBounds_toArray]); (repeat (first | simp only [List.set_cons_succ] | simp only [List.set_cons_zero]))
        refine wpS_done (by kernel_rfl) ?_
        intro u hSu
        go_wp2_with fail
        go_ret
        try rw [hres]
        exact ⟨rfl, hSu.k⟩
    · have hkI : ¬ (k : Int) < (n : Int) := by omega
      have ek : k = n := by omega
      subst ek
      have hres : R = true := by rw [HR.out, decide_eq_true hs]
      go_wp2_with fail
      go_ret
      try rw [hres]
      exact ⟨rfl, hb⟩
end Go.Proofs.YtndfhmlcfaaaiaaGreatDoor

/- Sectors of the log are read, one behind the other. -/
namespace Go.Proofs.YtndfhmlcfaaaiaaGreatDoor
open Go.RowKit

/-- What lies there while a stretch is read: the answer's row in block bd. -/
structure ST (w v : World) (bd n : Nat) (Fk : Nat → Sec) (q r mm f m cap : Nat) (x : Lg) (d : St) : Prop where
  dl : DL v q r mm f m cap x d
  rw : Rw v bd n Fk
  below : Below bd w v
section
variable {w v v' : World} {bd n q r mm f m cap : Nat} {Fk : Nat → Sec} {x : Lg} {d : St}
theorem ST.lt (h : ST w v bd n Fk q r mm f m cap x d) : bd < v.heap.size := h.rw.lt
theorem ST.next (h : ST w v bd n Fk q r mm f m cap x d) (hb : Below v.heap.size v v') : ST w v' bd n Fk q r mm f m cap x d := ⟨h.dl.next hb, h.rw.same (hb.block bd h.lt), h.below.trans (hb.mono (Nat.le_of_lt h.lt))⟩
theorem ST.alloc (h : ST w v bd n Fk q r mm f m cap x d) (o : Obj) : ST w (v.alloc o) bd n Fk q r mm f m cap x d := h.next ((Below.refl _ v).alloc (Nat.le_refl _) o)
theorem ST.drew (h : ST w v bd n Fk q r mm f m cap x d) : ST w v.drew bd n Fk q r mm f m cap x d := h.next (below_drw v)
theorem ST.setRow (h : ST w v bd n Fk q r mm f m cap x d) (g : Nat) (cs : Array Value) (hg : bd < g) (hl : ∀ k, lp q mm k → k < bd) (hf : ∀ k, fp r f m k → k < bd) (h2 : 2 ≤ bd) : ST w (v.setRow g cs) bd n Fk q r mm f m cap x d := by
  have hfr : Fr (fun k => k = g) v (v.setRow g cs) := (Fr.refl _ v).setRow g cs (.inl rfl)
  exact ⟨⟨h.dl.l.fr hfr (fun k e hk => by have := hl k hk; omega), h.dl.k.fr hfr (fun k e hk => by have := hf k hk; omega), h.dl.n, h.dl.t.fr hfr (fun k e => by omega), h.dl.apart, h.dl.fp2, h.dl.lp2⟩, h.rw.fr hfr (by omega), h.below.trans (hfr.below (fun k e => by omega) (Nat.le_of_lt h.lt))⟩
theorem ST.setCells (h : ST w v bd n Fk q r mm f m cap x d) {i : Nat} (hi : i < n) (s : Sec) (hl : ∀ k, lp q mm k → k < bd) (hf : ∀ k, fp r f m k → k < bd) (h2 : 2 ≤ bd) : ST w (v.setCells bd (i * 512) (sb s)) bd n (upd Fk i s) q r mm f m cap x d := by
  have hfr : Fr (fun k => k = bd) v (v.setCells bd (i * 512) (sb s)) := Fr.setCells _ _ _ (Fr.refl _ v) (.inl rfl)
  exact ⟨⟨h.dl.l.fr hfr (fun k e hk => by have := hl k hk; omega), h.dl.k.fr hfr (fun k e hk => by have := hf k hk; omega), h.dl.n, h.dl.t.fr hfr (fun k e => by omega), h.dl.apart, h.dl.fp2, h.dl.lp2⟩, h.rw.put hi s, h.below.trans (hfr.below (fun k e => by omega) (Nat.le_of_lt h.lt))⟩
end
/-- The first k sectors that were read; zeros behind. -/
def rdk (d : St) (o k : Nat) : Nat → Sec := fun i => if i < k then d.at (o + i) else zs
theorem rdk_succ (d : St) (o k : Nat) : upd (rdk d o k) k (d.at (o + k)) = rdk d o (k + 1) := by
  funext i
  unfold upd rdk
  by_cases h : i = k
  · subst h; rw [if_pos rfl, if_pos (by omega)]
  · rw [if_neg h]
    by_cases h2 : i < k
    · rw [if_pos h2, if_pos (by omega)]
    · rw [if_neg h2, if_neg (by omega)]
set_option maxRecDepth 100000 in
set_option maxHeartbeats 4000000 in
theorem stretch_any (w : World) (q r mm f m cap : Nat) (x : Lg) (d : St) (h : DL w q r mm f m cap x d) (n : Nat) (h1 : 1 ≤ n) (hn : tot x.ws + n ≤ x.L) (hoff : d.off = false) :
    Calls Tryz.prog 105 #[.pointer (some ⟨q, 0, none⟩), .int .i64 (n : Int)] w fun e w' => ∃ G cp, e = .returned (.tuple #[.slice (some ⟨G, 0, none⟩) n cp, .int .i64 0]) ∧ w.heap.size ≤ G ∧ Rw w' G n (fun i => d.at (2 + tot x.ws + i)) ∧ Below w.heap.size w w' := by
  obtain ⟨i0, hi, hz0, hz1, hz2⟩ := info_parts info39
  have hz := zero39
  have hL4 := h.l.L4
  have hdn := h.n
  have hmade := made_flat n
  have hzc : (sv zs).cells = (sb zs).toArray := rfl
  rw [← hzc] at hmade
  have HM : Hid ((madeCells (sv zs).cells (n * 512)).toList = flat n (fun _ => zs)) := hmade
  clear hmade hzc
  obtain ⟨zv, hzv⟩ : ∃ z, z = sv zs := ⟨_, rfl⟩
  rw [← hzv] at hz0 HM
  have HZV : Hid (zv = sv zs) := hzv
  clear hzv
  obtain ⟨us, hus⟩ : ∃ us, us = tot x.ws := ⟨_, rfl⟩
  have HUS : Hid (us = tot x.ws) := hus
  rw [← hus] at hn ⊢
  clear hus
  have hf2 := Lay.fp2 h.k
  have hl2 := h.l.lt
  obtain ⟨bd, hbd⟩ : ∃ bd, bd = w.heap.size := ⟨_, rfl⟩
  have hlb : ∀ k, lp q mm k → k < bd := by rw [hbd]; exact hl2
  have hfb : ∀ k, fp r f m k → k < bd := by rw [hbd]; exact hf2
  have hb2 : 2 ≤ bd := by rw [hbd]; exact h.t.two
  have hdh : Hid (∀ v, Below bd w v → DL v q r mm f m cap x d) := fun v hv => h.next (by rw [← hbd]; exact hv)
  have HB : Hid (bd = w.heap.size) := hbd
  rw [← hbd]
  have hsz : w.heap.size = bd := hbd.symm
  clear hbd hf2 hl2
  go_enter Tryz.func105, Tryz.ntmps105
  go_wp2_with (at_make; refine wpList_make_full _ rfl _ _ 24 rfl bd 26 i0 zv 512 Tryz.underlying24 hi hz0 hz1 .i64 .i64 n n n rfl rfl rfl rfl (by rw [hz2]; omega) (by unfold maxLen; omega) (by omega) ?_; intro w1 hown hgr)
  rw [HM.out] at hown
  obtain ⟨_, hv | ⟨g, cpx, cur, hv, hgb, hh, hc1, hc2, hc3, ht⟩⟩ := hown
  · cases hv.1
  · cases hv
    rw [hsz] at hh
    have hR : Rw w1 bd n (fun _ => zs) := rw_of_flat hh ht
    have hB : Below bd w w1 := (Below.refl _ w).grown hgr (by omega) (by intro k hk; cases hk)
    have e0 : rdk d (2 + us) 0 = fun _ => zs := by funext i; simp [rdk]
    have hT1 : ST w w1 bd n (rdk d (2 + us) 0) q r mm f m cap x d := ⟨hdh.out _ hB, by rw [e0]; exact hR, hB⟩
    clear hh ht hgr hc1 hc2 hc3 hgb hR hB e0 hi hz0 hz1 hz2 HM HZV hsz
    go_loopw [14] (fun i wr => ∃ k : Nat, k ≤ n ∧ i = .int .i64 (k : Int) ∧ ST w wr bd n (rdk d (2 + us) k) q r mm f m cap x d) (fun i _ => n - (intOf i).toNat)
    case atStart => exact ⟨0, by omega, rfl, hT1⟩
    case round =>
      obtain ⟨k, hk, rfl, hT⟩ := hrel
      clear hT1
      by_cases hlt : k < n
      · have hkI : (k : Int) < (n : Int) := by omega
        have hsucc := rdk_succ d (2 + us) k
        obtain ⟨Fk, hFk⟩ : ∃ Fk, Fk = rdk d (2 + us) k := ⟨_, rfl⟩
        rw [← hFk] at hT hsucc
        obtain ⟨hm, hhm⟩ : ∃ hm, hm = 2 + us + k := ⟨_, rfl⟩
        have hmI : (2 : Int) + (us : Int) + (k : Int) = (hm : Int) := by omega
        have hmn : hm < d.n := by omega
        have hw1 : IntKind.i64.wrap (2 + (us : Int)) = 2 + (us : Int) := by rw [IntKind.wrap_i64]; omega
        have hw2 : IntKind.i64.wrap (hm : Int) = (hm : Int) := by rw [IntKind.wrap_i64]; omega
        rw [← hhm] at hsucc
        have hrd : ∀ W, Lay W r f m cap d → Calls Tryz.prog 74 #[.pointer (some ⟨r, 0, none⟩), .int .i64 (hm : Int)] W fun e w' => e = .returned (.tuple #[.agg (sb (d.at hm)).toArray, .int .i64 0]) ∧ Below W.heap.size W w' := fun W hW => read_good W r f m cap d hW hm hoff hmn
        obtain ⟨sc, hsc⟩ : ∃ sc, sc = d.at hm := ⟨_, rfl⟩
        rw [← hsc] at hrd hsucc
        have HSU : Hid (upd Fk k sc = rdk d (2 + us) (k + 1)) := hsucc
        have HC6 : Hid (∀ v, LL v q r mm x → v.cell? ⟨q, 6, none⟩ = some (.int .i64 (us : Int))) := fun v h => by rw [HUS.out]; exact h.c6
        clear hsc hFk hhm hsucc
        go_upto_region 5 with fail
        have hF := hT
        obtain ⟨vs, hvs⟩ : ∃ v, v = wr := ⟨_, rfl⟩
        rw [← hvs] at hF ⊢
        clear hvs hT
        go_cut [8, 9] from 15 to 39 (fun y e wc => ∃ G, y = .pointer (some ⟨G, 0, none⟩) ∧ e = .int .i64 0 ∧ Blk wc G 26 (sb sc) ∧ ST w wc bd n Fk q r mm f m cap x d ∧ bd < G)
        case first =>
          refine wp_region_to (fun v => ST w v bd n Fk q r mm f m cap x d) 18 (by kernel_rfl) ?_
          have hS0 := hF.drew
          obtain ⟨v0, hv0⟩ : ∃ u, u = vs.drew := ⟨_, rfl⟩
          rw [← hv0] at hS0 ⊢
          clear hF hv0
          refine wpTo_take (i := 0) (v := ?v0z1) (show _ = some _ by simp only [List.getElem?_toArray, List.getElem?_cons_zero]; exact rfl) (by kernel_rfl) (by kernel_rfl) (by kernel_rfl) (by kernel_rfl) (by exact fun _ _ _ h => h) (Or.inl ⟨by rfl, ?hy0z1⟩) hS0 ?r0z1
          case hy0z1 => (intro w hSw; (try dsimp only at hSw); go_simp; try with_reducible rfl)
          (try simp only [Act.put]); (try simp only [List.setIfInBounds_toArray]); (repeat (first | simp only [List.set_cons_succ] | simp only [List.set_cons_zero]))
          refine wpTo_take (i := 1) (v := ?v1z2) (show _ = some _ by simp only [List.getElem?_toArray, List.getElem?_cons_succ, List.getElem?_cons_zero]; exact rfl) (by kernel_rfl) (by kernel_rfl) (by kernel_rfl) (by kernel_rfl) (by exact fun _ _ _ h => h) (Or.inl ⟨by rfl, ?hy1z2⟩) hS0 ?r1z2
          case hy1z2 => (intro w hSw; (try dsimp only at hSw); go_simp; try with_reducible rfl)
          (try simp only [Act.put]); (try simp only [List.setIfInBounds_toArray]); (repeat (first | simp only [List.set_cons_succ] | simp only [List.set_cons_zero]))
          refine wpTo_take (i := 2) (v := ?v2z3) (show _ = some _ by simp only [List.getElem?_toArray, List.getElem?_cons_succ, List.getElem?_cons_zero]; exact rfl) (by kernel_rfl) (by kernel_rfl) (by kernel_rfl) (by kernel_rfl) (by exact fun _ _ _ h => h) (Or.inl ⟨by rfl, ?hy2z3⟩) hS0 ?r2z3
          case hy2z3 => (intro w hSw; (try dsimp only at hSw); go_simp; try with_reducible rfl)
          (try simp only [Act.put]); (try simp only [List.setIfInBounds_toArray]); (repeat (first | simp only [List.set_cons_succ] | simp only [List.set_cons_zero]))
          refine wpTo_take (i := 3) (v := ?v3z4) (show _ = some _ by simp only [List.getElem?_toArray, List.getElem?_cons_succ, List.getElem?_cons_zero]; exact rfl) (by kernel_rfl) (by kernel_rfl) (by kernel_rfl) (by kernel_rfl) (by exact fun _ _ _ h => h) (Or.inl ⟨by rfl, ?hy3z4⟩) hS0 ?r3z4
          case hy3z4 => (intro w hSw; (try dsimp only at hSw); have hc0 := LL.c0 (DL.l (ST.dl hSw)); go_simp; try with_reducible rfl)
          (try simp only [Act.put]); (try simp only [List.setIfInBounds_toArray]); (repeat (first | simp only [List.set_cons_succ] | simp only [List.set_cons_zero]))
          refine wpTo_take (i := 4) (v := ?v4z5) (show _ = some _ by simp only [List.getElem?_toArray, List.getElem?_cons_succ, List.getElem?_cons_zero]; exact rfl) (by kernel_rfl) (by kernel_rfl) (by kernel_rfl) (by kernel_rfl) (by exact fun _ _ _ h => h) (Or.inl ⟨by rfl, ?hy4z5⟩) hS0 ?r4z5
          case hy4z5 => (intro w hSw; (try dsimp only at hSw); go_simp; try with_reducible rfl)
          (try simp only [Act.put]); (try simp only [List.setIfInBounds_toArray]); (repeat (first | simp only [List.set_cons_succ] | simp only [List.set_cons_zero]))
          refine wpTo_take (i := 5) (v := ?v5z6) (show _ = some _ by simp only [List.getElem?_toArray, List.getElem?_cons_succ, List.getElem?_cons_zero]; exact rfl) (by kernel_rfl) (by kernel_rfl) (by kernel_rfl) (by kernel_rfl) (by exact fun _ _ _ h => h) (Or.inl ⟨by rfl, ?hy5z6⟩) hS0 ?r5z6
          case hy5z6 => (intro w hSw; (try dsimp only at hSw); go_simp; try with_reducible rfl)
          (try simp only [Act.put]); (try simp only [List.setIfInBounds_toArray]); (repeat (first | simp only [List.set_cons_succ] | simp only [List.set_cons_zero]))
          refine wpTo_take (i := 6) (v := ?v6z7) (show _ = some _ by simp only [List.getElem?_toArray, List.getElem?_cons_succ, List.getElem?_cons_zero]; exact rfl) (by kernel_rfl) (by kernel_rfl) (by kernel_rfl) (by kernel_rfl) (by exact fun _ _ _ h => h) (Or.inl ⟨by rfl, ?hy6z7⟩) hS0 ?r6z7
          case hy6z7 => (intro w hSw; (try dsimp only at hSw); go_simp; try with_reducible rfl)
          (try simp only [Act.put]); (try simp only [List.setIfInBounds_toArray]); (repeat (first | simp only [List.set_cons_succ] | simp only [List.set_cons_zero]))
          refine wpTo_take (i := 7) (v := ?v7z8) (show _ = some _ by simp only [List.getElem?_toArray, List.getElem?_cons_succ, List.getElem?_cons_zero]; exact rfl) (by kernel_rfl) (by kernel_rfl) (by kernel_rfl) (by kernel_rfl) (by exact fun _ _ _ h => h) (Or.inl ⟨by rfl, ?hy7z8⟩) hS0 ?r7z8
          case hy7z8 => (intro w hSw; (try dsimp only at hSw); have hc6 := HC6.out _ (DL.l (ST.dl hSw)); go_simp; try with_reducible rfl)
          (try simp only [Act.put]); (try simp only [List.setIfInBounds_toArray]); (repeat (first | simp only [List.set_cons_succ] | simp only [List.set_cons_zero]))
          refine wpTo_take (i := 8) (v := ?v8z9) (show _ = some _ by simp only [List.getElem?_toArray, List.getElem?_cons_succ, List.getElem?_cons_zero]; exact rfl) (by kernel_rfl) (by kernel_rfl) (by kernel_rfl) (by kernel_rfl) (by exact fun _ _ _ h => h) (Or.inl ⟨by rfl, ?hy8z9⟩) hS0 ?r8z9
          case hy8z9 => (intro w hSw; (try dsimp only at hSw); go_simp; try with_reducible rfl)
          (try simp only [Act.put]); (try simp only [List.setIfInBounds_toArray]); (repeat (first | simp only [List.set_cons_succ] | simp only [List.set_cons_zero]))
          refine wpTo_take (i := 9) (v := ?v9z10) (show _ = some _ by simp only [List.getElem?_toArray, List.getElem?_cons_succ, List.getElem?_cons_zero]; exact rfl) (by kernel_rfl) (by kernel_rfl) (by kernel_rfl) (by kernel_rfl) (by exact fun _ _ _ h => h) (Or.inl ⟨by rfl, ?hy9z10⟩) hS0 ?r9z10
          case hy9z10 => (intro w hSw; (try dsimp only at hSw); go_simp; try with_reducible rfl)
          (try simp only [Act.put]); (try simp only [List.setIfInBounds_toArray]); (repeat (first | simp only [List.set_cons_succ] | simp only [List.set_cons_zero]))
          refine wpTo_take (i := 10) (v := ?v10z11) (show _ = some _ by simp only [List.getElem?_toArray, List.getElem?_cons_succ, List.getElem?_cons_zero]; exact rfl) (by kernel_rfl) (by kernel_rfl) (by kernel_rfl) (by kernel_rfl) (by exact fun _ _ _ h => h) (Or.inl ⟨by rfl, ?hy10z11⟩) hS0 ?r10z11
          case hy10z11 => (intro w hSw; (try dsimp only at hSw); go_simp; try with_reducible rfl)
          (try simp only [Act.put]); (try simp only [List.setIfInBounds_toArray]); (repeat (first | simp only [List.set_cons_succ] | simp only [List.set_cons_zero]))
          refine wpTo_two (i := 11) (j := 15) (by kernel_rfl) (show _ = some _ by simp only [List.getElem?_toArray, List.getElem?_cons_succ, List.getElem?_cons_zero]; exact rfl) (show _ = some _ by simp only [List.getElem?_toArray, List.getElem?_cons_succ, List.getElem?_cons_zero]; exact rfl) (fun K hK => ?_) (fun K hK => ?_)
          · go_simp
            go_at_call 74; refine (hrd _ hS0.dl.k).mono ?_; rintro e v1 ⟨rfl, kb1⟩
            (try simp only [])
            have hS1 := hS0.next kb1
            refine hK.out _ _ (hS1) (fun _ => ?_)
            clear hK K
            (try simp only [Act.put]); (try simp only [List.setIfInBounds_toArray]); (repeat (first | simp only [List.set_cons_succ] | simp only [List.set_cons_zero]))
            refine wpTo_take (i := 12) (v := ?v12z12) (show _ = some _ by simp only [List.getElem?_toArray, List.getElem?_cons_succ, List.getElem?_cons_zero]; exact rfl) (by kernel_rfl) (by kernel_rfl) (by kernel_rfl) (by kernel_rfl) (by exact fun _ _ _ h => h) (Or.inl ⟨by rfl, ?hy12z12⟩) hS1 ?r12z12
            case hy12z12 => (intro w hSw; (try dsimp only at hSw); go_simp; try with_reducible rfl)
            (try simp only [Act.put]); (try simp only [List.setIfInBounds_toArray]); (repeat (first | simp only [List.set_cons_succ] | simp only [List.set_cons_zero]))
            refine wpTo_take (i := 13) (v := ?v13z13) (show _ = some _ by simp only [List.getElem?_toArray, List.getElem?_cons_succ, List.getElem?_cons_zero]; exact rfl) (by kernel_rfl) (by kernel_rfl) (by kernel_rfl) (by kernel_rfl) (by exact fun _ _ _ h => h) (Or.inl ⟨by rfl, ?hy13z13⟩) hS1 ?r13z13
            case hy13z13 => (intro w hSw; (try dsimp only at hSw); go_simp; try with_reducible rfl)
            (try simp only [Act.put]); (try simp only [List.setIfInBounds_toArray]); (repeat (first | simp only [List.set_cons_succ] | simp only [List.set_cons_zero]))
            refine wpTo_take (i := 14) (v := ?v14z14) (show _ = some _ by simp only [List.getElem?_toArray, List.getElem?_cons_succ, List.getElem?_cons_zero]; exact rfl) (by kernel_rfl) (by kernel_rfl) (by kernel_rfl) (by kernel_rfl) (by exact fun _ _ _ h => h) (Or.inl ⟨by rfl, ?hy14z14⟩) hS1 ?r14z14
            case hy14z14 => (intro w hSw; (try dsimp only at hSw); go_simp; try with_reducible rfl)
            (try simp only [Act.put]); (try simp only [List.setIfInBounds_toArray]); (repeat (first | simp only [List.set_cons_succ] | simp only [List.set_cons_zero]))
            refine wpTo_one (i := 15) (by kernel_rfl) (show _ = some _ by simp only [List.getElem?_toArray, List.getElem?_cons_succ, List.getElem?_cons_zero]; exact rfl) (fun K hK => ?_)
            go_simp
            obtain ⟨va, hva⟩ : ∃ va, va = v1 := ⟨_, rfl⟩
            obtain ⟨G, hGe⟩ : ∃ G, G = v1.heap.size := ⟨_, rfl⟩
            have hGb : bd < G := by have := hS1.lt; omega
            have hGa := Blk.new v1 26 (sb zs)
            rw [← hGe] at hGa ⊢
            clear hGe hva
            have hSa := hS1.alloc (.cells ((sb zs)).toArray 26)

            refine hK.out _ _ (hSa) (fun _ => ?_)
            clear hK K
            (try simp only [Act.put]); (try simp only [List.setIfInBounds_toArray]); (repeat (first | simp only [List.set_cons_succ] | simp only [List.set_cons_zero]))
            refine wpTo_one (i := 16) (by kernel_rfl) (show _ = some _ by simp only [List.getElem?_toArray, List.getElem?_cons_succ, List.getElem?_cons_zero]; exact rfl) (fun K hK => ?_)
            rw [if_pos (by rfl)]
            refine put_sc _ _ rfl G zs sc hGa rfl rfl ?_
            intro hGp
            have hSp := ST.setRow hSa G (sb sc).toArray hGb hlb hfb hb2
            refine hK.out _ _ (hSp) (fun _ => ?_)
            clear hK K
            (try simp only [Act.put]); (try simp only [List.setIfInBounds_toArray]); (repeat (first | simp only [List.set_cons_succ] | simp only [List.set_cons_zero]))
            refine wpTo_take (i := 17) (v := ?v17z16) (show _ = some _ by simp only [List.getElem?_toArray, List.getElem?_cons_succ, List.getElem?_cons_zero]; exact rfl) (by kernel_rfl) (by kernel_rfl) (by kernel_rfl) (by kernel_rfl) (by exact fun _ _ _ h => h) (Or.inl ⟨by rfl, ?hy17z16⟩) hSp ?r17z16
            case hy17z16 => (intro w hSw; (try dsimp only at hSw); go_simp; try with_reducible rfl)
            (try simp only [Act.put]); (try simp only [List.setIfInBounds_toArray]); (repeat (first | simp only [List.set_cons_succ] | simp only [List.set_cons_zero]))
            refine wpTo_done (by kernel_rfl) ?_
            go_wp2_with fail
            go_meet
            exact ⟨G, rfl, rfl, hGp, hSp, hGb⟩

          · go_simp
            obtain ⟨va, hva⟩ : ∃ va, va = v0 := ⟨_, rfl⟩
            obtain ⟨G, hGe⟩ : ∃ G, G = v0.heap.size := ⟨_, rfl⟩
            have hGb : bd < G := by have := hS0.lt; omega
            have hGa := Blk.new v0 26 (sb zs)
            rw [← hGe] at hGa ⊢
            clear hGe hva
            have hSa := hS0.alloc (.cells ((sb zs)).toArray 26)
            refine hK.out _ _ (hSa) (fun _ => ?_)
            clear hK K
            (try simp only [Act.put]); (try simp only [List.setIfInBounds_toArray]); (repeat (first | simp only [List.set_cons_succ] | simp only [List.set_cons_zero]))
            refine wpTo_one (i := 11) (by kernel_rfl) (show _ = some _ by simp only [List.getElem?_toArray, List.getElem?_cons_succ, List.getElem?_cons_zero]; exact rfl) (fun K hK => ?_)
            go_simp
            go_at_call 74; refine (hrd _ hSa.dl.k).mono ?_; rintro e v1 ⟨rfl, kb1⟩
            (try simp only [])
            have hS1 := hSa.next kb1
            have hG1 := hGa.next kb1

            refine hK.out _ _ (hS1) (fun _ => ?_)
            clear hK K
            (try simp only [Act.put]); (try simp only [List.setIfInBounds_toArray]); (repeat (first | simp only [List.set_cons_succ] | simp only [List.set_cons_zero]))
            refine wpTo_take (i := 12) (v := ?v12z18) (show _ = some _ by simp only [List.getElem?_toArray, List.getElem?_cons_succ, List.getElem?_cons_zero]; exact rfl) (by kernel_rfl) (by kernel_rfl) (by kernel_rfl) (by kernel_rfl) (by exact fun _ _ _ h => h) (Or.inl ⟨by rfl, ?hy12z18⟩) hS1 ?r12z18
            case hy12z18 => (intro w hSw; (try dsimp only at hSw); go_simp; try with_reducible rfl)
            (try simp only [Act.put]); (try simp only [List.setIfInBounds_toArray]); (repeat (first | simp only [List.set_cons_succ] | simp only [List.set_cons_zero]))
            refine wpTo_take (i := 13) (v := ?v13z19) (show _ = some _ by simp only [List.getElem?_toArray, List.getElem?_cons_succ, List.getElem?_cons_zero]; exact rfl) (by kernel_rfl) (by kernel_rfl) (by kernel_rfl) (by kernel_rfl) (by exact fun _ _ _ h => h) (Or.inl ⟨by rfl, ?hy13z19⟩) hS1 ?r13z19
            case hy13z19 => (intro w hSw; (try dsimp only at hSw); go_simp; try with_reducible rfl)
            (try simp only [Act.put]); (try simp only [List.setIfInBounds_toArray]); (repeat (first | simp only [List.set_cons_succ] | simp only [List.set_cons_zero]))
            refine wpTo_take (i := 14) (v := ?v14z20) (show _ = some _ by simp only [List.getElem?_toArray, List.getElem?_cons_succ, List.getElem?_cons_zero]; exact rfl) (by kernel_rfl) (by kernel_rfl) (by kernel_rfl) (by kernel_rfl) (by exact fun _ _ _ h => h) (Or.inl ⟨by rfl, ?hy14z20⟩) hS1 ?r14z20
            case hy14z20 => (intro w hSw; (try dsimp only at hSw); go_simp; try with_reducible rfl)
            (try simp only [Act.put]); (try simp only [List.setIfInBounds_toArray]); (repeat (first | simp only [List.set_cons_succ] | simp only [List.set_cons_zero]))
            refine wpTo_one (i := 16) (by kernel_rfl) (show _ = some _ by simp only [List.getElem?_toArray, List.getElem?_cons_succ, List.getElem?_cons_zero]; exact rfl) (fun K hK => ?_)
            rw [if_pos (by rfl)]
            refine put_sc _ _ rfl G zs sc hG1 rfl rfl ?_
            intro hGp
            have hSp := ST.setRow hS1 G (sb sc).toArray hGb hlb hfb hb2
            refine hK.out _ _ (hSp) (fun _ => ?_)
            clear hK K
            (try simp only [Act.put]); (try simp only [List.setIfInBounds_toArray]); (repeat (first | simp only [List.set_cons_succ] | simp only [List.set_cons_zero]))
            refine wpTo_take (i := 17) (v := ?v17z21) (show _ = some _ by simp only [List.getElem?_toArray, List.getElem?_cons_succ, List.getElem?_cons_zero]; exact rfl) (by kernel_rfl) (by kernel_rfl) (by kernel_rfl) (by kernel_rfl) (by exact fun _ _ _ h => h) (Or.inl ⟨by rfl, ?hy17z21⟩) hSp ?r17z21
            case hy17z21 => (intro w hSw; (try dsimp only at hSw); go_simp; try with_reducible rfl)
            (try simp only [Act.put]); (try simp only [List.setIfInBounds_toArray]); (repeat (first | simp only [List.set_cons_succ] | simp only [List.set_cons_zero]))
            refine wpTo_done (by kernel_rfl) ?_
            go_wp2_with fail
            go_meet
            exact ⟨G, rfl, rfl, hGp, hSp, hGb⟩


        case rest =>
          obtain ⟨G, rfl, rfl, hG, hA, hbG⟩ := hcut
          have hR := hA.rw
          go_wp2_with (first
            | (refine load_sec rfl _ rfl G sc hG rfl ?_)
            | (refine wpList_plain rfl fun K hK => put_row _ _ rfl bd n Fk hR k hlt sc rfl rfl (fun hR2 => hK _ _ ?_)))
          have hA2 := hA.setCells hlt sc hlb hfb hb2
          rw [HSU.out] at hA2
          exact ⟨⟨k + 1, by omega, by go_num, hA2⟩, by simp only [intOf]; omega⟩
      · have hkI : ¬ (k : Int) < (n : Int) := by omega
        have ek : k = n := by omega
        rw [ek] at hT
        clear ek
        go_wp2_with fail
        go_ret2
        refine ⟨_, ⟨_, rfl⟩, Nat.le_refl _, hT.rw.congr (fun i hi => ?_), hT.below⟩
        simp only [rdk]
        rw [if_pos hi]
end Go.Proofs.YtndfhmlcfaaaiaaGreatDoor
