/- The tables of logarithms and powers, as the program lays them. -/
import Derived.Test.YtjhkicfndbceoaaIter
import Derived.Test.YtjhkicfndbceoaaBlk
namespace Go.Proofs.Ytjhkicfndbceoaa
open Go.RowKit Go.Shelf
attribute [local go_sem] Oper.semAt_some

theorem zero103 (W : World) : (zeroValue 103).run Try.prog W = .ok (.agg (List.replicate 511 (Value.int .u8 0)).toArray) W := by kernel_rfl

/-- The cells of the tables when the powers with these numbers have come. -/
def tabV (ns : List Nat) : List Value := ns.foldl (fun l n => (l.set (E n).toNat (.int .u8 n)).set (256 + n) (.int .u8 (v8 (E n)))) (List.replicate 511 (Value.int .u8 0))
theorem tabV_nil : tabV [] = List.replicate 511 (Value.int .u8 0) := rfl
theorem tabV_snoc (ns : List Nat) (n : Nat) : tabV (ns ++ [n]) = ((tabV ns).set (E n).toNat (.int .u8 n)).set (256 + n) (.int .u8 (v8 (E n))) := by
  simp only [tabV, List.foldl_append, List.foldl_cons, List.foldl_nil]
theorem foldl_length (ns : List Nat) (l : List Value) : (ns.foldl (fun l n => (l.set (E n).toNat (.int .u8 n)).set (256 + n) (.int .u8 (v8 (E n)))) l).length = l.length := by
  induction ns generalizing l with
  | nil => rfl
  | cons n ns ih => simp only [List.foldl_cons]; rw [ih]; simp
theorem tabV_length (ns : List Nat) : (tabV ns).length = 511 := by
  unfold tabV
  rw [foldl_length, List.length_replicate]
theorem some_at (l : List Value) (i : Nat) (h : i < l.length) : ∃ u, l[i]? = some u := ⟨l[i], List.getElem?_eq_getElem h⟩

theorem tabV_pow (k : Nat) (hk : k ≤ 255) : ∀ n, n < k → (tabV (List.range k))[256 + n]? = some (.int .u8 (v8 (E n))) := by
  induction k with
  | zero => intro n h; omega
  | succ k ih =>
    intro n hn
    rw [List.range_succ, tabV_snoc]
    have hl := tabV_length (List.range k)
    by_cases e : n = k
    · subst e
      rw [List.getElem?_set_self (by rw [List.length_set, hl]; omega)]
    · have hE := (E k).isLt
      rw [List.getElem?_set_ne (by omega), List.getElem?_set_ne (by omega)]
      exact ih (by omega) n (by omega)
theorem tabV_log (k : Nat) (hk : k ≤ 255) : ∀ n, n < k → (tabV (List.range k))[(E n).toNat]? = some (.int .u8 n) := by
  induction k with
  | zero => intro n h; omega
  | succ k ih =>
    intro n hn
    rw [List.range_succ, tabV_snoc]
    have hl := tabV_length (List.range k)
    have hE := (E n).isLt
    rw [List.getElem?_set_ne (by omega)]
    by_cases e : n = k
    · subst e
      rw [List.getElem?_set_self (by omega)]
    · have : (E k).toNat ≠ (E n).toNat := by
        intro h
        have := E_eq (BitVec.eq_of_toNat_eq h)
        omega
      rw [List.getElem?_set_ne this]
      exact ih (by omega) n (by omega)

theorem v8_toNat (x : B) : (v8 x).toNat = x.toNat := by unfold v8; omega

set_option maxRecDepth 100000 in
set_option maxHeartbeats 2000000 in
theorem newTables_in (w : World) : CallsIn Fence.wide 3 Try.prog 60 #[] w fun e w' => e = .returned (.pointer (some ⟨w.heap.size, 0, none⟩)) ∧ Blk w' w.heap.size 103 (tabV (List.range 255)) ∧ Below w.heap.size w w' := by
  have hz := zero103
  obtain ⟨zs, hzs⟩ : ∃ zs, zs = List.replicate 511 (Value.int .u8 0) := ⟨_, rfl⟩
  rw [← hzs] at hz
  have HZ : Hid (tabV [] = zs) := hzs.symm
  clear hzs
  refine callsIn_of_wp_marks Try.func60 rfl trivial ?_ rfl
  simp only [Try.ntmps60, List.size_toArray, List.length_nil, Nat.reduceSub, Array.replicate_succ, Array.replicate_zero, List.push_toArray, List.append_toArray, List.nil_append, List.cons_append]
  gi_wp2
  have hs := (Blk.new w 103 zs).alloc (Obj.cells #[Value.pointer (some ⟨w.heap.size, 0, none⟩)] 93)
  have hb : ((w.alloc (.cells zs.toArray 103)).alloc (.cells #[Value.pointer (some ⟨w.heap.size, 0, none⟩)] 93)).cell? ⟨w.heap.size + 1, 0, none⟩ = some (.pointer (some ⟨w.heap.size, 0, none⟩)) := by
    have h := (Blk.new (w.alloc (.cells zs.toArray 103)) 93 [Value.pointer (some ⟨w.heap.size, 0, none⟩)]).cell 0 _ rfl
    rw [World.size_alloc] at h
    exact h
  have hB0 : Below w.heap.size w ((w.alloc (.cells zs.toArray 103)).alloc (.cells #[Value.pointer (some ⟨w.heap.size, 0, none⟩)] 93)) := ((Below.refl _ w).alloc (Nat.le_refl _) _).alloc (by simp) _
  refine wpIn_rangeFunc_ownF rfl (by omega) (gf := 69) (lb := #[]) rfl trivial (enters_of Try.func69 (by kernel_rfl) rfl)
    (powers_stops 2 (by omega) _) walksK_t walksK_b (Below.refl _ _) (fun _ => rfl)
    (fun pre W => (Blk W w.heap.size 103 (tabV (nos pre)) ∧ W.cell? ⟨w.heap.size + 1, 0, none⟩ = some (.pointer (some ⟨w.heap.size, 0, none⟩))) ∧ Below w.heap.size w W)
    (fun _ _ _ => False)
    (OwnFrom.and (Own.from (fun s A B row hs hg hr => ⟨(grownBy_keeps_cells hg hr hs.1 rfl).trans hs.1, cell_kept hs.2 hg hr⟩) _) (ownFrom_below (Nat.le_refl _) (by simp; omega)))
    (fun _ _ _ _ _ hs _ _ => hs)
    ⟨⟨by rw [show nos [] = [] from rfl, HZ.out]; exact hs, hb⟩, hB0⟩
    (fun x => { tmps := #[Value.pointer none, Value.pointer (some ⟨w.heap.size + 1, 0, none⟩), .int .i64 x.1, .int .u8 (v8 (E x.1)), Value.agg zs.toArray, Value.pointer (some ⟨w.heap.size, 0, none⟩), .int .i64 x.1, .int .u8 (v8 (E x.1)), undef, undef,
          undef, undef, undef, undef, undef, undef, undef, undef, undef, undef, undef, undef], defers := [] }) ?assign ?body ?done ?stop
  case assign =>
    intro l x W K hK
    simp only [told]
    gi_wp2
    exact hK
  case body =>
    rintro l pre x W ⟨⟨hT, hc⟩, hB⟩ _
    obtain ⟨n, hn⟩ := x
    have hstep : Hid (tabV (nos (pre ++ [(⟨n, hn⟩ : Nth)])) = ((tabV (nos pre)).set (v8 (E n)).toNat (.int .u8 n)).set (256 + n) (.int .u8 (v8 (E n)))) := by
      rw [nos_snoc, v8_toNat]
      exact tabV_snoc _ _
    have hq0 := v8_nn (E n)
    have hq1 := v8_le (E n)
    have hlen := tabV_length (nos pre)
    obtain ⟨q, eq⟩ : ∃ q, q = v8 (E n) := ⟨_, rfl⟩
    rw [← eq] at hstep hq0 hq1
    simp only []
    rw [← eq]
    clear eq
    obtain ⟨u1, hu1⟩ := some_at (tabV (nos pre)) q.toNat (by omega)
    obtain ⟨u2, hu2⟩ := some_at ((tabV (nos pre)).set q.toNat (.int .u8 n)) (256 + n) (by rw [List.length_set]; omega)
    have k1 := hT.cell _ _ hu1
    have f1 := hT.fz q.toNat
    have hT2 := hT.set q.toNat (.int .u8 n)
    have k2 := hT2.cell _ _ hu2
    have f2 := hT2.fz (256 + n)
    have hT3 : Hid (Blk _ _ _ _) := hT2.set (256 + n) (.int .u8 q)
    clear hT hu1 hu2 hT2 hlen
    have hn1 : (0 : Int) ≤ (n : Int) := by omega
    have hn2 : (n : Int) < 255 := by omega
    have hcc : (W.setCell ⟨w.heap.size, q.toNat, none⟩ (.int .u8 n)).cell? ⟨w.heap.size + 1, 0, none⟩ = some (.pointer (some ⟨w.heap.size, 0, none⟩)) := by
      rw [World.cell?_setCell_other _ _ _ _ (by intro e; have := congrArg Addr.block e; simp at this)]
      exact hc
    gi_wp2
    refine ⟨(KeepsOthers.setCell _ _ _).trans (KeepsOthers.setCell _ _ _), (KeepsWalks.setCell _ _ _).trans (KeepsWalks.setCell _ _ _), ⟨?_, ?_⟩, (hB.setCell (by simp) _).setCell (by simp) _⟩
    · rw [hstep.out]
      exact hT3.out
    · rw [World.cell?_setCell_other _ _ _ _ (by intro e; have := congrArg Addr.block e; simp at this)]
      exact hcc
  case done =>
    rintro D ys W hD hys ⟨⟨hT, hc⟩, hB⟩ hK
    rw [hys] at hT
    gi_wp2
    refine ⟨by simp, .inl ⟨_, _, rfl, run_takeDeferred hK, ?_⟩⟩
    refine ⟨_, results_tmp rfl _ _ _, rfl, ?_, hB.trans (belowK_b (w := w) (Nat.le_refl _) W D _ _ (by simp at hD; omega) hK rfl rfl)⟩
    exact (grownBy_keeps_cells (grownBy_putObj' _ D (.deferred none)) (fun r e => by cases e; exact ⟨_, hK, rfl⟩) hT rfl).trans hT
  case stop =>
    rintro D c pre W _ _ h _
    exact h.elim

/-- The tables lie in block g. -/
structure Tabs (w : World) (g : Nat) : Prop where
  log : ∀ a : B, a ≠ 0#8 → w.cell? ⟨g, a.toNat, none⟩ = some (.int .u8 (lg a))
  pow : ∀ n, n < 255 → w.cell? ⟨g, 256 + n, none⟩ = some (.int .u8 (v8 (E n)))
  lt : g < w.heap.size
theorem Tabs.later {w w' : World} {g : Nat} (h : Tabs w g) (hb : Below w.heap.size w w') : Tabs w' g :=
  ⟨fun a ha => cell_later hb (h.log a ha), fun n hn => cell_later hb (h.pow n hn), by have := h.lt; have := hb.size; omega⟩

theorem newTables_any (w : World) : Calls Try.prog 60 #[] w fun e w' => e = .returned (.pointer (some ⟨w.heap.size, 0, none⟩)) ∧ Tabs w' w.heap.size ∧ Below w.heap.size w w' := by
  refine (callsIn_wide.1 (newTables_in w)).mono ?_
  rintro e w' ⟨rfl, hT, hb⟩
  refine ⟨rfl, ⟨fun a ha => ?_, fun n hn => hT.cell _ _ (tabV_pow 255 (Nat.le_refl _) n hn), hT.lt⟩, hb⟩
  have h := tabV_log 255 (Nat.le_refl _) (lg a) (lg_lt a)
  rw [E_lg a ha] at h
  exact hT.cell _ _ h
end Go.Proofs.Ytjhkicfndbceoaa
