/- The power back on; what is kept. -/
import Derived.Test.YtndfhmlcfaaaiaaDoorFlush
namespace Go.Proofs.YtndfhmlcfaaaiaaDoor
open Go.RowKit

/-- In w a slice at ao, of length n, shows the numbers xs. -/
structure Ints (w : World) (ao : Option Addr) (n : Nat) (xs : List Int) : Prop where
  len : xs.length = n
  bare : ao = none → n = 0
  cell : ∀ ad, ao = some ad → ∀ j, j < n → w.cell? (ad.add j) = some (.int .i64 (xs.getD j 0))
  wf : ∀ x ∈ xs, (Lit.int .i64 x).wf = true
theorem add_block (ad : Addr) (j : Nat) : (ad.add j).block = ad.block := by unfold Addr.add; split <;> rfl
theorem Ints.lt {w : World} {ad : Addr} {n : Nat} {xs : List Int} (h : Ints w (some ad) n xs) (hn : 0 < n) : ad.block < w.heap.size := by
  have h1 := h.cell ad rfl 0 hn
  have h2 := World.block_lt_of_cell? _ _ h1
  rwa [add_block] at h2
theorem Ints.fr {X : Nat → Prop} {w w' : World} {ao : Option Addr} {n : Nat} {xs : List Int} (h : Ints w ao n xs) (hf : Fr X w w') (hX : ∀ ad, ao = some ad → 0 < n → ¬ X ad.block) : Ints w' ao n xs :=
  ⟨h.len, h.bare, fun ad had j hj => by
    subst had
    have := World.cell?_of_block (w := w) (w' := w') (a := ad.add j) (by rw [add_block]; exact hf.block _ (h.lt (by omega)) (hX ad rfl (by omega)))
    rw [this]
    exact h.cell ad rfl j hj, h.wf⟩
theorem Ints.next {w w' : World} {ao : Option Addr} {n : Nat} {xs : List Int} (h : Ints w ao n xs) (hb : Below w.heap.size w w') : Ints w' ao n xs :=
  h.fr (X := fun _ => False) (Fr.of_below hb (Nat.le_refl _)) (fun _ _ _ hx => hx)

/-- What lies flushed when the numbers ks have been gone through. -/
def kept (d : St) (ks : List Int) (i : Nat) : Sec := if (i : Int) ∈ ks then d.at i else d.lasts i
def St.on (d : St) (ks : List Int) : St := { d with off := false, lasts := kept d ks, waits := fun _ => none }
theorem kept_nil (d : St) : kept d [] = d.lasts := by funext i; simp [kept]
theorem kept_hit (d : St) (ks : List Int) (i : Nat) (s : Sec) (h : d.waits i = some s) : upd (kept d ks) i s = kept d (ks ++ [(i : Int)]) := by
  funext j
  unfold kept upd
  by_cases e : j = i
  · subst e
    simp [St.at, h]
  · have : ¬ (j : Int) = (i : Int) := by omega
    simp [e, this]
theorem kept_miss (d : St) (ks : List Int) (x : Int) (h : wl d.waits (.int .i64 x) = none) : kept d (ks ++ [x]) = kept d ks := by
  funext j
  unfold kept
  by_cases e : (j : Int) = x
  · subst e
    have h1 : d.waits j = none := (wl_ky d.waits j).symm.trans h
    have : d.at j = d.lasts j := by unfold St.at; rw [h1]; rfl
    simp [this]
  · simp [e]
theorem take_snoc (xs : List Int) (j n : Nat) (hl : xs.length = n) (hj : j < n) : xs.take (j + 1) = xs.take j ++ [xs.getD j 0] := by
  rw [List.take_add_one]
  simp [List.getD, List.getElem?_eq_getElem (show j < xs.length by omega)]

theorem lt_of_block' {w : World} {b : Nat} {o : Obj} (h : w.heap[b]? = some o) : b < w.heap.size := (Array.getElem?_eq_some_iff.1 h).1
theorem on_nil (w : World) (ao : Option Addr) (n c : Nat) : Calls Tryd.prog 48 #[.pointer none, .slice ao n c] w fun e w' => e = .returned (.int .i64 1) ∧ w = w' := by
  go_enter Tryd.func48, Tryd.ntmps48
  go_wp2
  go_ret
  exact ⟨rfl, rfl⟩
theorem on_not (w : World) (r f m cap : Nat) (d : St) (h : Lay w r f m cap d) (hoff : d.off = false) (ao : Option Addr) (n c : Nat) : Calls Tryd.prog 48 #[.pointer (some ⟨r, 0, none⟩), .slice ao n c] w fun e w' => e = .returned (.int .i64 70) ∧ w = w' := by
  have c5 := h.c5
  rw [hoff] at c5
  go_enter Tryd.func48, Tryd.ntmps48
  go_wp2
  go_ret
  exact ⟨rfl, rfl⟩
set_option maxRecDepth 100000 in
set_option maxHeartbeats 2000000 in
theorem on_good (w : World) (r f m cap : Nat) (d : St) (h : Lay w r f m cap d) (hoff : d.off = true) (ao : Option Addr) (n c : Nat) (xs : List Int) (hx : Ints w ao n xs) (hap : ∀ ad, ao = some ad → 0 < n → ¬ fp r f m ad.block) (hn : n ≤ 9223372036854775807) :
    Calls Tryd.prog 48 #[.pointer (some ⟨r, 0, none⟩), .slice ao n c] w fun e w' => e = .returned (.int .i64 0) ∧ ∃ m', w.heap.size ≤ m' ∧ Lay w' r f m' cap (d.on xs) ∧ Fr (fp r f m) w w' := by
  have hz := zero39
  have c5 := h.c5
  rw [hoff] at c5
  have f5 := h.fz 5
  have hL1 : Lay (w.setCell ⟨r, 5, none⟩ (.bool false)) r f m cap { d with off := false } := h.put 5 _ _ rfl rfl rfl rfl (Nat.le_refl _) h.arm
  have hF1 : Fr (fp r f m) w (w.setCell ⟨r, 5, none⟩ (.bool false)) := (Fr.refl _ w).setCell _ _ (.inl (fp_r r f m))
  obtain ⟨D, hD, hM⟩ := hL1.map
  have hl := hx.len
  have hmr := h.mr_ne
  have hmf := h.mf_ne
  have hfrn := h.fr_ne
  have htop := h.top
  have hnI : (n : Int) ≤ 9223372036854775807 := by omega
  have hff : fp r f m f := fp_f r f m
  go_enter Tryd.func48, Tryd.ntmps48
  go_wp2
  go_loopw [23] (fun v wr => ∃ (j : Nat), j ≤ n ∧ v = .int .i64 (j : Int) ∧ Blk wr r 99 (dc f m cap { d with off := false }) ∧ Rw wr f d.n (kept d (xs.take j)) ∧ wr.ownsMap Tryd.prog 3 secR m d.writes D ∧ Fr (fp r f m) w wr) (fun v _ => n - (intOf v).toNat)
  case atStart =>
    refine ⟨0, by omega, rfl, hL1.blk, ?_, hD, hF1⟩
    rw [List.take_zero, kept_nil]
    exact hL1.row
  case round =>
    obtain ⟨j, hj, rfl, hblk, hrow, hown, hfrm⟩ := hrel
    clear c5 f5
    by_cases hjn : j < n
    · have hjI : (j : Int) < n := by omega
      cases ao with
      | none => have := hx.bare rfl; omega
      | some ad =>
        have hxr := hx.fr hfrm hap
        have cx := hxr.cell ad rfl j hjn
        have hwf := hx.wf (xs.getD j 0) (by simp [List.getD, List.getElem?_eq_getElem (show j < xs.length by omega)])
        have hts := take_snoc xs j n hl hjn
        obtain ⟨x, ex⟩ : ∃ x, x = xs.getD j 0 := ⟨_, rfl⟩
        rw [← ex] at cx hwf hts
        clear ex
        have HTS : Hid (xs.take (j + 1) = xs.take j ++ [x]) := hts
        clear hts
        have c1 := hblk.cell 1 _ rfl
        have hB := Blk.new wr 64 (sb zs)
        have hle := hfrm.size
        have hfr2 := fun s : Sec => (Fr.refl (fun k => k = wr.heap.size) (wr.alloc (.cells (sb zs).toArray 64))).setRow wr.heap.size (sb s).toArray (.inl rfl)
        cases hw : wl d.waits (.int .i64 x) with
        | none =>
          go_wp2_with (first
            | (at_lookup; refine look_sec rfl _ _ rfl m _ D d.waits hown hM rfl x rfl hwf zs (by rw [hw]; rfl) false (by rw [hw]; rfl) ?_)
            | (refine store_sec rfl _ _ rfl wr.heap.size zs zs hB rfl rfl ?_; intro hsecU))
          go_roundw
          case rel =>
            refine ⟨j + 1, by omega, by go_num, (hblk.alloc _).fr (hfr2 zs) (by have := hblk.lt; omega), ?_, ?_, (hfrm.alloc _).setRow _ _ (.inr hle)⟩
            · rw [HTS.out, kept_miss d _ x hw]
              exact (hrow.same (heap_alloc_old wr _ hrow.lt)).fr (hfr2 zs) (by have := hrow.lt; omega)
            · obtain ⟨es, cl, hb, e⟩ := hown.alloc (.cells (sb zs).toArray 64)
              exact ⟨es, cl, ((hfr2 zs).block m (lt_of_block' hb) (by have := hown.lt; omega)).trans hb, e⟩
          case measure => simp [intOf]; omega
        | some s =>
          have h0 : 0 ≤ x := by
            rcases Int.lt_or_le x 0 with hn | hn
            · rw [wl_neg d.waits x hn] at hw; cases hw
            · exact hn
          obtain ⟨i, hi0⟩ := Int.eq_ofNat_of_zero_le h0
          subst hi0
          have hwi : d.waits i = some s := (wl_ky d.waits i).symm.trans hw
          have hi : i < d.n := by
            rcases Nat.lt_or_ge i d.n with h1 | h1
            · exact h1
            · rw [h.low i h1] at hwi; cases hwi
          have hI1 : (i : Int) < d.n := by omega
          go_wp2_with (first
            | (at_lookup; refine look_sec rfl _ _ rfl m _ D d.waits hown hM rfl (i : Int) rfl hwf s (by rw [hw]; rfl) true (by rw [hw]; rfl) ?_)
            | (refine store_sec rfl _ _ rfl wr.heap.size zs s hB rfl rfl ?_; intro hsecU))
          have hblkU := (hblk.alloc (.cells (sb zs).toArray 64)).fr (hfr2 s) (by have := hblk.lt; omega)
          have hrowU := (hrow.same (heap_alloc_old wr (.cells (sb zs).toArray 64) hrow.lt)).fr (hfr2 s) (by have := hrow.lt; omega)
          have hownU : ((wr.alloc (.cells (sb zs).toArray 64)).setRow wr.heap.size (sb s).toArray).ownsMap Tryd.prog 3 secR m d.writes D := by
            obtain ⟨es, cl, hb, e⟩ := hown.alloc (.cells (sb zs).toArray 64)
            exact ⟨es, cl, ((hfr2 s).block m (lt_of_block' hb) (by have := hown.lt; omega)).trans hb, e⟩
          have hfrU : Fr (fp r f m) w ((wr.alloc (.cells (sb zs).toArray 64)).setRow wr.heap.size (sb s).toArray) := (hfrm.alloc _).setRow _ _ (.inr hle)
          obtain ⟨U, hU⟩ : ∃ U, U = ((wr.alloc (.cells (sb zs).toArray 64)).setRow wr.heap.size (sb s).toArray) := ⟨_, rfl⟩
          obtain ⟨G, hG⟩ : ∃ G, G = wr.heap.size := ⟨_, rfl⟩
          rw [← hU] at hsecU hblkU hrowU hownU hfrU ⊢
          rw [← hG] at hsecU ⊢
          have c0U : U.cell? ⟨r, 0, none⟩ = some (.slice (some ⟨f, 0, none⟩) d.n cap) := hblkU.cell 0 _ rfl
          obtain ⟨F, hF⟩ : ∃ F, F = kept d (xs.take j) := ⟨_, rfl⟩
          rw [← hF] at hrowU
          have HF : Hid (F = kept d (xs.take j)) := hF
          clear hF hU hfr2 hB hblk hrow hown hfrm cx hxr c1 hG
          refine wp_region_to (fun v => Sm U v) 7 (by kernel_rfl) ?_
          have hS0 := Sm.drew U
          refine wpTo_take (i := 0) (v := ?v0q) (show _ = some _ by simp only [List.getElem?_toArray, List.getElem?_cons_zero]; exact rfl) (by kernel_rfl) (by kernel_rfl) (by kernel_rfl) (by kernel_rfl) (by exact fun _ _ _ h => h) (Or.inl ⟨by rfl, ?hy0q⟩) hS0 ?r0q
          case hy0q => (intro w hSw; (try dsimp only at hSw); go_simp; try with_reducible rfl)
          (try simp only [Act.put]); (try simp only [List.setIfInBounds_toArray]); (repeat (first | simp only [List.set_cons_succ] | simp only [List.set_cons_zero]))
          refine wpTo_take (i := 1) (v := ?v1q) (show _ = some _ by simp only [List.getElem?_toArray, List.getElem?_cons_succ, List.getElem?_cons_zero]; exact rfl) (by kernel_rfl) (by kernel_rfl) (by kernel_rfl) (by kernel_rfl) (by exact fun _ _ _ h => h) (Or.inl ⟨by rfl, ?hy1q⟩) hS0 ?r1q
          case hy1q => (intro w hSw; (try dsimp only at hSw); go_simp; try with_reducible rfl)
          (try simp only [Act.put]); (try simp only [List.setIfInBounds_toArray]); (repeat (first | simp only [List.set_cons_succ] | simp only [List.set_cons_zero]))
          refine wpTo_take (i := 2) (v := ?v2q) (show _ = some _ by simp only [List.getElem?_toArray, List.getElem?_cons_succ, List.getElem?_cons_zero]; exact rfl) (by kernel_rfl) (by kernel_rfl) (by kernel_rfl) (by kernel_rfl) (by exact fun _ _ _ h => h) (Or.inl ⟨by rfl, ?hy2q⟩) hS0 ?r2q
          case hy2q => (intro w hSw; (try dsimp only at hSw); go_simp; try with_reducible rfl)
          (try simp only [Act.put]); (try simp only [List.setIfInBounds_toArray]); (repeat (first | simp only [List.set_cons_succ] | simp only [List.set_cons_zero]))
          refine wpTo_take (i := 4) (v := ?v4q) (show _ = some _ by simp only [List.getElem?_toArray, List.getElem?_cons_succ, List.getElem?_cons_zero]; exact rfl) (by kernel_rfl) (by kernel_rfl) (by kernel_rfl) (by kernel_rfl) (by exact fun _ _ _ h => h) (Or.inl ⟨by rfl, ?hy4q⟩) hS0 ?r4q
          case hy4q => (intro w hSw; (try dsimp only at hSw); go_simp; try with_reducible rfl)
          (try simp only [Act.put]); (try simp only [List.setIfInBounds_toArray]); (repeat (first | simp only [List.set_cons_succ] | simp only [List.set_cons_zero]))
          refine wpTo_take (i := 3) (v := ?v3q) (show _ = some _ by simp only [List.getElem?_toArray, List.getElem?_cons_succ, List.getElem?_cons_zero]; exact rfl) (by kernel_rfl) (by kernel_rfl) (by kernel_rfl) (by kernel_rfl) (by exact fun _ _ _ h => h) (Or.inl ⟨by rfl, ?hy3q⟩) hS0 ?r3q
          case hy3q => (intro w hSw; (try dsimp only at hSw); have hcc := (hSw.cell _).trans c0U; go_simp; try with_reducible rfl)
          (try simp only [Act.put]); (try simp only [List.setIfInBounds_toArray]); (repeat (first | simp only [List.set_cons_succ] | simp only [List.set_cons_zero]))
          refine wpTo_take (i := 5) (show _ = some _ by simp only [List.getElem?_toArray, List.getElem?_cons_succ, List.getElem?_cons_zero]; exact rfl) (by kernel_rfl) (by kernel_rfl) (by kernel_rfl) (by kernel_rfl) (by exact fun _ _ _ h => h) (yieldsIf_load_mid (by rfl) 64 (.tmp 7) rfl G 0 rfl (sb s) _ (fun v h => (h.blk hsecU).whole) Tryd.underlying64 rfl (by rw [sb_length]; kernel_rfl)) hS0 ?_
          (try simp only [Act.put]); (try simp only [List.setIfInBounds_toArray]); (repeat (first | simp only [List.set_cons_succ] | simp only [List.set_cons_zero]))
          refine wpTo_take (i := 6) (v := ?v6q) (show _ = some _ by simp only [List.getElem?_toArray, List.getElem?_cons_succ, List.getElem?_cons_zero]; exact rfl) (by kernel_rfl) (by kernel_rfl) (by kernel_rfl) (by kernel_rfl) (by exact fun _ _ _ h => h) (Or.inl ⟨by rfl, ?hy6q⟩) hS0 ?r6q
          case hy6q => (intro w hSw; (try dsimp only at hSw); go_simp; try with_reducible rfl)
          (try simp only [Act.put]); (try simp only [List.setIfInBounds_toArray]); (repeat (first | simp only [List.set_cons_succ] | simp only [List.set_cons_zero]))
          refine wpTo_last (by kernel_rfl) (show _ = some _ by simp only [List.getElem?_toArray, List.getElem?_cons_succ, List.getElem?_cons_zero]; exact rfl) (by kernel_rfl) (fun K hK => ?_)
          rw [if_pos (by rfl)]
          refine put_row _ _ rfl f _ F (hS0.row hrowU) i hi s rfl rfl (fun hR3 => ?_)
          refine hK.out _ _ ?_
          clear hK K
          (try simp only [Act.put]); (try simp only [List.setIfInBounds_toArray]); (repeat (first | simp only [List.set_cons_succ] | simp only [List.set_cons_zero]))
          have hSm := hS0
          have hfrV := (hSm.fr hfrU).setCells f (i * 512) (sb s) (.inl hff)
          have hfrW := (Fr.refl (fun k => k = f) U.drew).setCells f (i * 512) (sb s) (.inl rfl)
          go_wp2_with fail
          go_roundw
          case rel =>
            refine ⟨j + 1, by omega, by go_num, (hSm.blk hblkU).fr hfrW (fun e => hfrn e.symm), ?_, ?_, hfrV⟩
            · rw [HTS.out, ← kept_hit d _ i s hwi, ← HF.out]
              exact hR3
            · obtain ⟨es, cl, hb, e⟩ := hownU
              exact ⟨es, cl, (hfrW.block m (lt_of_block' hb) hmf).trans hb, e⟩
          case measure => simp [intOf]; omega
    · have hjI : ¬ (j : Int) < n := by omega
      have ej : j = n := by omega
      rw [ej, List.take_of_length_le (by omega)] at hrow
      have hLA : Lay wr r f m cap { d with off := false, lasts := kept d xs } := ⟨hblk, hrow, ⟨D, hown, hM⟩, h.one, h.top, h.low, h.arm⟩
      go_wp2_with (go_at_call 52; refine (forget_any _ r f m cap _ hLA).mono ?_; rintro e w3 ⟨rfl, m', hm', hL3, hF3⟩)
      go_ret
      exact ⟨rfl, m', Nat.le_trans hfrm.size hm', hL3, hfrm.trans hF3 (fun _ _ h => h)⟩
end Go.Proofs.YtndfhmlcfaaaiaaDoor

