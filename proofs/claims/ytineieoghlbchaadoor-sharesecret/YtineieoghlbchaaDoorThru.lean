/- The polynomial through points. -/
import Derived.Test.YtineieoghlbchaaDoorSecM
import Derived.Test.YtineieoghlbchaaDoorBackM
import Derived.Test.YtineieoghlbchaaDoorRefZ
import Derived.Deep.RegionWith
import Derived.Deep.CutRange
namespace Go.Proofs.YtineieoghlbchaaDoor
open Go.RowKit

/-- A block of elements. -/
structure El (w : World) (g : Nat) (P : List B) : Prop where
  blk : Blk w g 5 (u8s (P.map v8))
section
variable {w w' : World} {g : Nat} {P : List B}
theorem El.cell (h : El w g P) (i : Nat) (x : B) (hx : P[i]? = some x) : w.cell? ⟨g, i, none⟩ = some (.int .u8 (v8 x)) := h.blk.cell i _ (by simp [u8s, hx])
theorem El.cellD (h : El w g P) (i : Nat) (hi : i < P.length) : w.cell? ⟨g, i, none⟩ = some (.int .u8 (v8 (P.getD i 0#8))) := h.cell i _ (by simp [List.getD, List.getElem?_eq_getElem hi])
theorem El.fz (h : El w g P) (i : Nat) : w.frozen? ⟨g, i, none⟩ = false := h.blk.fz i
theorem El.set (h : El w g P) (i : Nat) (x : B) : El (w.setCell ⟨g, i, none⟩ (.int .u8 (v8 x))) g (P.set i x) := ⟨by
  have := h.blk.set i (.int .u8 (v8 x))
  rwa [show (u8s (P.map v8)).set i (.int .u8 (v8 x)) = u8s ((P.set i x).map v8) by simp [u8s, List.map_set]] at this⟩
theorem El.beside (h : El w g P) {a : Addr} (u : Value) (hn : g ≠ a.block) : El (w.setCell a u) g P := ⟨h.blk.beside u hn⟩
theorem El.alloc (h : El w g P) (o : Obj) : El (w.alloc o) g P := ⟨h.blk.alloc o⟩
theorem El.heap (h : El w g P) (he : w'.heap = w.heap) : El w' g P := ⟨by unfold Blk; rw [he]; exact h.blk⟩
theorem El.lt (h : El w g P) : g < w.heap.size := h.blk.lt
end

/-- A block more. -/
def Made (w w' : World) : Prop := ∃ o, w' = w.alloc o
theorem Made.below {B : Nat} {a w w' : World} (h : Made w w') (hb : Below B a w) (hB : B ≤ w.heap.size) : Below B a w' := by
  obtain ⟨o, rfl⟩ := h
  exact hb.alloc hB o
theorem El.made {w w' : World} {g : Nat} {P : List B} (h : El w g P) (hm : Made w w') : El w' g P := by
  obtain ⟨o, rfl⟩ := hm
  exact h.alloc o
theorem law_mkE {w : World} {ops : Array Oper} {rest : List Oper} {o : Oper} {a : Act} {Q : Exit → Act → World → Prop} (hg : o.guard = none) (l c : Operand) (hop : o.op = Op.makeSlice 22 l c)
    (L C : Int) (N : Nat) (hl : a.eval l = .int .i64 L) (hc : a.eval c = .int .i64 C) (hL : L = (N : Int)) (hC : C = (N : Int)) (hbig : N ≤ 1000000)
    (hK : ∀ w', El w' w.heap.size (List.replicate N 0#8) → Made w w' → wpList Tryd.prog ops Q rest (a.put o.dst (.slice (some ⟨w.heap.size, 0, none⟩) N N)) w') :
    wpList Tryd.prog ops Q (o :: rest) a w := by
  refine law_mkB hg l c hop L C N hl hc hL hC hbig (List.replicate N 0) rfl ?_
  refine hK _ ⟨?_⟩ ⟨_, rfl⟩
  have e : (List.replicate N 0#8).map v8 = List.replicate N 0 := by rw [List.map_replicate, v8_zero]
  rw [e]
  exact Blk.new w 5 _

set_option maxRecDepth 100000 in
set_option maxHeartbeats 4000000 in
theorem through_any (ad bd : Addr) (n c d : Nat) (X Y : List B) (w : World) (hx : Shows w (some ad) n (X.map v8)) (hy : Shows w (some bd) n (Y.map v8)) (hnd : X.Nodup) (hn : (n : Int) ≤ 1000) :
    Calls Tryd.prog 32 #[.slice (some ad) n c, .slice (some bd) n d] w fun e w' => ∃ P : List B, e = .returned (.slice (some ⟨w.heap.size, 0, none⟩) n n) ∧ El w' w.heap.size P ∧ Hid (P.length = n) ∧ InI X Y n P ∧ Below w.heap.size w w' := by
  have HXL : Hid (X.length = n) := by have := hx.len; rwa [List.length_map] at this
  have HYL : Hid (Y.length = n) := by have := hy.len; rwa [List.length_map] at this
  have cX : ∀ W, Below w.heap.size w W → ∀ k x, X[k]? = some x → W.cell? (ad.add k) = some (.int .u8 (v8 x)) := fun W hb k x hk => by
    have h1 := (hx.later hb).elem k (by have := (List.getElem?_eq_some_iff.1 hk).1; have := HXL.out; omega)
    rw [h1]; simp [List.getD, hk]
  have cY : ∀ W, Below w.heap.size w W → ∀ k x, Y[k]? = some x → W.cell? (bd.add k) = some (.int .u8 (v8 x)) := fun W hb k x hk => by
    have h1 := (hy.later hb).elem k (by have := (List.getElem?_eq_some_iff.1 hk).1; have := HYL.out; omega)
    rw [h1]; simp [List.getD, hk]
  obtain ⟨G, HG⟩ : ∃ G, Hid (G = w.heap.size) := ⟨_, rfl⟩
  have hGw : w.heap.size ≤ G := by have := HG.out; omega
  go_enter Tryd.func32, Tryd.ntmps32
  go_wp2_with (at_make; go_must (refine law_mkE rfl _ _ rfl _ _ n rfl rfl rfl rfl (by omega) ?_))
  intro w1 hE1 hw1
  have hb1 : Below w.heap.size w w1 := hw1.below (Below.refl _ w) (Nat.le_refl _)
  rw [← HG.out] at hE1 ⊢
  clear hw1
  go_wp2
  go_loopw [6] (fun q wr => ∃ (i : Nat) (S : List B), i ≤ n ∧ q = .int .i64 i ∧ El wr G S ∧ Hid (S.length = n) ∧ InI X Y i S ∧ Below w.heap.size w wr) (fun q _ => n - (intOf q).toNat)
  case atStart => exact ⟨0, _, by omega, rfl, hE1, (by show _ = _; simp), InI.start _ _ _, hb1⟩
  case round =>
    clear hE1 hb1
    obtain ⟨i, S, hi, rfl, hES, HS, hI, hb⟩ := hrel
    by_cases hlt : i < n
    · have hin : (i : Int) < (n : Int) := by omega
      obtain ⟨a, haX⟩ : ∃ a, X[i]? = some a := ⟨_, List.getElem?_eq_getElem (by have := HXL.out; omega)⟩
      obtain ⟨y, hyY⟩ : ∃ y, Y[i]? = some y := ⟨_, List.getElem?_eq_getElem (by have := HYL.out; omega)⟩
      have cy := cY wr hb i y hyY
      have hGl := hES.lt
      have hsz := hb.size
      obtain ⟨wB, h⟩ : ∃ x, x = wr := ⟨_, rfl⟩; subst h
      go_wp2
      go_loopw [7, 8] (fun v q wr => ∃ (k g r : Nat) (p : List B), k ≤ n ∧ q = .int .i64 k ∧ v = .slice (some ⟨g, 0, none⟩) r r ∧ G < g ∧ El wr g p ∧ El wr G S ∧ Hid (p.length = r) ∧ r ≤ k + 1 ∧ Hid (r = if k ≤ i then k + 1 else k) ∧ InK X i k y p ∧ Below w.heap.size w wr) (fun _ q _ => n - (intOf q).toNat)
      case atStart =>
        refine ⟨0, wB.heap.size, 1, [y], by omega, rfl, rfl, hGl, ⟨Blk.new wB 5 [_]⟩, hES.alloc _, rfl, by omega, by show _ = _; simp, InK.start _ _ _, hb.alloc hsz _⟩
      case round =>
        clear hES hb cy hGl hsz
        obtain ⟨k, g, r, p, hk, rfl, rfl, hgG, hEp, hES, HP, hr, HR, hK, hb⟩ := hrel
        have hsz := hb.size
        by_cases hkn : k < n
        · have hkn' : (k : Int) < (n : Int) := by omega
          by_cases hki : k = i
          · subst hki
            go_wp2
            go_roundw
            case rel => exact ⟨k + 1, g, r, p, by omega, by go_num, rfl, hgG, hEp, hES, HP, by omega, by have := HR.out; show _ = _; rw [if_pos (Nat.le_refl _)] at this; rw [if_neg (by omega)]; exact this, hK.skip, hb⟩
            case measure => simp [intOf]; omega
          · have hki' : ¬ (k : Int) = (i : Int) := by omega
            obtain ⟨b, hbX⟩ : ∃ b, X[k]? = some b := ⟨_, List.getElem?_eq_getElem (by have := HXL.out; omega)⟩
            have ca : ∀ N, (wr.drewN N).cell? (ad.add i) = some (.int .u8 (v8 a)) := fun N => cX _ (below_drewN hb N) i a haX
            have cb : ∀ N, (wr.drewN N).cell? (ad.add k) = some (.int .u8 (v8 b)) := fun N => cX _ (below_drewN hb N) k b hbX
            have hxor := v8_xor a b
            have cD : ∀ N, _ := fun N => refDiv_any 1#8 (a ^^^ b) 1 (v8 (a ^^^ b)) (wr.drewN N) (by decide) rfl
            obtain ⟨E, hE⟩ : ∃ E : Int, E = if a ^^^ b = 0#8 then 30 else 0 := ⟨_, rfl⟩
            obtain ⟨q, HQ⟩ : ∃ q, Hid (q = quo 1#8 (a ^^^ b)) := ⟨_, rfl⟩
            rw [← hE, ← HQ.out] at cD
            clear hE
            have hr1 : (r : Int) + 1 ≤ 1001 := by omega
            have hki2 : ((k : Int) == (i : Int)) = false := by simp; omega
            go_wp2_with fail
            go_quiet ((go_at_call 48; exact Calls.quiet_of_same ((cD _).mono (fun e w' h => ⟨h.1, h.2.symm⟩))))
            go_wp2_with (at_make; go_must (refine law_mkE rfl _ _ rfl _ _ (r + 1) rfl rfl (by simp) (by simp) (by omega) ?_))
            intro w2 hE2 hw2
            have hED : ∀ N, El (wr.drewN N) g p ∧ El (wr.drewN N) G S ∧ Below w.heap.size w (wr.drewN N) := fun N => ⟨hEp.heap (drewN_heap _ _), hES.heap (drewN_heap _ _), below_drewN hb N⟩
            clear hEp hES
            obtain ⟨e1, e2, e3⟩ := hED nq
            have hEp2 := e1.made hw2
            have hES2 := e2.made hw2
            have hgl := e1.lt
            have hb2 := hw2.below e3 e3.size
            have hgn : (wr.drewN nq).heap.size = wr.heap.size := by rw [drewN_heap]
            have hg2 : g < wr.heap.size := by rw [← hgn]; exact hgl
            obtain ⟨g2, hgg⟩ : ∃ g2, g2 = wr.heap.size := ⟨_, rfl⟩
            rw [← hgg] at hg2 hE2 ⊢
            have hadl : ad.block < wr.heap.size := by have := block_lt_of_cell (ca 0); rw [add_block] at this; simpa using this
            have hadg : ad.block ≠ g2 := by omega
            clear hED e1 e2 e3 hgl hw2 hgn hgg cD ca hadl
            go_wp2
            go_loopw [12] (fun u wr => ∃ (j : Nat) (N : List B), j ≤ r ∧ u = .int .i64 j ∧ El wr g2 N ∧ Hid (N.length = r + 1) ∧ Hid (∀ z, ev N z = mul (ev (p.take j) z) (mul q (b ^^^ z))) ∧ El wr g p ∧ El wr G S ∧ Below w.heap.size w wr) (fun u _ => r - (intOf u).toNat)
            case atStart => exact ⟨0, _, Nat.zero_le _, rfl, hE2, (by show _ = _; simp), (fun z => by rw [evs_zeros]; simp [ev, zero_mul]), hEp2, hES2, hb2⟩
            case round =>
              clear hE2 hEp2 hES2 hb2 hb hsz cb
              obtain ⟨j, N, hj, rfl, hEN, HN, HV, hEp, hES, hb⟩ := hrel
              by_cases hjr : j < r
              · have hjr' : (j : Int) < (r : Int) := by omega
                have cN := hEN.cellD j (by have := HN.out; omega)
                have fN := hEN.fz j
                have cp := hEp.cellD j (by have := HP.out; omega)
                have cb := cX wr hb k b hbX
                obtain ⟨x0, HX0⟩ : ∃ x0, Hid (x0 = N.getD j 0#8) := ⟨_, rfl⟩
                obtain ⟨pj, HPJ⟩ : ∃ pj, Hid (pj = p.getD j 0#8) := ⟨_, rfl⟩
                rw [← HX0.out] at cN
                rw [← HPJ.out] at cp
                have hx1 := v8_xor x0 (mul (mul pj b) q)
                obtain ⟨z1, HZ1⟩ : ∃ z1, Hid (z1 = x0 ^^^ mul (mul pj b) q) := ⟨_, rfl⟩
                rw [← HZ1.out] at hx1
                go_wp2_with fail
                have hS0 : wr.drew.cell? ⟨g, j, none⟩ = some (.int .u8 (v8 pj)) ∧ wr.drew.cell? (ad.add k) = some (.int .u8 (v8 b)) := ⟨cp, cb⟩
                have hjr2 : (j : Int) < (r : Int) + 1 := by omega
                have hgb : ad.block ≠ g2 := hadg
                have hS1 : (wr.drew.setCell ⟨g2, j, none⟩ (.int .u8 (v8 z1))).cell? ⟨g, j, none⟩ = some (.int .u8 (v8 pj)) ∧ (wr.drew.setCell ⟨g2, j, none⟩ (.int .u8 (v8 z1))).cell? (ad.add k) = some (.int .u8 (v8 b)) := by
                  refine ⟨?_, ?_⟩
                  · rw [World.cell?_setCell_far _ _ _ _ (by show g2 ≠ g; omega)]; exact cp
                  · rw [World.cell?_setCell_far _ _ _ _ (by rw [add_block]; exact hgb.symm)]; exact cb
                go_cut [] from 60 to 78 (fun wx => wx = wr.drew.setCell ⟨g2, j, none⟩ (.int .u8 (v8 z1)))
                case first =>
                  refine wp_region_noPanic ?_
                  refine wp_region_held_drew (S := fun w' => w'.cell? ⟨g, j, none⟩ = some (.int .u8 (v8 pj)) ∧ w'.cell? (ad.add k) = some (.int .u8 (v8 b))) (by kernel_rfl) hS0 (fun hHeld => ?_)
                  clear hHeld
                  refine wpAnyH_take (i := 0) (v := ?v0a1) (show _ = some _ by simp only [List.getElem?_toArray, List.getElem?_cons_zero]; exact rfl) (by kernel_rfl) (by kernel_rfl) (by kernel_rfl) (fun _ _ _ h => h) (Or.inl ⟨by rfl, ?hy0a1⟩) (hS0) ?r0a1
                  case hy0a1 => (intro w hSw; (try dsimp only at hSw); obtain ⟨hSa, hSb⟩ := hSw; go_simp; try with_reducible rfl)
                  (try simp only [Act.put]); (try simp only [List.setIfInBounds_toArray]); (repeat (first | simp only [List.set_cons_succ] | simp only [List.set_cons_zero]))
                  refine wpAnyH_take (i := 1) (v := ?v1a2) (show _ = some _ by simp only [List.getElem?_toArray, List.getElem?_cons_succ, List.getElem?_cons_zero]; exact rfl) (by kernel_rfl) (by kernel_rfl) (by kernel_rfl) (fun _ _ _ h => h) (Or.inl ⟨by rfl, ?hy1a2⟩) (hS0) ?r1a2
                  case hy1a2 => (intro w hSw; (try dsimp only at hSw); obtain ⟨hSa, hSb⟩ := hSw; go_simp; try with_reducible rfl)
                  (try simp only [Act.put]); (try simp only [List.setIfInBounds_toArray]); (repeat (first | simp only [List.set_cons_succ] | simp only [List.set_cons_zero]))
                  refine wpAnyH_take (i := 2) (v := ?v2a3) (show _ = some _ by simp only [List.getElem?_toArray, List.getElem?_cons_succ, List.getElem?_cons_zero]; exact rfl) (by kernel_rfl) (by kernel_rfl) (by kernel_rfl) (fun _ _ _ h => h) (Or.inl ⟨by rfl, ?hy2a3⟩) (hS0) ?r2a3
                  case hy2a3 => (intro w hSw; (try dsimp only at hSw); obtain ⟨hSa, hSb⟩ := hSw; go_simp; try with_reducible rfl)
                  (try simp only [Act.put]); (try simp only [List.setIfInBounds_toArray]); (repeat (first | simp only [List.set_cons_succ] | simp only [List.set_cons_zero]))
                  refine wpAnyH_take (i := 3) (v := ?v3a4) (show _ = some _ by simp only [List.getElem?_toArray, List.getElem?_cons_succ, List.getElem?_cons_zero]; exact rfl) (by kernel_rfl) (by kernel_rfl) (by kernel_rfl) (fun _ _ _ h => h) (Or.inl ⟨by rfl, ?hy3a4⟩) (hS0) ?r3a4
                  case hy3a4 => (intro w hSw; (try dsimp only at hSw); obtain ⟨hSa, hSb⟩ := hSw; go_simp; try with_reducible rfl)
                  (try simp only [Act.put]); (try simp only [List.setIfInBounds_toArray]); (repeat (first | simp only [List.set_cons_succ] | simp only [List.set_cons_zero]))
                  refine wpAnyH_take (i := 4) (v := ?v4a5) (show _ = some _ by simp only [List.getElem?_toArray, List.getElem?_cons_succ, List.getElem?_cons_zero]; exact rfl) (by kernel_rfl) (by kernel_rfl) (by kernel_rfl) (fun _ _ _ h => h) (Or.inl ⟨by rfl, ?hy4a5⟩) (hS0) ?r4a5
                  case hy4a5 => (intro w hSw; (try dsimp only at hSw); obtain ⟨hSa, hSb⟩ := hSw; go_simp; try with_reducible rfl)
                  (try simp only [Act.put]); (try simp only [List.setIfInBounds_toArray]); (repeat (first | simp only [List.set_cons_succ] | simp only [List.set_cons_zero]))
                  refine wpAnyH_take (i := 6) (v := ?v6a6) (show _ = some _ by simp only [List.getElem?_toArray, List.getElem?_cons_succ, List.getElem?_cons_zero]; exact rfl) (by kernel_rfl) (by kernel_rfl) (by kernel_rfl) (fun _ _ _ h => h) (Or.inl ⟨by rfl, ?hy6a6⟩) (hS0) ?r6a6
                  case hy6a6 => (intro w hSw; (try dsimp only at hSw); obtain ⟨hSa, hSb⟩ := hSw; go_simp; try with_reducible rfl)
                  (try simp only [Act.put]); (try simp only [List.setIfInBounds_toArray]); (repeat (first | simp only [List.set_cons_succ] | simp only [List.set_cons_zero]))
                  refine wpAnyH_take (i := 7) (v := ?v7a7) (show _ = some _ by simp only [List.getElem?_toArray, List.getElem?_cons_succ, List.getElem?_cons_zero]; exact rfl) (by kernel_rfl) (by kernel_rfl) (by kernel_rfl) (fun _ _ _ h => h) (Or.inl ⟨by rfl, ?hy7a7⟩) (hS0) ?r7a7
                  case hy7a7 => (intro w hSw; (try dsimp only at hSw); obtain ⟨hSa, hSb⟩ := hSw; go_simp; try with_reducible rfl)
                  (try simp only [Act.put]); (try simp only [List.setIfInBounds_toArray]); (repeat (first | simp only [List.set_cons_succ] | simp only [List.set_cons_zero]))
                  refine wpAnyH_take (i := 8) (v := ?v8a8) (show _ = some _ by simp only [List.getElem?_toArray, List.getElem?_cons_succ, List.getElem?_cons_zero]; exact rfl) (by kernel_rfl) (by kernel_rfl) (by kernel_rfl) (fun _ _ _ h => h) (Or.inl ⟨by rfl, ?hy8a8⟩) (hS0) ?r8a8
                  case hy8a8 => (intro w hSw; (try dsimp only at hSw); obtain ⟨hSa, hSb⟩ := hSw; go_simp; try with_reducible rfl)
                  (try simp only [Act.put]); (try simp only [List.setIfInBounds_toArray]); (repeat (first | simp only [List.set_cons_succ] | simp only [List.set_cons_zero]))
                  refine wpAnyH_take (i := 9) (v := ?v9a9) (show _ = some _ by simp only [List.getElem?_toArray, List.getElem?_cons_succ, List.getElem?_cons_zero]; exact rfl) (by kernel_rfl) (by kernel_rfl) (by kernel_rfl) (fun _ _ _ h => h) (Or.inl ⟨by rfl, ?hy9a9⟩) (hS0) ?r9a9
                  case hy9a9 => (intro w hSw; (try dsimp only at hSw); obtain ⟨hSa, hSb⟩ := hSw; go_simp; try with_reducible rfl)
                  (try simp only [Act.put]); (try simp only [List.setIfInBounds_toArray]); (repeat (first | simp only [List.set_cons_succ] | simp only [List.set_cons_zero]))
                  refine wpAnyH_take (i := 10) (v := ?v10a10) (show _ = some _ by simp only [List.getElem?_toArray, List.getElem?_cons_succ, List.getElem?_cons_zero]; exact rfl) (by kernel_rfl) (by kernel_rfl) (by kernel_rfl) (fun _ _ _ h => h) (Or.inl ⟨by rfl, ?hy10a10⟩) (hS0) ?r10a10
                  case hy10a10 => (intro w hSw; (try dsimp only at hSw); obtain ⟨hSa, hSb⟩ := hSw; go_simp; try with_reducible rfl)
                  (try simp only [Act.put]); (try simp only [List.setIfInBounds_toArray]); (repeat (first | simp only [List.set_cons_succ] | simp only [List.set_cons_zero]))
                  refine wpAnyH_take (i := 11) (v := ?v11a11) (show _ = some _ by simp only [List.getElem?_toArray, List.getElem?_cons_succ, List.getElem?_cons_zero]; exact rfl) (by kernel_rfl) (by kernel_rfl) (by kernel_rfl) (fun _ _ _ h => h) (Or.inl ⟨by rfl, ?hy11a11⟩) (hS0) ?r11a11
                  case hy11a11 => (intro w hSw; (try dsimp only at hSw); obtain ⟨hSa, hSb⟩ := hSw; go_simp; try with_reducible rfl)
                  (try simp only [Act.put]); (try simp only [List.setIfInBounds_toArray]); (repeat (first | simp only [List.set_cons_succ] | simp only [List.set_cons_zero]))
                  refine wpAnyH_take (i := 12) (v := ?v12a12) (show _ = some _ by simp only [List.getElem?_toArray, List.getElem?_cons_succ, List.getElem?_cons_zero]; exact rfl) (by kernel_rfl) (by kernel_rfl) (by kernel_rfl) (fun _ _ _ h => h) (Or.inl ⟨by rfl, ?hy12a12⟩) (hS0) ?r12a12
                  case hy12a12 => (intro w hSw; (try dsimp only at hSw); obtain ⟨hSa, hSb⟩ := hSw; go_simp; try with_reducible rfl)
                  (try simp only [Act.put]); (try simp only [List.setIfInBounds_toArray]); (repeat (first | simp only [List.set_cons_succ] | simp only [List.set_cons_zero]))
                  refine wpAnyH_take (i := 13) (v := ?v13a13) (show _ = some _ by simp only [List.getElem?_toArray, List.getElem?_cons_succ, List.getElem?_cons_zero]; exact rfl) (by kernel_rfl) (by kernel_rfl) (by kernel_rfl) (fun _ _ _ h => h) (Or.inl ⟨by rfl, ?hy13a13⟩) (hS0) ?r13a13
                  case hy13a13 => (intro w hSw; (try dsimp only at hSw); obtain ⟨hSa, hSb⟩ := hSw; go_simp; try with_reducible rfl)
                  (try simp only [Act.put]); (try simp only [List.setIfInBounds_toArray]); (repeat (first | simp only [List.set_cons_succ] | simp only [List.set_cons_zero]))
                  refine wpAnyH_take (i := 15) (v := ?v15a14) (show _ = some _ by simp only [List.getElem?_toArray, List.getElem?_cons_succ, List.getElem?_cons_zero]; exact rfl) (by kernel_rfl) (by kernel_rfl) (by kernel_rfl) (fun _ _ _ h => h) (Or.inl ⟨by rfl, ?hy15a14⟩) (hS0) ?r15a14
                  case hy15a14 => (intro w hSw; (try dsimp only at hSw); obtain ⟨hSa, hSb⟩ := hSw; go_simp; try with_reducible rfl)
                  (try simp only [Act.put]); (try simp only [List.setIfInBounds_toArray]); (repeat (first | simp only [List.set_cons_succ] | simp only [List.set_cons_zero]))
                  refine wpAnyH_ready (rs := [5, 14]) (by kernel_rfl) (by simp) ?_
                  refine (AllReadyH.cons (show _ = some _ by simp only [List.getElem?_toArray, List.getElem?_cons_succ, List.getElem?_cons_zero]; exact rfl) (fun K hK => ?_) (AllReadyH.cons (show _ = some _ by simp only [List.getElem?_toArray, List.getElem?_cons_succ, List.getElem?_cons_zero]; exact rfl) (fun K hK => ?_) AllReadyH.nil))
                  · skip
                    go_simp
                    (try go_wp2_with fail)
                    refine hK.out _ _ hS0 (fun hHeldX => ?_)
                    clear hK K hHeldX
                    (try simp only [Act.put]); (try simp only [List.setIfInBounds_toArray]); (repeat (first | simp only [List.set_cons_succ] | simp only [List.set_cons_zero]))
                    refine wpAnyH_ready (rs := [14]) (by kernel_rfl) (by simp) ?_
                    refine (AllReadyH.cons (show _ = some _ by simp only [List.getElem?_toArray, List.getElem?_cons_succ, List.getElem?_cons_zero]; exact rfl) (fun K hK => ?_) AllReadyH.nil)
                    go_simp
                    refine (refMul_any _ _ _ _ _ rfl rfl).mono ?_
                    rintro e w' ⟨rfl, rfl⟩
                    (try go_wp2_with fail)
                    refine hK.out _ _ hS0 (fun hHeldX => ?_)
                    clear hK K hHeldX
                    (try simp only [Act.put]); (try simp only [List.setIfInBounds_toArray]); (repeat (first | simp only [List.set_cons_succ] | simp only [List.set_cons_zero]))
                    refine wpAnyH_ready (rs := [16]) (by kernel_rfl) (by simp) ?_
                    refine (AllReadyH.cons (show _ = some _ by simp only [List.getElem?_toArray, List.getElem?_cons_succ, List.getElem?_cons_zero]; exact rfl) (fun K hK => ?_) AllReadyH.nil)
                    go_simp
                    refine (refMul_any _ _ _ _ _ rfl rfl).mono ?_
                    rintro e w' ⟨rfl, rfl⟩
                    (try go_wp2_with fail)
                    refine hK.out _ _ hS0 (fun hHeldX => ?_)
                    clear hK K hHeldX
                    (try simp only [Act.put]); (try simp only [List.setIfInBounds_toArray]); (repeat (first | simp only [List.set_cons_succ] | simp only [List.set_cons_zero]))
                    refine wpAnyH_take (i := 17) (v := ?v17a15) (show _ = some _ by simp only [List.getElem?_toArray, List.getElem?_cons_succ, List.getElem?_cons_zero]; exact rfl) (by kernel_rfl) (by kernel_rfl) (by kernel_rfl) (fun _ _ _ h => h) (Or.inl ⟨by rfl, ?hy17a15⟩) (hS0) ?r17a15
                    case hy17a15 => (intro w hSw; (try dsimp only at hSw); obtain ⟨hSa, hSb⟩ := hSw; go_simp; try with_reducible rfl)
                    (try simp only [Act.put]); (try simp only [List.setIfInBounds_toArray]); (repeat (first | simp only [List.set_cons_succ] | simp only [List.set_cons_zero]))
                    refine wpAnyH_take (i := 18) (v := ?v18a16) (show _ = some _ by simp only [List.getElem?_toArray, List.getElem?_cons_succ, List.getElem?_cons_zero]; exact rfl) (by kernel_rfl) (by kernel_rfl) (by kernel_rfl) (fun _ _ _ h => h) (Or.inl ⟨by rfl, ?hy18a16⟩) (hS0) ?r18a16
                    case hy18a16 => (intro w hSw; (try dsimp only at hSw); obtain ⟨hSa, hSb⟩ := hSw; go_simp; try with_reducible rfl)
                    (try simp only [Act.put]); (try simp only [List.setIfInBounds_toArray]); (repeat (first | simp only [List.set_cons_succ] | simp only [List.set_cons_zero]))
                    refine wpAnyH_ready (rs := [19]) (by kernel_rfl) (by simp) ?_
                    refine (AllReadyH.cons (show _ = some _ by simp only [List.getElem?_toArray, List.getElem?_cons_succ, List.getElem?_cons_zero]; exact rfl) (fun K hK => ?_) AllReadyH.nil)
                    go_simp
                    (try go_wp2_with fail)
                    refine hK.out _ _ hS1 (fun hHeldX => ?_)
                    clear hK K hHeldX
                    (try simp only [Act.put]); (try simp only [List.setIfInBounds_toArray]); (repeat (first | simp only [List.set_cons_succ] | simp only [List.set_cons_zero]))
                    refine wpAnyH_done (by kernel_rfl) ?_ _
                    refine NoPanic.normal ?_
                    go_wp2_with fail
                    go_meet
                    exact rfl
                  · skip
                    go_simp
                    refine (refMul_any _ _ _ _ _ rfl rfl).mono ?_
                    rintro e w' ⟨rfl, rfl⟩
                    (try go_wp2_with fail)
                    refine hK.out _ _ hS0 (fun hHeldX => ?_)
                    clear hK K hHeldX
                    (try simp only [Act.put]); (try simp only [List.setIfInBounds_toArray]); (repeat (first | simp only [List.set_cons_succ] | simp only [List.set_cons_zero]))
                    refine wpAnyH_ready (rs := [5, 16]) (by kernel_rfl) (by simp) ?_
                    refine (AllReadyH.cons (show _ = some _ by simp only [List.getElem?_toArray, List.getElem?_cons_succ, List.getElem?_cons_zero]; exact rfl) (fun K hK => ?_) (AllReadyH.cons (show _ = some _ by simp only [List.getElem?_toArray, List.getElem?_cons_succ, List.getElem?_cons_zero]; exact rfl) (fun K hK => ?_) AllReadyH.nil))
                    · skip
                      go_simp
                      (try go_wp2_with fail)
                      refine hK.out _ _ hS0 (fun hHeldX => ?_)
                      clear hK K hHeldX
                      (try simp only [Act.put]); (try simp only [List.setIfInBounds_toArray]); (repeat (first | simp only [List.set_cons_succ] | simp only [List.set_cons_zero]))
                      refine wpAnyH_ready (rs := [16]) (by kernel_rfl) (by simp) ?_
                      refine (AllReadyH.cons (show _ = some _ by simp only [List.getElem?_toArray, List.getElem?_cons_succ, List.getElem?_cons_zero]; exact rfl) (fun K hK => ?_) AllReadyH.nil)
                      go_simp
                      refine (refMul_any _ _ _ _ _ rfl rfl).mono ?_
                      rintro e w' ⟨rfl, rfl⟩
                      (try go_wp2_with fail)
                      refine hK.out _ _ hS0 (fun hHeldX => ?_)
                      clear hK K hHeldX
                      (try simp only [Act.put]); (try simp only [List.setIfInBounds_toArray]); (repeat (first | simp only [List.set_cons_succ] | simp only [List.set_cons_zero]))
                      refine wpAnyH_take (i := 17) (v := ?v17a17) (show _ = some _ by simp only [List.getElem?_toArray, List.getElem?_cons_succ, List.getElem?_cons_zero]; exact rfl) (by kernel_rfl) (by kernel_rfl) (by kernel_rfl) (fun _ _ _ h => h) (Or.inl ⟨by rfl, ?hy17a17⟩) (hS0) ?r17a17
                      case hy17a17 => (intro w hSw; (try dsimp only at hSw); obtain ⟨hSa, hSb⟩ := hSw; go_simp; try with_reducible rfl)
                      (try simp only [Act.put]); (try simp only [List.setIfInBounds_toArray]); (repeat (first | simp only [List.set_cons_succ] | simp only [List.set_cons_zero]))
                      refine wpAnyH_take (i := 18) (v := ?v18a18) (show _ = some _ by simp only [List.getElem?_toArray, List.getElem?_cons_succ, List.getElem?_cons_zero]; exact rfl) (by kernel_rfl) (by kernel_rfl) (by kernel_rfl) (fun _ _ _ h => h) (Or.inl ⟨by rfl, ?hy18a18⟩) (hS0) ?r18a18
                      case hy18a18 => (intro w hSw; (try dsimp only at hSw); obtain ⟨hSa, hSb⟩ := hSw; go_simp; try with_reducible rfl)
                      (try simp only [Act.put]); (try simp only [List.setIfInBounds_toArray]); (repeat (first | simp only [List.set_cons_succ] | simp only [List.set_cons_zero]))
                      refine wpAnyH_ready (rs := [19]) (by kernel_rfl) (by simp) ?_
                      refine (AllReadyH.cons (show _ = some _ by simp only [List.getElem?_toArray, List.getElem?_cons_succ, List.getElem?_cons_zero]; exact rfl) (fun K hK => ?_) AllReadyH.nil)
                      go_simp
                      (try go_wp2_with fail)
                      refine hK.out _ _ hS1 (fun hHeldX => ?_)
                      clear hK K hHeldX
                      (try simp only [Act.put]); (try simp only [List.setIfInBounds_toArray]); (repeat (first | simp only [List.set_cons_succ] | simp only [List.set_cons_zero]))
                      refine wpAnyH_done (by kernel_rfl) ?_ _
                      refine NoPanic.normal ?_
                      go_wp2_with fail
                      go_meet
                      exact rfl
                    · skip
                      go_simp
                      refine (refMul_any _ _ _ _ _ rfl rfl).mono ?_
                      rintro e w' ⟨rfl, rfl⟩
                      (try go_wp2_with fail)
                      refine hK.out _ _ hS0 (fun hHeldX => ?_)
                      clear hK K hHeldX
                      (try simp only [Act.put]); (try simp only [List.setIfInBounds_toArray]); (repeat (first | simp only [List.set_cons_succ] | simp only [List.set_cons_zero]))
                      refine wpAnyH_ready (rs := [5]) (by kernel_rfl) (by simp) ?_
                      refine (AllReadyH.cons (show _ = some _ by simp only [List.getElem?_toArray, List.getElem?_cons_succ, List.getElem?_cons_zero]; exact rfl) (fun K hK => ?_) AllReadyH.nil)
                      go_simp
                      (try go_wp2_with fail)
                      refine hK.out _ _ hS0 (fun hHeldX => ?_)
                      clear hK K hHeldX
                      (try simp only [Act.put]); (try simp only [List.setIfInBounds_toArray]); (repeat (first | simp only [List.set_cons_succ] | simp only [List.set_cons_zero]))
                      refine wpAnyH_take (i := 17) (v := ?v17a19) (show _ = some _ by simp only [List.getElem?_toArray, List.getElem?_cons_succ, List.getElem?_cons_zero]; exact rfl) (by kernel_rfl) (by kernel_rfl) (by kernel_rfl) (fun _ _ _ h => h) (Or.inl ⟨by rfl, ?hy17a19⟩) (hS0) ?r17a19
                      case hy17a19 => (intro w hSw; (try dsimp only at hSw); obtain ⟨hSa, hSb⟩ := hSw; go_simp; try with_reducible rfl)
                      (try simp only [Act.put]); (try simp only [List.setIfInBounds_toArray]); (repeat (first | simp only [List.set_cons_succ] | simp only [List.set_cons_zero]))
                      refine wpAnyH_take (i := 18) (v := ?v18a20) (show _ = some _ by simp only [List.getElem?_toArray, List.getElem?_cons_succ, List.getElem?_cons_zero]; exact rfl) (by kernel_rfl) (by kernel_rfl) (by kernel_rfl) (fun _ _ _ h => h) (Or.inl ⟨by rfl, ?hy18a20⟩) (hS0) ?r18a20
                      case hy18a20 => (intro w hSw; (try dsimp only at hSw); obtain ⟨hSa, hSb⟩ := hSw; go_simp; try with_reducible rfl)
                      (try simp only [Act.put]); (try simp only [List.setIfInBounds_toArray]); (repeat (first | simp only [List.set_cons_succ] | simp only [List.set_cons_zero]))
                      refine wpAnyH_ready (rs := [19]) (by kernel_rfl) (by simp) ?_
                      refine (AllReadyH.cons (show _ = some _ by simp only [List.getElem?_toArray, List.getElem?_cons_succ, List.getElem?_cons_zero]; exact rfl) (fun K hK => ?_) AllReadyH.nil)
                      go_simp
                      (try go_wp2_with fail)
                      refine hK.out _ _ hS1 (fun hHeldX => ?_)
                      clear hK K hHeldX
                      (try simp only [Act.put]); (try simp only [List.setIfInBounds_toArray]); (repeat (first | simp only [List.set_cons_succ] | simp only [List.set_cons_zero]))
                      refine wpAnyH_done (by kernel_rfl) ?_ _
                      refine NoPanic.normal ?_
                      go_wp2_with fail
                      go_meet
                      exact rfl
                case rest =>
                  obtain ⟨wx, hwx⟩ : ∃ x, x = wc := ⟨_, rfl⟩
                  subst hwx
                  have hj1 : ((j : Int) + 1).toNat = j + 1 := by omega
                  have hwj : IntKind.i64.wrap ((j : Int) + 1) = (j : Int) + 1 := by simp [IntKind.wrap, IntKind.bits, IntKind.signed]; omega
                  have hj1r : (j : Int) + 1 < (r : Int) + 1 := by omega
                  have hj1n : (0 : Int) ≤ (j : Int) + 1 := by omega
                  have qN : El wx g2 (N.set j z1) := by rw [hcut]; exact (hEN.heap (w' := wr.drew) rfl).set j z1
                  have qp : El wx g p := by rw [hcut]; exact (hEp.heap (w' := wr.drew) rfl).beside _ (by show g ≠ g2; omega)
                  have qS : El wx G S := by rw [hcut]; exact (hES.heap (w' := wr.drew) rfl).beside _ (by show G ≠ g2; omega)
                  have qb : Below w.heap.size w wx := by rw [hcut]; exact hb.drew.setCell (by show w.heap.size ≤ g2; omega) _
                  clear hcut hS0 hS1 hx1 cN fN cp cb hEN hEp hES hb
                  have cN := qN.cellD (j + 1) (by rw [List.length_set]; have := HN.out; omega)
                  have fN := qN.fz (j + 1)
                  have cp := qp.cellD j (by have := HP.out; omega)
                  rw [← HPJ.out] at cp
                  obtain ⟨x1, HX1⟩ : ∃ x1, Hid (x1 = (N.set j z1).getD (j + 1) 0#8) := ⟨_, rfl⟩
                  rw [← HX1.out] at cN
                  have hx2 := v8_xor x1 (mul pj q)
                  obtain ⟨z2, HZ2⟩ : ∃ z2, Hid (z2 = x1 ^^^ mul pj q) := ⟨_, rfl⟩
                  rw [← HZ2.out] at hx2
                  have hS2 : wx.drew.cell? ⟨g, j, none⟩ = some (.int .u8 (v8 pj)) := cp
                  have hS3 : (wx.drew.setCell ⟨g2, j + 1, none⟩ (.int .u8 (v8 z2))).cell? ⟨g, j, none⟩ = some (.int .u8 (v8 pj)) := by
                    rw [World.cell?_setCell_far _ _ _ _ (by show g2 ≠ g; omega)]; exact cp
                  go_wp2_with fail
                  refine wp_region_noPanic ?_
                  refine wp_region_held_drew (S := fun w' => w'.cell? ⟨g, j, none⟩ = some (.int .u8 (v8 pj))) (by kernel_rfl) hS2 (fun hHeld => ?_)
                  clear hHeld
                  refine wpAnyH_take (i := 0) (v := ?v0b1) (show _ = some _ by simp only [List.getElem?_toArray, List.getElem?_cons_zero]; exact rfl) (by kernel_rfl) (by kernel_rfl) (by kernel_rfl) (fun _ _ _ h => h) (Or.inl ⟨by rfl, ?hy0b1⟩) (hS2) ?r0b1
                  case hy0b1 => (intro w hSw; (try dsimp only at hSw); go_simp; try with_reducible rfl)
                  (try simp only [Act.put]); (try simp only [List.setIfInBounds_toArray]); (repeat (first | simp only [List.set_cons_succ] | simp only [List.set_cons_zero]))
                  refine wpAnyH_take (i := 1) (v := ?v1b2) (show _ = some _ by simp only [List.getElem?_toArray, List.getElem?_cons_succ, List.getElem?_cons_zero]; exact rfl) (by kernel_rfl) (by kernel_rfl) (by kernel_rfl) (fun _ _ _ h => h) (Or.inl ⟨by rfl, ?hy1b2⟩) (hS2) ?r1b2
                  case hy1b2 => (intro w hSw; (try dsimp only at hSw); go_simp; try with_reducible rfl)
                  (try simp only [Act.put]); (try simp only [List.setIfInBounds_toArray]); (repeat (first | simp only [List.set_cons_succ] | simp only [List.set_cons_zero]))
                  refine wpAnyH_take (i := 2) (v := ?v2b3) (show _ = some _ by simp only [List.getElem?_toArray, List.getElem?_cons_succ, List.getElem?_cons_zero]; exact rfl) (by kernel_rfl) (by kernel_rfl) (by kernel_rfl) (fun _ _ _ h => h) (Or.inl ⟨by rfl, ?hy2b3⟩) (hS2) ?r2b3
                  case hy2b3 => (intro w hSw; (try dsimp only at hSw); go_simp; try with_reducible rfl)
                  (try simp only [Act.put]); (try simp only [List.setIfInBounds_toArray]); (repeat (first | simp only [List.set_cons_succ] | simp only [List.set_cons_zero]))
                  refine wpAnyH_take (i := 3) (v := ?v3b4) (show _ = some _ by simp only [List.getElem?_toArray, List.getElem?_cons_succ, List.getElem?_cons_zero]; exact rfl) (by kernel_rfl) (by kernel_rfl) (by kernel_rfl) (fun _ _ _ h => h) (Or.inl ⟨by rfl, ?hy3b4⟩) (hS2) ?r3b4
                  case hy3b4 => (intro w hSw; (try dsimp only at hSw); go_simp; try with_reducible rfl)
                  (try simp only [Act.put]); (try simp only [List.setIfInBounds_toArray]); (repeat (first | simp only [List.set_cons_succ] | simp only [List.set_cons_zero]))
                  refine wpAnyH_take (i := 4) (v := ?v4b5) (show _ = some _ by simp only [List.getElem?_toArray, List.getElem?_cons_succ, List.getElem?_cons_zero]; exact rfl) (by kernel_rfl) (by kernel_rfl) (by kernel_rfl) (fun _ _ _ h => h) (Or.inl ⟨by rfl, ?hy4b5⟩) (hS2) ?r4b5
                  case hy4b5 => (intro w hSw; (try dsimp only at hSw); go_simp; try with_reducible rfl)
                  (try simp only [Act.put]); (try simp only [List.setIfInBounds_toArray]); (repeat (first | simp only [List.set_cons_succ] | simp only [List.set_cons_zero]))
                  refine wpAnyH_take (i := 5) (v := ?v5b6) (show _ = some _ by simp only [List.getElem?_toArray, List.getElem?_cons_succ, List.getElem?_cons_zero]; exact rfl) (by kernel_rfl) (by kernel_rfl) (by kernel_rfl) (fun _ _ _ h => h) (Or.inl ⟨by rfl, ?hy5b6⟩) (hS2) ?r5b6
                  case hy5b6 => (intro w hSw; (try dsimp only at hSw); go_simp; try with_reducible rfl)
                  (try simp only [Act.put]); (try simp only [List.setIfInBounds_toArray]); (repeat (first | simp only [List.set_cons_succ] | simp only [List.set_cons_zero]))
                  refine wpAnyH_take (i := 6) (v := ?v6b7) (show _ = some _ by simp only [List.getElem?_toArray, List.getElem?_cons_succ, List.getElem?_cons_zero]; exact rfl) (by kernel_rfl) (by kernel_rfl) (by kernel_rfl) (fun _ _ _ h => h) (Or.inl ⟨by rfl, ?hy6b7⟩) (hS2) ?r6b7
                  case hy6b7 => (intro w hSw; (try dsimp only at hSw); go_simp; try with_reducible rfl)
                  (try simp only [Act.put]); (try simp only [List.setIfInBounds_toArray]); (repeat (first | simp only [List.set_cons_succ] | simp only [List.set_cons_zero]))
                  refine wpAnyH_take (i := 8) (v := ?v8b8) (show _ = some _ by simp only [List.getElem?_toArray, List.getElem?_cons_succ, List.getElem?_cons_zero]; exact rfl) (by kernel_rfl) (by kernel_rfl) (by kernel_rfl) (fun _ _ _ h => h) (Or.inl ⟨by rfl, ?hy8b8⟩) (hS2) ?r8b8
                  case hy8b8 => (intro w hSw; (try dsimp only at hSw); go_simp; try with_reducible rfl)
                  (try simp only [Act.put]); (try simp only [List.setIfInBounds_toArray]); (repeat (first | simp only [List.set_cons_succ] | simp only [List.set_cons_zero]))
                  refine wpAnyH_take (i := 9) (v := ?v9b9) (show _ = some _ by simp only [List.getElem?_toArray, List.getElem?_cons_succ, List.getElem?_cons_zero]; exact rfl) (by kernel_rfl) (by kernel_rfl) (by kernel_rfl) (fun _ _ _ h => h) (Or.inl ⟨by rfl, ?hy9b9⟩) (hS2) ?r9b9
                  case hy9b9 => (intro w hSw; (try dsimp only at hSw); go_simp; try with_reducible rfl)
                  (try simp only [Act.put]); (try simp only [List.setIfInBounds_toArray]); (repeat (first | simp only [List.set_cons_succ] | simp only [List.set_cons_zero]))
                  refine wpAnyH_take (i := 10) (v := ?v10b10) (show _ = some _ by simp only [List.getElem?_toArray, List.getElem?_cons_succ, List.getElem?_cons_zero]; exact rfl) (by kernel_rfl) (by kernel_rfl) (by kernel_rfl) (fun _ _ _ h => h) (Or.inl ⟨by rfl, ?hy10b10⟩) (hS2) ?r10b10
                  case hy10b10 => (intro w hSw; (try dsimp only at hSw); go_simp; try with_reducible rfl)
                  (try simp only [Act.put]); (try simp only [List.setIfInBounds_toArray]); (repeat (first | simp only [List.set_cons_succ] | simp only [List.set_cons_zero]))
                  refine wpAnyH_take (i := 11) (v := ?v11b11) (show _ = some _ by simp only [List.getElem?_toArray, List.getElem?_cons_succ, List.getElem?_cons_zero]; exact rfl) (by kernel_rfl) (by kernel_rfl) (by kernel_rfl) (fun _ _ _ h => h) (Or.inl ⟨by rfl, ?hy11b11⟩) (hS2) ?r11b11
                  case hy11b11 => (intro w hSw; (try dsimp only at hSw); go_simp; try with_reducible rfl)
                  (try simp only [Act.put]); (try simp only [List.setIfInBounds_toArray]); (repeat (first | simp only [List.set_cons_succ] | simp only [List.set_cons_zero]))
                  refine wpAnyH_take (i := 12) (v := ?v12b12) (show _ = some _ by simp only [List.getElem?_toArray, List.getElem?_cons_succ, List.getElem?_cons_zero]; exact rfl) (by kernel_rfl) (by kernel_rfl) (by kernel_rfl) (fun _ _ _ h => h) (Or.inl ⟨by rfl, ?hy12b12⟩) (hS2) ?r12b12
                  case hy12b12 => (intro w hSw; (try dsimp only at hSw); go_simp; try with_reducible rfl)
                  (try simp only [Act.put]); (try simp only [List.setIfInBounds_toArray]); (repeat (first | simp only [List.set_cons_succ] | simp only [List.set_cons_zero]))
                  refine wpAnyH_ready (rs := [7, 13]) (by kernel_rfl) (by simp) ?_
                  refine (AllReadyH.cons (show _ = some _ by simp only [List.getElem?_toArray, List.getElem?_cons_succ, List.getElem?_cons_zero]; exact rfl) (fun K hK => ?_) (AllReadyH.cons (show _ = some _ by simp only [List.getElem?_toArray, List.getElem?_cons_succ, List.getElem?_cons_zero]; exact rfl) (fun K hK => ?_) AllReadyH.nil))
                  · skip
                    go_simp
                    (try go_wp2_with fail)
                    refine hK.out _ _ hS2 (fun hHeldX => ?_)
                    clear hK K hHeldX
                    (try simp only [Act.put]); (try simp only [List.setIfInBounds_toArray]); (repeat (first | simp only [List.set_cons_succ] | simp only [List.set_cons_zero]))
                    refine wpAnyH_ready (rs := [13]) (by kernel_rfl) (by simp) ?_
                    refine (AllReadyH.cons (show _ = some _ by simp only [List.getElem?_toArray, List.getElem?_cons_succ, List.getElem?_cons_zero]; exact rfl) (fun K hK => ?_) AllReadyH.nil)
                    go_simp
                    refine (refMul_any _ _ _ _ _ rfl rfl).mono ?_
                    rintro e w' ⟨rfl, rfl⟩
                    (try go_wp2_with fail)
                    refine hK.out _ _ hS2 (fun hHeldX => ?_)
                    clear hK K hHeldX
                    (try simp only [Act.put]); (try simp only [List.setIfInBounds_toArray]); (repeat (first | simp only [List.set_cons_succ] | simp only [List.set_cons_zero]))
                    refine wpAnyH_take (i := 14) (v := ?v14b13) (show _ = some _ by simp only [List.getElem?_toArray, List.getElem?_cons_succ, List.getElem?_cons_zero]; exact rfl) (by kernel_rfl) (by kernel_rfl) (by kernel_rfl) (fun _ _ _ h => h) (Or.inl ⟨by rfl, ?hy14b13⟩) (hS2) ?r14b13
                    case hy14b13 => (intro w hSw; (try dsimp only at hSw); go_simp; try with_reducible rfl)
                    (try simp only [Act.put]); (try simp only [List.setIfInBounds_toArray]); (repeat (first | simp only [List.set_cons_succ] | simp only [List.set_cons_zero]))
                    refine wpAnyH_take (i := 15) (v := ?v15b14) (show _ = some _ by simp only [List.getElem?_toArray, List.getElem?_cons_succ, List.getElem?_cons_zero]; exact rfl) (by kernel_rfl) (by kernel_rfl) (by kernel_rfl) (fun _ _ _ h => h) (Or.inl ⟨by rfl, ?hy15b14⟩) (hS2) ?r15b14
                    case hy15b14 => (intro w hSw; (try dsimp only at hSw); go_simp; try with_reducible rfl)
                    (try simp only [Act.put]); (try simp only [List.setIfInBounds_toArray]); (repeat (first | simp only [List.set_cons_succ] | simp only [List.set_cons_zero]))
                    refine wpAnyH_ready (rs := [16]) (by kernel_rfl) (by simp) ?_
                    refine (AllReadyH.cons (show _ = some _ by simp only [List.getElem?_toArray, List.getElem?_cons_succ, List.getElem?_cons_zero]; exact rfl) (fun K hK => ?_) AllReadyH.nil)
                    go_simp
                    (try go_wp2_with fail)
                    refine hK.out _ _ hS3 (fun hHeldX => ?_)
                    clear hK K hHeldX
                    (try simp only [Act.put]); (try simp only [List.setIfInBounds_toArray]); (repeat (first | simp only [List.set_cons_succ] | simp only [List.set_cons_zero]))
                    refine wpAnyH_done (by kernel_rfl) ?_ _
                    refine NoPanic.normal ?_
                    obtain ⟨wy, hcut⟩ : ∃ wy, wy = (wx.setCell ⟨g2, j + 1, none⟩ (.int .u8 (v8 z2))).drew := ⟨_, rfl⟩
                    rw [← hcut]
                    have rN : El wy g2 ((N.set j z1).set (j + 1) z2) := by rw [hcut]; exact (qN.set (j + 1) z2).heap rfl
                    have rp : El wy g p := by rw [hcut]; exact (qp.beside _ (by show g ≠ g2; omega)).heap rfl
                    have rS : El wy G S := by rw [hcut]; exact (qS.beside _ (by show G ≠ g2; omega)).heap rfl
                    have rb : Below w.heap.size w wy := by rw [hcut]; exact (qb.setCell (by show w.heap.size ≤ g2; omega) _).drew
                    clear hcut hS2 hS3 hx2 cN fN cp qN qp qS qb
                    go_wp2
                    go_roundw
                    case rel =>
                      refine ⟨j + 1, _, by omega, by go_num, rN, ?_, ?_, rp, rS, rb⟩
                      · show _ = _
                        rw [List.length_set, List.length_set]; exact HN.out
                      · intro z
                        have e : (N.set j z1).set (j + 1) z2 = nx N p b q j := by
                          unfold nx
                          rw [← HX0.out, ← HPJ.out, ← HZ1.out, ← HX1.out, ← HZ2.out]
                        rw [e]
                        exact ev_nx N p b q z j (by rw [HN.out, HP.out]) (by rw [HP.out]; exact hjr) (HV.out z)
                    case measure => simp [intOf]; omega
                  · skip
                    go_simp
                    refine (refMul_any _ _ _ _ _ rfl rfl).mono ?_
                    rintro e w' ⟨rfl, rfl⟩
                    (try go_wp2_with fail)
                    refine hK.out _ _ hS2 (fun hHeldX => ?_)
                    clear hK K hHeldX
                    (try simp only [Act.put]); (try simp only [List.setIfInBounds_toArray]); (repeat (first | simp only [List.set_cons_succ] | simp only [List.set_cons_zero]))
                    refine wpAnyH_ready (rs := [7]) (by kernel_rfl) (by simp) ?_
                    refine (AllReadyH.cons (show _ = some _ by simp only [List.getElem?_toArray, List.getElem?_cons_succ, List.getElem?_cons_zero]; exact rfl) (fun K hK => ?_) AllReadyH.nil)
                    go_simp
                    (try go_wp2_with fail)
                    refine hK.out _ _ hS2 (fun hHeldX => ?_)
                    clear hK K hHeldX
                    (try simp only [Act.put]); (try simp only [List.setIfInBounds_toArray]); (repeat (first | simp only [List.set_cons_succ] | simp only [List.set_cons_zero]))
                    refine wpAnyH_take (i := 14) (v := ?v14b15) (show _ = some _ by simp only [List.getElem?_toArray, List.getElem?_cons_succ, List.getElem?_cons_zero]; exact rfl) (by kernel_rfl) (by kernel_rfl) (by kernel_rfl) (fun _ _ _ h => h) (Or.inl ⟨by rfl, ?hy14b15⟩) (hS2) ?r14b15
                    case hy14b15 => (intro w hSw; (try dsimp only at hSw); go_simp; try with_reducible rfl)
                    (try simp only [Act.put]); (try simp only [List.setIfInBounds_toArray]); (repeat (first | simp only [List.set_cons_succ] | simp only [List.set_cons_zero]))
                    refine wpAnyH_take (i := 15) (v := ?v15b16) (show _ = some _ by simp only [List.getElem?_toArray, List.getElem?_cons_succ, List.getElem?_cons_zero]; exact rfl) (by kernel_rfl) (by kernel_rfl) (by kernel_rfl) (fun _ _ _ h => h) (Or.inl ⟨by rfl, ?hy15b16⟩) (hS2) ?r15b16
                    case hy15b16 => (intro w hSw; (try dsimp only at hSw); go_simp; try with_reducible rfl)
                    (try simp only [Act.put]); (try simp only [List.setIfInBounds_toArray]); (repeat (first | simp only [List.set_cons_succ] | simp only [List.set_cons_zero]))
                    refine wpAnyH_ready (rs := [16]) (by kernel_rfl) (by simp) ?_
                    refine (AllReadyH.cons (show _ = some _ by simp only [List.getElem?_toArray, List.getElem?_cons_succ, List.getElem?_cons_zero]; exact rfl) (fun K hK => ?_) AllReadyH.nil)
                    go_simp
                    (try go_wp2_with fail)
                    refine hK.out _ _ hS3 (fun hHeldX => ?_)
                    clear hK K hHeldX
                    (try simp only [Act.put]); (try simp only [List.setIfInBounds_toArray]); (repeat (first | simp only [List.set_cons_succ] | simp only [List.set_cons_zero]))
                    refine wpAnyH_done (by kernel_rfl) ?_ _
                    refine NoPanic.normal ?_
                    obtain ⟨wy, hcut⟩ : ∃ wy, wy = (wx.setCell ⟨g2, j + 1, none⟩ (.int .u8 (v8 z2))).drew := ⟨_, rfl⟩
                    rw [← hcut]
                    have rN : El wy g2 ((N.set j z1).set (j + 1) z2) := by rw [hcut]; exact (qN.set (j + 1) z2).heap rfl
                    have rp : El wy g p := by rw [hcut]; exact (qp.beside _ (by show g ≠ g2; omega)).heap rfl
                    have rS : El wy G S := by rw [hcut]; exact (qS.beside _ (by show G ≠ g2; omega)).heap rfl
                    have rb : Below w.heap.size w wy := by rw [hcut]; exact (qb.setCell (by show w.heap.size ≤ g2; omega) _).drew
                    clear hcut hS2 hS3 hx2 cN fN cp qN qp qS qb
                    go_wp2
                    go_roundw
                    case rel =>
                      refine ⟨j + 1, _, by omega, by go_num, rN, ?_, ?_, rp, rS, rb⟩
                      · show _ = _
                        rw [List.length_set, List.length_set]; exact HN.out
                      · intro z
                        have e : (N.set j z1).set (j + 1) z2 = nx N p b q j := by
                          unfold nx
                          rw [← HX0.out, ← HPJ.out, ← HZ1.out, ← HX1.out, ← HZ2.out]
                        rw [e]
                        exact ev_nx N p b q z j (by rw [HN.out, HP.out]) (by rw [HP.out]; exact hjr) (HV.out z)
                    case measure => simp [intOf]; omega
              · have hjr2 : r = j := by omega
                subst hjr2
                have HV2 : Hid (∀ z, ev N z = mul (ev p z) (mul q (b ^^^ z))) := by
                  intro z
                  have := HV.out z
                  rwa [List.take_of_length_le (by rw [HP.out]; exact Nat.le_refl _)] at this
                go_wp2
                go_roundw
                case rel =>
                  refine ⟨k + 1, g2, r + 1, N, by omega, by go_num, rfl, by omega, hEN, hES, HN, by omega, ?_, ?_, hb⟩
                  · show _ = _
                    have := HR.out
                    split at this <;> split <;> omega
                  · exact hK.next hnd hki haX hbX (fun z => by rw [HV2.out z, HQ.out])
                case measure => simp [intOf]; omega
        · have hkn2 : n = k := by omega
          have HRN : Hid (r = n) := by
            have := HR.out
            rw [if_neg (by omega)] at this
            exact this.trans hkn2.symm
          have hrn : (r : Int) ≤ (n : Int) := by have := HRN.out; omega
          subst hkn2
          have hkn' : ¬ (n : Int) < (n : Int) := by omega
          go_wp2
          go_loopw [13] (fun u wr => ∃ (j : Nat) (U : List B), j ≤ r ∧ u = .int .i64 j ∧ El wr G U ∧ Hid (U.length = n) ∧ Hid (∀ z, ev U z = ev S z ^^^ ev (p.take j) z) ∧ El wr g p ∧ Below w.heap.size w wr) (fun u _ => r - (intOf u).toNat)
          case atStart => exact ⟨0, S, Nat.zero_le _, rfl, hES, HS, (fun z => by simp [ev]), hEp, hb⟩
          case round =>
            clear hES hEp hb hsz
            obtain ⟨j, U, hj, rfl, hEU, HU, HV, hEp, hb⟩ := hrel
            by_cases hjr : j < r
            · have hjr' : (j : Int) < (r : Int) := by omega
              have hjn : (j : Int) < (n : Int) := by omega
              have cU := hEU.cellD j (by have := HU.out; omega)
              have fU := hEU.fz j
              have cp := hEp.cellD j (by have := HP.out; omega)
              obtain ⟨x0, HX0⟩ : ∃ x0, Hid (x0 = U.getD j 0#8) := ⟨_, rfl⟩
              obtain ⟨pj, HPJ⟩ : ∃ pj, Hid (pj = p.getD j 0#8) := ⟨_, rfl⟩
              rw [← HX0.out] at cU
              rw [← HPJ.out] at cp
              have hx1 := v8_xor x0 pj
              obtain ⟨z1, HZ1⟩ : ∃ z1, Hid (z1 = x0 ^^^ pj) := ⟨_, rfl⟩
              rw [← HZ1.out] at hx1
              have hgne : g ≠ G := by omega
              go_wp2
              go_region
              go_wp2
              go_roundw
              case rel =>
                refine ⟨j + 1, U.set j z1, by omega, by go_num, ?_, ?_, ?_, (hEp.beside _ hgne).heap rfl, (hb.setCell hGw _).drew⟩
                · exact (hEU.set j z1).heap rfl
                · show _ = _
                  rw [List.length_set]; exact HU.out
                · intro z
                  rw [HZ1.out, HX0.out, HPJ.out]
                  exact evs_sum U p j z _ (by rw [HU.out]; omega) (by rw [HP.out]; exact hjr) (HV.out z)
              case measure => simp [intOf]; omega
            · have hjr2 : r = j := by omega
              subst hjr2
              have HV2 : Hid (∀ z, ev U z = ev S z ^^^ ev p z) := by
                intro z
                have := HV.out z
                rwa [List.take_of_length_le (by rw [HP.out]; exact Nat.le_refl _)] at this
              go_wp2
              go_roundw
              case rel =>
                exact ⟨i + 1, U, by omega, by go_num, hEU, HU, hI.next hyY (by rw [HXL.out]; exact hK) HV2.out, hb⟩
              case measure => simp [intOf]; omega
    · have hin : n = i := by omega
      subst hin
      go_wp2
      go_ret
      have hG := HG.out
      subst hG
      exact ⟨S, rfl, hES, HS, hI, hb⟩
end Go.Proofs.YtineieoghlbchaaDoor
