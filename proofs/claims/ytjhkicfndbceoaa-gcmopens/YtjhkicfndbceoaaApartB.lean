/- Rows of bytes that share no memory: the question itself. -/
import Derived.Test.YtjhkicfndbceoaaApartA
import Derived.Deep.QuietTactic
import Derived.BigQuiet
namespace Go.Proofs.Ytjhkicfndbceoaa
open Go.RowKit

theorem Try.info24 : (Try.prog.info? 24).map (fun i => (i.zero, i.size, i.bytes)) = some (some (.slice none 0 0), 1, 24) := by kernel_rfl

/-- 'append(v, u)', v a list of rows of the call's own. -/
theorem law_push {w : World} {ops : Array Oper} {rest : List Oper} {o : Oper} {a : Act} {Q : Exit → Act → World → Prop} (hgd : o.guard = none) (s x : Operand)
    (ho : o.op = .call { callee := .builtin .append, args := #[s, x], argTypes := #[32, 32] }) (base : Nat) (v : Value) (n : Nat) (xs : List Value) (hv : a.eval s = v) (hown : w.ownsRow base 24 1 v n xs)
    (ad : Addr) (u : Value) (hx : a.eval x = .slice (some ad) 1 1) (hc : ∀ j y, [u][j]? = some y → w.cell? (ad.add j) = some y) (h1 : u.oneCell' = true) (hbig : n ≤ 1000) (hbase : base ≤ w.heap.size)
    (h : ∀ v' w', w'.ownsRow base 24 1 v' (n + 1) (xs ++ [u]) → w.grownBy w' v.ownBlock → wpList Try.prog ops Q rest (a.put o.dst v') w') : wpList Try.prog ops Q (o :: rest) a w := by
  obtain ⟨i0, hi, hz0, hz1, hz2⟩ := info_parts Try.info24
  refine wpList_append_own w hgd s x 32 ho base 24 i0 (.slice none 0 0) 1 24 Try.underlying32 hi hz0 hz1 hz2 rfl (by decide) v n xs hv hown ad 1 1 [u] hx rfl hc (by simpa using h1) (by unfold maxLen; omega) (by omega) hbase ?_
  intro v' w' h1 h2 _
  exact h v' w' h1 h2

theorem one_new (w : World) (u : Value) (t : TypeId) : ∀ j y, [u][j]? = some y → (w.alloc (.cells #[u] t)).cell? ((⟨w.heap.size, 0, none⟩ : Addr).add j) = some y :=
  fun j y hj => World.news_of_block (heap_alloc_new w (.cells #[u] t)) j y hj

theorem own_one {w : World} {b e sz : Nat} {v : Value} {n : Nat} {xs : List Value} (h : w.ownsRow b e sz v n xs) : v.oneCell' = true := by
  rcases h.2 with ⟨rfl, _⟩ | ⟨g, cap, cur, rfl, _⟩ <;> rfl

theorem own_below {w w' : World} {b e sz : Nat} {v : Value} {n : Nat} {xs : List Value} (h : w.ownsRow b e sz v n xs) (hb : Below w.heap.size w w') : w'.ownsRow b e sz v n xs := by
  refine ⟨h.1, ?_⟩
  rcases h.2 with h2 | ⟨g, cap, cur, rfl, hg, hh, r⟩
  · exact Or.inl h2
  · exact Or.inr ⟨g, cap, cur, rfl, hg, (hb.block g (lt_of_block hh)).trans hh, r⟩

theorem eqB_same (ao bo : Option Addr) (n m c d : Nat) (xs : List Int) (ys : List Int) (w : World) (hx : Shows w ao n xs) (hy : Shows w bo m ys) :
    Calls Try.prog 12 #[.slice ao n c, .slice bo m d] w fun e w' => e = .returned (.bool (decide (xs = ys))) ∧ w' = w :=
  (eqBytes_any ao bo n m c d xs ys w hx hy).mono (fun _ _ h => ⟨h.1, h.2.symm⟩)

theorem rep_at (v : Int) (k : Nat) (hk : k < 40) : (u8s (List.replicate 40 v))[k]? = some (.int .u8 v) := by
  unfold u8s
  rw [List.map_replicate, List.getElem?_replicate, if_pos hk]

theorem below_drew' {B : Nat} {a w : World} (h : Below B a w) : Below B a w.drew := h.trans ⟨rfl, rfl, rfl, Nat.le_refl _, fun _ _ => rfl⟩

theorem drewN_heap (w : World) (n : Nat) : (w.drewN n).heap = w.heap := by first | rfl | simp

set_option maxHeartbeats 2000000 in
set_option maxRecDepth 100000 in
theorem apart_any (B A N C : Nat) (V : Nat → Value) (X : Nat → List Int) (w : World) (f : Fix B w.heap.size A N V X) (hall : AllIs w A N V) (hrows : ∀ j, j < N → w.ownsRow B 5 1 (V j) (X j).length (u8s (X j))) :
    Calls Try.prog 14 #[.slice (some ⟨A, 0, none⟩) N C] w fun e w' => e = .returned (.bool true) ∧ Below B w w' := by
  have hN := f.few
  go_enter Try.func14, Try.ntmps14
  go_wp2
  go_loopw [3, 4] (fun o q wr => ∃ (i : Nat) (was : List Value), i ≤ N ∧ q = .int .i64 i ∧ Hid (was.length = i) ∧ wr.ownsRow w.heap.size 24 1 o i was ∧ (∀ j u, was[j]? = some u → wr.ownsRow w.heap.size 5 1 u (X j).length (u8s (X j))) ∧ Below w.heap.size w wr) (fun _ i _ => N - (intOf i).toNat)
  case atStart => exact ⟨0, [], by omega, rfl, rfl, World.ownsRow_nil _ _ _ _, by simp, Below.refl _ _⟩
  case round =>
    obtain ⟨i, was, hi, rfl, HL, hsv, hwas, hbr⟩ := hrel
    by_cases hlt : i < N
    · obtain ⟨ao, c, hV, hsh, hcap, hmax, hbare, hblk⟩ := own_shape (hrows i hlt) (f.rng i)
      have hc1 : wr.cell? ⟨A, i, none⟩ = some (.slice ao (X i).length c) := by rw [← hV]; exact cell_later hbr (hall.cell i hlt)
      have hsh1 := hsh.later hbr
      have hlen := f.len i
      have HV : Hid (V i = .slice ao (X i).length c) := hV
      clear hV
      have hsz := hbr.size
      go_wp2_with (first
        | (go_at_call 17; refine (copyBytes_any ao _ c (X i) wr hsh1 hbare (by omega)).mono ?_; rintro e w1 ⟨v, rfl, hown, hb1⟩; obtain ⟨bo, bc, hvb, -, -, -, -, -⟩ := own_shape hown (f.rng i); subst hvb; have hsv1 := own_below hsv hb1; have hsz1 := hb1.size)
        | (at_builtin; go_must (refine law_push rfl _ _ rfl w.heap.size _ _ _ rfl (hsv1.alloc _) _ _ rfl (one_new w1 _ 24) rfl (by omega) (by simp; omega) ?_)))
      intro v' w2 hsv2 hgrow
      go_wp2
      go_roundw
      case rel =>
        have hwas1 : ∀ j u, (was ++ [.slice bo (X i).length bc])[j]? = some u → w2.ownsRow w.heap.size 5 1 u (X j).length (u8s (X j)) := by
          intro j u hj
          by_cases e : j < was.length
          · rw [List.getElem?_append_left e] at hj
            have h1 := (own_below (hwas j u hj) hb1).alloc (.cells #[.slice bo (X i).length bc] 24)
            exact h1.kept hgrow (own_type_ne h1 (hsv1.alloc _))
          · have e2 : j = was.length := by
              have := (List.getElem?_eq_some_iff.1 hj).1
              simp at this
              omega
            have e3 : j = i := by have := HL.out; omega
            subst e2
            simp at hj
            subst hj
            rw [e3]
            have h1 := (own_base' (base := w.heap.size) hown hsz).alloc (.cells #[.slice bo (X i).length bc] 24)
            exact h1.kept hgrow (own_type_ne h1 (hsv1.alloc _))
        refine ⟨i + 1, _, by omega, by go_num, ?_, hsv2, hwas1, ?_⟩
        · have := HL.out; show _ = _; simp; omega
        · exact ((hbr.trans (hb1.mono hsz)).alloc (by omega) _).grown hgrow (by simp; omega) (fun b hb => (hsv.lt b hb).1)
      case measure => simp [intOf]; omega
    · have hiN : N = i := by omega
      subst hiN
      obtain ⟨wA, hwA⟩ : ∃ x, x = wr := ⟨_, rfl⟩
      subst hwA
      have hst0 : St B w.heap.size wA.heap.size A N V X u3 was wA (.slice none 0 0) [] := by
        refine ⟨hall.kept (hbr.block A hall.lt), by rw [HL.out]; exact hsv, fun b hb => (hsv.lt b hb).2, hwas, fun j hj => own_below (hrows j hj) hbr, World.ownsRow_nil _ _ _ _, by simp, Nat.le_refl _⟩
      have hb0 : Below B w wA := hbr.mono f.low
      have hH1 : w.heap.size ≤ wA.heap.size := hbr.size
      have hAH : A < w.heap.size := hall.lt
      have hBH := f.low
      clear hlt hi
      go_wp2
      go_loopw [5, 6] (fun m q wr2 => ∃ (i : Nat) (ms : List Value), i ≤ N ∧ q = .int .i64 i ∧ Hid (ms.length = i) ∧ St B w.heap.size wA.heap.size A N V X u3 was wr2 m ms ∧ Below B w wr2) (fun _ i _ => N - (intOf i).toNat)
      case atStart => exact ⟨0, [], by omega, rfl, rfl, hst0, hb0⟩
      case round =>
        obtain ⟨i, ms, hi, rfl, HM, hst, hb2⟩ := hrel
        by_cases hlt : i < N
        · obtain ⟨ao, c, hV, hsh, hcap, hmax, hbare, hblk⟩ := own_shape (hst.rows i hlt) (f.rng i)
          obtain ⟨wC, hwC⟩ : ∃ x, x = wr := ⟨_, rfl⟩
          subst hwC
          have hc1 : wC.cell? ⟨A, i, none⟩ = some (.slice ao (X i).length c) := by rw [← hV]; exact hst.all.cell i hlt
          have hlen := f.len i
          have hg0 : Gr B wC wC (V i) (X i).length (X i) [] (.slice ao (X i).length c) := by rw [← hV]; exact Gr.start (hst.rows i hlt)
          have HV : Hid (V i = .slice ao (X i).length c) := hV
          have hBC : B ≤ wC.heap.size := by have := hst.size; omega
          clear hV
          go_wp2
          go_loopw [7, 8] (fun g q wD => ∃ (k : Nat) (zs : List Int), k ≤ 40 ∧ q = .int .i64 k ∧ Hid (zs = List.replicate k (((i : Int) + 1) % 256)) ∧ Hid (zs.length = k) ∧ Gr B wC wD (V i) (X i).length (X i) zs g) (fun _ i _ => 40 - (intOf i).toNat)
          case atStart => exact ⟨0, [], by omega, rfl, rfl, rfl, hg0⟩
          case round =>
            obtain ⟨k, zs, hk, rfl, HZ, HZL, hG⟩ := hrel
            by_cases hk4 : k < 40
            · have hsrc := shows_new wr [((i : Int) + 1) % 256] (by simp; omega)
              go_wp2_with (at_builtin; go_must (refine law_more (hG.alloc _) hBC rfl _ _ rfl rfl _ (((i : Int) + 1) % 256) rfl hsrc (by have := HZL.out; omega) ?_))
              intro v' w2 hG2
              go_wp2
              go_roundw
              case rel =>
                refine ⟨k + 1, _, by omega, by go_num, ?_, ?_, hG2⟩
                · show _ = _; rw [HZ.out, List.replicate_succ']
                · have := HZL.out; show _ = _; simp; omega
              case measure => simp [intOf]; omega
            · have hk40 : k = 40 := by omega
              subst hk40
              obtain ⟨wE, hwE⟩ : ∃ x, x = wr := ⟨_, rfl⟩
              subst hwE
              have hst1 := hst.grow f i hlt (by have := HM.out; omega) hG.grown hG.row
              have hb3 : Below B w wE := hb2.grown hG.grown hBC (fun b hb => ((hst.rows i hlt).lt b hb).1)
              have hzr : ∀ x ∈ X i ++ zs, 0 ≤ x ∧ x ≤ 255 := by
                intro x hx
                rcases List.mem_append.1 hx with h | h
                · exact f.rng i x h
                · rw [HZ.out] at h
                  have := List.eq_of_mem_replicate h
                  omega
              have hmore := hG.more
              rw [HZL.out] at hmore
              obtain ⟨go, gc, hvg, -, -, -, -, -⟩ := own_shape hmore hzr
              subst hvg
              have hpl : (Value.slice go ((X i).length + 40) gc).ownBlock = (V i).ownBlock ∨ ∀ b, (Value.slice go ((X i).length + 40) gc).ownBlock = some b → w.heap.size ≤ b := by
                rcases hG.place with ⟨b, cap, h1, h2⟩ | h
                · left; rw [h1, h2]; rfl
                · exact Or.inr (fun b hb => by have := h b hb; have := hst.size; omega)
              have hszE := hst1.size
              go_wp2_with (at_builtin; go_must (refine law_push rfl _ _ rfl wA.heap.size _ _ _ rfl (hst1.mvr.alloc _) _ _ rfl (one_new wE _ 24) rfl (by have := HM.out; omega) (by simp; omega) ?_))
              intro v' w2 hmv2 hgrow
              go_wp2
              go_roundw
              case rel =>
                refine ⟨i + 1, _, by omega, by go_num, ?_, (hst1.alloc _).push (by omega) hgrow _ _ hmv2 ?_ ?_, ?_⟩
                · have := HM.out; show _ = _; simp; omega
                · rw [HM.out, ← HZ.out]; exact hmore.alloc _
                · rw [HM.out]; exact hpl
                · exact (hb3.alloc (by omega) _).grown hgrow (by simp; omega) (fun b hb => by have := (hst1.mvr.lt b hb).1; omega)
              case measure => simp [intOf]; omega
        · have hiN : N = i := by omega
          subst hiN
          obtain ⟨wF, hwF⟩ : ∃ x, x = wr := ⟨_, rfl⟩
          subst hwF
          clear hlt hi
          have hN0 : ∀ i, i < N → ∃ (gm cm gs cs : Nat), Hid (u5 = .slice (some ⟨gm, 0, none⟩) N cm) ∧ Hid (u3 = .slice (some ⟨gs, 0, none⟩) N cs) := by
            intro i hi
            have h1 := hst.mvr
            rw [HM.out] at h1
            obtain ⟨gm, cm, e1, -, -⟩ := h1.form (by omega)
            have h2 := hst.svr
            rw [HL.out] at h2
            obtain ⟨gs, cs, e2, -, -⟩ := h2.form (by omega)
            exact ⟨gm, cm, gs, cs, e1, e2⟩
          go_wp2
          go_loopw [9] (fun q wr => ∃ i : Nat, i ≤ N ∧ q = .int .i64 i ∧ St B w.heap.size wA.heap.size A N V X u3 was wr u5 ms ∧ Below B w wr) (fun i _ => N - (intOf i).toNat)
          case atStart => exact ⟨0, by omega, rfl, hst, hb2⟩
          case round =>
            clear hst hb2
            obtain ⟨i, hi, rfl, hst, hb2⟩ := hrel
            obtain ⟨wG, hwG⟩ : ∃ x, x = wr := ⟨_, rfl⟩
            subst hwG
            by_cases hlt : i < N
            · obtain ⟨gm, cm, gs, cs, He5, He3⟩ := hN0 i hlt
              have e5 := He5.out
              have e3 := He3.out
              subst e5
              subst e3
              obtain ⟨ao, c, hV, hsh, hcap, hmax, hbare, hblk⟩ := own_shape (hst.rows i hlt) (f.rng i)
              have hc1 : wG.cell? ⟨A, i, none⟩ = some (.slice ao (X i).length c) := by rw [← hV]; exact hst.all.cell i hlt
              have hm1 := hst.mvr
              rw [HM.out] at hm1
              obtain ⟨g, hg⟩ : ∃ g, ms[i]? = some g := ⟨_, List.getElem?_eq_getElem (by have := HM.out; omega)⟩
              have hcm : wG.cell? ⟨gm, i, none⟩ = some g := by rw [hm1.cellAt i (by omega)]; exact hg
              obtain ⟨gg, gc, hgg, -, -⟩ := (hst.msr i g hg).1.form (by omega)
              subst hgg
              have hcapg : (X i).length + 40 ≤ gc := by
                rcases (hst.msr i _ hg).1.2 with ⟨h3, _⟩ | ⟨g', cap', cur, h3, _, _, hn, _⟩
                · cases h3
                · cases h3; exact hn
              have hck : ∀ k, k < 40 → wG.cell? ⟨gg, (X i).length + k, none⟩ = some (.int .u8 (((i : Int) + 1) % 256)) := by
                intro k hk
                rw [(hst.msr i _ hg).1.cellAt _ (by omega), u8s_append, List.getElem?_append_right (by rw [u8s_length]; omega), u8s_length, Nat.add_sub_cancel_left]
                exact rep_at _ k hk
              have hs1 := hst.svr
              rw [HL.out] at hs1
              obtain ⟨s, hs⟩ : ∃ s, was[i]? = some s := ⟨_, List.getElem?_eq_getElem (by have := HL.out; omega)⟩
              have hcs : wG.cell? ⟨gs, i, none⟩ = some s := by rw [hs1.cellAt i (by omega)]; exact hs
              obtain ⟨so, sc, hso, hshs, -, -, -, -⟩ := own_shape (hst.wasr i s hs) (f.rng i)
              subst hso
              have hlen := f.len i
              have HV : Hid (V i = .slice ao (X i).length c) := hV
              clear hV
              go_wp2
              go_loop [11] (fun q => ∃ k : Nat, k ≤ 40 ∧ q = .int .i64 k) (fun i => 40 - (intOf i).toNat)
              case atStart => exact ⟨0, by omega, rfl⟩
              case round =>
                obtain ⟨k, hk, rfl⟩ := hrel
                by_cases hk4 : k < 40
                · have hck1 := hck k hk4
                  go_wp2
                  go_round
                  case rel => exact ⟨k + 1, by omega, by go_num⟩
                  case measure => simp [intOf]; omega
                · go_wp2
                  go_quiet ((go_at_call 12; exact Calls.quiet_of_same (eqB_same _ _ _ _ _ _ _ _ _ (shows_heap hsh (drewN_heap _ _)) (shows_heap hshs (drewN_heap _ _)))))
                  go_wp2
                  go_roundw
                  case rel => exact ⟨i + 1, by omega, by go_num, hst.heap (drewN_heap _ _), below_drewN hb2 _⟩
                  case measure => simp [intOf]; omega
            · have hiN : N = i := by omega
              subst hiN
              clear hlt hi
              have hwr0 : Wr B w.heap.size A N V X u3 was wG 0 := ⟨hst.all, hst.svr, hst.wasr, fun j _ hj => hst.rows j hj⟩
              go_wp2
              go_loopw [12] (fun q wr => ∃ i : Nat, i ≤ N ∧ q = .int .i64 i ∧ Wr B w.heap.size A N V X u3 was wr i ∧ Below B w wr) (fun i _ => N - (intOf i).toNat)
              case atStart => exact ⟨0, by omega, rfl, hwr0, hb2⟩
              case round =>
                clear hst hb2 hwr0
                obtain ⟨i, hi, rfl, hwr, hb3⟩ := hrel
                obtain ⟨wH, hwH⟩ : ∃ x, x = wr := ⟨_, rfl⟩
                subst hwH
                by_cases hlt : i < N
                · have hlen := f.len i
                  have hrow := hwr.rows i (Nat.le_refl _) hlt
                  go_wp2
                  go_loopw [13] (fun q wr => ∃ (k : Nat) (ys : List Int), k ≤ (X i).length ∧ q = .int .i64 k ∧ (∀ y ∈ ys, 0 ≤ y ∧ y ≤ 255) ∧ wr.ownsRow B 5 1 (V i) (X i).length (u8s ys) ∧ Wr B w.heap.size A N V X u3 was wr (i + 1) ∧ Below B w wr) (fun q _ => (X i).length - (intOf q).toNat)
                  case atStart => exact ⟨0, X i, by omega, rfl, f.rng i, hrow, hwr.next, hb3⟩
                  case round =>
                    clear hrow hwr hb3
                    obtain ⟨k, ys, hk, rfl, hyr, hrow, hwr, hb3⟩ := hrel
                    obtain ⟨ao, c, hV, hsh, hcap, hmax, hbare, hblk⟩ := own_shape hrow hyr
                    have hc1 : wr.cell? ⟨A, i, none⟩ = some (.slice ao (X i).length c) := by rw [← hV]; exact hwr.all.cell i hlt
                    by_cases hkn : k < (X i).length
                    · obtain ⟨b, cb, hVb, -, -⟩ := hrow.form (by omega)
                      rw [hVb] at hV
                      cases hV
                      have hyl : ys.length = (X i).length := by simpa [u8s_length] using hrow.1
                      rw [hVb] at hrow
                      obtain ⟨y, hy⟩ : ∃ y, ys[k]? = some y := ⟨_, List.getElem?_eq_getElem (by omega)⟩
                      have hck : wr.cell? ⟨b, k, none⟩ = some (.int .u8 y) := by rw [hrow.cellAt k (by omega)]; simp [u8s, hy]
                      have hyb := hyr y (List.mem_of_getElem? hy)
                      have hfz : wr.frozen? ⟨b, k, none⟩ = false := hrow.frozenAt k
                      go_wp2
                      go_region
                      go_wp2
                      go_roundw
                      case rel =>
                        have hset := own_set (k := k) hrow ((y + 1) % 256)
                        have hgr : wr.grownBy (wr.setCell ⟨b, k, none⟩ (.int .u8 ((y + 1) % 256))) (V i).ownBlock := by rw [hVb]; exact grown_set wr b k _
                        refine ⟨k + 1, ys.set k ((y + 1) % 256), by omega, by go_num, ?_, ?_, ?_, ?_⟩
                        · intro x hx
                          rcases List.mem_or_eq_of_mem_set hx with h | h
                          · exact hyr x h
                          · omega
                        · rw [hVb]; exact own_heap hset rfl
                        · exact (hwr.set f hlt (by rw [hVb]; exact hrow) hgr).heap rfl
                        · exact below_drew' (hb3.grown hgr (by have := hb3.size; omega) (fun j hj => (hrow.lt j (by rw [← hVb]; exact hj)).1))
                      case measure => simp [intOf]; omega
                    · obtain ⟨wI, hwI⟩ : ∃ x, x = wr := ⟨_, rfl⟩
                      subst hwI
                      go_wp2
                      go_loopw [14] (fun q wr => ∃ j : Nat, i < j ∧ j ≤ N ∧ q = .int .i64 j ∧ Wr B w.heap.size A N V X u3 was wr (i + 1) ∧ Below B w wr) (fun i _ => N - (intOf i).toNat)
                      case atStart => exact ⟨i + 1, by omega, by omega, by go_num, hwr, hb3⟩
                      case round =>
                        clear hwr hb3 hrow hsh hc1
                        obtain ⟨j, hij, hj, rfl, hwr, hb3⟩ := hrel
                        by_cases hjN : j < N
                        · obtain ⟨gm, cm, gs, cs, He5, He3⟩ := hN0 j hjN
                          have e3 := He3.out
                          subst e3
                          have hrow := hwr.rows j (by omega) hjN
                          obtain ⟨ao2, c2, hV2, hsh2, -, -, -, -⟩ := own_shape hrow (f.rng j)
                          have hc2 : wr.cell? ⟨A, j, none⟩ = some (.slice ao2 (X j).length c2) := by rw [← hV2]; exact hwr.all.cell j hjN
                          have hs1 := hwr.svr
                          rw [HL.out] at hs1
                          obtain ⟨s, hs⟩ : ∃ s, was[j]? = some s := ⟨_, List.getElem?_eq_getElem (by have := HL.out; omega)⟩
                          have hcs : wr.cell? ⟨gs, j, none⟩ = some s := by rw [hs1.cellAt j (by omega)]; exact hs
                          obtain ⟨so, sc, hso, hshs, -, -, -, -⟩ := own_shape (hwr.wasr j s hs) (f.rng j)
                          subst hso
                          have HV2 : Hid (V j = .slice ao2 (X j).length c2) := hV2
                          clear hV2
                          go_wp2
                          go_quiet ((go_at_call 12; exact Calls.quiet_of_same (eqB_same _ _ _ _ _ _ _ _ _ (shows_heap hsh2 (drewN_heap _ _)) (shows_heap hshs (drewN_heap _ _)))))
                          go_wp2
                          go_roundw
                          case rel => exact ⟨j + 1, by omega, by omega, by go_num, hwr.heap (drewN_heap _ _), below_drewN hb3 _⟩
                          case measure => simp [intOf]; omega
                        · go_wp2
                          go_roundw
                          case rel => exact ⟨i + 1, by omega, by go_num, hwr, hb3⟩
                          case measure => simp [intOf]; omega
                · go_wp2
                  go_ret
                  exact ⟨rfl, hb3⟩
end Go.Proofs.Ytjhkicfndbceoaa
