/- Whether images may be committed; whether a log tells just these pages. -/
import Derived.Test.YtndfhmlcfaaaiaaDoorPRow
import Derived.Test.YtndfhmlcfaaaiaaDoorTidy
namespace Go.Proofs.YtndfhmlcfaaaiaaDoor
open Go.RowKit

def fitP (H L : Nat) (l : List (Int × Pg)) : Prop := okP H l ∧ l.length + 2 ≤ L
instance (H L : Nat) (l : List (Int × Pg)) : Decidable (fitP H L l) := by unfold fitP; exact inferInstance
theorem okP_next {H : Nat} {l : List (Int × Pg)} {k : Nat} {x : Int × Pg} (h : okP H (l.take k)) (hx : l[k]? = some x) (h0 : 0 ≤ x.1) (h1 : x.1 < H) (hn : ∀ (j : Nat) y, j < k → l[j]? = some y → y.1 ≠ x.1) : okP H (l.take (k + 1)) := by
  have e := pgs_take hx
  refine ⟨fun z hz => ?_, ?_⟩
  · rw [e] at hz
    rcases List.mem_append.1 hz with h2 | h2
    · exact h.1 z h2
    · simp only [List.mem_singleton] at h2
      rw [h2]
      exact ⟨h0, h1⟩
  · rw [e]
    refine List.nodup_append.2 ⟨h.2, by simp, fun a ha b hb hab => ?_⟩
    simp only [List.mem_singleton] at hb
    subst hb
    subst hab
    obtain ⟨y, hy, hy2⟩ := List.mem_map.1 ha
    obtain ⟨j, hj⟩ := List.mem_iff_getElem?.1 hy
    rw [List.getElem?_take] at hj
    by_cases hjk : j < k
    · rw [if_pos hjk] at hj
      exact hn j y hjk hj hy2
    · rw [if_neg hjk] at hj
      cases hj
set_option maxRecDepth 100000 in
set_option maxHeartbeats 800000 in
theorem fits_any (w : World) (ao : Option Addr) (c : Nat) (l : List (Int × Pg)) (H L : Nat) (hI : Ims w ao l) (hl : l.length ≤ 1000) (hL : 2 ≤ L) (hL2 : L ≤ 4000) :
    Calls Tryd.prog 19 #[.slice ao l.length c, .int .i64 (H : Int), .int .i64 (L : Int)] w fun e w' => e = .returned (.bool (decide (fitP H L l))) ∧ Below w.heap.size w w' := by
  have HI : Hid (∀ v, Below w.heap.size w v → Ims v ao l) := fun v hb => hI.next hb
  clear hI
  obtain ⟨R, hR⟩ : ∃ R, R = decide (fitP H L l) := ⟨_, rfl⟩
  rw [← hR]
  have HR : Hid (R = decide (fitP H L l)) := hR
  clear hR
  go_enter Tryd.func19, Tryd.ntmps19
  go_wp2_with fail
  go_loopw [7] (fun i wr => ∃ k : Nat, k ≤ l.length ∧ i = .int .i64 (k : Int) ∧ okP H (l.take k) ∧ Below w.heap.size w wr) (fun i _ => l.length - (intOf i).toNat)
  case atStart => exact ⟨0, by omega, rfl, ⟨fun z hz => by simp [pgs] at hz, by simp [pgs]⟩, Below.refl _ _⟩
  case round =>
    obtain ⟨k, hk, rfl, hok, hb⟩ := hrel
    by_cases hlt : k < l.length
    · have hkI : (k : Int) < (l.length : Int) := by omega
      obtain ⟨x, hx⟩ : ∃ x, l[k]? = some x := ⟨_, List.getElem?_eq_getElem hlt⟩
      obtain ⟨gi, rfl, hgi⟩ := (HI.out wr hb).at hx
      have hxc := hgi.num hx
      have HNO : Hid (x.1 ∈ pgs (l.take k) ∨ ¬ (0 ≤ x.1 ∧ x.1 < H) → ¬ okP H l) := okP_no hx
      have HYES : Hid ((∀ (j : Nat) y, j < k → l[j]? = some y → y.1 ≠ x.1) → 0 ≤ x.1 → x.1 < H → okP H (l.take (k + 1))) := fun h1 h2 h3 => okP_next hok hx h2 h3 h1
      have HX : Hid (l[k]? = some x) := hx
      obtain ⟨z, hz⟩ : ∃ z, z = x.1 := ⟨_, rfl⟩
      rw [← hz] at hxc HNO HYES
      have HZ : Hid (z = x.1) := hz
      clear hz hx hok
      have fno : Hid (z ∈ pgs (l.take k) ∨ ¬ (0 ≤ z ∧ z < H) → R = false) := fun h => by rw [HR.out]; exact decide_eq_false (fun h2 => HNO.out h h2.1)
      by_cases h0 : z < 0
      · go_wp2_with fail
        go_ret
        exact ⟨by rw [fno.out (.inr (by omega))]; rfl, hb⟩
      · by_cases h1 : (H : Int) ≤ z
        · go_wp2_with fail
          go_ret
          exact ⟨by rw [fno.out (.inr (by omega))]; rfl, hb⟩
        · have hzI : 0 ≤ z := by omega
          have hzH : z < (H : Int) := by omega
          go_wp2_with fail
          go_loopw [8] (fun i v => ∃ j : Nat, j ≤ k ∧ i = .int .i64 (j : Int) ∧ (∀ (j' : Nat) y, j' < j → l[j']? = some y → y.1 ≠ z) ∧ Below w.heap.size w v) (fun i _ => k - (intOf i).toNat)
          case atStart => exact ⟨0, by omega, rfl, fun j' y h => by omega, hb⟩
          case round =>
            obtain ⟨j, hj, rfl, hne, hb2⟩ := hrel
            by_cases hlt2 : j < k
            · have hjI : (j : Int) < (k : Int) := by omega
              have hjL : (j : Int) < (l.length : Int) := by omega
              obtain ⟨y, hy⟩ : ∃ y, l[j]? = some y := ⟨_, List.getElem?_eq_getElem (by omega)⟩
              have hJ : ∀ v, Below w.heap.size w v → v.cell? ⟨gi, j * 481, none⟩ = some (.int .i64 y.1) ∧ v.cell? ⟨gi, k * 481, none⟩ = some (.int .i64 z) := fun v hv => by
                obtain ⟨g2, he, hi2⟩ := (HI.out v hv).at hy
                cases he
                exact ⟨hi2.num hy, by rw [HZ.out]; exact hi2.num HX.out⟩
              obtain ⟨jc, kc⟩ := hJ wr hb2
              obtain ⟨t, ht⟩ : ∃ t, t = y.1 := ⟨_, rfl⟩
              rw [← ht] at jc
              have HTY : Hid (t = y.1) := ht
              have HY : Hid (l[j]? = some y) := hy
              have HNE : Hid (∀ (j' : Nat) y, j' < j → l[j']? = some y → y.1 ≠ z) := hne
              clear ht hy hne hJ
              by_cases hyz : t = z
              · have HM : Hid (R = false) := fno.out (.inl (by
                  rw [← hyz, HTY.out]
                  exact List.mem_map.2 ⟨y, List.mem_iff_getElem?.2 ⟨j, by rw [List.getElem?_take, if_pos hlt2]; exact HY.out⟩, rfl⟩))
                subst hyz
                go_wp2_with fail
                go_quiet (fail)
                go_wp2_with fail
                go_ret
                exact ⟨by rw [HM.out]; rfl, ⟨hb2.os, hb2.tape, hb2.output, hb2.size, hb2.block⟩⟩
              · go_wp2_with fail
                go_quiet (fail)
                go_wp2_with fail
                refine ⟨⟨j + 1, by omega, by go_num, fun j' y' hj' hy' => ?_, ⟨hb2.os, hb2.tape, hb2.output, hb2.size, hb2.block⟩⟩, by simp only [intOf]; omega⟩
                by_cases e : j' = j
                · subst e
                  rw [HY.out] at hy'
                  cases hy'
                  rw [← HTY.out]
                  exact hyz
                · exact HNE.out j' y' (by omega) hy'
            · have hjI : ¬ (j : Int) < (k : Int) := by omega
              have hok2 := HYES.out (fun j' y' h1 h2 => hne j' y' (by omega) h2) hzI hzH
              have HOK : Hid (okP H (l.take (k + 1))) := hok2
              clear hok2 hne
              go_wp2_with fail
              exact ⟨⟨k + 1, by omega, by go_num, HOK.out, hb2⟩, by simp only [intOf]; omega⟩
    · have hkI : ¬ (k : Int) < (l.length : Int) := by omega
      rw [List.take_of_length_le (by omega)] at hok
      have HE : Hid (R = decide ((l.length : Int) ≤ (L : Int) - 2)) := by
        rw [HR.out]
        refine decide_eq_decide.2 ⟨fun h => by have := h.2; omega, fun h => ⟨hok, by omega⟩⟩
      have hw2 : IntKind.i64.wrap ((L : Int) - 2) = (L : Int) - 2 := by rw [IntKind.wrap_i64]; omega
      clear hok
      go_wp2_with fail
      go_ret
      exact ⟨by rw [HE.out]; rfl, hb⟩
structure HD (v : World) (P6 : Nat) (pk : Pg) (Np H : Nat) (F : Nat → Pg) : Prop where
  p : Blk v P6 31 (pb pk)
  r : PRw v Np H F
theorem PRw.next {v v' : World} {g n : Nat} {F : Nat → Pg} (h : PRw v g n F) (hb : Below v.heap.size v v') : PRw v' g n F := h.same (hb.block g h.lt)
/-- What a page reads as. -/
theorem readR_b (B : Nat) (w v : World) (q r mm f m cap : Nat) (x : Lg) (d : St) (pg : Nat → Pg) (h : LB B w v q r mm f m cap x d) (hon : d.off = false) (hal : x.dead = false) (p : Nat) (hp : p < 9223372036854775808) (hr : rdR d x (p : Int) = (pg p, 0)) :
    Calls Tryd.prog 8 #[.pointer (some ⟨q, 0, none⟩), .int .i64 (p : Int)] v fun e v' => e = .returned (.tuple #[.agg (pb (pg p)).toArray, .int .i64 0]) ∧ Below v.heap.size v v' ∧ LB B w v' q r mm f m cap x d := by
  have h0 := read8_any v q r mm f m cap x d h.dl (p : Int) (by omega) hon hal
  rw [hr] at h0
  refine h0.mono ?_
  rintro e v' ⟨rfl, hb⟩
  exact ⟨rfl, hb, h.next hb⟩
set_option maxRecDepth 100000 in
set_option maxHeartbeats 800000 in
theorem holdsR_any (B : Nat) (w v : World) (q r mm f m cap : Nat) (x : Lg) (d : St) (pg : Nat → Pg) (h : LB B w v q r mm f m cap x d) (hon : d.off = false) (hal : x.dead = false) (hrr : ∀ p, p < x.H → rdR d x (p : Int) = (pg p, 0)) (Np H cp : Nat) (F : Nat → Pg) (hR : PRw v Np H F) (hH : x.H = H) :
    Calls Tryd.prog 25 #[.pointer (some ⟨q, 0, none⟩), .slice (some ⟨Np, 0, none⟩) H cp] v fun e v' => e = .returned (.bool (decide (∀ i, i < H → pg i = F i))) ∧ Below v.heap.size v v' := by
  have hH2 := h.dl.l.H2
  obtain ⟨R, hRe⟩ : ∃ R, R = decide (∀ i, i < H → pg i = F i) := ⟨_, rfl⟩
  rw [← hRe]
  have HR : Hid (R = decide (∀ i, i < H → pg i = F i)) := hRe
  clear hRe
  have hpa := fun u (hu : LB B w u q r mm f m cap x d) => pages_any u q r mm x hu.dl.l hal
  rw [hH] at hpa hH2
  have hrd := fun u (hu : LB B w u q r mm f m cap x d) (i : Nat) (hi : i < H) => readR_b B w u q r mm f m cap x d pg hu hon hal i (by omega) (hrr i (by rw [hH]; exact hi))
  have hz31 := zero31
  clear hH hon hal hrr
  have hgu := guard31
  go_enter Tryd.func25, Tryd.ntmps25
  go_wp2_with (go_at_call 13; refine (hpa v h).mono ?_; rintro e v1 ⟨rfl, rfl⟩)
  clear hpa
  go_loopw [5] (fun i u => ∃ k : Nat, k ≤ H ∧ i = .int .i64 (k : Int) ∧ (∀ j, j < k → pg j = F j) ∧ LB B w u q r mm f m cap x d ∧ PRw u Np H F ∧ Below v.heap.size v u) (fun i _ => H - (intOf i).toNat)
  case atStart => exact ⟨0, by omega, rfl, fun j hj => by omega, h, hR, Below.refl _ _⟩
  case round =>
    obtain ⟨k, hk, rfl, hsame, hL, hP, hb⟩ := hrel
    clear h hR
    by_cases hlt : k < H
    · have hkI : (k : Int) < (H : Int) := by omega
      have hkI0 : (0 : Int) ≤ (k : Int) := by omega
      have hr1 := hrd wr hL k hlt
      obtain ⟨pk, hpk⟩ : ∃ pk, pk = pg k := ⟨_, rfl⟩
      rw [← hpk] at hr1
      obtain ⟨fk, hfk⟩ : ∃ fk, fk = F k := ⟨_, rfl⟩
      have HPK : Hid (pk = pg k ∧ fk = F k) := ⟨hpk, hfk⟩
      have HSM : Hid (∀ j, j < k → pg j = F j) := hsame
      clear hpk hfk hsame
      go_upto_region 7 with (first
        | (go_at_call 8; refine hr1.mono ?_; rintro e u1 ⟨rfl, kb1, hL1⟩
           have hN1 := Blk.new u1 31 (pb zp))
        | (refine store_pg rfl _ _ rfl u1.heap.size zp pk hN1 rfl rfl ?_; intro hS1))
      have kc1 := boxed_pg u1 pk
      have hL2 := hL1.next kc1
      have hP2 := (hP.next kb1).next kc1
      have hs1 := hb.size
      have hs2 := kb1.size
      have hb2 := (hb.trans (kb1.mono hs1)).trans (kc1.mono (by omega))
      obtain ⟨P6, hP6⟩ : ∃ P, P = u1.heap.size := ⟨_, rfl⟩
      obtain ⟨u2, hu2⟩ : ∃ u, u = (u1.alloc (.cells (pb zp).toArray 31)).setRow u1.heap.size (pb pk).toArray := ⟨_, rfl⟩
      rw [← hu2] at hS1 hL2 hP2 hb2 ⊢
      rw [← hP6] at hS1 ⊢
      clear hu2 hP6 kc1 hN1 hL1 kb1 hP hL hs1 hs2 hr1
      have HRG : Hid (∀ u, HD u P6 pk Np H F → u.rangeAt Np (k * 480) (pb fk)) := fun u hu => by rw [HPK.out.2]; exact hu.r.range hlt
      have hS0 : HD u2.drew P6 pk Np H F := ⟨hS1.drew, hP2.same rfl⟩
      have hq := fun W => eq31 pk fk W
      by_cases hpf : pk = fk
      · rw [decide_eq_true hpf] at hq
        have HPF : Hid (pk = fk) := hpf
        clear hpf
        refine wp_region_to (fun v => HD v P6 pk Np H F) 10 (by kernel_rfl) ?_
        refine wpTo_take (i := 0) (v := ?v0z1) (show _ = some _ by simp only [List.getElem?_toArray, List.getElem?_cons_zero]; exact rfl) (by kernel_rfl) (by kernel_rfl) (by kernel_rfl) (by kernel_rfl) (by exact fun _ _ _ h => h) (Or.inl ⟨by rfl, ?hy0z1⟩) hS0 ?r0z1
        case hy0z1 => (intro w hSw; (try dsimp only at hSw); go_simp; try with_reducible rfl)
        (try simp only [Act.put]); (try simp only [List.setIfInBounds_toArray]); (repeat (first | simp only [List.set_cons_succ] | simp only [List.set_cons_zero]))
        refine wpTo_take (i := 1) (v := ?v1z2) (show _ = some _ by simp only [List.getElem?_toArray, List.getElem?_cons_succ, List.getElem?_cons_zero]; exact rfl) (by kernel_rfl) (by kernel_rfl) (by kernel_rfl) (by kernel_rfl) (by exact fun _ _ _ h => h) (Or.inl ⟨by rfl, ?hy1z2⟩) hS0 ?r1z2
        case hy1z2 => (intro w hSw; (try dsimp only at hSw); go_simp; try with_reducible rfl)
        (try simp only [Act.put]); (try simp only [List.setIfInBounds_toArray]); (repeat (first | simp only [List.set_cons_succ] | simp only [List.set_cons_zero]))
        refine wpTo_take (i := 2) (v := ?v2z3) (show _ = some _ by simp only [List.getElem?_toArray, List.getElem?_cons_succ, List.getElem?_cons_zero]; exact rfl) (by kernel_rfl) (by kernel_rfl) (by kernel_rfl) (by kernel_rfl) (by exact fun _ _ _ h => h) (Or.inl ⟨by rfl, ?hy2z3⟩) hS0 ?r2z3
        case hy2z3 => (intro w hSw; (try dsimp only at hSw); go_simp; try with_reducible rfl)
        (try simp only [Act.put]); (try simp only [List.setIfInBounds_toArray]); (repeat (first | simp only [List.set_cons_succ] | simp only [List.set_cons_zero]))
        refine wpTo_take (i := 3) (show _ = some _ by simp only [List.getElem?_toArray, List.getElem?_cons_succ, List.getElem?_cons_zero]; exact rfl) (by kernel_rfl) (by kernel_rfl) (by kernel_rfl) (by kernel_rfl) (by exact fun _ _ _ h => h) (yieldsIf_load_mid (by rfl) 31 (.tmp 6) rfl P6 0 rfl (pb pk) _ (fun v h => (HD.p h).whole) Tryd.underlying31 rfl (by rw [pb_length]; kernel_rfl)) hS0 ?_
        (try simp only [Act.put]); (try simp only [List.setIfInBounds_toArray]); (repeat (first | simp only [List.set_cons_succ] | simp only [List.set_cons_zero]))
        refine wpTo_take (i := 4) (v := ?v4z4) (show _ = some _ by simp only [List.getElem?_toArray, List.getElem?_cons_succ, List.getElem?_cons_zero]; exact rfl) (by kernel_rfl) (by kernel_rfl) (by kernel_rfl) (by kernel_rfl) (by exact fun _ _ _ h => h) (Or.inl ⟨by rfl, ?hy4z4⟩) hS0 ?r4z4
        case hy4z4 => (intro w hSw; (try dsimp only at hSw); go_simp; try with_reducible rfl)
        (try simp only [Act.put]); (try simp only [List.setIfInBounds_toArray]); (repeat (first | simp only [List.set_cons_succ] | simp only [List.set_cons_zero]))
        refine wpTo_take (i := 5) (v := ?v5z5) (show _ = some _ by simp only [List.getElem?_toArray, List.getElem?_cons_succ, List.getElem?_cons_zero]; exact rfl) (by kernel_rfl) (by kernel_rfl) (by kernel_rfl) (by kernel_rfl) (by exact fun _ _ _ h => h) (Or.inl ⟨by rfl, ?hy5z5⟩) hS0 ?r5z5
        case hy5z5 => (intro w hSw; (try dsimp only at hSw); go_simp; try with_reducible rfl)
        (try simp only [Act.put]); (try simp only [List.setIfInBounds_toArray]); (repeat (first | simp only [List.set_cons_succ] | simp only [List.set_cons_zero]))
        refine wpTo_take (i := 6) (v := ?v6z6) (show _ = some _ by simp only [List.getElem?_toArray, List.getElem?_cons_succ, List.getElem?_cons_zero]; exact rfl) (by kernel_rfl) (by kernel_rfl) (by kernel_rfl) (by kernel_rfl) (by exact fun _ _ _ h => h) (Or.inl ⟨by rfl, ?hy6z6⟩) hS0 ?r6z6
        case hy6z6 => (intro w hSw; (try dsimp only at hSw); go_simp; try with_reducible rfl)
        (try simp only [Act.put]); (try simp only [List.setIfInBounds_toArray]); (repeat (first | simp only [List.set_cons_succ] | simp only [List.set_cons_zero]))
        refine wpTo_take (i := 7) (show _ = some _ by simp only [List.getElem?_toArray, List.getElem?_cons_succ, List.getElem?_cons_zero]; exact rfl) (by kernel_rfl) (by kernel_rfl) (by kernel_rfl) (by kernel_rfl) (by exact fun _ _ _ h => h) (yieldsIf_load_mid (by rfl) 31 (.tmp 35) rfl Np (k * 480) rfl (pb fk) _ (fun v h => HRG.out v h) Tryd.underlying31 rfl (by rw [pb_length]; kernel_rfl)) hS0 ?_
        (try simp only [Act.put]); (try simp only [List.setIfInBounds_toArray]); (repeat (first | simp only [List.set_cons_succ] | simp only [List.set_cons_zero]))
        refine wpTo_take (i := 8) (v := ?v8z7) (show _ = some _ by simp only [List.getElem?_toArray, List.getElem?_cons_succ, List.getElem?_cons_zero]; exact rfl) (by kernel_rfl) (by kernel_rfl) (by kernel_rfl) (by kernel_rfl) (by exact fun _ _ _ h => h) (Or.inl ⟨by rfl, ?hy8z7⟩) hS0 ?r8z7
        case hy8z7 => (intro w hSw; (try dsimp only at hSw); go_simp; try with_reducible rfl)
        (try simp only [Act.put]); (try simp only [List.setIfInBounds_toArray]); (repeat (first | simp only [List.set_cons_succ] | simp only [List.set_cons_zero]))
        refine wpTo_take (i := 9) (v := ?v9z8) (show _ = some _ by simp only [List.getElem?_toArray, List.getElem?_cons_succ, List.getElem?_cons_zero]; exact rfl) (by kernel_rfl) (by kernel_rfl) (by kernel_rfl) (by kernel_rfl) (by exact fun _ _ _ h => h) (Or.inl ⟨by rfl, ?hy9z8⟩) hS0 ?r9z8
        case hy9z8 => (intro w hSw; (try dsimp only at hSw); go_simp; try with_reducible rfl)
        (try simp only [Act.put]); (try simp only [List.setIfInBounds_toArray]); (repeat (first | simp only [List.set_cons_succ] | simp only [List.set_cons_zero]))
        refine wpTo_done (by kernel_rfl) ?_
        go_wp2_with fail
        refine ⟨⟨k + 1, by omega, by go_num, fun j hj => ?_, hL2.next (below_drw u2), hP2.same rfl, ⟨hb2.os, hb2.tape, hb2.output, hb2.size, hb2.block⟩⟩, by simp only [intOf]; omega⟩
        by_cases e : j = k
        · rw [e, ← HPK.out.1, ← HPK.out.2]; exact HPF.out
        · exact HSM.out j (by omega)
      · rw [decide_eq_false hpf] at hq
        have HN : Hid (R = false) := by
          rw [HR.out]
          refine decide_eq_false (fun hall => hpf ?_)
          rw [HPK.out.1, HPK.out.2]
          exact hall k hlt
        clear hpf
        refine wp_region_to (fun v => HD v P6 pk Np H F) 10 (by kernel_rfl) ?_
        refine wpTo_take (i := 0) (v := ?v0z9) (show _ = some _ by simp only [List.getElem?_toArray, List.getElem?_cons_zero]; exact rfl) (by kernel_rfl) (by kernel_rfl) (by kernel_rfl) (by kernel_rfl) (by exact fun _ _ _ h => h) (Or.inl ⟨by rfl, ?hy0z9⟩) hS0 ?r0z9
        case hy0z9 => (intro w hSw; (try dsimp only at hSw); go_simp; try with_reducible rfl)
        (try simp only [Act.put]); (try simp only [List.setIfInBounds_toArray]); (repeat (first | simp only [List.set_cons_succ] | simp only [List.set_cons_zero]))
        refine wpTo_take (i := 1) (v := ?v1z10) (show _ = some _ by simp only [List.getElem?_toArray, List.getElem?_cons_succ, List.getElem?_cons_zero]; exact rfl) (by kernel_rfl) (by kernel_rfl) (by kernel_rfl) (by kernel_rfl) (by exact fun _ _ _ h => h) (Or.inl ⟨by rfl, ?hy1z10⟩) hS0 ?r1z10
        case hy1z10 => (intro w hSw; (try dsimp only at hSw); go_simp; try with_reducible rfl)
        (try simp only [Act.put]); (try simp only [List.setIfInBounds_toArray]); (repeat (first | simp only [List.set_cons_succ] | simp only [List.set_cons_zero]))
        refine wpTo_take (i := 2) (v := ?v2z11) (show _ = some _ by simp only [List.getElem?_toArray, List.getElem?_cons_succ, List.getElem?_cons_zero]; exact rfl) (by kernel_rfl) (by kernel_rfl) (by kernel_rfl) (by kernel_rfl) (by exact fun _ _ _ h => h) (Or.inl ⟨by rfl, ?hy2z11⟩) hS0 ?r2z11
        case hy2z11 => (intro w hSw; (try dsimp only at hSw); go_simp; try with_reducible rfl)
        (try simp only [Act.put]); (try simp only [List.setIfInBounds_toArray]); (repeat (first | simp only [List.set_cons_succ] | simp only [List.set_cons_zero]))
        refine wpTo_take (i := 3) (show _ = some _ by simp only [List.getElem?_toArray, List.getElem?_cons_succ, List.getElem?_cons_zero]; exact rfl) (by kernel_rfl) (by kernel_rfl) (by kernel_rfl) (by kernel_rfl) (by exact fun _ _ _ h => h) (yieldsIf_load_mid (by rfl) 31 (.tmp 6) rfl P6 0 rfl (pb pk) _ (fun v h => (HD.p h).whole) Tryd.underlying31 rfl (by rw [pb_length]; kernel_rfl)) hS0 ?_
        (try simp only [Act.put]); (try simp only [List.setIfInBounds_toArray]); (repeat (first | simp only [List.set_cons_succ] | simp only [List.set_cons_zero]))
        refine wpTo_take (i := 4) (v := ?v4z12) (show _ = some _ by simp only [List.getElem?_toArray, List.getElem?_cons_succ, List.getElem?_cons_zero]; exact rfl) (by kernel_rfl) (by kernel_rfl) (by kernel_rfl) (by kernel_rfl) (by exact fun _ _ _ h => h) (Or.inl ⟨by rfl, ?hy4z12⟩) hS0 ?r4z12
        case hy4z12 => (intro w hSw; (try dsimp only at hSw); go_simp; try with_reducible rfl)
        (try simp only [Act.put]); (try simp only [List.setIfInBounds_toArray]); (repeat (first | simp only [List.set_cons_succ] | simp only [List.set_cons_zero]))
        refine wpTo_take (i := 5) (v := ?v5z13) (show _ = some _ by simp only [List.getElem?_toArray, List.getElem?_cons_succ, List.getElem?_cons_zero]; exact rfl) (by kernel_rfl) (by kernel_rfl) (by kernel_rfl) (by kernel_rfl) (by exact fun _ _ _ h => h) (Or.inl ⟨by rfl, ?hy5z13⟩) hS0 ?r5z13
        case hy5z13 => (intro w hSw; (try dsimp only at hSw); go_simp; try with_reducible rfl)
        (try simp only [Act.put]); (try simp only [List.setIfInBounds_toArray]); (repeat (first | simp only [List.set_cons_succ] | simp only [List.set_cons_zero]))
        refine wpTo_take (i := 6) (v := ?v6z14) (show _ = some _ by simp only [List.getElem?_toArray, List.getElem?_cons_succ, List.getElem?_cons_zero]; exact rfl) (by kernel_rfl) (by kernel_rfl) (by kernel_rfl) (by kernel_rfl) (by exact fun _ _ _ h => h) (Or.inl ⟨by rfl, ?hy6z14⟩) hS0 ?r6z14
        case hy6z14 => (intro w hSw; (try dsimp only at hSw); go_simp; try with_reducible rfl)
        (try simp only [Act.put]); (try simp only [List.setIfInBounds_toArray]); (repeat (first | simp only [List.set_cons_succ] | simp only [List.set_cons_zero]))
        refine wpTo_take (i := 7) (show _ = some _ by simp only [List.getElem?_toArray, List.getElem?_cons_succ, List.getElem?_cons_zero]; exact rfl) (by kernel_rfl) (by kernel_rfl) (by kernel_rfl) (by kernel_rfl) (by exact fun _ _ _ h => h) (yieldsIf_load_mid (by rfl) 31 (.tmp 35) rfl Np (k * 480) rfl (pb fk) _ (fun v h => HRG.out v h) Tryd.underlying31 rfl (by rw [pb_length]; kernel_rfl)) hS0 ?_
        (try simp only [Act.put]); (try simp only [List.setIfInBounds_toArray]); (repeat (first | simp only [List.set_cons_succ] | simp only [List.set_cons_zero]))
        refine wpTo_take (i := 8) (v := ?v8z15) (show _ = some _ by simp only [List.getElem?_toArray, List.getElem?_cons_succ, List.getElem?_cons_zero]; exact rfl) (by kernel_rfl) (by kernel_rfl) (by kernel_rfl) (by kernel_rfl) (by exact fun _ _ _ h => h) (Or.inl ⟨by rfl, ?hy8z15⟩) hS0 ?r8z15
        case hy8z15 => (intro w hSw; (try dsimp only at hSw); go_simp; try with_reducible rfl)
        (try simp only [Act.put]); (try simp only [List.setIfInBounds_toArray]); (repeat (first | simp only [List.set_cons_succ] | simp only [List.set_cons_zero]))
        refine wpTo_take (i := 9) (v := ?v9z16) (show _ = some _ by simp only [List.getElem?_toArray, List.getElem?_cons_succ, List.getElem?_cons_zero]; exact rfl) (by kernel_rfl) (by kernel_rfl) (by kernel_rfl) (by kernel_rfl) (by exact fun _ _ _ h => h) (Or.inl ⟨by rfl, ?hy9z16⟩) hS0 ?r9z16
        case hy9z16 => (intro w hSw; (try dsimp only at hSw); go_simp; try with_reducible rfl)
        (try simp only [Act.put]); (try simp only [List.setIfInBounds_toArray]); (repeat (first | simp only [List.set_cons_succ] | simp only [List.set_cons_zero]))
        refine wpTo_done (by kernel_rfl) ?_
        go_wp2_with fail
        go_ret
        exact ⟨by rw [HN.out]; rfl, ⟨hb2.os, hb2.tape, hb2.output, hb2.size, hb2.block⟩⟩
    · have hkI : ¬ (k : Int) < (H : Int) := by omega
      have HE : Hid (R = true) := by
        rw [HR.out]
        exact decide_eq_true (fun i hi => hsame i (by omega))
      clear hsame
      go_wp2_with fail
      go_ret
      exact ⟨by rw [HE.out]; rfl, hb⟩
theorem holds_any (B : Nat) (w v : World) (q r mm f m cap : Nat) (x : Lg) (d : St) (k0 : Nat) (pg : Nat → Pg) (h : LB B w v q r mm f m cap x d) (hv : Lv d x k0 pg) (Np H cp : Nat) (F : Nat → Pg) (hR : PRw v Np H F) (hH : x.H = H) :
    Calls Tryd.prog 25 #[.pointer (some ⟨q, 0, none⟩), .slice (some ⟨Np, 0, none⟩) H cp] v fun e v' => e = .returned (.bool (decide (∀ i, i < H → pg i = F i))) ∧ Below v.heap.size v v' :=
  holdsR_any B w v q r mm f m cap x d pg h hv.on hv.alive (fun p hp => rd_sem hv p hp) Np H cp F hR hH
end Go.Proofs.YtndfhmlcfaaaiaaDoor
