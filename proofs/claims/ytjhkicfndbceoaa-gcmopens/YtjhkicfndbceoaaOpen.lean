/- Opening, by the program. -/
import Derived.Test.YtjhkicfndbceoaaSeal
import Derived.Deep.CutRange
namespace Go.Proofs.Ytjhkicfndbceoaa
open Go.RowKit

set_option maxRecDepth 100000 in
theorem run_arrayAt (W : World) (fo : Option Addr) (n c : Nat) (h : 16 ≤ n) : (Instr.arrayAt 37 (.slice fo n c)).run Try.prog W = .ok (.pointer fo) W := by
  unfold Instr.arrayAt
  rw [Sem.run_bind, run_underlying Try.underlying37]
  simp only [Result.andThen_ok]
  rw [if_neg (by omega)]
  rfl
set_option maxRecDepth 100000 in
theorem run_load_at (w : World) (ad : Addr) (l : List B) (hl : l.length = 16) (hs : Shows w (some ad) 16 (v8s l)) : (loadVar 37 ad).run Try.prog w = .ok (.agg (bys l).toArray) w := by
  have hlc : (loadCells ad (bys l).length).run Try.prog w = .ok (bys l).toArray w :=
    run_loadCells_list (P := Try.prog) w ad (bys l) (fun j v hv => hs.cells j v (by rw [u8s_v8s]; exact hv))
  have hagg : (isAgg 37).run Try.prog w = .ok true w := by kernel_rfl
  rw [bys_length, hl] at hlc
  simp [loadVar, Sem.run_bind, hagg, hlc]
theorem yieldsIf_load_at {ops : Array Oper} {S : World → Prop} {op : Oper} {a : Act} (hw : Region.wanted op (yielded ops a.tmps) = true) (x : Operand) (ho : op.op = .load 37 x) (ad : Addr) (hx : a.eval x = .pointer (some ad))
    (l : List B) (hl : l.length = 16) (hS : ∀ w, S w → Shows w (some ad) 16 (v8s l)) : YieldsIf Try.prog ops S op (.agg (bys l).toArray) a :=
  .inl ⟨hw, fun w hw' => by
    unfold execOp
    simp only [ho, hx, Instr.loadAt, Instr.sureAddr, Sem.run_bind, Sem.run_pure, Result.andThen_ok, run_load_at w ad l hl (hS w hw')]⟩
/-- What lies there while something is opened. -/
structure OpS (w v : World) (key nonce : List B) : Prop where
  key : Blk v w.heap.size 22 (bys key)
  no : Blk v (w.heap.size + 1) 23 (bys nonce)
  k : Below w.heap.size w v
section
variable {w v v' : World} {key nonce : List B}
theorem OpS.call (h : OpS w v key nonce) (hb : Below v.heap.size v v') : OpS w v' key nonce := ⟨h.key.next hb, h.no.next hb, h.k.trans (hb.mono h.k.size)⟩
theorem OpS.drew (h : OpS w v key nonce) : OpS w v.drew key nonce := ⟨h.key, h.no, h.k.drew⟩
theorem OpS.on (h : OpS w v key nonce) {g : Nat} (ho : On v v' g) (hg : w.heap.size + 1 < g) : OpS w v' key nonce := ⟨h.key.on ho (by omega), h.no.on ho (by omega), ho.below h.k (by omega)⟩
theorem OpS.lt (h : OpS w v key nonce) : w.heap.size + 1 < v.heap.size := h.no.lt
end
/-- What lies there while the tag is looked at. -/
structure Op2 (w v : World) (kg ng cg g12 g13 g15 : Nat) (RK nonce M1 : List B) (TQ : Q) : Prop where
  a : Blk v g12 62 (el TQ)
  k : Blk v g13 55 (bys RK)
  m : Blk v g15 37 (bys M1)
  s : KsS v kg ng cg RK nonce 1
  b : Below w.heap.size w v
section
variable {w v v' : World} {kg ng cg g12 g13 g15 : Nat} {RK nonce M1 : List B} {TQ : Q}
theorem Op2.call (h : Op2 w v kg ng cg g12 g13 g15 RK nonce M1 TQ) (hb : Below v.heap.size v v') : Op2 w v' kg ng cg g12 g13 g15 RK nonce M1 TQ := ⟨h.a.next hb, h.k.next hb, h.m.next hb, h.s.next hb, h.b.trans (hb.mono h.b.size)⟩
theorem Op2.drew (h : Op2 w v kg ng cg g12 g13 g15 RK nonce M1 TQ) : Op2 w v.drew kg ng cg g12 g13 g15 RK nonce M1 TQ := h.call ((Below.refl _ v).drew)
end

set_option maxHeartbeats 2000000 in
set_option maxRecDepth 100000 in
theorem open_walk (key nonce ad text tb RK M1 T : List B) (TG TQ : Q) (b : Bool) (hk : key.length = 32) (hn : nonce.length = 12) (hRK : RK.length = 240) (hM1 : M1.length = 16) (htb : tb.length = 16) (ao bo : Option Addr) (n m M c d : Nat) (ta : Addr) (w : World) (hT : T.length = m) (hMm : M = m + 16)
    (hs : Shows w ao n (v8s ad)) (hx : Shows w bo m (v8s text)) (ht : Shows w (some ta) 16 (v8s tb)) (hfr : fromAt bo d m = some ta) (hbn : n ≤ 65536) (hbm : m ≤ 65536) (hmd : M ≤ d)
    (H22 : Hid (∀ W : World, Calls Try.prog 22 #[.agg (bys key).toArray] W fun e w' => e = .returned (.agg (bys RK).toArray) ∧ Below W.heap.size W w'))
    (H29 : Hid (∀ W : World, Calls Try.prog 29 #[.agg (bys tb).toArray] W fun e w' => e = .returned (.agg (el TQ).toArray) ∧ Below W.heap.size W w'))
    (H30 : Hid (∀ W : World, Calls Try.prog 30 #[.agg (el TQ).toArray, .agg (el TG).toArray] W fun e w' => e = .returned (.bool b) ∧ Below W.heap.size W w'))
    (H37 : Hid (∀ (kg ng cg : Nat) (W : World), KsS W kg ng cg RK nonce 0 → Calls Try.prog 37 #[.pointer (some ⟨cg, 0, none⟩), .pointer (some ⟨kg, 0, none⟩), .pointer (some ⟨ng, 0, none⟩)] W fun e w' => e = .returned (.agg (bys M1).toArray) ∧ KsS w' kg ng cg RK nonce 1 ∧ W.grownBy w' (some cg)))
    (H24 : Hid (∀ (kg ng cg : Nat) (W : World), Shows W bo m (v8s text) → KsS W kg ng cg RK nonce 1 → (∀ ad, bo = some ad → 0 < m → ad.block ≠ cg) → Calls Try.prog 24 #[.slice bo m d, .func (.func 37) #[] #[.pointer (some ⟨cg, 0, none⟩), .pointer (some ⟨kg, 0, none⟩), .pointer (some ⟨ng, 0, none⟩)]] W
      fun e w' => e = .returned (.slice (some ⟨W.heap.size, 0, none⟩) m m) ∧ Blk w' W.heap.size 5 (bys T) ∧ W.grownBy w' (some cg)))
    (H25 : Hid (∀ W : World, Shows W ao n (v8s ad) → Shows W bo m (v8s text) → Calls Try.prog 25 #[.agg (bys RK).toArray, .agg (bys M1).toArray, .slice ao n c, .slice bo m d] W fun e w' => e = .returned (.agg (el TG).toArray) ∧ Below W.heap.size W w')) :
    Calls Try.prog 15 #[.agg (bys key).toArray, .agg (bys nonce).toArray, .slice ao n c, .slice bo M d] w fun e w' => (if b then ∃ g, e = .returned (.tuple #[.slice (some ⟨g, 0, none⟩) m m, .int .i64 0]) ∧ w.heap.size ≤ g ∧ Blk w' g 5 (bys T) else e = .returned (.tuple #[.slice none 0 0, .int .i64 60])) ∧ Below w.heap.size w w' := by
  obtain ⟨ZB, hZB, hzB⟩ := zeroed37'
  obtain ⟨ZK, hZK, hzK⟩ := zero55e
  have hz62 := zero62
  obtain ⟨h1, h2, h3⟩ := blk2 w 22 23 (bys key) (bys nonce)
  have hX : OpS w ((w.alloc (.cells (bys key).toArray 22)).alloc (.cells (bys nonce).toArray 23)) key nonce := ⟨h1, h2, h3⟩
  have hnI : ¬ ((n : Int) > 65536) := by omega
  have hmI : ¬ ((M : Int) > 65552) := by omega
  have hmJ : ¬ ((M : Int) < 16) := by omega
  have hmE : IntKind.i64.wrap ((M : Int) - 16) = (m : Int) := by rw [IntKind.wrap_i64]; omega
  have r2 := fun W => run_to W bo M d m (by omega) (m : Int) rfl
  have r5 := fun W => run_from W bo M d m (by omega) (m : Int) rfl
  rw [hfr, show M - m = 16 by omega] at r5
  have r6 := fun W => run_arrayAt W (some ta) 16 (d - m) (by omega)
  have hmF : (M : Int) - 16 = (m : Int) := by omega
  clear h1 h2 h3 hMm hfr hmd
  go_enter Try.func15, Try.ntmps15
  go_wp2_with fail
  obtain ⟨W0, eW⟩ : ∃ W, W = ((w.alloc (.cells (bys key).toArray 22)).alloc (.cells (bys nonce).toArray 23)) := ⟨_, rfl⟩
  rw [← eW] at hX ⊢
  clear eW
  (try simp only [Act.put])
  go_cut [11, 12] from 32 to 40 (fun t p wc => ∃ g, t = .slice bo m d ∧ p = .pointer (some ⟨g, 0, none⟩) ∧ Blk wc g 62 (el TQ) ∧ OpS w wc key nonce ∧ w.heap.size + 1 < g)
  case first =>
    refine wp_region_to (fun v => OpS w v key nonce) 11 (by kernel_rfl) ?_
    have hS0 := hX.drew
    refine wpTo_take (i := 0) (v := ?v0) (show _ = some _ by simp only [List.getElem?_toArray, List.getElem?_cons_zero]; exact rfl) (by kernel_rfl) (by kernel_rfl) (by kernel_rfl) (by kernel_rfl) (by exact fun _ _ _ h => h) (Or.inl ⟨by rfl, ?hy0⟩) hS0 ?r0
    case hy0 => (intro w hSw; (try dsimp only at hSw); go_simp; try with_reducible rfl)
    (try simp only [Act.put]); (try simp only [List.setIfInBounds_toArray]); (repeat (first | simp only [List.set_cons_succ] | simp only [List.set_cons_zero]))
    refine wpTo_take (i := 1) (v := ?v1) (show _ = some _ by simp only [List.getElem?_toArray, List.getElem?_cons_succ, List.getElem?_cons_zero]; exact rfl) (by kernel_rfl) (by kernel_rfl) (by kernel_rfl) (by kernel_rfl) (by exact fun _ _ _ h => h) (Or.inl ⟨by rfl, ?hy1⟩) hS0 ?r1
    case hy1 => (intro w hSw; (try dsimp only at hSw); go_simp; try with_reducible rfl)
    (try simp only [Act.put]); (try simp only [List.setIfInBounds_toArray]); (repeat (first | simp only [List.set_cons_succ] | simp only [List.set_cons_zero]))
    refine wpTo_take (i := 2) (v := ?v2) (show _ = some _ by simp only [List.getElem?_toArray, List.getElem?_cons_succ, List.getElem?_cons_zero]; exact rfl) (by kernel_rfl) (by kernel_rfl) (by kernel_rfl) (by kernel_rfl) (by exact fun _ _ _ h => h) (Or.inl ⟨by rfl, ?hy2⟩) hS0 ?r2
    case hy2 => (intro w hSw; (try dsimp only at hSw); go_simp; try with_reducible rfl)
    (try simp only [Act.put]); (try simp only [List.setIfInBounds_toArray]); (repeat (first | simp only [List.set_cons_succ] | simp only [List.set_cons_zero]))
    refine wpTo_take (i := 3) (v := ?v3) (show _ = some _ by simp only [List.getElem?_toArray, List.getElem?_cons_succ, List.getElem?_cons_zero]; exact rfl) (by kernel_rfl) (by kernel_rfl) (by kernel_rfl) (by kernel_rfl) (by exact fun _ _ _ h => h) (Or.inl ⟨by rfl, ?hy3⟩) hS0 ?r3
    case hy3 => (intro w hSw; (try dsimp only at hSw); go_simp; try with_reducible rfl)
    (try simp only [Act.put]); (try simp only [List.setIfInBounds_toArray]); (repeat (first | simp only [List.set_cons_succ] | simp only [List.set_cons_zero]))
    refine wpTo_take (i := 4) (v := ?v4) (show _ = some _ by simp only [List.getElem?_toArray, List.getElem?_cons_succ, List.getElem?_cons_zero]; exact rfl) (by kernel_rfl) (by kernel_rfl) (by kernel_rfl) (by kernel_rfl) (by exact fun _ _ _ h => h) (Or.inl ⟨by rfl, ?hy4⟩) hS0 ?r4
    case hy4 => (intro w hSw; (try dsimp only at hSw); go_simp; try with_reducible rfl)
    (try simp only [Act.put]); (try simp only [List.setIfInBounds_toArray]); (repeat (first | simp only [List.set_cons_succ] | simp only [List.set_cons_zero]))
    refine wpTo_take (i := 5) (v := ?v5) (show _ = some _ by simp only [List.getElem?_toArray, List.getElem?_cons_succ, List.getElem?_cons_zero]; exact rfl) (by kernel_rfl) (by kernel_rfl) (by kernel_rfl) (by kernel_rfl) (by exact fun _ _ _ h => h) (Or.inl ⟨by rfl, ?hy5⟩) hS0 ?r5
    case hy5 => (intro w hSw; (try dsimp only at hSw); go_simp; try with_reducible rfl)
    (try simp only [Act.put]); (try simp only [List.setIfInBounds_toArray]); (repeat (first | simp only [List.set_cons_succ] | simp only [List.set_cons_zero]))
    refine wpTo_take (i := 6) (v := ?v6) (show _ = some _ by simp only [List.getElem?_toArray, List.getElem?_cons_succ, List.getElem?_cons_zero]; exact rfl) (by kernel_rfl) (by kernel_rfl) (by kernel_rfl) (by kernel_rfl) (by exact fun _ _ _ h => h) (Or.inl ⟨by rfl, ?hy6⟩) hS0 ?r6
    case hy6 => (intro w hSw; (try dsimp only at hSw); go_simp; try with_reducible rfl)
    (try simp only [Act.put]); (try simp only [List.setIfInBounds_toArray]); (repeat (first | simp only [List.set_cons_succ] | simp only [List.set_cons_zero]))
    refine wpTo_take (i := 7) (show _ = some _ by simp only [List.getElem?_toArray, List.getElem?_cons_succ, List.getElem?_cons_zero]; exact rfl) (by kernel_rfl) (by kernel_rfl) (by kernel_rfl) (by kernel_rfl) (by exact fun _ _ _ h => h) (yieldsIf_load_at (by rfl) (.tmp 38) rfl ta rfl tb htb (fun v h => ht.later h.k)) hS0 ?_
    (try simp only [Act.put]); (try simp only [List.setIfInBounds_toArray]); (repeat (first | simp only [List.set_cons_succ] | simp only [List.set_cons_zero]))
    refine wpTo_two (i := 8) (j := 9) (by kernel_rfl) (show _ = some _ by simp only [List.getElem?_toArray, List.getElem?_cons_succ, List.getElem?_cons_zero]; exact rfl) (show _ = some _ by simp only [List.getElem?_toArray, List.getElem?_cons_succ, List.getElem?_cons_zero]; exact rfl) (fun K hK => ?_) (fun K hK => ?_)
    · go_simp
      go_at_call 29; refine (H29.out _).mono ?_; rintro e v1 ⟨rfl, k1⟩
      (try simp only [])
      refine hK.out _ _ (OpS.call hS0 k1) (fun hS1 => ?_)
      clear hK K
      (try simp only [Act.put]); (try simp only [List.setIfInBounds_toArray]); (repeat (first | simp only [List.set_cons_succ] | simp only [List.set_cons_zero]))
      refine wpTo_one (i := 9) (by kernel_rfl) (show _ = some _ by simp only [List.getElem?_toArray, List.getElem?_cons_succ, List.getElem?_cons_zero]; exact rfl) (fun K hK => ?_)
      go_simp
      refine hK.out _ _ (OpS.call hS1 ((Below.refl _ v1).alloc (Nat.le_refl _) _)) (fun hS2 => ?_)
      clear hK K
      (try simp only [Act.put]); (try simp only [List.setIfInBounds_toArray]); (repeat (first | simp only [List.set_cons_succ] | simp only [List.set_cons_zero]))
      have hO := Blk.new v1 62 [.int .u64 0, .int .u64 0]
      refine wpTo_take (i := 10) (v := ?v10a) (show _ = some _ by simp only [List.getElem?_toArray, List.getElem?_cons_succ, List.getElem?_cons_zero]; exact rfl) (by kernel_rfl) (by kernel_rfl) (by kernel_rfl) (by kernel_rfl) (by exact fun _ _ _ h => h) (Or.inl ⟨by rfl, ?hy10a⟩) hS2 ?r10a
      case hy10a => (intro w hSw; (try dsimp only at hSw); go_simp; try with_reducible rfl)
      (try simp only [Act.put]); (try simp only [List.setIfInBounds_toArray]); (repeat (first | simp only [List.set_cons_succ] | simp only [List.set_cons_zero]))
      refine wpTo_last (by kernel_rfl) (show _ = some _ by simp only [List.getElem?_toArray, List.getElem?_cons_succ, List.getElem?_cons_zero]; exact rfl) (by kernel_rfl) (fun K hK => ?_)
      rw [if_pos (by rfl)]
      refine wp_store_row 62 (.tmp 12) (.tmp 40) rfl v1.heap.size (el TQ).toArray rfl rfl 62 _ hO (by kernel_rfl) rfl (el_one _) ?_
      refine hK.out _ _ ?_
      clear hK K
      (try simp only [Act.put]); (try simp only [List.setIfInBounds_toArray]); (repeat (first | simp only [List.set_cons_succ] | simp only [List.set_cons_zero]))
      have hoF := On.setRow (v1.alloc (.cells #[.int .u64 0, .int .u64 0] 62)) v1.heap.size (el TQ).toArray
      have hAF := setRow_heap (v1.alloc (.cells #[.int .u64 0, .int .u64 0] 62)) v1.heap.size _ (el TQ).toArray 62 _ hO
      go_wp2_with fail
      go_meet
      case rel => exact ⟨_, rfl, rfl, hAF, hS2.on hoF hS1.lt, hS1.lt⟩
    · go_simp
      refine hK.out _ _ (OpS.call hS0 ((Below.refl _ _).alloc (Nat.le_refl _) _)) (fun hS1 => ?_)
      clear hK K
      (try simp only [Act.put]); (try simp only [List.setIfInBounds_toArray]); (repeat (first | simp only [List.set_cons_succ] | simp only [List.set_cons_zero]))
      have hO1 := Blk.new W0.drew 62 [.int .u64 0, .int .u64 0]
      refine wpTo_one (i := 8) (by kernel_rfl) (show _ = some _ by simp only [List.getElem?_toArray, List.getElem?_cons_succ, List.getElem?_cons_zero]; exact rfl) (fun K hK => ?_)
      go_simp
      go_at_call 29; refine (H29.out _).mono ?_; rintro e v1 ⟨rfl, k1⟩
      (try simp only [])
      refine hK.out _ _ (OpS.call hS1 k1) (fun hS2 => ?_)
      clear hK K
      (try simp only [Act.put]); (try simp only [List.setIfInBounds_toArray]); (repeat (first | simp only [List.set_cons_succ] | simp only [List.set_cons_zero]))
      have hO := hO1.next k1
      refine wpTo_take (i := 10) (v := ?v10b) (show _ = some _ by simp only [List.getElem?_toArray, List.getElem?_cons_succ, List.getElem?_cons_zero]; exact rfl) (by kernel_rfl) (by kernel_rfl) (by kernel_rfl) (by kernel_rfl) (by exact fun _ _ _ h => h) (Or.inl ⟨by rfl, ?hy10b⟩) hS2 ?r10b
      case hy10b => (intro w hSw; (try dsimp only at hSw); go_simp; try with_reducible rfl)
      (try simp only [Act.put]); (try simp only [List.setIfInBounds_toArray]); (repeat (first | simp only [List.set_cons_succ] | simp only [List.set_cons_zero]))
      refine wpTo_last (by kernel_rfl) (show _ = some _ by simp only [List.getElem?_toArray, List.getElem?_cons_succ, List.getElem?_cons_zero]; exact rfl) (by kernel_rfl) (fun K hK => ?_)
      rw [if_pos (by rfl)]
      refine wp_store_row 62 (.tmp 12) (.tmp 40) rfl W0.heap.size (el TQ).toArray rfl rfl 62 _ hO (by kernel_rfl) rfl (el_one _) ?_
      refine hK.out _ _ ?_
      clear hK K
      (try simp only [Act.put]); (try simp only [List.setIfInBounds_toArray]); (repeat (first | simp only [List.set_cons_succ] | simp only [List.set_cons_zero]))
      have hoF := On.setRow v1 W0.heap.size (el TQ).toArray
      have hAF := setRow_heap v1 W0.heap.size _ (el TQ).toArray 62 _ hO
      go_wp2_with fail
      go_meet
      case rel => exact ⟨_, rfl, rfl, hAF, hS2.on hoF hX.lt, hX.lt⟩
  case rest =>
    clear hX
    obtain ⟨g12, rfl, rfl, hA, hS, hg⟩ := hcut
    go_wp2_with (refine law_load rfl 22 _ rfl _ rfl 22 _ hS.key _ Try.underlying22 rfl (by rw [bys_length, hk]; kernel_rfl) ?_)
    go_at_call 22; refine (H22.out _).mono ?_; rintro e v1 ⟨rfl, k1⟩
    have n1 := hS.no.next k1
    have a1 := hA.next k1
    have b1 : Below w.heap.size w v1 := hS.k.trans (k1.mono hS.k.size)
    clear hS hA k1
    have hN := Blk.new v1 55 (bys ZK)
    go_wp2_with (first
      | (refine law_store rfl 55 _ _ rfl _ (bys RK) rfl rfl 55 _ hN (by rw [bys_length, bys_length, hRK, hZK]) (by rw [bys_length, hRK]; kernel_rfl) (bys_one RK) ?_; intro v2 o2 k2; have n2 := (n1.alloc (.cells (bys ZK).toArray 55)).on o2 (by have := n1.lt; omega); have a2 := (a1.alloc (.cells (bys ZK).toArray 55)).on o2 (by have := a1.lt; omega); have b2 := o2.below (b1.alloc b1.size (.cells (bys ZK).toArray 55)) b1.size)
      | (refine law_load rfl 55 _ rfl _ rfl 55 _ k2 _ Try.underlying55 rfl (by rw [bys_length, hRK]; kernel_rfl) ?_)
      | (refine law_load rfl 23 _ rfl _ rfl 23 _ n2 _ Try.underlying23 rfl (by rw [bys_length, hn]; kernel_rfl) ?_))
    go_at_call 23; refine (keyStream_any RK nonce v2).mono ?_; rintro e v3 ⟨rfl, s3, k3⟩
    have b3 : Below w.heap.size w v3 := b2.trans (k3.mono b2.size)
    have kk3 := k2.next k3
    have a3 := a2.next k3
    have l2 := k2.lt
    have la2 := a2.lt
    have sz2 := b2.size
    obtain ⟨kg, ekg⟩ : ∃ g, g = v2.heap.size := ⟨_, rfl⟩
    obtain ⟨ng, eng⟩ : ∃ g, g = v2.heap.size + 1 := ⟨_, rfl⟩
    obtain ⟨cg, ecg⟩ : ∃ g, g = v2.heap.size + 1 + 1 := ⟨_, rfl⟩
    obtain ⟨g13, e13⟩ : ∃ g, g = v1.heap.size := ⟨_, rfl⟩
    rw [← ecg, ← eng, ← ekg] at s3 ⊢
    rw [← e13] at kk3 l2 ⊢
    have hcw : w.heap.size ≤ cg := by omega
    have h13c : g13 ≠ cg := by omega
    have h12c : g12 ≠ cg := by omega
    clear hN k2 n1 n2 a1 a2 o2 b1 b2 k3 ekg eng ecg e13 sz2 l2 la2
    go_wp2_with fail
    go_at_call 37; refine (H37.out kg ng cg v3 s3).mono ?_; rintro e v4 ⟨rfl, s4, g4⟩
    have b4 : Below w.heap.size w v4 := b3.grown g4 b3.size (fun k hk => by cases hk; exact hcw)
    have k4 := kk3.grown g4 h13c
    have a4 := a3.grown g4 h12c
    clear s3 kk3 a3 g4
    have hN := Blk.new v4 37 (bys ZB)
    have hc4 := s4.c.lt
    have hk4 := s4.k.lt
    have hn4 := s4.no.lt
    have hg4 := k4.lt
    have ha4 := a4.lt
    go_wp2_with (refine law_store rfl 37 _ _ rfl _ (bys M1) rfl rfl 37 _ hN (by rw [bys_length, bys_length, hM1, hZB]) (by rw [bys_length, hM1]; kernel_rfl) (bys_one M1) ?_; intro v5 o5 m5; have b5 := o5.below (b4.alloc b4.size (.cells (bys ZB).toArray 37)) b4.size; have s5 := (s4.alloc (.cells (bys ZB).toArray 37)).on o5 (by omega) (by omega) (by omega); have k5 := (k4.alloc (.cells (bys ZB).toArray 37)).on o5 (by omega); have a5 := (a4.alloc (.cells (bys ZB).toArray 37)).on o5 (by omega))
    obtain ⟨g15, e15⟩ : ∃ g, g = v4.heap.size := ⟨_, rfl⟩
    rw [← e15] at m5 ⊢
    clear hN o5 s4 k4 a4 e15
    have hY : Op2 w v5 kg ng cg g12 g13 g15 RK nonce M1 TQ := ⟨a5, k5, m5, s5, b5⟩
    clear a5 k5 m5 s5 b5 b3 b4
    (try simp only [Act.put])
    refine wp_region_to (fun v => Op2 w v kg ng cg g12 g13 g15 RK nonce M1 TQ) 8 (by kernel_rfl) ?_
    have hS0 := hY.drew
    refine wpTo_take (i := 0) (show _ = some _ by simp only [List.getElem?_toArray, List.getElem?_cons_zero]; exact rfl) (by kernel_rfl) (by kernel_rfl) (by kernel_rfl) (by kernel_rfl) (by exact fun _ _ _ h => h) (yieldsIf_load_mid (by rfl) 62 (.tmp 12) rfl g12 0 rfl (el TQ) _ (fun v h => (Op2.a h).whole) Try.underlying62 rfl (by kernel_rfl)) hS0 ?_
    (try simp only [Act.put]); (try simp only [List.setIfInBounds_toArray]); (repeat (first | simp only [List.set_cons_succ] | simp only [List.set_cons_zero]))
    refine wpTo_take (i := 1) (show _ = some _ by simp only [List.getElem?_toArray, List.getElem?_cons_succ, List.getElem?_cons_zero]; exact rfl) (by kernel_rfl) (by kernel_rfl) (by kernel_rfl) (by kernel_rfl) (by exact fun _ _ _ h => h) (yieldsIf_load_mid (by rfl) 55 (.tmp 13) rfl g13 0 rfl (bys RK) _ (fun v h => (Op2.k h).whole) Try.underlying55 rfl (by rw [bys_length, hRK]; kernel_rfl)) hS0 ?_
    (try simp only [Act.put]); (try simp only [List.setIfInBounds_toArray]); (repeat (first | simp only [List.set_cons_succ] | simp only [List.set_cons_zero]))
    refine wpTo_take (i := 2) (show _ = some _ by simp only [List.getElem?_toArray, List.getElem?_cons_succ, List.getElem?_cons_zero]; exact rfl) (by kernel_rfl) (by kernel_rfl) (by kernel_rfl) (by kernel_rfl) (by exact fun _ _ _ h => h) (yieldsIf_load_mid (by rfl) 37 (.tmp 15) rfl g15 0 rfl (bys M1) _ (fun v h => (Op2.m h).whole) Try.underlying37 rfl (by rw [bys_length, hM1]; kernel_rfl)) hS0 ?_
    (try simp only [Act.put]); (try simp only [List.setIfInBounds_toArray]); (repeat (first | simp only [List.set_cons_succ] | simp only [List.set_cons_zero]))
    refine wpTo_take (i := 3) (v := ?v3y) (show _ = some _ by simp only [List.getElem?_toArray, List.getElem?_cons_succ, List.getElem?_cons_zero]; exact rfl) (by kernel_rfl) (by kernel_rfl) (by kernel_rfl) (by kernel_rfl) (by exact fun _ _ _ h => h) (Or.inl ⟨by rfl, ?hy3y⟩) hS0 ?r3y
    case hy3y => (intro w hSw; (try dsimp only at hSw); go_simp; try with_reducible rfl)
    (try simp only [Act.put]); (try simp only [List.setIfInBounds_toArray]); (repeat (first | simp only [List.set_cons_succ] | simp only [List.set_cons_zero]))
    refine wpTo_take (i := 4) (v := ?v4y) (show _ = some _ by simp only [List.getElem?_toArray, List.getElem?_cons_succ, List.getElem?_cons_zero]; exact rfl) (by kernel_rfl) (by kernel_rfl) (by kernel_rfl) (by kernel_rfl) (by exact fun _ _ _ h => h) (Or.inl ⟨by rfl, ?hy4y⟩) hS0 ?r4y
    case hy4y => (intro w hSw; (try dsimp only at hSw); go_simp; try with_reducible rfl)
    (try simp only [Act.put]); (try simp only [List.setIfInBounds_toArray]); (repeat (first | simp only [List.set_cons_succ] | simp only [List.set_cons_zero]))
    refine wpTo_one (i := 5) (by kernel_rfl) (show _ = some _ by simp only [List.getElem?_toArray, List.getElem?_cons_succ, List.getElem?_cons_zero]; exact rfl) (fun K hK => ?_)
    go_simp
    go_at_call 25; refine (H25.out _ (hs.later hS0.b) (hx.later hS0.b)).mono ?_; rintro e v6 ⟨rfl, k6⟩
    (try simp only [])
    refine hK.out _ _ (Op2.call hS0 k6) (fun hS1 => ?_)
    clear hK K
    (try simp only [Act.put]); (try simp only [List.setIfInBounds_toArray]); (repeat (first | simp only [List.set_cons_succ] | simp only [List.set_cons_zero]))
    refine wpTo_one (i := 6) (by kernel_rfl) (show _ = some _ by simp only [List.getElem?_toArray, List.getElem?_cons_succ, List.getElem?_cons_zero]; exact rfl) (fun K hK => ?_)
    go_simp
    go_at_call 30; refine (H30.out _).mono ?_; rintro e v7 ⟨rfl, k7⟩
    (try simp only [])
    refine hK.out _ _ (Op2.call hS1 k7) (fun hS2 => ?_)
    clear hK K
    (try simp only [Act.put]); (try simp only [List.setIfInBounds_toArray]); (repeat (first | simp only [List.set_cons_succ] | simp only [List.set_cons_zero]))
    refine wpTo_take (i := 7) (v := ?v7y) (show _ = some _ by simp only [List.getElem?_toArray, List.getElem?_cons_succ, List.getElem?_cons_zero]; exact rfl) (by kernel_rfl) (by kernel_rfl) (by kernel_rfl) (by kernel_rfl) (by exact fun _ _ _ h => h) (Or.inl ⟨by rfl, ?hy7y⟩) hS2 ?r7y
    case hy7y => (intro w hSw; (try dsimp only at hSw); go_simp; try with_reducible rfl)
    (try simp only [Act.put]); (try simp only [List.setIfInBounds_toArray]); (repeat (first | simp only [List.set_cons_succ] | simp only [List.set_cons_zero]))
    refine wpTo_done (by kernel_rfl) ?_
    cases b with
    | true =>
      clear hS0 hS1 hY k6 k7
      go_wp2_with fail
      go_at_call 24; refine (H24.out kg ng cg _ (hx.later hS2.b) hS2.s (fun a ha hm => by subst ha; have := hx.lt hm; omega)).mono ?_; rintro e v9 ⟨rfl, t9, g9⟩
      go_wp2_with fail
      go_ret2
      refine ⟨?_, hS2.b.grown g9 hS2.b.size (fun k hk => by cases hk; exact hcw)⟩
      (try rw [if_pos rfl])
      exact ⟨_, rfl, hS2.b.size, t9⟩
    | false =>
      go_wp2_with fail
      go_ret2
      refine ⟨?_, hS2.b⟩
      (try rw [if_neg (by simp)])
      rfl
end Go.Proofs.Ytjhkicfndbceoaa
