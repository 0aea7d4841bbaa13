/- A key made ready. -/
import Derived.Test.YtjhkicfndbceoaaWord
namespace Go.Proofs.Ytjhkicfndbceoaa
open Go.RowKit

theorem zero55 (W : World) : (zeroValue 55).run Try.prog W = .ok (.agg (bys (List.replicate 240 0#8)).toArray) W := by kernel_rfl
theorem zeroed55 : ∃ Z : List B, Z.length = 240 ∧ ∀ W : World, (zeroValue 55).run Try.prog W = .ok (.agg (bys Z).toArray) W := ⟨List.replicate 240 0#8, List.length_replicate, zero55⟩

theorem Blk.splice {g : Nat} {t : TypeId} : ∀ (cs : List Value) {w : World} {cur : List Value} (_ : Blk w g t cur) (o : Nat), o + cs.length ≤ cur.length → Blk (w.setCells g o cs) g t (Go.Proofs.Ytjhkicfndbceoaa.splice cur o cs)
  | [], w, cur, h, o, _ => by
    have e : Go.Proofs.Ytjhkicfndbceoaa.splice cur o [] = cur := by simp [Go.Proofs.Ytjhkicfndbceoaa.splice]
    rw [e]
    exact h
  | v :: cs, w, cur, h, o, hl => by
    simp only [List.length_cons] at hl
    have h1 := Blk.splice cs (h.set o v) (o + 1) (by rw [List.length_set]; omega)
    have e : Go.Proofs.Ytjhkicfndbceoaa.splice (cur.set o v) (o + 1) cs = Go.Proofs.Ytjhkicfndbceoaa.splice cur o (v :: cs) := by
      unfold Go.Proofs.Ytjhkicfndbceoaa.splice
      have e1 : (cur.set o v).take (o + 1) = cur.take o ++ [v] := by
        rw [List.take_add_one, List.getElem?_set_self (by omega), List.take_set_of_le (Nat.le_refl _)]
        rfl
      have e2 : (cur.set o v).drop (o + 1 + cs.length) = cur.drop (o + (v :: cs).length) := by
        rw [List.drop_set_of_lt (by omega), List.length_cons, show o + 1 + cs.length = o + (cs.length + 1) by omega]
      rw [e1, e2]
      simp
    rw [e] at h1
    exact h1

/-- The word number i. -/
def wd (l : List B) (i : Nat) : List B := (l.drop (i * 4)).take 4
theorem wd_length (l : List B) (i : Nat) (h : i * 4 + 4 ≤ l.length) : (wd l i).length = 4 := by simp [wd]; omega
theorem wd_append (l m : List B) (i : Nat) (h : i * 4 + 4 ≤ l.length) : wd (l ++ m) i = wd l i := by
  unfold wd
  rw [List.drop_append_of_le_length (by omega), List.take_append_of_le_length (by simp; omega)]
/-- The key's first 8 + k words. -/
def expd (key : List B) : Nat → List B
  | 0 => key
  | k + 1 => expd key k ++ addL (wd (expd key k) k) (chg (k + 8) (wd (expd key k) (k + 7)))
theorem expd_length (key : List B) (h : key.length = 32) : ∀ k, (expd key k).length = 32 + 4 * k
  | 0 => h
  | k + 1 => by
    have ih := expd_length key h k
    have h8 := wd_length (expd key k) k (by omega)
    have h1 := wd_length (expd key k) (k + 7) (by omega)
    rw [expd, List.length_append, ih, addL_length _ _ 4 h8 (chg_length _ _ h1)]
    omega
/-- The sixty words. -/
def ready (key : List B) : List B := expd key 52
theorem ready_length (key : List B) (h : key.length = 32) : (ready key).length = 240 := expd_length key h 52

theorem splice_end (a b cs : List Value) (n : Nat) (h : a.length = n) : splice (a ++ b) n cs = a ++ (cs ++ b.drop cs.length) := by
  subst h
  unfold splice
  rw [List.take_left', List.drop_append, List.drop_eq_nil_of_le (by omega), List.nil_append, Nat.add_sub_cancel_left]
  rfl
/-- What lies there while a word is made. -/
structure ExS (w v : World) (Z cur : List B) : Prop where
  res : Blk v (w.heap.size + 1) 55 (bys Z)
  b : Blk v (w.heap.size + 1 + 1) 55 (bys cur)
  k : Below w.heap.size w v
theorem ExS.call {w v v' : World} {Z cur : List B} (h : ExS w v Z cur) (hb : Below v.heap.size v v') : ExS w v' Z cur := ⟨h.res.next hb, h.b.next hb, h.k.trans (hb.mono h.k.size)⟩

set_option maxHeartbeats 1000000 in
set_option maxRecDepth 100000 in
theorem expand_any (key : List B) (hl : key.length = 32) (w : World) :
    Calls Try.prog 22 #[.agg (bys key).toArray] w fun e w' => e = .returned (.agg (bys (ready key)).toArray) ∧ Below w.heap.size w w' := by
  obtain ⟨Z, hZ, hz⟩ := zeroed55
  have H0 : Hid (expd key 0 = key) := rfl
  have HE : Hid (∀ k, expd key (k + 1) = expd key k ++ addL (wd (expd key k) k) (chg (k + 8) (wd (expd key k) (k + 7)))) := fun k => rfl
  have HL : Hid (∀ k, k ≤ 52 → (expd key k).length = 32 + 4 * k) := fun k _ => expd_length key hl k
  unfold ready
  obtain ⟨ex, eex⟩ : ∃ ex, ex = expd key := ⟨_, rfl⟩
  rw [← eex] at H0 HE HL ⊢
  clear eex
  obtain ⟨L0, eL⟩ : ∃ L, L = key ++ Z.drop 32 := ⟨_, rfl⟩
  have hL0 : L0.length = 240 := by rw [eL, List.length_append, List.length_drop, hl, hZ]
  have HP : Hid (∀ c, c < 8 → (L0.drop (4 * c)).take 4 = (key.drop (4 * c)).take 4) := fun c hc => by rw [eL, List.drop_append_of_le_length (by omega), List.take_append_of_le_length (by simp; omega)]
  have HM : Hid (mid L0 Z 32 = ex 0 ++ Z.drop (32 + 4 * 0)) := by
    show mid L0 Z 32 = _
    rw [H0.out, eL]
    unfold mid
    rw [List.take_append_of_le_length (by omega), List.take_of_length_le (by omega)]
  clear eL
  have hB0 : Blk (((w.alloc (.cells (bys key).toArray 22)).alloc (.cells (bys Z).toArray 55)).alloc (.cells (bys Z).toArray 55)) w.heap.size 22 (bys key) := ((Blk.new w 22 (bys key)).alloc _).alloc _
  have hB1 : Blk (((w.alloc (.cells (bys key).toArray 22)).alloc (.cells (bys Z).toArray 55)).alloc (.cells (bys Z).toArray 55)) (w.heap.size + 1) 55 (bys Z) := by
    have h := (Blk.new (w.alloc (.cells (bys key).toArray 22)) 55 (bys Z)).alloc (.cells (bys Z).toArray 55)
    rwa [World.size_alloc] at h
  have hB2 : Blk (((w.alloc (.cells (bys key).toArray 22)).alloc (.cells (bys Z).toArray 55)).alloc (.cells (bys Z).toArray 55)) (w.heap.size + 1 + 1) 55 (bys Z) := by
    have h := Blk.new ((w.alloc (.cells (bys key).toArray 22)).alloc (.cells (bys Z).toArray 55)) 55 (bys Z)
    rwa [World.size_alloc, World.size_alloc] at h
  have hbB : Below w.heap.size w (((w.alloc (.cells (bys key).toArray 22)).alloc (.cells (bys Z).toArray 55)).alloc (.cells (bys Z).toArray 55)) :=
    (((Below.refl _ w).alloc (Nat.le_refl _) _).alloc (by simp) _).alloc (by simp; omega) _
  go_enter Try.func22, Try.ntmps22
  go_wp2_with fail
  go_loopw [6] (fun i wr => ∃ c : Nat, c ≤ 8 ∧ i = .int .i64 c ∧ Blk wr w.heap.size 22 (bys key) ∧ Blk wr (w.heap.size + 1) 55 (bys Z) ∧ Blk wr (w.heap.size + 1 + 1) 55 (bys (mid L0 Z (4 * c))) ∧ Below w.heap.size w wr) (fun i _ => 8 - (intOf i).toNat)
  case atStart => exact ⟨0, by omega, rfl, hB0, hB1, by rw [Nat.mul_zero, mid_zero]; exact hB2, hbB⟩
  case round =>
    clear hB0 hB1 hB2 hbB
    obtain ⟨c, hc, rfl, hA0, hA1, hA, hbr⟩ := hrel
    have hml := mid_length L0 Z 240 (4 * c) hL0 hZ
    by_cases hlt : c < 8
    · have hp4 : ((L0.drop (4 * c)).take 4).length = 4 := by simp; omega
      have hc0 : (0 : Int) ≤ c := by omega
      have hc1 : (c : Int) < 60 := by omega
      have a1 : IntKind.i64.wrap (4 * (c : Int)) = 4 * (c : Int) := by rw [IntKind.wrap_i64]; omega
      have s1 : ∀ W : World, _ := fun W => slice22 W w.heap.size (4 * c) (4 * (c : Int)) (by omega) (by omega)
      have s2 : ∀ W : World, _ := fun W => slice52 W (w.heap.size + 1 + 1) (c * 4)
      go_wp2_with fail
      refine wp_region_to (fun _ => True) 99 (by kernel_rfl) ?_
      refine wpTo_take (i := 0) (v := ?v0a) (show _ = some _ by simp only [List.getElem?_toArray, List.getElem?_cons_zero]; exact rfl) (by kernel_rfl) (by kernel_rfl) (by kernel_rfl) (by kernel_rfl) (by exact fun _ _ _ h => h) (Or.inl ⟨by rfl, ?hy0a⟩) trivial ?r0a
      case hy0a => (intro w hSw; (try dsimp only at hSw); go_simp; try with_reducible rfl)
      (try simp only [Act.put]); (try simp only [List.setIfInBounds_toArray]); (repeat (first | simp only [List.set_cons_succ] | simp only [List.set_cons_zero]))
      refine wpTo_take (i := 1) (v := ?v1a) (show _ = some _ by simp only [List.getElem?_toArray, List.getElem?_cons_succ, List.getElem?_cons_zero]; exact rfl) (by kernel_rfl) (by kernel_rfl) (by kernel_rfl) (by kernel_rfl) (by exact fun _ _ _ h => h) (Or.inl ⟨by rfl, ?hy1a⟩) trivial ?r1a
      case hy1a => (intro w hSw; (try dsimp only at hSw); go_simp; try with_reducible rfl)
      (try simp only [Act.put]); (try simp only [List.setIfInBounds_toArray]); (repeat (first | simp only [List.set_cons_succ] | simp only [List.set_cons_zero]))
      refine wpTo_take (i := 2) (v := ?v2a) (show _ = some _ by simp only [List.getElem?_toArray, List.getElem?_cons_succ, List.getElem?_cons_zero]; exact rfl) (by kernel_rfl) (by kernel_rfl) (by kernel_rfl) (by kernel_rfl) (by exact fun _ _ _ h => h) (Or.inl ⟨by rfl, ?hy2a⟩) trivial ?r2a
      case hy2a => (intro w hSw; (try dsimp only at hSw); go_simp; try with_reducible rfl)
      (try simp only [Act.put]); (try simp only [List.setIfInBounds_toArray]); (repeat (first | simp only [List.set_cons_succ] | simp only [List.set_cons_zero]))
      refine wpTo_take (i := 3) (v := ?v3a) (show _ = some _ by simp only [List.getElem?_toArray, List.getElem?_cons_succ, List.getElem?_cons_zero]; exact rfl) (by kernel_rfl) (by kernel_rfl) (by kernel_rfl) (by kernel_rfl) (by exact fun _ _ _ h => h) (Or.inl ⟨by rfl, ?hy3a⟩) trivial ?r3a
      case hy3a => (intro w hSw; (try dsimp only at hSw); go_simp; try with_reducible rfl)
      (try simp only [Act.put]); (try simp only [List.setIfInBounds_toArray]); (repeat (first | simp only [List.set_cons_succ] | simp only [List.set_cons_zero]))
      refine wpTo_take (i := 4) (v := ?v4a) (show _ = some _ by simp only [List.getElem?_toArray, List.getElem?_cons_succ, List.getElem?_cons_zero]; exact rfl) (by kernel_rfl) (by kernel_rfl) (by kernel_rfl) (by kernel_rfl) (by exact fun _ _ _ h => h) (Or.inl ⟨by rfl, ?hy4a⟩) trivial ?r4a
      case hy4a => (intro w hSw; (try dsimp only at hSw); go_simp; try with_reducible rfl)
      (try simp only [Act.put]); (try simp only [List.setIfInBounds_toArray]); (repeat (first | simp only [List.set_cons_succ] | simp only [List.set_cons_zero]))
      refine wpTo_take (i := 5) (v := ?v5a) (show _ = some _ by simp only [List.getElem?_toArray, List.getElem?_cons_succ, List.getElem?_cons_zero]; exact rfl) (by kernel_rfl) (by kernel_rfl) (by kernel_rfl) (by kernel_rfl) (by exact fun _ _ _ h => h) (Or.inl ⟨by rfl, ?hy5a⟩) trivial ?r5a
      case hy5a => (intro w hSw; (try dsimp only at hSw); go_simp; try with_reducible rfl)
      (try simp only [Act.put]); (try simp only [List.setIfInBounds_toArray]); (repeat (first | simp only [List.set_cons_succ] | simp only [List.set_cons_zero]))
      refine wpTo_take (i := 6) (v := ?v6a) (show _ = some _ by simp only [List.getElem?_toArray, List.getElem?_cons_succ, List.getElem?_cons_zero]; exact rfl) (by kernel_rfl) (by kernel_rfl) (by kernel_rfl) (by kernel_rfl) (by exact fun _ _ _ h => h) (Or.inl ⟨by rfl, ?hy6a⟩) trivial ?r6a
      case hy6a => (intro w hSw; (try dsimp only at hSw); go_simp; try with_reducible rfl)
      (try simp only [Act.put]); (try simp only [List.setIfInBounds_toArray]); (repeat (first | simp only [List.set_cons_succ] | simp only [List.set_cons_zero]))
      refine wpTo_one (i := 7) (by kernel_rfl) (show _ = some _ by simp only [List.getElem?_toArray, List.getElem?_cons_succ, List.getElem?_cons_zero]; exact rfl) (fun K hK => ?_)
      refine step_copy rfl (.tmp 12) (.tmp 15) rfl (w.heap.size + 1 + 1) (c * 4) 4 4 w.heap.size (4 * c) (32 - 4 * c) (32 - 4 * c) rfl rfl _ 55 hA.drew (bys ((L0.drop (4 * c)).take 4)) (by rw [bys_length, hp4]; show 4 = min (32 - 4 * c) 4; omega) ?hsrc (by rw [bys_length, hp4, bys_length, hml]; omega) (bys_one' _) ?_
      case hsrc => rw [HP.out c hlt, ← bys_take, ← bys_drop]; exact hA0.range _ _
      intro wG hoG hAG
      refine hK.out _ _ trivial (fun _ => wpTo_done (by kernel_rfl) ?_)
      clear hK K
      (try simp only [Act.put]); (try simp only [List.setIfInBounds_toArray]); (repeat (first | simp only [List.set_cons_succ] | simp only [List.set_cons_zero]))
      go_wp2
      have hst : Blk wG (w.heap.size + 1 + 1) 55 (bys (mid L0 Z (4 * (c + 1)))) := by
        have e := splice_mid L0 Z 240 (4 * c) 4 [] hL0 hZ (by omega)
        rw [List.append_nil, List.append_nil] at e
        rw [show c * 4 = 4 * c by omega, e] at hAG
        exact hAG
      refine ⟨⟨c + 1, by omega, by go_num, hA0.drew.on hoG (by omega), hA1.drew.on hoG (by omega), hst, hoG.below hbr.drew (by omega)⟩, by simp [intOf]; omega⟩
    · have hc8 : 4 * c = 32 := by omega
      have hcge : (8 : Int) ≤ (c : Int) := by omega
      rw [hc8, HM.out] at hA
      clear hc8
      clear hA0 hml
      obtain ⟨wS, ew⟩ : ∃ v, v = wr := ⟨_, rfl⟩
      subst ew
      go_wp2_with fail
      go_loopw [5] (fun i wr => ∃ N k : Nat, N = k + 8 ∧ k ≤ 52 ∧ i = .int .i64 (N : Int) ∧ Blk wr (w.heap.size + 1) 55 (bys Z) ∧ Blk wr (w.heap.size + 1 + 1) 55 (bys (ex k ++ Z.drop (32 + 4 * k))) ∧ Below w.heap.size w wr) (fun i _ => 60 - (intOf i).toNat)
      case atStart => exact ⟨8, 0, rfl, by omega, rfl, hA1, hA, hbr⟩
      case round =>
        clear hA1 hA hbr
        obtain ⟨N, k, hNk, hk, rfl, hA1, hA, hbr⟩ := hrel
        by_cases hlt : k < 52
        · have hN0 : (8 : Int) ≤ (N : Int) := by omega
          have hN1 : (N : Int) < 60 := by omega
          have hN8 : 8 ≤ N := by omega
          have hN60 : N < 60 := by omega
          obtain ⟨p, ep⟩ : ∃ p, p = N - 8 := ⟨_, rfl⟩
          obtain ⟨q, eq⟩ : ∃ q, q = N - 1 := ⟨_, rfl⟩
          have b1 : IntKind.i64.wrap ((N : Int) - 8) = (N : Int) - 8 := by rw [IntKind.wrap_i64]; omega
          have b2 : IntKind.i64.wrap ((N : Int) - 1) = (N : Int) - 1 := by rw [IntKind.wrap_i64]; omega
          have b3 : ((N : Int) - 8).toNat = p := by omega
          have b4 : ((N : Int) - 1).toNat = q := by omega
          have b5 : (0 : Int) ≤ (N : Int) - 8 := by omega
          have b6 : (N : Int) - 8 < 60 := by omega
          have b7 : (0 : Int) ≤ (N : Int) - 1 := by omega
          have b8 : (N : Int) - 1 < 60 := by omega
          have b9 : (1 : Int) ≤ (N : Int) := by omega
          have b10 : (N : Int) - 8 < 60 ∧ (N : Int) < 61 ∧ (N : Int) < 68 := by omega
          have hpk : p = k := by omega
          have hqk : q = k + 7 := by omega
          have hel := HL.out k (by omega)
          obtain ⟨x8, e8⟩ : ∃ x, x = wd (ex k) k := ⟨_, rfl⟩
          obtain ⟨x1, e1⟩ : ∃ x, x = wd (ex k) (k + 7) := ⟨_, rfl⟩
          have hx8 : x8.length = 4 := by rw [e8]; exact wd_length _ _ (by omega)
          have hx1 : x1.length = 4 := by rw [e1]; exact wd_length _ _ (by omega)
          have hnew : (addL x8 (chg N x1)).length = 4 := addL_length _ _ 4 hx8 (chg_length N x1 hx1)
          have hr8 : ∀ v, ExS w v Z (ex k ++ Z.drop (32 + 4 * k)) → v.rangeAt (w.heap.size + 1 + 1) (p * 4) (bys x8) := by
            intro v h
            have := h.b.range (p * 4) 4
            rw [bys_drop, bys_take, hpk] at this
            rw [hpk, e8, ← wd_append (ex k) (Z.drop (32 + 4 * k)) k (by omega)]
            exact this
          have hr1 : ∀ v, ExS w v Z (ex k ++ Z.drop (32 + 4 * k)) → v.rangeAt (w.heap.size + 1 + 1) (q * 4) (bys x1) := by
            intro v h
            have := h.b.range (q * 4) 4
            rw [bys_drop, bys_take, hqk] at this
            rw [hqk, e1, ← wd_append (ex k) (Z.drop (32 + 4 * k)) (k + 7) (by omega)]
            exact this
          have HN : Hid (ex (k + 1) = ex k ++ addL x8 (chg N x1)) := by rw [e8, e1, hNk]; exact HE.out k
          have HNk : Hid (N = k + 8) := hNk
          have HR8 : Hid _ := hr8
          have HR1 : Hid _ := hr1
          clear ep eq hpk hqk e8 e1 hNk hr8 hr1
          go_wp2_with fail
          refine wp_region_to (fun v => ExS w v Z (ex k ++ Z.drop (32 + 4 * k))) 16 (by kernel_rfl) ?_
          have hS0 : ExS w wr.drew Z (ex k ++ Z.drop (32 + 4 * k)) := ⟨hA1.drew, hA.drew, hbr.drew⟩
          refine wpTo_take (i := 0) (v := ?v0b) (show _ = some _ by simp only [List.getElem?_toArray, List.getElem?_cons_zero]; exact rfl) (by kernel_rfl) (by kernel_rfl) (by kernel_rfl) (by kernel_rfl) (by exact fun _ _ _ h => h) (Or.inl ⟨by rfl, ?hy0b⟩) hS0 ?r0b
          case hy0b => (intro w hSw; (try dsimp only at hSw); go_simp; try with_reducible rfl)
          (try simp only [Act.put]); (try simp only [List.setIfInBounds_toArray]); (repeat (first | simp only [List.set_cons_succ] | simp only [List.set_cons_zero]))
          refine wpTo_take (i := 1) (v := ?v1b) (show _ = some _ by simp only [List.getElem?_toArray, List.getElem?_cons_succ, List.getElem?_cons_zero]; exact rfl) (by kernel_rfl) (by kernel_rfl) (by kernel_rfl) (by kernel_rfl) (by exact fun _ _ _ h => h) (Or.inl ⟨by rfl, ?hy1b⟩) hS0 ?r1b
          case hy1b => (intro w hSw; (try dsimp only at hSw); go_simp; try with_reducible rfl)
          (try simp only [Act.put]); (try simp only [List.setIfInBounds_toArray]); (repeat (first | simp only [List.set_cons_succ] | simp only [List.set_cons_zero]))
          refine wpTo_take (i := 2) (v := ?v2b) (show _ = some _ by simp only [List.getElem?_toArray, List.getElem?_cons_succ, List.getElem?_cons_zero]; exact rfl) (by kernel_rfl) (by kernel_rfl) (by kernel_rfl) (by kernel_rfl) (by exact fun _ _ _ h => h) (Or.inl ⟨by rfl, ?hy2b⟩) hS0 ?r2b
          case hy2b => (intro w hSw; (try dsimp only at hSw); go_simp; try with_reducible rfl)
          (try simp only [Act.put]); (try simp only [List.setIfInBounds_toArray]); (repeat (first | simp only [List.set_cons_succ] | simp only [List.set_cons_zero]))
          refine wpTo_take (i := 3) (v := ?v3b) (show _ = some _ by simp only [List.getElem?_toArray, List.getElem?_cons_succ, List.getElem?_cons_zero]; exact rfl) (by kernel_rfl) (by kernel_rfl) (by kernel_rfl) (by kernel_rfl) (by exact fun _ _ _ h => h) (Or.inl ⟨by rfl, ?hy3b⟩) hS0 ?r3b
          case hy3b => (intro w hSw; (try dsimp only at hSw); go_simp; try with_reducible rfl)
          (try simp only [Act.put]); (try simp only [List.setIfInBounds_toArray]); (repeat (first | simp only [List.set_cons_succ] | simp only [List.set_cons_zero]))
          refine wpTo_take (i := 4) (v := ?v4b) (show _ = some _ by simp only [List.getElem?_toArray, List.getElem?_cons_succ, List.getElem?_cons_zero]; exact rfl) (by kernel_rfl) (by kernel_rfl) (by kernel_rfl) (by kernel_rfl) (by exact fun _ _ _ h => h) (Or.inl ⟨by rfl, ?hy4b⟩) hS0 ?r4b
          case hy4b => (intro w hSw; (try dsimp only at hSw); go_simp; try with_reducible rfl)
          (try simp only [Act.put]); (try simp only [List.setIfInBounds_toArray]); (repeat (first | simp only [List.set_cons_succ] | simp only [List.set_cons_zero]))
          refine wpTo_take (i := 5) (show _ = some _ by simp only [List.getElem?_toArray, List.getElem?_cons_succ, List.getElem?_cons_zero]; exact rfl) (by kernel_rfl) (by kernel_rfl) (by kernel_rfl) (by kernel_rfl) (by exact fun _ _ _ h => h) (yieldsIf_load_mid (by rfl) 52 (.tmp 26) rfl (w.heap.size + 1 + 1) (p * 4) rfl (bys x8) _ (fun v h => HR8.out v h) Try.underlying52 rfl (by rw [bys_length, hx8]; kernel_rfl)) hS0 ?_
          (try simp only [Act.put]); (try simp only [List.setIfInBounds_toArray]); (repeat (first | simp only [List.set_cons_succ] | simp only [List.set_cons_zero]))
          refine wpTo_take (i := 6) (v := ?v6b) (show _ = some _ by simp only [List.getElem?_toArray, List.getElem?_cons_succ, List.getElem?_cons_zero]; exact rfl) (by kernel_rfl) (by kernel_rfl) (by kernel_rfl) (by kernel_rfl) (by exact fun _ _ _ h => h) (Or.inl ⟨by rfl, ?hy6b⟩) hS0 ?r6b
          case hy6b => (intro w hSw; (try dsimp only at hSw); go_simp; try with_reducible rfl)
          (try simp only [Act.put]); (try simp only [List.setIfInBounds_toArray]); (repeat (first | simp only [List.set_cons_succ] | simp only [List.set_cons_zero]))
          refine wpTo_take (i := 7) (v := ?v7b) (show _ = some _ by simp only [List.getElem?_toArray, List.getElem?_cons_succ, List.getElem?_cons_zero]; exact rfl) (by kernel_rfl) (by kernel_rfl) (by kernel_rfl) (by kernel_rfl) (by exact fun _ _ _ h => h) (Or.inl ⟨by rfl, ?hy7b⟩) hS0 ?r7b
          case hy7b => (intro w hSw; (try dsimp only at hSw); go_simp; try with_reducible rfl)
          (try simp only [Act.put]); (try simp only [List.setIfInBounds_toArray]); (repeat (first | simp only [List.set_cons_succ] | simp only [List.set_cons_zero]))
          refine wpTo_take (i := 8) (v := ?v8b) (show _ = some _ by simp only [List.getElem?_toArray, List.getElem?_cons_succ, List.getElem?_cons_zero]; exact rfl) (by kernel_rfl) (by kernel_rfl) (by kernel_rfl) (by kernel_rfl) (by exact fun _ _ _ h => h) (Or.inl ⟨by rfl, ?hy8b⟩) hS0 ?r8b
          case hy8b => (intro w hSw; (try dsimp only at hSw); go_simp; try with_reducible rfl)
          (try simp only [Act.put]); (try simp only [List.setIfInBounds_toArray]); (repeat (first | simp only [List.set_cons_succ] | simp only [List.set_cons_zero]))
          refine wpTo_take (i := 9) (v := ?v9b) (show _ = some _ by simp only [List.getElem?_toArray, List.getElem?_cons_succ, List.getElem?_cons_zero]; exact rfl) (by kernel_rfl) (by kernel_rfl) (by kernel_rfl) (by kernel_rfl) (by exact fun _ _ _ h => h) (Or.inl ⟨by rfl, ?hy9b⟩) hS0 ?r9b
          case hy9b => (intro w hSw; (try dsimp only at hSw); go_simp; try with_reducible rfl)
          (try simp only [Act.put]); (try simp only [List.setIfInBounds_toArray]); (repeat (first | simp only [List.set_cons_succ] | simp only [List.set_cons_zero]))
          refine wpTo_take (i := 10) (show _ = some _ by simp only [List.getElem?_toArray, List.getElem?_cons_succ, List.getElem?_cons_zero]; exact rfl) (by kernel_rfl) (by kernel_rfl) (by kernel_rfl) (by kernel_rfl) (by exact fun _ _ _ h => h) (yieldsIf_load_mid (by rfl) 52 (.tmp 31) rfl (w.heap.size + 1 + 1) (q * 4) rfl (bys x1) _ (fun v h => HR1.out v h) Try.underlying52 rfl (by rw [bys_length, hx1]; kernel_rfl)) hS0 ?_
          (try simp only [Act.put]); (try simp only [List.setIfInBounds_toArray]); (repeat (first | simp only [List.set_cons_succ] | simp only [List.set_cons_zero]))
          refine wpTo_take (i := 11) (v := ?v11b) (show _ = some _ by simp only [List.getElem?_toArray, List.getElem?_cons_succ, List.getElem?_cons_zero]; exact rfl) (by kernel_rfl) (by kernel_rfl) (by kernel_rfl) (by kernel_rfl) (by exact fun _ _ _ h => h) (Or.inl ⟨by rfl, ?hy11b⟩) hS0 ?r11b
          case hy11b => (intro w hSw; (try dsimp only at hSw); go_simp; try with_reducible rfl)
          (try simp only [Act.put]); (try simp only [List.setIfInBounds_toArray]); (repeat (first | simp only [List.set_cons_succ] | simp only [List.set_cons_zero]))
          refine wpTo_take (i := 14) (v := ?v14b) (show _ = some _ by simp only [List.getElem?_toArray, List.getElem?_cons_succ, List.getElem?_cons_zero]; exact rfl) (by kernel_rfl) (by kernel_rfl) (by kernel_rfl) (by kernel_rfl) (by exact fun _ _ _ h => h) (Or.inl ⟨by rfl, ?hy14b⟩) hS0 ?r14b
          case hy14b => (intro w hSw; (try dsimp only at hSw); go_simp; try with_reducible rfl)
          (try simp only [Act.put]); (try simp only [List.setIfInBounds_toArray]); (repeat (first | simp only [List.set_cons_succ] | simp only [List.set_cons_zero]))
          refine wpTo_one (i := 12) (by kernel_rfl) (show _ = some _ by simp only [List.getElem?_toArray, List.getElem?_cons_succ, List.getElem?_cons_zero]; exact rfl) (fun K hK => ?_)
          go_simp
          go_at_call 36; refine (changed_any N x1 hx1 hN8 hN60 _).mono ?_; rintro e v1 ⟨rfl, h1⟩
          (try simp only [])
          refine hK.out _ _ (ExS.call hS0 h1) (fun hS1 => ?_)
          clear hK K
          (try simp only [Act.put]); (try simp only [List.setIfInBounds_toArray]); (repeat (first | simp only [List.set_cons_succ] | simp only [List.set_cons_zero]))
          refine wpTo_one (i := 13) (by kernel_rfl) (show _ = some _ by simp only [List.getElem?_toArray, List.getElem?_cons_succ, List.getElem?_cons_zero]; exact rfl) (fun K hK => ?_)
          go_simp
          go_at_call 35; refine (plus_any x8 (chg N x1) hx8 (chg_length N x1 hx1) _).mono ?_; rintro e v2 ⟨rfl, h2⟩
          (try simp only [])
          refine hK.out _ _ (ExS.call hS1 h2) (fun hS2 => ?_)
          clear hK K
          (try simp only [Act.put]); (try simp only [List.setIfInBounds_toArray]); (repeat (first | simp only [List.set_cons_succ] | simp only [List.set_cons_zero]))
          refine wpTo_take (i := 15) (v := ?v15b) (show _ = some _ by simp only [List.getElem?_toArray, List.getElem?_cons_succ, List.getElem?_cons_zero]; exact rfl) (by kernel_rfl) (by kernel_rfl) (by kernel_rfl) (by kernel_rfl) (by exact fun _ _ _ h => h) (Or.inl ⟨by rfl, ?hy15b⟩) hS2 ?r15b
          case hy15b => (intro w hSw; (try dsimp only at hSw); go_simp; try with_reducible rfl)
          (try simp only [Act.put]); (try simp only [List.setIfInBounds_toArray]); (repeat (first | simp only [List.set_cons_succ] | simp only [List.set_cons_zero]))
          have hsz : (bys (addL x8 (chg N x1))).toArray.size = 4 := by rw [List.size_toArray, bys_length, hnew]
          have hth : v2.there (w.heap.size + 1 + 1) (N * 4) (bys (addL x8 (chg N x1))).toArray.size := by rw [hsz]; exact hS2.b.there _ _ (by rw [bys_length, List.length_append, List.length_drop, HL.out k (by omega), hZ]; omega)
          refine wpTo_last (by kernel_rfl) (show _ = some _ by simp only [List.getElem?_toArray, List.getElem?_cons_succ, List.getElem?_cons_zero]; exact rfl) (by kernel_rfl) (fun K hK => ?_)
          rw [if_pos (by rfl)]
          refine wp_store_mid 52 (.tmp 37) (.tmp 35) rfl (w.heap.size + 1 + 1) (N * 4) (bys (addL x8 (chg N x1))).toArray rfl rfl hth (by rw [List.size_toArray, bys_length, hnew]; kernel_rfl) (bys_one _) ?_
          refine hK.out _ _ ?_
          clear hK K
          (try simp only [Act.put]); (try simp only [List.setIfInBounds_toArray]); (repeat (first | simp only [List.set_cons_succ] | simp only [List.set_cons_zero]))
          have hoF := On.setCells v2 (w.heap.size + 1 + 1) (N * 4) (bys (addL x8 (chg N x1)))
          have hAF := hS2.b.splice (bys (addL x8 (chg N x1))) (N * 4) (by rw [bys_length, hnew, bys_length, List.length_append, List.length_drop, hel, hZ]; have := HNk.out; omega)
          have hst : Blk (v2.setCells (w.heap.size + 1 + 1) (N * 4) (bys (addL x8 (chg N x1)))) (w.heap.size + 1 + 1) 55 (bys (ex (k + 1) ++ Z.drop (32 + 4 * (k + 1)))) := by
            rw [HN.out, show N * 4 = 32 + 4 * k by have := HNk.out; omega, List.append_assoc]
            rw [show N * 4 = 32 + 4 * k by have := HNk.out; omega, bys_append, splice_end _ _ _ (32 + 4 * k) (by rw [bys_length, hel]), bys_drop, bys_length, hnew, List.drop_drop, ← bys_append, ← bys_append] at hAF
            exact hAF
          go_wp2
          refine ⟨⟨N + 1, k + 1, by have := HNk.out; omega, by omega, by go_num, hS2.res.on hoF (by omega), hst, hoF.below hS2.k (by omega)⟩, by simp [intOf]; omega⟩
        · have hk52 : k = 52 := by omega
          subst hk52
          have hN60 : N = 60 := by omega
          subst hN60
          have h240 := HL.out 52 (by omega)
          have hA' : Blk wr (w.heap.size + 1 + 1) 55 (bys (ex 52)) := by
            rw [List.drop_eq_nil_of_le (by omega), List.append_nil] at hA
            exact hA
          go_wp2_with (first
            | (refine law_load rfl 55 _ rfl _ rfl 55 _ hA' _ Try.underlying55 rfl (by rw [bys_length, h240]; kernel_rfl) ?_)
            | (refine law_store rfl 55 _ _ rfl _ (bys (ex 52)) rfl rfl 55 _ hA1 (by rw [bys_length, bys_length, h240, hZ]) (by rw [bys_length, h240]; kernel_rfl) (bys_one _) ?_; intro wF hoF hAF))
          refine bodyPost_ret (v := .agg (bys (ex 52)).toArray) (results_cell_row rfl _ _ (w.heap.size + 1) 55 _ _ _ rfl hAF Try.underlying55 rfl (by rw [List.size_toArray, bys_length, h240]; kernel_rfl)) rfl ⟨rfl, hoF.below hbr (by omega)⟩
end Go.Proofs.Ytjhkicfndbceoaa
