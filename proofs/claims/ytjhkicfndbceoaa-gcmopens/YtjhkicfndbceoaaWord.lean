/- What is added to the word eight places ahead. -/
import Derived.Test.YtjhkicfndbceoaaBlock
namespace Go.Proofs.Ytjhkicfndbceoaa
open Go.RowKit

theorem zero52 (W : World) : (zeroValue 52).run Try.prog W = .ok (.agg (bys (List.replicate 4 0#8)).toArray) W := by kernel_rfl
theorem zeroed52 : ∃ Z : List B, Z.length = 4 ∧ ∀ W : World, (zeroValue 52).run Try.prog W = .ok (.agg (bys Z).toArray) W := ⟨List.replicate 4 0#8, by simp, zero52⟩
theorem built52 (a b c d : Int) : Try.prog.built 52 [(0, .int .u8 a), (1, .int .u8 b), (2, .int .u8 c), (3, .int .u8 d)] = some #[.int .u8 a, .int .u8 b, .int .u8 c, .int .u8 d] := by kernel_rfl
theorem law_word {w : World} {ops : Array Oper} {rest : List Oper} {o : Oper} {a : Act} {Q : Exit → Act → World → Prop} (hgd : o.guard = none) (p q r s : Operand) (ho : o.op = .build 52 #[(0, p), (1, q), (2, r), (3, s)]) (x y z u : B)
    (hp : a.eval p = .int .u8 (v8 x)) (hq : a.eval q = .int .u8 (v8 y)) (hr : a.eval r = .int .u8 (v8 z)) (hs : a.eval s = .int .u8 (v8 u))
    (h : wpList Try.prog ops Q rest (a.put o.dst (.agg (bys [x, y, z, u]).toArray)) w) : wpList Try.prog ops Q (o :: rest) a w := by
  have hb : Try.prog.built 52 ((#[(0, p), (1, q), (2, r), (3, s)] : Array (Nat × Operand)).map fun (i, x) => (i, a.eval x)).toList = some (bys [x, y, z, u]).toArray := by
    have := built52 (v8 x) (v8 y) (v8 z) (v8 u)
    rw [← hp, ← hq, ← hr, ← hs] at this
    rw [show (bys [x, y, z, u]).toArray = #[a.eval p, a.eval q, a.eval r, a.eval s] by rw [hp, hq, hr, hs]; rfl, ← this]
    simp
  exact wpList_build hgd 52 _ ho (by rw [hb]; rfl) (by rw [hb]; exact h)
/-- What is added to a word's first byte. -/
def rc (n : Nat) : B := powI 2#8 ((n : Int) / 8 - 1)
/-- What is added to the word eight places ahead of number n, where x is the one just ahead of it. -/
def chg (n : Nat) (x : List B) : List B :=
  if n % 8 = 0 then [sb (x.getD 1 0#8) ^^^ rc n, sb (x.getD 2 0#8), sb (x.getD 3 0#8), sb (x.getD 0 0#8)] else if n % 8 = 4 then x.map sb else x
theorem chg_length (n : Nat) (x : List B) (h : x.length = 4) : (chg n x).length = 4 := by
  unfold chg
  split
  · rfl
  · split
    · rw [List.length_map, h]
    · exact h

set_option maxHeartbeats 1000000 in
set_option maxRecDepth 100000 in
theorem changed_other (n : Nat) (x : List B) (hx : x.length = 4) (h0 : n % 8 ≠ 0) (h4 : n % 8 ≠ 4) (hn : n < 60) (w : World) :
    Calls Try.prog 36 #[.agg (bys x).toArray, .int .i64 (n : Int)] w fun e w' => e = .returned (.agg (bys x).toArray) ∧ Below w.heap.size w w' := by
  obtain ⟨Z, hZ, hz⟩ := zeroed52
  have hB0 : Blk ((w.alloc (.cells (bys x).toArray 52)).alloc (.cells (bys Z).toArray 52)) w.heap.size 52 (bys x) := (Blk.new w 52 (bys x)).alloc _
  have hB1 : Blk ((w.alloc (.cells (bys x).toArray 52)).alloc (.cells (bys Z).toArray 52)) (w.heap.size + 1) 52 (bys Z) := by
    have h := Blk.new (w.alloc (.cells (bys x).toArray 52)) 52 (bys Z)
    rwa [World.size_alloc] at h
  have hbB : Below w.heap.size w ((w.alloc (.cells (bys x).toArray 52)).alloc (.cells (bys Z).toArray 52)) := ((Below.refl _ w).alloc (Nat.le_refl _) _).alloc (by simp) _
  have hn0 : (0 : Int) ≤ (n : Int) := by omega
  have hn1 : (n : Int) < 60 := by omega
  have k0 : (((n : Int) % 8) == 0) = false := by simp; omega
  have k4 : (((n : Int) % 8) == 4) = false := by simp; omega
  go_enter Try.func36, Try.ntmps36
  go_wp2_with (first
    | (refine law_load rfl 52 _ rfl _ rfl 52 _ hB0 _ Try.underlying52 rfl (by rw [bys_length, hx]; kernel_rfl) ?_)
    | (refine law_store rfl 52 (.tmp 4) _ rfl _ (bys x) rfl rfl 52 _ hB1 (by rw [bys_length, bys_length, hx, hZ]) (by rw [bys_length, hx]; kernel_rfl) (bys_one _) ?_; intro wF hoF hAF))
  refine bodyPost_ret (v := .agg (bys x).toArray) (results_cell_row rfl _ _ (w.heap.size + 1) 52 _ _ _ rfl hAF Try.underlying52 rfl (by rw [List.size_toArray, bys_length, hx]; kernel_rfl)) rfl ⟨rfl, hoF.below hbB (by omega)⟩

set_option maxHeartbeats 1000000 in
set_option maxRecDepth 100000 in
theorem changed_four (n : Nat) (x : List B) (hx : x.length = 4) (h4 : n % 8 = 4) (hn : n < 60) (w : World) :
    Calls Try.prog 36 #[.agg (bys x).toArray, .int .i64 (n : Int)] w fun e w' => e = .returned (.agg (bys (x.map sb)).toArray) ∧ Below w.heap.size w w' := by
  obtain ⟨Z, hZ, hz⟩ := zeroed52
  have hB0 : Blk ((w.alloc (.cells (bys x).toArray 52)).alloc (.cells (bys Z).toArray 52)) w.heap.size 52 (bys x) := (Blk.new w 52 (bys x)).alloc _
  have hB1 : Blk ((w.alloc (.cells (bys x).toArray 52)).alloc (.cells (bys Z).toArray 52)) (w.heap.size + 1) 52 (bys Z) := by
    have h := Blk.new (w.alloc (.cells (bys x).toArray 52)) 52 (bys Z)
    rwa [World.size_alloc] at h
  have hbB : Below w.heap.size w ((w.alloc (.cells (bys x).toArray 52)).alloc (.cells (bys Z).toArray 52)) := ((Below.refl _ w).alloc (Nat.le_refl _) _).alloc (by simp) _
  have hn0 : (0 : Int) ≤ (n : Int) := by omega
  have hn1 : (n : Int) < 60 := by omega
  have k0 : (((n : Int) % 8) == 0) = false := by simp; omega
  have k4 : (n : Int) % 8 = 4 := by omega
  have hc := wsubbed_any x hx
  obtain ⟨y, ey⟩ : ∃ y, y = x.map sb := ⟨_, rfl⟩
  have hy : y.length = 4 := by rw [ey, List.length_map, hx]
  rw [← ey] at hc ⊢
  clear ey h4
  go_enter Try.func36, Try.ntmps36
  go_wp2_with (first
    | (refine law_load rfl 52 _ rfl _ rfl 52 _ hB0 _ Try.underlying52 rfl (by rw [bys_length, hx]; kernel_rfl) ?_)
    | (go_at_call 47; refine (hc _).mono ?_; rintro e w1 ⟨rfl, h1⟩)
    | (refine law_store rfl 52 (.tmp 2) _ rfl _ (bys y) rfl rfl 52 _ (hB0.next h1) (by rw [bys_length, bys_length, hx, hy]) (by rw [bys_length, hy]; kernel_rfl) (bys_one _) ?_; intro w2 ho2 hA2)
    | (refine law_load rfl 52 _ rfl _ rfl 52 _ hA2 _ Try.underlying52 rfl (by rw [bys_length, hy]; kernel_rfl) ?_)
    | (refine law_store rfl 52 (.tmp 4) _ rfl _ (bys y) rfl rfl 52 _ ((hB1.next h1).on ho2 (by omega)) (by rw [bys_length, bys_length, hy, hZ]) (by rw [bys_length, hy]; kernel_rfl) (bys_one _) ?_; intro wF hoF hAF))
  refine bodyPost_ret (v := .agg (bys y).toArray) (results_cell_row rfl _ _ (w.heap.size + 1) 52 _ _ _ rfl hAF Try.underlying52 rfl (by rw [List.size_toArray, bys_length, hy]; kernel_rfl)) rfl ⟨rfl, hoF.below (ho2.below (hbB.trans (h1.mono hbB.size)) (Nat.le_refl _)) (by omega)⟩

set_option maxHeartbeats 1000000 in
set_option maxRecDepth 100000 in
theorem changed_zero (n : Nat) (x : List B) (hx : x.length = 4) (h0 : n % 8 = 0) (h8 : 8 ≤ n) (hn : n < 60) (w : World) :
    Calls Try.prog 36 #[.agg (bys x).toArray, .int .i64 (n : Int)] w fun e w' => e = .returned (.agg (bys [sb (x.getD 1 0#8) ^^^ rc n, sb (x.getD 2 0#8), sb (x.getD 3 0#8), sb (x.getD 0 0#8)]).toArray) ∧ Below w.heap.size w w' := by
  obtain ⟨Z, hZ, hz⟩ := zeroed52
  have hB0 : Blk ((w.alloc (.cells (bys x).toArray 52)).alloc (.cells (bys Z).toArray 52)) w.heap.size 52 (bys x) := (Blk.new w 52 (bys x)).alloc _
  have hB1 : Blk ((w.alloc (.cells (bys x).toArray 52)).alloc (.cells (bys Z).toArray 52)) (w.heap.size + 1) 52 (bys Z) := by
    have h := Blk.new (w.alloc (.cells (bys x).toArray 52)) 52 (bys Z)
    rwa [World.size_alloc] at h
  have hbB : Below w.heap.size w ((w.alloc (.cells (bys x).toArray 52)).alloc (.cells (bys Z).toArray 52)) := ((Below.refl _ w).alloc (Nat.le_refl _) _).alloc (by simp) _
  have hn0 : (0 : Int) ≤ (n : Int) := by omega
  have hn1 : (n : Int) < 60 := by omega
  have k0 : (n : Int) % 8 = 0 := by omega
  have c0 := hB0.byte 0 (by omega)
  have c1 := hB0.byte 1 (by omega)
  have c2 := hB0.byte 2 (by omega)
  have c3 := hB0.byte 3 (by omega)
  obtain ⟨x0, e0⟩ : ∃ z, z = x.getD 0 0#8 := ⟨_, rfl⟩
  obtain ⟨x1, e1⟩ : ∃ z, z = x.getD 1 0#8 := ⟨_, rfl⟩
  obtain ⟨x2, e2⟩ : ∃ z, z = x.getD 2 0#8 := ⟨_, rfl⟩
  obtain ⟨x3, e3⟩ : ∃ z, z = x.getD 3 0#8 := ⟨_, rfl⟩
  rw [← e0] at c0 ⊢
  rw [← e1] at c1 ⊢
  rw [← e2] at c2 ⊢
  rw [← e3] at c3 ⊢
  clear e0 e1 e2 e3
  have hc : ∀ W : World, Calls Try.prog 47 #[.agg (bys [x1, x2, x3, x0]).toArray] W fun e w' => e = .returned (.agg (bys ([x1, x2, x3, x0].map sb)).toArray) ∧ Below W.heap.size W w' := fun W => wsubbed_any [x1, x2, x3, x0] rfl W
  obtain ⟨y0, f0⟩ : ∃ y, y = sb x1 := ⟨_, rfl⟩
  obtain ⟨y, ey⟩ : ∃ y, y = [x1, x2, x3, x0].map sb := ⟨_, rfl⟩
  have hy : y.length = 4 := by rw [ey]; rfl
  have hy0 : y.getD 0 0#8 = y0 := by rw [ey, f0]; rfl
  have HY : Hid (∀ z, y.set 0 z = [z, sb x2, sb x3, sb x0]) := fun z => by rw [ey]; rfl
  rw [← ey] at hc
  rw [← f0]
  have hrc : rc n = powI 2#8 ((n : Int) / 8 - 1) := rfl
  obtain ⟨r, er⟩ : ∃ r, r = rc n := ⟨_, rfl⟩
  rw [← er] at hrc ⊢
  have HR : Hid (r = powI 2#8 ((n : Int) / 8 - 1)) := hrc
  have hq0 : (1 : Int) ≤ (n : Int) / 8 := by omega
  have hq1 : (n : Int) / 8 < 8 := by omega
  have a1 : IntKind.i64.wrap ((n : Int) / 8) = (n : Int) / 8 := by rw [IntKind.wrap_i64]; omega
  have a2 : IntKind.i64.wrap ((n : Int) / 8 - 1) = (n : Int) / 8 - 1 := by rw [IntKind.wrap_i64]; omega
  clear ey f0 hrc er h0
  go_enter Try.func36, Try.ntmps36
  go_wp2_with (first
    | (refine law_word rfl _ _ _ _ rfl x1 x2 x3 x0 rfl rfl rfl rfl ?_)
    | (go_at_call 47; refine (hc _).mono ?_; rintro e w1 ⟨rfl, h1⟩)
    | (refine law_store rfl 52 (.tmp 2) _ rfl _ (bys y) rfl rfl 52 _ (hB0.next h1) (by rw [bys_length, bys_length, hx, hy]) (by rw [bys_length, hy]; kernel_rfl) (bys_one _) ?_; intro w2 ho2 hA2))
  have hZ2 := (hB1.next h1).on ho2 (by omega)
  have hb2 := ho2.below (hbB.trans (h1.mono hbB.size)) (Nat.le_refl _)
  have hc0 := hA2.byte 0 (by omega)
  rw [hy0] at hc0
  clear hB0 hB1 hbB h1 ho2 hc c0 c1 c2 c3
  (try simp only [Act.put])
  refine wp_region_to (fun v => v.cell? ⟨w.heap.size, 0, none⟩ = some (.int .u8 (v8 y0)) ∧ Blk v w.heap.size 52 (bys y) ∧ Blk v (w.heap.size + 1) 52 (bys Z) ∧ Below w.heap.size w v) 8 (by kernel_rfl) ?_
  have hS0 : w2.drew.cell? ⟨w.heap.size, 0, none⟩ = some (.int .u8 (v8 y0)) ∧ Blk w2.drew w.heap.size 52 (bys y) ∧ Blk w2.drew (w.heap.size + 1) 52 (bys Z) ∧ Below w.heap.size w w2.drew := ⟨hc0, hA2, hZ2, hb2.drew⟩
  refine wpTo_take (i := 0) (v := ?v0) (show _ = some _ by simp only [List.getElem?_toArray, List.getElem?_cons_zero]; exact rfl) (by kernel_rfl) (by kernel_rfl) (by kernel_rfl) (by kernel_rfl) (by exact fun _ _ _ h => h) (Or.inl ⟨by rfl, ?hy0⟩) hS0 ?r0
  case hy0 => (intro w hSw; (try dsimp only at hSw); go_simp; try with_reducible rfl)
  (try simp only [Act.put]); (try simp only [List.setIfInBounds_toArray]); (repeat (first | simp only [List.set_cons_succ] | simp only [List.set_cons_zero]))
  refine wpTo_take (i := 1) (v := ?v1) (show _ = some _ by simp only [List.getElem?_toArray, List.getElem?_cons_succ, List.getElem?_cons_zero]; exact rfl) (by kernel_rfl) (by kernel_rfl) (by kernel_rfl) (by kernel_rfl) (by exact fun _ _ _ h => h) (Or.inl ⟨by rfl, ?hy1⟩) hS0 ?r1
  case hy1 => (intro w hSw; (try dsimp only at hSw); go_simp; try with_reducible rfl)
  (try simp only [Act.put]); (try simp only [List.setIfInBounds_toArray]); (repeat (first | simp only [List.set_cons_succ] | simp only [List.set_cons_zero]))
  refine wpTo_take (i := 2) (v := ?v2) (show _ = some _ by simp only [List.getElem?_toArray, List.getElem?_cons_succ, List.getElem?_cons_zero]; exact rfl) (by kernel_rfl) (by kernel_rfl) (by kernel_rfl) (by kernel_rfl) (by exact fun _ _ _ h => h) (Or.inl ⟨by rfl, ?hy2⟩) hS0 ?r2
  case hy2 => (intro w hSw; (try dsimp only at hSw); go_simp; try with_reducible rfl)
  (try simp only [Act.put]); (try simp only [List.setIfInBounds_toArray]); (repeat (first | simp only [List.set_cons_succ] | simp only [List.set_cons_zero]))
  refine wpTo_take (i := 3) (v := ?v3) (show _ = some _ by simp only [List.getElem?_toArray, List.getElem?_cons_succ, List.getElem?_cons_zero]; exact rfl) (by kernel_rfl) (by kernel_rfl) (by kernel_rfl) (by kernel_rfl) (by exact fun _ _ _ h => h) (Or.inl ⟨by rfl, ?hy3⟩) hS0 ?r3
  case hy3 => (intro w hSw; (try dsimp only at hSw); go_simp; try with_reducible rfl)
  (try simp only [Act.put]); (try simp only [List.setIfInBounds_toArray]); (repeat (first | simp only [List.set_cons_succ] | simp only [List.set_cons_zero]))
  refine wpTo_take (i := 4) (v := ?v4) (show _ = some _ by simp only [List.getElem?_toArray, List.getElem?_cons_succ, List.getElem?_cons_zero]; exact rfl) (by kernel_rfl) (by kernel_rfl) (by kernel_rfl) (by kernel_rfl) (by exact fun _ _ _ h => h) (Or.inl ⟨by rfl, ?hy4⟩) hS0 ?r4
  case hy4 => (intro w hSw; (try dsimp only at hSw); go_simp; try with_reducible rfl)
  (try simp only [Act.put]); (try simp only [List.setIfInBounds_toArray]); (repeat (first | simp only [List.set_cons_succ] | simp only [List.set_cons_zero]))
  refine wpTo_one (i := 5) (by kernel_rfl) (show _ = some _ by simp only [List.getElem?_toArray, List.getElem?_cons_succ, List.getElem?_cons_zero]; exact rfl) (fun K hK => ?_)
  go_simp
  go_at_call 48; refine (pow_any 2#8 _ _ _ v8_two.symm).mono ?_; rintro e v1 ⟨rfl, h1⟩
  (try simp only [])
  refine hK.out _ _ (⟨cell_later h1 hS0.1, hS0.2.1.next h1, hS0.2.2.1.next h1, hS0.2.2.2.trans (h1.mono hS0.2.2.2.size)⟩) (fun hS1 => ?_)
  clear hK K
  (try simp only [Act.put]); (try simp only [List.setIfInBounds_toArray]); (repeat (first | simp only [List.set_cons_succ] | simp only [List.set_cons_zero]))
  refine wpTo_one (i := 6) (by kernel_rfl) (show _ = some _ by simp only [List.getElem?_toArray, List.getElem?_cons_succ, List.getElem?_cons_zero]; exact rfl) (fun K hK => ?_)
  go_simp
  go_at_call 46; refine (add_any y0 _ _ _ _ rfl rfl).mono ?_; rintro e v2 ⟨rfl, rfl⟩
  (try simp only [])
  refine hK.out _ _ (hS1) (fun hS2 => ?_)
  clear hK K
  (try simp only [Act.put]); (try simp only [List.setIfInBounds_toArray]); (repeat (first | simp only [List.set_cons_succ] | simp only [List.set_cons_zero]))
  refine wpTo_take (i := 7) (v := ?v7) (show _ = some _ by simp only [List.getElem?_toArray, List.getElem?_cons_succ, List.getElem?_cons_zero]; exact rfl) (by kernel_rfl) (by kernel_rfl) (by kernel_rfl) (by kernel_rfl) (by exact fun _ _ _ h => h) (Or.inl ⟨by rfl, ?hy7⟩) hS2 ?r7
  case hy7 => (intro w hSw; (try dsimp only at hSw); go_simp; try with_reducible rfl)
  (try simp only [Act.put]); (try simp only [List.setIfInBounds_toArray]); (repeat (first | simp only [List.set_cons_succ] | simp only [List.set_cons_zero]))
  have hc1 := hS2.1
  have hf1 := hS2.2.1.fz 0
  refine wpTo_last (by kernel_rfl) (show _ = some _ by simp only [List.getElem?_toArray, List.getElem?_cons_succ, List.getElem?_cons_zero]; exact rfl) (by kernel_rfl) (fun K hK => ?_)
  go_simp
  refine hK.out _ _ ?_
  clear hK K
  (try simp only [Act.put]); (try simp only [List.setIfInBounds_toArray]); (repeat (first | simp only [List.set_cons_succ] | simp only [List.set_cons_zero]))
  have hA3 := hS2.2.1.put 0 (y0 ^^^ r)
  rw [HY.out] at hA3
  have hZ3 := hS2.2.2.1.beside (a := ⟨w.heap.size, 0, none⟩) (.int .u8 (v8 (y0 ^^^ r))) (by simp)
  have hb3 := hS2.2.2.2.setCell (p := ⟨w.heap.size, 0, none⟩) (Nat.le_refl _) (.int .u8 (v8 (y0 ^^^ r)))
  rw [← HR.out]
  obtain ⟨v3, ev⟩ : ∃ v, v = v1.setCell ⟨w.heap.size, 0, none⟩ (.int .u8 (v8 (y0 ^^^ r))) := ⟨_, rfl⟩
  rw [← ev] at hA3 hZ3 hb3 ⊢
  obtain ⟨L, eL⟩ : ∃ L, L = [y0 ^^^ r, sb x2, sb x3, sb x0] := ⟨_, rfl⟩
  have hL : L.length = 4 := by rw [eL]; rfl
  have HL : Hid (L = [y0 ^^^ r, sb x2, sb x3, sb x0]) := eL
  rw [← eL] at hA3
  clear hS0 hS1 hS2 hc1 hf1 ev eL
  go_wp2_with (first
    | (refine law_load rfl 52 _ rfl _ rfl 52 _ hA3 _ Try.underlying52 rfl (by rw [bys_length, hL]; kernel_rfl) ?_)
    | (refine law_store rfl 52 (.tmp 4) _ rfl _ (bys L) rfl rfl 52 _ hZ3 (by rw [bys_length, bys_length, hL, hZ]) (by rw [bys_length, hL]; kernel_rfl) (bys_one _) ?_; intro wF hoF hAF))
  refine bodyPost_ret (v := .agg (bys L).toArray) (results_cell_row rfl _ _ (w.heap.size + 1) 52 _ _ _ rfl hAF Try.underlying52 rfl (by rw [List.size_toArray, bys_length, hL]; kernel_rfl)) rfl ⟨by rw [HL.out], hoF.below hb3 (by omega)⟩

/-- What is added to the word eight places ahead. -/
theorem changed_any (n : Nat) (x : List B) (hx : x.length = 4) (h8 : 8 ≤ n) (hn : n < 60) (w : World) :
    Calls Try.prog 36 #[.agg (bys x).toArray, .int .i64 (n : Int)] w fun e w' => e = .returned (.agg (bys (chg n x)).toArray) ∧ Below w.heap.size w w' := by
  unfold chg
  by_cases h0 : n % 8 = 0
  · rw [if_pos h0]
    exact changed_zero n x hx h0 h8 hn w
  · rw [if_neg h0]
    by_cases h4 : n % 8 = 4
    · rw [if_pos h4]
      exact changed_four n x hx h4 hn w
    · rw [if_neg h4]
      exact changed_other n x hx h0 h4 hn w
end Go.Proofs.Ytjhkicfndbceoaa
