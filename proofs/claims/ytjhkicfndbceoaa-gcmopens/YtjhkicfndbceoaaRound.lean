/- The rounds of a key made ready. -/
import Derived.Test.YtjhkicfndbceoaaLast
import Derived.Laws.CopyRow
namespace Go.Proofs.Ytjhkicfndbceoaa
open Go.RowKit

theorem sz5 : (Try.prog.info? 5).map (·.size) = some 1 := by kernel_rfl
theorem addz (g o j : Nat) : (⟨g, o, none⟩ : Addr).add j = ⟨g, o + j, none⟩ := by unfold Addr.add; split <;> simp_all
/-- Cells of a list changed from a place on. -/
def splice (cur : List Value) (o : Nat) (cs : List Value) : List Value := cur.take o ++ (cs ++ cur.drop (o + cs.length))

/-- Cells copied into the middle of a block, as the last step of a region that draws its order. -/
theorem step_copy {w : World} {ops : Array Oper} {o : Oper} {a : Act} {K : Act → World → Prop} {Q : Exit → Act → World → Prop} {E : Prop} (hgd : o.guard = none) (d s : Operand)
    (ho : o.op = .call { callee := .builtin .copy, args := #[d, s], argTypes := #[24, 24] })
    (g off dLen dCap b so : Nat) (sLen sCap : Nat) (hd : a.eval d = .slice (some ⟨g, off, none⟩) dLen dCap) (hs : a.eval s = .slice (some ⟨b, so, none⟩) sLen sCap)
    (cur : List Value) (t : TypeId) (hg : Blk w g t cur) (cs : List Value) (hn : cs.length = Nat.min sLen dLen)
    (hsrc : w.rangeAt b so cs) (hfit : off + cs.length ≤ cur.length) (h1 : ∀ v ∈ cs, v.oneCell' = true)
    (h : ∀ w', On w w' g → Blk w' g t (splice cur off cs) → K (a.put o.dst (.int .i64 (cs.length : Int))) w') :
    if Region.wanted o (yielded ops a.tmps) = true then Oper.wp Try.prog o a w K Q else E := by
  have hw : Region.wanted o (yielded ops a.tmps) = true := by simp [Region.wanted, hgd]
  rw [if_pos hw]
  have hrun := run_copy_row (P := Try.prog) w 24 24 o.type 5 g off dLen dCap ⟨b, so, none⟩ sLen sCap cur.toArray t cs Try.underlying24 sz5 hg hn (fun j v hv => by rw [addz]; exact hsrc j v hv) (by simpa using hfit) h1
  unfold Oper.wp
  simp [execOp, ho, resolve, invoke, builtin, hd, hs, hrun, Result.andThen]
  refine h _ (On.setRow w g _) ?_
  have := setRow_heap w g cur.toArray (splice cur off cs).toArray t _ hg
  have e : (List.take off cur ++ (cs ++ List.drop (off + cs.length) cur)) = splice cur off cs := rfl
  rw [e]
  exact this

theorem bys_take (l : List B) (n : Nat) : (bys l).take n = bys (l.take n) := by simp [bys]
theorem bys_drop (l : List B) (n : Nat) : (bys l).drop n = bys (l.drop n) := by simp [bys]
theorem splice_mid (K Z : List B) (n j d : Nat) (t : List Value) (hK : K.length = n) (hZ : Z.length = n) (hj : j + d ≤ n) :
    splice (bys (mid K Z j) ++ t) j (bys ((K.drop j).take d)) = bys (mid K Z (j + d)) ++ t := by
  have e1 : (bys ((K.drop j).take d)).length = d := by rw [bys_length]; simp; omega
  have e2 : (bys (mid K Z j) ++ t).take j = bys (K.take j) := by
    unfold mid
    rw [bys_append, List.append_assoc, List.take_append_of_le_length (by rw [bys_length]; simp; omega), List.take_of_length_le (by rw [bys_length]; simp; omega)]
  have e3 : (bys (mid K Z j) ++ t).drop (j + d) = bys (Z.drop (j + d)) ++ t := by
    rw [List.drop_append_of_le_length (by rw [bys_length, mid_length K Z n j hK hZ]; omega), bys_drop]
    unfold mid
    rw [List.drop_append, List.drop_eq_nil_of_le (by simp; omega), List.nil_append, List.drop_drop]
    have : (K.take j).length = j := by simp; omega
    rw [this]
    congr 3
    omega
  unfold splice
  rw [e1, e2, e3, ← List.append_assoc, ← bys_append, ← List.append_assoc, ← bys_append]
  unfold mid
  rw [List.take_add]

/-- The key of a round. -/
def rk (ws : List B) (n : Nat) : List B := (ws.drop (16 * n)).take 16
theorem rk_length (ws : List B) (n : Nat) (h : ws.length = 240) (hn : n ≤ 14) : (rk ws n).length = 16 := by simp [rk]; omega
theorem rk_part (ws : List B) (n c : Nat) (hc : c < 4) : ((rk ws n).drop (4 * c)).take 4 = (ws.drop ((4 * n + c) * 4)).take 4 := by
  unfold rk
  rw [List.drop_take, List.take_take, List.drop_drop]
  congr 1
  · omega
  · congr 1
    omega

theorem arr85 : Try.prog.underlying 85 = some (.array (Try.prog.arrayLen 85) (Try.prog.elem 85)) := by kernel_rfl
theorem arr52 : Try.prog.underlying 52 = some (.array (Try.prog.arrayLen 52) (Try.prog.elem 52)) := by kernel_rfl
theorem arr22 : Try.prog.underlying 22 = some (.array (Try.prog.arrayLen 22) (Try.prog.elem 22)) := by kernel_rfl
theorem len85 : Try.prog.arrayLen 85 = 16 := by kernel_rfl
theorem len52 : Try.prog.arrayLen 52 = 4 := by kernel_rfl
theorem len22 : Try.prog.arrayLen 22 = 32 := by kernel_rfl
theorem size85 (W : World) : (sizeOf (Try.prog.elem 85)).run Try.prog W = .ok 1 W := by kernel_rfl
theorem size52 (W : World) : (sizeOf (Try.prog.elem 52)).run Try.prog W = .ok 1 W := by kernel_rfl
theorem size22 (W : World) : (sizeOf (Try.prog.elem 22)).run Try.prog W = .ok 1 W := by kernel_rfl
/-- 'b[l:]' of an array of 16 bytes. -/
theorem slice85 (W : World) (g l : Nat) (L : Int) (hL : L = l) (h : l < 16) :
    (Instr.sliceAt 85 (.pointer (some ⟨g, 0, none⟩)) (some (.int .i64 L)) none none).run Try.prog W = .ok (.slice (some ⟨g, l, none⟩) (16 - l) (16 - l)) W := by
  subst hL
  rw [run_sliceAt_array_l W 85 _ arr85 .i64 l (by omega) (by rw [len85]; omega), size85, len85]
  simp only [Result.andThen_ok, slicedAt, Int.toNat_natCast, Nat.mul_one, addz, Nat.zero_add]
  rw [if_neg (by omega)]
/-- 'b[l:]' of an array of 32 bytes. -/
theorem slice22 (W : World) (g l : Nat) (L : Int) (hL : L = l) (h : l < 32) :
    (Instr.sliceAt 22 (.pointer (some ⟨g, 0, none⟩)) (some (.int .i64 L)) none none).run Try.prog W = .ok (.slice (some ⟨g, l, none⟩) (32 - l) (32 - l)) W := by
  subst hL
  rw [run_sliceAt_array_l W 22 _ arr22 .i64 l (by omega) (by rw [len22]; omega), size22, len22]
  simp only [Result.andThen_ok, slicedAt, Int.toNat_natCast, Nat.mul_one, addz, Nat.zero_add]
  rw [if_neg (by omega)]
/-- 'w[:]' of a word. -/
theorem slice52 (W : World) (g off : Nat) : (Instr.sliceAt 52 (.pointer (some ⟨g, off, none⟩)) none none none).run Try.prog W = .ok (.slice (some ⟨g, off, none⟩) 4 4) W := by
  rw [run_sliceAt_array_all W 52 _ arr52, size52, len52]
  simp [slicedAt, Addr.add]

theorem zero88 (W : World) : (zeroValue 88).run Try.prog W = .ok (.agg (rnd (List.replicate 16 0#8) false).toArray) W := by kernel_rfl
theorem zeroed88 : ∃ Z : List B, Z.length = 16 ∧ ∀ W : World, (zeroValue 88).run Try.prog W = .ok (.agg (rnd Z false).toArray) W := ⟨List.replicate 16 0#8, by simp, zero88⟩
theorem rnd_set (ks : List B) (b c : Bool) (hk : ks.length = 16) : (rnd ks b).set 16 (.bool c) = rnd ks c := by
  unfold rnd
  rw [List.set_append_right _ _ (by rw [bys_length]; omega), bys_length, hk]
  rfl
theorem rnd_one (ks : List B) (b : Bool) : (rnd ks b).toArray.all (·.oneCell') = true := by
  simp [rnd, bys, Value.oneCell']

set_option maxHeartbeats 1000000 in
set_option maxRecDepth 100000 in
/-- The round number n. -/
theorem round_any (ws : List B) (hl : ws.length = 240) (n : Nat) (hn : n ≤ 14) (m : Int) (hm : m = n) (w : World) :
    Calls Try.prog 53 #[.agg (bys ws).toArray, .int .i64 m] w fun e w' => e = .returned (.agg (rnd (rk ws n) (m == 14)).toArray) ∧ Below w.heap.size w w' := by
  subst hm
  obtain ⟨Z, hZ, hz⟩ := zeroed88
  obtain ⟨K0, eK⟩ : ∃ K0, K0 = rk ws n := ⟨_, rfl⟩
  have hK0 : K0.length = 16 := by rw [eK]; exact rk_length ws n hl hn
  have HP : Hid (∀ c, c < 4 → (K0.drop (4 * c)).take 4 = (ws.drop ((4 * n + c) * 4)).take 4) := by rw [eK]; exact fun c hc => rk_part ws n c hc
  rw [← eK]
  clear eK
  obtain ⟨zr, ez⟩ : ∃ zr, zr = rnd Z false := ⟨_, rfl⟩
  have HZ : Hid (∀ c, zr.set 16 (.bool c) = rnd Z c) := by rw [ez]; exact fun c => rnd_set Z false c hZ
  have hzl : zr.length = 17 := by rw [ez, rnd_length, hZ]
  rw [← ez] at hz
  clear ez
  have hB0 : Blk (((w.alloc (.cells (bys ws).toArray 55)).alloc (.cells zr.toArray 88)).alloc (.cells zr.toArray 88)) w.heap.size 55 (bys ws) := ((Blk.new w 55 (bys ws)).alloc _).alloc _
  have hB1 : Blk (((w.alloc (.cells (bys ws).toArray 55)).alloc (.cells zr.toArray 88)).alloc (.cells zr.toArray 88)) (w.heap.size + 1) 88 zr := by
    have h := (Blk.new (w.alloc (.cells (bys ws).toArray 55)) 88 zr).alloc (.cells zr.toArray 88)
    rwa [World.size_alloc] at h
  have hB2 : Blk (((w.alloc (.cells (bys ws).toArray 55)).alloc (.cells zr.toArray 88)).alloc (.cells zr.toArray 88)) (w.heap.size + 1 + 1) 88 zr := by
    have h := Blk.new ((w.alloc (.cells (bys ws).toArray 55)).alloc (.cells zr.toArray 88)) 88 zr
    rwa [World.size_alloc, World.size_alloc] at h
  have hbB : Below w.heap.size w (((w.alloc (.cells (bys ws).toArray 55)).alloc (.cells zr.toArray 88)).alloc (.cells zr.toArray 88)) :=
    (((Below.refl _ w).alloc (Nat.le_refl _) _).alloc (by simp) _).alloc (by simp; omega) _
  obtain ⟨lb, el⟩ : ∃ lb, lb = ((n : Int) == 14) := ⟨_, rfl⟩
  have hn0 : (0 : Int) ≤ n := by omega
  have hn1 : (n : Int) ≤ 14 := by omega
  have hone : (zr.set 16 (.bool lb)).toArray.all (·.oneCell') = true := by rw [HZ.out]; exact rnd_one _ _
  rw [← el]
  go_enter Try.func53, Try.ntmps53
  go_wp2_with (refine law_store rfl 88 _ _ rfl _ (zr.set 16 (.bool lb)) rfl (by rw [el]; rfl) 88 _ hB2 (by rw [List.length_set]) (by rw [List.length_set, hzl]; kernel_rfl) hone ?_; intro wF hoF hAF)
  rw [HZ.out, ← mid_zero K0 Z] at hAF
  have hA0 := hB0.on hoF (by omega)
  have hA1 := hB1.on hoF (by omega)
  have hbF := hoF.below hbB (by omega)
  clear hB0 hB1 hB2 hbB hoF hone HZ
  go_loopw [10] (fun i wr => ∃ c : Nat, c ≤ 4 ∧ i = .int .i64 c ∧ Blk wr w.heap.size 55 (bys ws) ∧ Blk wr (w.heap.size + 1) 88 zr ∧ Blk wr (w.heap.size + 1 + 1) 88 (bys (mid K0 Z (4 * c)) ++ [.bool lb]) ∧ Below w.heap.size w wr) (fun i _ => 4 - (intOf i).toNat)
  case atStart => exact ⟨0, by omega, rfl, hA0, hA1, hAF, hbF⟩
  case round =>
    clear hA0 hA1 hAF hbF
    obtain ⟨c, hc, rfl, hA0, hA1, hA, hbr⟩ := hrel
    have hml := mid_length K0 Z 16 (4 * c) hK0 hZ
    by_cases hlt : c < 4
    · have hp4 : ((K0.drop (4 * c)).take 4).length = 4 := by simp; omega
      have hc0 : (0 : Int) ≤ c := by omega
      have hc1 : (c : Int) < 4 := by omega
      have a1 : IntKind.i64.wrap (4 * (c : Int)) = 4 * (c : Int) := by rw [IntKind.wrap_i64]; omega
      have a2 : IntKind.i64.wrap (4 * (n : Int)) = 4 * (n : Int) := by rw [IntKind.wrap_i64]; omega
      have a3 : IntKind.i64.wrap (4 * (n : Int) + (c : Int)) = 4 * (n : Int) + (c : Int) := by rw [IntKind.wrap_i64]; omega
      have s1 : ∀ W : World, _ := fun W => slice85 W (w.heap.size + 1 + 1) (4 * c) (4 * (c : Int)) (by omega) (by omega)
      have s2 : ∀ W : World, _ := fun W => slice52 W w.heap.size ((4 * n + c) * 4)
      have a4 : (4 * (n : Int) + (c : Int)).toNat = 4 * n + c := by omega
      have a5 : (4 * (n : Int) + (c : Int)) < 60 := by omega
      have a6 : 0 ≤ (4 * (n : Int) + (c : Int)) := by omega
      go_wp2_with fail
      refine wp_region_to (fun _ => True) 99 (by kernel_rfl) ?_
      refine wpTo_take (i := 0) (v := ?v0) (show _ = some _ by simp only [List.getElem?_toArray, List.getElem?_cons_zero]; exact rfl) (by kernel_rfl) (by kernel_rfl) (by kernel_rfl) (by kernel_rfl) (by exact fun _ _ _ h => h) (Or.inl ⟨by rfl, ?hy0⟩) trivial ?r0
      case hy0 => (intro w hSw; (try dsimp only at hSw); go_simp; try with_reducible rfl)
      (try simp only [Act.put]); (try simp only [List.setIfInBounds_toArray]); (repeat (first | simp only [List.set_cons_succ] | simp only [List.set_cons_zero]))
      refine wpTo_take (i := 1) (v := ?v1) (show _ = some _ by simp only [List.getElem?_toArray, List.getElem?_cons_succ, List.getElem?_cons_zero]; exact rfl) (by kernel_rfl) (by kernel_rfl) (by kernel_rfl) (by kernel_rfl) (by exact fun _ _ _ h => h) (Or.inl ⟨by rfl, ?hy1⟩) trivial ?r1
      case hy1 => (intro w hSw; (try dsimp only at hSw); go_simp; try with_reducible rfl)
      (try simp only [Act.put]); (try simp only [List.setIfInBounds_toArray]); (repeat (first | simp only [List.set_cons_succ] | simp only [List.set_cons_zero]))
      refine wpTo_take (i := 2) (v := ?v2) (show _ = some _ by simp only [List.getElem?_toArray, List.getElem?_cons_succ, List.getElem?_cons_zero]; exact rfl) (by kernel_rfl) (by kernel_rfl) (by kernel_rfl) (by kernel_rfl) (by exact fun _ _ _ h => h) (Or.inl ⟨by rfl, ?hy2⟩) trivial ?r2
      case hy2 => (intro w hSw; (try dsimp only at hSw); go_simp; try with_reducible rfl)
      (try simp only [Act.put]); (try simp only [List.setIfInBounds_toArray]); (repeat (first | simp only [List.set_cons_succ] | simp only [List.set_cons_zero]))
      refine wpTo_take (i := 3) (v := ?v3) (show _ = some _ by simp only [List.getElem?_toArray, List.getElem?_cons_succ, List.getElem?_cons_zero]; exact rfl) (by kernel_rfl) (by kernel_rfl) (by kernel_rfl) (by kernel_rfl) (by exact fun _ _ _ h => h) (Or.inl ⟨by rfl, ?hy3⟩) trivial ?r3
      case hy3 => (intro w hSw; (try dsimp only at hSw); go_simp; try with_reducible rfl)
      (try simp only [Act.put]); (try simp only [List.setIfInBounds_toArray]); (repeat (first | simp only [List.set_cons_succ] | simp only [List.set_cons_zero]))
      refine wpTo_take (i := 4) (v := ?v4) (show _ = some _ by simp only [List.getElem?_toArray, List.getElem?_cons_succ, List.getElem?_cons_zero]; exact rfl) (by kernel_rfl) (by kernel_rfl) (by kernel_rfl) (by kernel_rfl) (by exact fun _ _ _ h => h) (Or.inl ⟨by rfl, ?hy4⟩) trivial ?r4
      case hy4 => (intro w hSw; (try dsimp only at hSw); go_simp; try with_reducible rfl)
      (try simp only [Act.put]); (try simp only [List.setIfInBounds_toArray]); (repeat (first | simp only [List.set_cons_succ] | simp only [List.set_cons_zero]))
      refine wpTo_take (i := 5) (v := ?v5) (show _ = some _ by simp only [List.getElem?_toArray, List.getElem?_cons_succ, List.getElem?_cons_zero]; exact rfl) (by kernel_rfl) (by kernel_rfl) (by kernel_rfl) (by kernel_rfl) (by exact fun _ _ _ h => h) (Or.inl ⟨by rfl, ?hy5⟩) trivial ?r5
      case hy5 => (intro w hSw; (try dsimp only at hSw); go_simp; try with_reducible rfl)
      (try simp only [Act.put]); (try simp only [List.setIfInBounds_toArray]); (repeat (first | simp only [List.set_cons_succ] | simp only [List.set_cons_zero]))
      refine wpTo_take (i := 6) (v := ?v6) (show _ = some _ by simp only [List.getElem?_toArray, List.getElem?_cons_succ, List.getElem?_cons_zero]; exact rfl) (by kernel_rfl) (by kernel_rfl) (by kernel_rfl) (by kernel_rfl) (by exact fun _ _ _ h => h) (Or.inl ⟨by rfl, ?hy6⟩) trivial ?r6
      case hy6 => (intro w hSw; (try dsimp only at hSw); go_simp; try with_reducible rfl)
      (try simp only [Act.put]); (try simp only [List.setIfInBounds_toArray]); (repeat (first | simp only [List.set_cons_succ] | simp only [List.set_cons_zero]))
      refine wpTo_take (i := 7) (v := ?v7) (show _ = some _ by simp only [List.getElem?_toArray, List.getElem?_cons_succ, List.getElem?_cons_zero]; exact rfl) (by kernel_rfl) (by kernel_rfl) (by kernel_rfl) (by kernel_rfl) (by exact fun _ _ _ h => h) (Or.inl ⟨by rfl, ?hy7⟩) trivial ?r7
      case hy7 => (intro w hSw; (try dsimp only at hSw); go_simp; try with_reducible rfl)
      (try simp only [Act.put]); (try simp only [List.setIfInBounds_toArray]); (repeat (first | simp only [List.set_cons_succ] | simp only [List.set_cons_zero]))
      refine wpTo_take (i := 8) (v := ?v8) (show _ = some _ by simp only [List.getElem?_toArray, List.getElem?_cons_succ, List.getElem?_cons_zero]; exact rfl) (by kernel_rfl) (by kernel_rfl) (by kernel_rfl) (by kernel_rfl) (by exact fun _ _ _ h => h) (Or.inl ⟨by rfl, ?hy8⟩) trivial ?r8
      case hy8 => (intro w hSw; (try dsimp only at hSw); go_simp; try with_reducible rfl)
      (try simp only [Act.put]); (try simp only [List.setIfInBounds_toArray]); (repeat (first | simp only [List.set_cons_succ] | simp only [List.set_cons_zero]))
      refine wpTo_take (i := 9) (v := ?v9) (show _ = some _ by simp only [List.getElem?_toArray, List.getElem?_cons_succ, List.getElem?_cons_zero]; exact rfl) (by kernel_rfl) (by kernel_rfl) (by kernel_rfl) (by kernel_rfl) (by exact fun _ _ _ h => h) (Or.inl ⟨by rfl, ?hy9⟩) trivial ?r9
      case hy9 => (intro w hSw; (try dsimp only at hSw); go_simp; try with_reducible rfl)
      (try simp only [Act.put]); (try simp only [List.setIfInBounds_toArray]); (repeat (first | simp only [List.set_cons_succ] | simp only [List.set_cons_zero]))
      refine wpTo_take (i := 10) (v := ?v10) (show _ = some _ by simp only [List.getElem?_toArray, List.getElem?_cons_succ, List.getElem?_cons_zero]; exact rfl) (by kernel_rfl) (by kernel_rfl) (by kernel_rfl) (by kernel_rfl) (by exact fun _ _ _ h => h) (Or.inl ⟨by rfl, ?hy10⟩) trivial ?r10
      case hy10 => (intro w hSw; (try dsimp only at hSw); go_simp; try with_reducible rfl)
      (try simp only [Act.put]); (try simp only [List.setIfInBounds_toArray]); (repeat (first | simp only [List.set_cons_succ] | simp only [List.set_cons_zero]))
      refine wpTo_one (i := 11) (by kernel_rfl) (show _ = some _ by simp only [List.getElem?_toArray, List.getElem?_cons_succ, List.getElem?_cons_zero]; exact rfl) (fun K hK => ?_)
      refine step_copy rfl (.tmp 16) (.tmp 23) rfl (w.heap.size + 1 + 1) (4 * c) (16 - 4 * c) (16 - 4 * c) w.heap.size ((4 * n + c) * 4) 4 4 rfl rfl _ 88 hA.drew (bys ((K0.drop (4 * c)).take 4)) (by rw [bys_length, hp4]; show 4 = min 4 (16 - 4 * c); omega) ?hsrc (by rw [bys_length, hp4, List.length_append, bys_length, hml]; simp; omega) (bys_one' _) ?_
      case hsrc => rw [HP.out c hlt, ← bys_take, ← bys_drop]; exact hA0.range _ _
      intro wG hoG hAG
      refine hK.out _ _ trivial (fun _ => wpTo_done (by kernel_rfl) ?_)
      clear hK K
      (try simp only [Act.put]); (try simp only [List.setIfInBounds_toArray]); (repeat (first | simp only [List.set_cons_succ] | simp only [List.set_cons_zero]))
      go_wp2
      have hst : Blk wG (w.heap.size + 1 + 1) 88 (bys (mid K0 Z (4 * (c + 1))) ++ [.bool lb]) := by
        rw [splice_mid K0 Z 16 (4 * c) 4 _ hK0 hZ (by omega)] at hAG
        exact hAG
      refine ⟨⟨c + 1, by omega, by go_num, hA0.drew.on hoG (by omega), hA1.drew.on hoG (by omega), hst, hoG.below hbr.drew (by omega)⟩, by simp [intOf]; omega⟩
    · have hc4 : c = 4 := by omega
      subst hc4
      rw [show 4 * 4 = 16 from rfl, mid_full K0 Z 16 hK0 hZ] at hA
      have hA' : Blk wr (w.heap.size + 1 + 1) 88 (rnd K0 lb) := hA
      go_wp2_with (first | (refine law_load rfl 88 _ rfl _ rfl 88 _ hA' _ Try.underlying88 rfl (by rw [rnd_length, hK0]; kernel_rfl) ?_) | (refine law_store rfl 88 _ _ rfl _ (rnd K0 lb) rfl rfl 88 _ hA1 (by rw [rnd_length, hK0, hzl]) (by rw [rnd_length, hK0]; kernel_rfl) (rnd_one _ _) ?_; intro wF hoF hAF))
      refine bodyPost_ret (v := .agg (rnd K0 lb).toArray) (results_cell_row rfl _ _ (w.heap.size + 1) 88 _ _ _ rfl hAF Try.underlying88 rfl (by rw [List.size_toArray, rnd_length, hK0]; kernel_rfl)) rfl ⟨rfl, hoF.below hbr (by omega)⟩
end Go.Proofs.Ytjhkicfndbceoaa
