/- Add: bytes are put behind those of a state. -/
import Derived.Test.YtmnembhcfkcmnaaDoorHold
import Derived.Deep.RegionHeld3
namespace Go.Proofs.YtmnembhcfkcmnaaDoor
open Go.RowKit

/-- All that there was but the block r is as it was. -/
structure Only (r : Nat) (w w' : World) : Prop where
  os : w'.os = w.os
  tape : w'.tape = w.tape
  output : w'.output = w.output
  size : w.heap.size ≤ w'.heap.size
  block : ∀ k, k < w.heap.size → k ≠ r → w'.heap[k]? = w.heap[k]?
theorem Only.refl (r : Nat) (w : World) : Only r w w := ⟨rfl, rfl, rfl, Nat.le_refl _, fun _ _ _ => rfl⟩
theorem Only.on {r : Nat} {w w1 w2 : World} (h : Only r w w1) (ho : On w1 w2 r) : Only r w w2 :=
  ⟨ho.os.trans h.os, ho.tape.trans h.tape, ho.output.trans h.output, by rw [ho.size]; exact h.size, fun k hk hn => (ho.block k hn).trans (h.block k hk hn)⟩
theorem Only.below {r : Nat} {w w1 w2 : World} (h : Only r w w1) {B : Nat} (hb : Below B w1 w2) (hB : w.heap.size ≤ B) : Only r w w2 :=
  ⟨hb.os.trans h.os, hb.tape.trans h.tape, hb.output.trans h.output, Nat.le_trans h.size hb.size, fun k hk hn => (hb.block k (by omega)).trans (h.block k hk hn)⟩
theorem Only.trans {r : Nat} {w w1 w2 : World} (h : Only r w w1) (k : Only r w1 w2) : Only r w w2 :=
  ⟨k.os.trans h.os, k.tape.trans h.tape, k.output.trans h.output, Nat.le_trans h.size k.size, fun j hj hn => (k.block j (Nat.lt_of_lt_of_le hj h.size) hn).trans (h.block j hj hn)⟩
theorem Only.drew {r : Nat} {w w1 : World} (h : Only r w w1) : Only r w w1.drew := ⟨h.os, h.tape, h.output, h.size, h.block⟩
theorem Only.toBelow {r B : Nat} {w w1 : World} (h : Only r w w1) (hB : B ≤ r) (hB2 : B ≤ w.heap.size) : Below B w w1 := ⟨h.os, h.tape, h.output, h.size, fun k hk => h.block k (by omega) (by omega)⟩
theorem Tabs.only {r : Nat} {w w1 : World} (h : Tabs w) (ho : Only r w w1) (hr : 2 ≤ r) : Tabs w1 := h.later (ho.toBelow hr h.sz) (Nat.le_refl _)
theorem shows_block {w : World} {ad : Addr} {m : Nat} {xs : List Int} (h : Shows w (some ad) m xs) (hm : 0 < m) : ad.block < w.heap.size := by
  have := World.block_lt_of_cell? _ _ (h.cell ad rfl 0 hm)
  simpa [Addr.add] using this
theorem Shows.only {r : Nat} {w w1 : World} {ao : Option Addr} {m : Nat} {xs : List Int} (h : Shows w ao m xs) (ho : Only r w w1) (hn : ∀ ad, ao = some ad → ad.block ≠ r) : Shows w1 ao m xs := by
  refine ⟨h.len, h.bare, fun ad had j hj => ?_, h.rng⟩
  subst had
  have hc := h.cell ad rfl j hj
  rw [← hc]
  have e : (ad.add j).block = ad.block := by unfold Addr.add; split <;> rfl
  exact World.cell?_of_block (ho.block _ (by rw [e]; exact shows_block h (by omega)) (by rw [e]; exact hn ad rfl))

/-- Bytes copied into the middle of a block, as one step of a region that draws its order. -/
theorem step_copy_on {w : World} {ops : Array Oper} {o : Oper} {a : Act} {K : Act → World → Prop} {Q : Exit → Act → World → Prop} {E : Prop} (hgd : o.guard = none) (d s : Operand)
    (ho : o.op = .call { callee := .builtin .copy, args := #[d, s], argTypes := #[22, 22] })
    (g off dLen dCap : Nat) (ad : Addr) (sLen sCap : Nat) (hd : a.eval d = .slice (some ⟨g, off, none⟩) dLen dCap) (hs : a.eval s = .slice (some ad) sLen sCap)
    (cur : List Value) (t : TypeId) (hg : w.heap[g]? = some (.cells cur.toArray t (0, 0))) (cs : List Value) (k : Nat) (hkl : cs.length = k) (hn : k = Nat.min sLen dLen)
    (hsrc : ∀ j v, cs[j]? = some v → w.cell? (ad.add j) = some v) (hfit : off + k ≤ cur.length) (h1 : ∀ v ∈ cs, v.oneCell' = true)
    (h : ∀ w', On w w' g → w'.heap[g]? = some (.cells (cur.take off ++ (cs ++ cur.drop (off + cs.length))).toArray t (0, 0)) → K (a.put o.dst (.int .i64 (k : Int))) w') :
    if Region.wanted o (yielded ops a.tmps) = true then Oper.wp Tryd.prog o a w K Q else E := by
  have hw : Region.wanted o (yielded ops a.tmps) = true := by simp [Region.wanted, hgd]
  rw [if_pos hw]
  subst hkl
  have hrun := run_copy_row (P := Tryd.prog) w 22 22 o.type 5 g off dLen dCap ad sLen sCap cur.toArray t cs Tryd.underlying22 sz5 hg hn hsrc (by simpa using hfit) h1
  unfold Oper.wp
  simp [execOp, ho, resolve, invoke, builtin, hd, hs, hrun, Result.andThen]
  exact h _ (On.setRow w g _) (setRow_heap w g _ _ t _ hg)

theorem filled_of (r : Nat) (n f : Nat) (w : World) (c : w.cell? ⟨r, 72, none⟩ = some (.int .u64 (n : Int))) (hf : n % 64 = f) :
    Calls Tryd.prog 26 #[.pointer (some ⟨r, 0, none⟩)] w fun e w' => e = .returned (.int .i64 (f : Int)) ∧ w = w' := by
  go_enter Tryd.func26, Tryd.ntmps26
  go_wp2
  go_ret
  subst hf
  exact ⟨by simp, rfl⟩

theorem drop_two (l1 l2 : List Value) (n k : Nat) (h : l1.length = n) : (l1 ++ l2).drop (n + k) = l2.drop k := by
  subst h; rw [List.drop_append]; simp
theorem take_two (l1 l2 : List Value) (n k : Nat) (h : l1.length = n) : (l1 ++ l2).take (n + k) = l1 ++ l2.take k := by
  subst h; rw [List.take_append, List.take_of_length_le (by omega), Nat.add_sub_cancel_left]
theorem stl_put (s : St) (b : List Int) (n f : Nat) (ys : List Int) (hl : b.length = 64) (hf : f + ys.length ≤ 64) :
    (stl s b n).take (8 + f) ++ (u8s ys ++ (stl s b n).drop (8 + f + (u8s ys).length)) = stl s (putIn b f ys) n := by
  have hs : (s.l.map (Value.int .u32)).length = 8 := by simp [St.l]
  unfold stl putIn
  rw [take_two _ _ 8 f hs, Nat.add_assoc, drop_two _ _ 8 _ hs, u8s_length]
  rw [List.take_append_of_le_length (by simp; omega), List.drop_append_of_le_length (by simp; omega)]
  simp [u8s]
/-- The count is set. -/
theorem Sta.setCount {w : World} {r : Nat} {s : St} {b : List Int} {n : Nat} (h : Sta w r s b n) (m : Nat) : Sta (w.setCell ⟨r, 72, none⟩ (.int .u64 (m : Int))) r s b m := by
  refine ⟨?_, h.len, h.rng⟩
  rw [heap_setCell_same w r 72 _ 52 _ h.blk]
  have hl := h.len
  have e : (stl s b n).set 72 (.int .u64 (m : Int)) = stl s b m := by
    unfold stl
    rw [List.set_append_right _ _ (by simp [St.l]), List.set_append_right _ _ (by simp [St.l]; omega)]
    simp [St.l, hl]
  simp only [List.setIfInBounds_toArray, e]

theorem arr22 : Tryd.prog.underlying 22 = some (.slice (Tryd.prog.elem 22)) := by kernel_rfl
theorem size22 (W : World) : (sizeOf (Tryd.prog.elem 22)).run Tryd.prog W = .ok 1 W := by kernel_rfl
/-- 'b[k:]'. -/
theorem slice22_l (W : World) (ad : Addr) (l c k : Nat) (hk : k ≤ l) : (Instr.sliceAt 22 (.slice (some ad) l c) (some (.int .i64 (k : Int))) none none).run Tryd.prog W = .ok (.slice (fromAt (some ad) c k) (l - k) (c - k)) W := by
  rw [run_sliceAt_slice W 22 _ _ _ _ arr22, run_slice_l W 22 _ l c arr22 .i64 k (by omega) (by omega), size22]
  simp only [Result.andThen_ok, sliced, Int.toNat_natCast, Nat.mul_one, fromAt, Option.map_some]

theorem Sta.isThere {w : World} {r : Nat} {s : St} {b : List Int} {n : Nat} (h : Sta w r s b n) (o k : Nat) (hk : o + k ≤ 73) : w.there r o k := fun j hj => by
  refine ⟨?_, h.fz _⟩
  rw [cell_of_row w r (o + j) _ 52 _ h.blk, List.getElem?_toArray, List.getElem?_eq_getElem (by rw [stl_length _ _ _ h.len]; omega)]
  rfl
theorem on_setCells (w : World) (r o : Nat) (vs : List Value) : On w (w.setCells r o vs) r := by
  induction vs generalizing w o with
  | nil => exact ⟨rfl, rfl, rfl, rfl, fun _ _ => rfl⟩
  | cons v vs ih =>
    have h1 := On.setCell w ⟨r, o, none⟩ v
    have h2 := ih (w.setCell ⟨r, o, none⟩ v) (o + 1)
    exact ⟨h2.os.trans h1.os, h2.tape.trans h1.tape, h2.output.trans h1.output, h2.size.trans h1.size, fun k hk => (h2.block k hk).trans (h1.block k hk)⟩
theorem Sta.setWords {w : World} {r : Nat} {s : St} {b : List Int} {n : Nat} (h : Sta w r s b n) (s' : St) : Sta (w.setCells r 0 (nums .u32 s'.l).toList) r s' b n := by
  refine ⟨?_, h.len, h.rng⟩
  have e : (nums .u32 s'.l).toList = [.int .u32 s'.a, .int .u32 s'.b, .int .u32 s'.c, .int .u32 s'.d, .int .u32 s'.e, .int .u32 s'.f, .int .u32 s'.g, .int .u32 s'.h] := rfl
  rw [e]
  simp only [World.setCells]
  have step : ∀ (w : World) (cs : List Value) (i : Nat) (v : Value), w.heap[r]? = some (.cells cs.toArray 52 (0, 0)) → (w.setCell ⟨r, i, none⟩ v).heap[r]? = some (.cells (cs.set i v).toArray 52 (0, 0)) := by
    intro w cs i v hw
    rw [heap_setCell_same w r i _ 52 _ hw, List.setIfInBounds_toArray]
  exact step _ _ 7 _ (step _ _ 6 _ (step _ _ 5 _ (step _ _ 4 _ (step _ _ 3 _ (step _ _ 2 _ (step _ _ 1 _ (step _ _ 0 _ h.blk)))))))
set_option maxHeartbeats 1000000 in
set_option maxRecDepth 100000 in
theorem add_any (r : Nat) (n0 : Nat) (xs0 zs : List Int) (w : World) (s0 : St) (b0 : List Int) (h0 : Sta w r s0 b0 n0) (hh0 : Hold s0 b0 n0 xs0) (ao : Option Addr) (m c : Nat) (hs0 : Shows w ao m zs) (hap : 0 < m → ∀ ad, ao = some ad → ad.block ≠ r) (hmc : m ≤ c) (hc63 : c ≤ maxLen) (hT : Tabs w) (hr2 : 2 ≤ r) (hbig : n0 + m < 9223372036854775808) :
    Calls Tryd.prog 17 #[.pointer (some ⟨r, 0, none⟩), .slice ao m c] w fun e w' => e = .returned (.tuple #[]) ∧ ∃ s b, Sta w' r s b (n0 + m) ∧ Hold s b (n0 + m) (xs0 ++ zs) ∧ Only r w w' := by
  go_enter Tryd.func17, Tryd.ntmps17
  go_wp2_with fail
  go_loopw [1] (fun v wr => ∃ (j l c' : Nat) (ao' : Option Addr) (s : St) (b : List Int), j + l = m ∧ v = .slice ao' l c' ∧ Shows wr ao' l (zs.drop j) ∧ l ≤ c' ∧ c' ≤ maxLen ∧ (0 < l → ∀ ad, ao' = some ad → ad.block ≠ r) ∧ Sta wr r s b (n0 + j) ∧ Hold s b (n0 + j) (xs0 ++ zs.take j) ∧ Only r w wr ∧ Tabs wr) (fun v _ => match v with | .slice _ l _ => l | _ => 0)
  case atStart => exact ⟨0, m, c, ao, s0, b0, by omega, rfl, hs0, hmc, hc63, hap, h0, by simpa using hh0, Only.refl _ _, hT⟩
  case round =>
    obtain ⟨j, l, c', ao', s, b, hjl, rfl, hs, hlc, hc', hap', h, hh, hon, hTr⟩ := hrel
    clear h0 hh0 hs0 hap hmc hc63 hT
    by_cases hl0 : 0 < l
    · obtain ⟨ad, rfl⟩ : ∃ ad, ao' = some ad := by
        cases ao' with
        | none => have := hs.bare rfl; omega
        | some ad => exact ⟨ad, rfl⟩
      obtain ⟨n, hn⟩ : ∃ n, n = n0 + j := ⟨_, rfl⟩
      rw [← hn] at h hh
      obtain ⟨f, hf⟩ : ∃ f, n % 64 = f := ⟨_, rfl⟩
      have hf64 : f < 64 := by omega
      obtain ⟨k, hk⟩ : ∃ k, k = Nat.min l (64 - f) := ⟨_, rfl⟩
      have hk' : k = min l (64 - f) := hk
      have k1 : k ≤ l := by omega
      have k2 : f + k ≤ 64 := by omega
      have k3 : 0 < k := by omega
      obtain ⟨ys, hys⟩ : ∃ ys, ys = (zs.drop j).take k := ⟨_, rfl⟩
      have hyl : ys.length = k := by have := hs.len; rw [hys, List.length_take]; omega
      have hyr : ∀ x ∈ ys, 0 ≤ x ∧ x ≤ 255 := fun x hx => hs.rng x (by rw [hys] at hx; exact List.mem_of_mem_take hx)
      have hsl : ∀ W : World, _ := fun W => slice_l W r 8 f (f : Int) rfl hf64
      have hcn : wr.drew.cell? ⟨r, 72, none⟩ = some (.int .u64 (n : Int)) := h.count
      have hB : wr.drew.heap[r]? = some (.cells (stl s b n).toArray 52 (0, 0)) := h.blk
      have hsrc : ∀ i v, (u8s ys)[i]? = some v → wr.drew.cell? (ad.add i) = some v := by
        intro i v hv
        have hi := (List.getElem?_eq_some_iff.1 hv).1
        rw [u8s_length, hyl] at hi
        refine hs.cells i v ?_
        rw [hys] at hv
        simpa [u8s, List.getElem?_take, hi] using hv
      have hput := stl_put s b n f ys h.len (by omega)
      have hst1 : ∀ w1 : World, w1.heap[r]? = some (.cells ((stl s b n).take (8 + f) ++ (u8s ys ++ (stl s b n).drop (8 + f + (u8s ys).length))).toArray 52 (0, 0)) → Sta w1 r s (putIn b f ys) n := fun w1 hw => ⟨by rw [hput] at hw; exact hw, putIn_length _ _ _ h.len (by omega), putIn_rng _ _ _ h.rng hyr⟩
      have hfit : 8 + f + k ≤ (stl s b n).length := by rw [stl_length _ _ _ h.len]; omega
      have hnk : (n : Int) + (k : Int) < 9223372036854775808 := by omega
      obtain ⟨ao2, hao2⟩ : ∃ x, x = fromAt (some ad) c' k := ⟨_, rfl⟩
      have hsl2 : ∀ W : World, (Instr.sliceAt 22 (.slice (some ad) l c') (some (.int .i64 (k : Int))) none none).run Tryd.prog W = .ok (.slice ao2 (l - k) (c' - k)) W := fun W => by
        rw [hao2]
        exact slice22_l W ad l c' k k1
      have HK : Hid (k = Nat.min l (64 - f)) := hk
      have HY : Hid (ys = (zs.drop j).take k) := hys
      have HN : Hid (n = n0 + j) := hn
      have HF : Hid (n % 64 = f) := hf
      have HA : Hid (ao2 = fromAt (some ad) c' k) := hao2
      have HJ : Hid (j + l = m) := hjl
      clear hk hk' hys hn hf hao2 hput hjl
      go_wp2_with fail
      go_region_held3 (fun w' => w'.cell? ⟨r, 72, none⟩ = some (.int .u64 (n : Int))) (first | exact (hst1 _ hg1).count | go_keep) ((first | (go_at_call 26; refine (filled_of r n f _ hcn HF.out).mono ?_; rintro e w' ⟨rfl, rfl⟩) | (refine step_copy_on rfl _ _ rfl r (8 + f) (64 - f) (64 - f) ad l c' rfl rfl (stl s b n) 52 hB (u8s ys) k (by rw [u8s_length]; exact hyl) HK.out hsrc hfit (u8s_one ys) ?_; intro w1 ho1 hg1)))
      have h1 := hst1 w1 hg1
      have hc1 := h1.count
      have hf1 := h1.fz 72
      obtain ⟨f2, hf2⟩ : ∃ f2, (n + k) % 64 = f2 := ⟨_, rfl⟩
      have h2 : Sta (w1.setCell ⟨r, 72, none⟩ (.int .u64 ((n : Int) + (k : Int)))) r s (putIn b f ys) (n + k) := by
        have := h1.setCount (n + k)
        rwa [Int.natCast_add] at this
      have HF2 : Hid ((n + k) % 64 = f2) := hf2
      clear hf2 hsl hcn hB hsrc hst1 hfit hg1
      go_wp2_with fail
      obtain ⟨w2, ew2⟩ : ∃ x, x = w1.setCell ⟨r, 72, none⟩ (.int .u64 ((n : Int) + (k : Int))) := ⟨_, rfl⟩
      have ho2 : On w1 w2 r := by rw [ew2]; exact On.setCell w1 ⟨r, 72, none⟩ _
      rw [← ew2] at h2
      rw [← ew2]
      clear ew2 hf1
      have hc2 := h2.count
      go_at_call 26
      refine (filled_of r (n + k) f2 w2 hc2 HF2.out).mono ?_
      rintro e w' ⟨rfl, rfl⟩
      have hon2 : Only r w w2 := (hon.drew.on ho1).on ho2
      have hT2 : Tabs w2 := (hTr.only ((Only.refl r wr).drew.on ho1) hr2).only ((Only.refl r w1).on ho2) hr2
      have HS2 : Hid (Shows w2 ao2 (l - k) (zs.drop (j + k))) := by
        have hd := ((hs.only (((Only.refl r wr).drew.on ho1).on ho2) (hap' hl0)).drop k1 hlc)
        rw [List.drop_drop] at hd
        show Shows w2 ao2 (l - k) (zs.drop (j + k))
        rw [HA.out]
        exact hd
      have HP2 : Hid (∀ ad, ao2 = some ad → ad.block ≠ r) := by
        show ∀ ad, ao2 = some ad → ad.block ≠ r
        intro a2 ha2
        rw [HA.out] at ha2
        unfold fromAt at ha2
        have hb := hap' hl0 ad rfl
        split at ha2
        · cases ha2; exact hb
        · simp only [Option.map_some, Option.some.injEq] at ha2
          rw [← ha2]
          have e : (ad.add k).block = ad.block := by unfold Addr.add; split <;> rfl
          rw [e]; exact hb
      have HZ : Hid (xs0 ++ zs.take j ++ ys = xs0 ++ zs.take (j + k)) := by
        show xs0 ++ zs.take j ++ ys = xs0 ++ zs.take (j + k)
        rw [HY.out, List.append_assoc, List.take_add]
      clear hs hap' hTr hon ho1 ho2 hc1 h1
      by_cases hf0 : f2 = 0
      · have HH : Hid (Hold (mix s (putIn b f ys)) (putIn b f ys) (n0 + (j + k)) (xs0 ++ zs.take (j + k))) := by
          have e1 : n % 64 + ys.length = 64 := by have := HF.out; have := HF2.out; rw [hyl]; omega
          have hx := hold_full hh h.len e1
          rw [HZ.out, HF.out, hyl, HN.out, Nat.add_assoc] at hx
          exact hx
        have HN2 : Hid (n + k = n0 + (j + k)) := by show n + k = n0 + (j + k); rw [HN.out]; omega
        subst hf0
        obtain ⟨B, eB⟩ : ∃ x, x = putIn b f ys := ⟨_, rfl⟩
        rw [← eB] at h2 HH
        obtain ⟨S', eS⟩ : ∃ x, x = mix s B := ⟨_, rfl⟩
        have hcall := mixed_any s B h2.len h2.rng w2.drew ⟨hT2.k, hT2.h, hT2.sz⟩
        rw [← eS] at hcall HH
        have hd : Sta w2.drew r s B (n + k) := ⟨h2.blk, h2.len, h2.rng⟩
        have d0 : w2.drew.cell? ⟨r, 0, none⟩ = some (.int .u32 s.a) := hd.words 0 _ rfl
        have d1 : w2.drew.cell? ⟨r, 1, none⟩ = some (.int .u32 s.b) := hd.words 1 _ rfl
        have d2 : w2.drew.cell? ⟨r, 2, none⟩ = some (.int .u32 s.c) := hd.words 2 _ rfl
        have d3 : w2.drew.cell? ⟨r, 3, none⟩ = some (.int .u32 s.d) := hd.words 3 _ rfl
        have d4 : w2.drew.cell? ⟨r, 4, none⟩ = some (.int .u32 s.e) := hd.words 4 _ rfl
        have d5 : w2.drew.cell? ⟨r, 5, none⟩ = some (.int .u32 s.f) := hd.words 5 _ rfl
        have d6 : w2.drew.cell? ⟨r, 6, none⟩ = some (.int .u32 s.g) := hd.words 6 _ rfl
        have d7 : w2.drew.cell? ⟨r, 7, none⟩ = some (.int .u32 s.h) := hd.words 7 _ rfl
        have hR47 : w2.drew.rangeAt r 8 (B.map (Value.int .u8)) := hd.block
        have u47 := Tryd.underlying47
        have i47 : (Tryd.prog.info? 47).map (·.size) = some (B.map (Value.int .u8)).length := by rw [List.length_map, h2.len]; kernel_rfl
        clear eB eS hh h hsl2 hyr hyl HY HZ HF HF2 HK HA
        go_wp2_with fail
        refine wp_region_noPanic ?_
        refine wp_region_held_drew (S := fun w' => w'.rangeAt r 8 (B.map (Value.int .u8))) (by kernel_rfl) hR47 (fun hHeld => ?_)
        refine wpAnyH_take (i := 0) (v := ?v0a) (show _ = some _ by simp only [List.getElem?_toArray, List.getElem?_cons_zero]; exact rfl) (by kernel_rfl) (by kernel_rfl) (by kernel_rfl) (fun _ _ _ h => h) (Or.inl ⟨by rfl, ?hy0a⟩) (by assumption) ?r0a
        case hy0a => (intro w hSw; (try dsimp only at hSw); go_simp; try with_reducible rfl)
        (try simp only [Act.put]); (try simp only [List.setIfInBounds_toArray]); (repeat (first | simp only [List.set_cons_succ] | simp only [List.set_cons_zero]))
        refine wpAnyH_take (i := 1) (v := ?v1a) (show _ = some _ by simp only [List.getElem?_toArray, List.getElem?_cons_succ, List.getElem?_cons_zero]; exact rfl) (by kernel_rfl) (by kernel_rfl) (by kernel_rfl) (fun _ _ _ h => h) (Or.inl ⟨by rfl, ?hy1a⟩) (by assumption) ?r1a
        case hy1a => (intro w hSw; (try dsimp only at hSw); go_simp; try with_reducible rfl)
        (try simp only [Act.put]); (try simp only [List.setIfInBounds_toArray]); (repeat (first | simp only [List.set_cons_succ] | simp only [List.set_cons_zero]))
        refine wpAnyH_take (i := 2) (v := ?v2a) (show _ = some _ by simp only [List.getElem?_toArray, List.getElem?_cons_succ, List.getElem?_cons_zero]; exact rfl) (by kernel_rfl) (by kernel_rfl) (by kernel_rfl) (fun _ _ _ h => h) (Or.inl ⟨by rfl, ?hy2a⟩) (by assumption) ?r2a
        case hy2a => (intro w hSw; (try dsimp only at hSw); go_simp; try with_reducible rfl)
        (try simp only [Act.put]); (try simp only [List.setIfInBounds_toArray]); (repeat (first | simp only [List.set_cons_succ] | simp only [List.set_cons_zero]))
        refine wpAnyH_take (i := 3) (v := ?v3a) (show _ = some _ by simp only [List.getElem?_toArray, List.getElem?_cons_succ, List.getElem?_cons_zero]; exact rfl) (by kernel_rfl) (by kernel_rfl) (by kernel_rfl) (fun _ _ _ h => h) (Or.inl ⟨by rfl, ?hy3a⟩) (by assumption) ?r3a
        case hy3a => (intro w hSw; (try dsimp only at hSw); go_simp; try with_reducible rfl)
        (try simp only [Act.put]); (try simp only [List.setIfInBounds_toArray]); (repeat (first | simp only [List.set_cons_succ] | simp only [List.set_cons_zero]))
        refine wpAnyH_take (i := 5) (v := ?v5a) (show _ = some _ by simp only [List.getElem?_toArray, List.getElem?_cons_succ, List.getElem?_cons_zero]; exact rfl) (by kernel_rfl) (by kernel_rfl) (by kernel_rfl) (fun _ _ _ h => h) (Or.inl ⟨by rfl, ?hy5a⟩) (by assumption) ?r5a
        case hy5a => (intro w hSw; (try dsimp only at hSw); go_simp; try with_reducible rfl)
        (try simp only [Act.put]); (try simp only [List.setIfInBounds_toArray]); (repeat (first | simp only [List.set_cons_succ] | simp only [List.set_cons_zero]))
        refine wpAnyH_take (i := 6) (v := ?v6a) (show _ = some _ by simp only [List.getElem?_toArray, List.getElem?_cons_succ, List.getElem?_cons_zero]; exact rfl) (by kernel_rfl) (by kernel_rfl) (by kernel_rfl) (fun _ _ _ h => h) (Or.inl ⟨by rfl, ?hy6a⟩) (by assumption) ?r6a
        case hy6a => (intro w hSw; (try dsimp only at hSw); go_simp; try with_reducible rfl)
        (try simp only [Act.put]); (try simp only [List.setIfInBounds_toArray]); (repeat (first | simp only [List.set_cons_succ] | simp only [List.set_cons_zero]))
        refine wpAnyH_take (i := 7) (v := ?v7a) (show _ = some _ by simp only [List.getElem?_toArray, List.getElem?_cons_succ, List.getElem?_cons_zero]; exact rfl) (by kernel_rfl) (by kernel_rfl) (by kernel_rfl) (fun _ _ _ h => h) (Or.inl ⟨by rfl, ?hy7a⟩) (by assumption) ?r7a
        case hy7a => (intro w hSw; (try dsimp only at hSw); go_simp; try with_reducible rfl)
        (try simp only [Act.put]); (try simp only [List.setIfInBounds_toArray]); (repeat (first | simp only [List.set_cons_succ] | simp only [List.set_cons_zero]))
        refine wpAnyH_take (i := 8) (show _ = some _ by simp only [List.getElem?_toArray, List.getElem?_cons_succ, List.getElem?_cons_zero]; exact rfl) (by kernel_rfl) (by kernel_rfl) (by kernel_rfl) (fun _ _ _ h => h) (yieldsIf_load_mid (by rfl) 47 _ rfl r 8 rfl (B.map (Value.int .u8)) _ (fun _ h => h) Tryd.underlying47 rfl i47) (by assumption) ?_
        (try simp only [Act.put]); (try simp only [List.setIfInBounds_toArray]); (repeat (first | simp only [List.set_cons_succ] | simp only [List.set_cons_zero]))
        refine wpAnyH_ready (rs := [4]) (by kernel_rfl) (by simp) ?_
        refine AllReadyH.cons (show _ = some _ by simp only [List.getElem?_toArray, List.getElem?_cons_succ, List.getElem?_cons_zero]; exact rfl) (fun K hK => ?_) AllReadyH.nil
        rw [if_pos (by rfl)]
        refine wp_load_mid 45 _ rfl r 0 rfl (s.l.map (Value.int .u32)) _ hd.words Tryd.underlying45 rfl (by rw [List.length_map]; kernel_rfl) ?_
        refine hK.out _ _ hR47 (fun hHeld2 => ?_)
        clear hK K
        (try simp only [Act.put]); (try simp only [List.setIfInBounds_toArray]); (repeat (first | simp only [List.set_cons_succ] | simp only [List.set_cons_zero]))
        refine wpAnyH_ready (rs := [9]) (by kernel_rfl) (by simp) ?_
        refine AllReadyH.cons (show _ = some _ by simp only [List.getElem?_toArray, List.getElem?_cons_succ, List.getElem?_cons_zero]; exact rfl) (fun K hK => ?_) AllReadyH.nil
        go_simp
        refine hcall.mono ?_
        rintro e w3 ⟨rfl, hb3⟩
        have h3 := hd.next hb3
        (try go_wp2_with fail)
        refine hK.out _ _ h3.block (fun hHeld3 => ?_)
        clear hK K
        (try simp only [Act.put]); (try simp only [List.setIfInBounds_toArray]); (repeat (first | simp only [List.set_cons_succ] | simp only [List.set_cons_zero]))
        refine wpAnyH_take (i := 10) (v := ?v10a) (show _ = some _ by simp only [List.getElem?_toArray, List.getElem?_cons_succ, List.getElem?_cons_zero]; exact rfl) (by kernel_rfl) (by kernel_rfl) (by kernel_rfl) (fun _ _ _ h => h) (Or.inl ⟨by rfl, ?hy10a⟩) (h3.block) ?r10a
        case hy10a => (intro w hSw; (try dsimp only at hSw); go_simp; try with_reducible rfl)
        (try simp only [Act.put]); (try simp only [List.setIfInBounds_toArray]); (repeat (first | simp only [List.set_cons_succ] | simp only [List.set_cons_zero]))
        refine wpAnyH_take (i := 11) (v := ?v11a) (show _ = some _ by simp only [List.getElem?_toArray, List.getElem?_cons_succ, List.getElem?_cons_zero]; exact rfl) (by kernel_rfl) (by kernel_rfl) (by kernel_rfl) (fun _ _ _ h => h) (Or.inl ⟨by rfl, ?hy11a⟩) (h3.block) ?r11a
        case hy11a => (intro w hSw; (try dsimp only at hSw); go_simp; try with_reducible rfl)
        (try simp only [Act.put]); (try simp only [List.setIfInBounds_toArray]); (repeat (first | simp only [List.set_cons_succ] | simp only [List.set_cons_zero]))
        refine wpAnyH_ready (rs := [12]) (by kernel_rfl) (by simp) ?_
        refine AllReadyH.cons (show _ = some _ by simp only [List.getElem?_toArray, List.getElem?_cons_succ, List.getElem?_cons_zero]; exact rfl) (fun K hK => ?_) AllReadyH.nil
        rw [if_pos (by rfl)]
        refine wp_store_mid 45 _ _ rfl r 0 (nums .u32 S'.l) rfl rfl (h3.isThere 0 _ (by rw [nums_size]; simp [St.l])) (by rw [nums_size]; kernel_rfl) (nums_one _ _) ?_
        have h4 := h3.setWords S'
        have ho4 := on_setCells w3 r 0 (nums .u32 S'.l).toList
        obtain ⟨w4, ew4⟩ : ∃ x, x = w3.setCells r 0 (nums .u32 S'.l).toList := ⟨_, rfl⟩
        rw [← ew4] at h4 ho4
        rw [← ew4]
        clear ew4
        refine hK.out _ _ h4.block (fun hHeld4 => ?_)
        clear hK K
        (try simp only [Act.put]); (try simp only [List.setIfInBounds_toArray]); (repeat (first | simp only [List.set_cons_succ] | simp only [List.set_cons_zero]))
        refine wpAnyH_done (by kernel_rfl) ?_ _
        refine NoPanic.normal ?_
        go_wp2_with fail
        rw [HN2.out] at h4
        have hS4 : Shows w4 ao2 (l - k) (zs.drop (j + k)) := ((HS2.out.only (Only.refl r w2).drew HP2.out).later hb3).only ((Only.refl r w3).on ho4) HP2.out
        have hO4 : Only r w w4 := (hon2.drew.below hb3 hon2.drew.size).on ho4
        have hT3 : Tabs w3 := Tabs.next (w := w2.drew) ⟨hT2.k, hT2.h, hT2.sz⟩ hb3
        exact ⟨⟨j + k, l - k, c' - k, ao2, S', B, by have := HJ.out; omega, rfl, hS4, by omega, by omega, fun _ => HP2.out, h4, HH.out, hO4, hT3.only ((Only.refl r w3).on ho4) hr2⟩, by show l - k < l; omega⟩
      · have hz0 : ((f2 : Int) == 0) = false := by simp; omega
        go_wp2
        have e1 : n % 64 + ys.length < 64 := by have := HF.out; have := HF2.out; rw [hyl]; omega
        have hx := hold_part hh h.len e1
        rw [HZ.out, HF.out, hyl, HN.out, Nat.add_assoc] at hx
        rw [HN.out, Nat.add_assoc] at h2
        exact ⟨⟨j + k, l - k, c' - k, ao2, s, putIn b f ys, by have := HJ.out; omega, rfl, HS2.out, by omega, by omega, fun _ => HP2.out, h2, hx, hon2, hT2⟩, by show l - k < l; omega⟩
    · have hl00 : l = 0 := by omega
      subst hl00
      have hjm : j = m := by omega
      subst hjm
      have hzl : zs.take j = zs := by
        have := hs.len
        exact List.take_of_length_le (by simp at this; omega)
      rw [hzl] at hh
      go_wp2
      exact bodyPost_end (v := .tuple #[]) (by simp [results, Tryd.results17]) rfl ⟨rfl, s, b, h, hh, hon⟩

theorem add_nil (v : Value) (w : World) : Calls Tryd.prog 17 #[.pointer none, v] w fun e w' => e = .returned (.tuple #[]) ∧ w = w' := by
  go_enter Tryd.func17, Tryd.ntmps17
  go_wp2
  exact bodyPost_ret (v := .tuple #[]) (by simp [results, Tryd.results17]) rfl ⟨rfl, rfl⟩
end Go.Proofs.YtmnembhcfkcmnaaDoor
