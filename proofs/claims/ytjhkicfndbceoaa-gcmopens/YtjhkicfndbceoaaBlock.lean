/- A block enciphered. -/
import Derived.Test.YtjhkicfndbceoaaEnc
import Derived.Deep.CutRange
namespace Go.Proofs.Ytjhkicfndbceoaa
open Go.RowKit

theorem zero37 (W : World) : (zeroValue 37).run Try.prog W = .ok (.agg (bys (List.replicate 16 0#8)).toArray) W := by kernel_rfl
theorem zeroed37 : ∃ Z : List B, Z.length = 16 ∧ (∀ W : World, (zeroValue 37).run Try.prog W = .ok (.agg (bys Z).toArray) W) ∧ ∀ W : World, (zeroValue 85).run Try.prog W = .ok (.agg (bys Z).toArray) W := ⟨List.replicate 16 0#8, by simp, zero37, zero85⟩
/-- A round, when j of its steps are done. -/
def stp (ks : List B) (last : Bool) (st : List B) : Nat → List B
  | 0 => st
  | 1 => st.map sb
  | 2 => turnL (st.map sb)
  | 3 => mixR last (turnL (st.map sb))
  | _ => addL (mixR last (turnL (st.map sb))) ks
theorem stp_length (ks : List B) (last : Bool) (st : List B) (hs : st.length = 16) (hk : ks.length = 16) : ∀ j, j ≤ 4 → (stp ks last st j).length = 16
  | 0, _ => hs
  | 1, _ => by rw [stp, List.length_map, hs]
  | 2, _ => turnL_length _
  | 3, _ => mixR_length _ _ (turnL_length _)
  | 4, _ => addL_length _ _ 16 (mixR_length _ _ (turnL_length _)) hk
/-- What lies there while a block is enciphered or deciphered: the key, the block, the result, the steps. -/
structure BkS (w v : World) (ws bs Z : List B) (fs : List Value) : Prop where
  key : Blk v w.heap.size 55 (bys ws)
  b : Blk v (w.heap.size + 1) 37 (bys bs)
  res : Blk v (w.heap.size + 1 + 1) 37 (bys Z)
  fn : Blk v (w.heap.size + 1 + 1 + 1) 86 fs
  k : Below w.heap.size w v
section
variable {w v v' : World} {ws bs Z : List B} {fs : List Value}
theorem BkS.lt (h : BkS w v ws bs Z fs) : w.heap.size + 1 + 1 + 1 < v.heap.size := h.fn.lt
theorem BkS.drew (h : BkS w v ws bs Z fs) : BkS w v.drew ws bs Z fs := ⟨h.key, h.b, h.res, h.fn, h.k.drew⟩
theorem BkS.call (h : BkS w v ws bs Z fs) (hb : Below v.heap.size v v') : BkS w v' ws bs Z fs :=
  ⟨h.key.next hb, h.b.next hb, h.res.next hb, h.fn.next hb, h.k.trans (hb.mono h.k.size)⟩
theorem BkS.alloc (h : BkS w v ws bs Z fs) (o : Obj) : BkS w (v.alloc o) ws bs Z fs :=
  ⟨h.key.alloc o, h.b.alloc o, h.res.alloc o, h.fn.alloc o, h.k.alloc h.k.size o⟩
theorem BkS.on (h : BkS w v ws bs Z fs) {g : Nat} (ho : On v v' g) (hg : w.heap.size + 1 + 1 + 1 < g) : BkS w v' ws bs Z fs :=
  ⟨h.key.on ho (by omega), h.b.on ho (by omega), h.res.on ho (by omega), h.fn.on ho (by omega), ho.below h.k (by omega)⟩
end

set_option maxHeartbeats 1000000 in
set_option maxRecDepth 100000 in
theorem block_any (ws bs : List B) (hw : ws.length = 240) (hb : bs.length = 16) (w : World) :
    Calls Try.prog 38 #[.agg (bys ws).toArray, .agg (bys bs).toArray] w fun e w' => e = .returned (.agg (bys (enc ws bs 14)).toArray) ∧ Below w.heap.size w w' := by
  obtain ⟨Z, hZ, hz3, hz7⟩ := zeroed37
  have hA16 : (addL bs (rk ws 0)).length = 16 := addL_length _ _ 16 hb (rk_length ws 0 hw (by omega))
  obtain ⟨fs, efs⟩ : ∃ fs, fs = [Value.func (Fn.func 49) #[] #[], Value.func (Fn.func 50) #[] #[], Value.func (Fn.func 51) #[] #[], Value.func (Fn.func 52) #[] #[]] := ⟨_, rfl⟩
  have hfl : fs.length = 4 := by rw [efs]; rfl
  have hB0 : Blk ((((w.alloc (.cells (bys ws).toArray 55)).alloc (.cells (bys bs).toArray 37)).alloc (.cells (bys Z).toArray 37)).alloc (.cells [Value.nilFunc, Value.nilFunc, Value.nilFunc, Value.nilFunc].toArray 86)) w.heap.size 55 (bys ws) := (((Blk.new w 55 (bys ws)).alloc _).alloc _).alloc _
  have hB1 : Blk ((((w.alloc (.cells (bys ws).toArray 55)).alloc (.cells (bys bs).toArray 37)).alloc (.cells (bys Z).toArray 37)).alloc (.cells [Value.nilFunc, Value.nilFunc, Value.nilFunc, Value.nilFunc].toArray 86)) (w.heap.size + 1) 37 (bys bs) := by
    have h := ((Blk.new (w.alloc (.cells (bys ws).toArray 55)) 37 (bys bs)).alloc (.cells (bys Z).toArray 37)).alloc (.cells [Value.nilFunc, Value.nilFunc, Value.nilFunc, Value.nilFunc].toArray 86)
    rwa [World.size_alloc] at h
  have hB2 : Blk ((((w.alloc (.cells (bys ws).toArray 55)).alloc (.cells (bys bs).toArray 37)).alloc (.cells (bys Z).toArray 37)).alloc (.cells [Value.nilFunc, Value.nilFunc, Value.nilFunc, Value.nilFunc].toArray 86)) (w.heap.size + 1 + 1) 37 (bys Z) := by
    have h := (Blk.new ((w.alloc (.cells (bys ws).toArray 55)).alloc (.cells (bys bs).toArray 37)) 37 (bys Z)).alloc (.cells [Value.nilFunc, Value.nilFunc, Value.nilFunc, Value.nilFunc].toArray 86)
    rwa [World.size_alloc, World.size_alloc] at h
  have hB3 : Blk ((((w.alloc (.cells (bys ws).toArray 55)).alloc (.cells (bys bs).toArray 37)).alloc (.cells (bys Z).toArray 37)).alloc (.cells [Value.nilFunc, Value.nilFunc, Value.nilFunc, Value.nilFunc].toArray 86)) (w.heap.size + 1 + 1 + 1) 86 [Value.nilFunc, Value.nilFunc, Value.nilFunc, Value.nilFunc] := by
    have h := Blk.new (((w.alloc (.cells (bys ws).toArray 55)).alloc (.cells (bys bs).toArray 37)).alloc (.cells (bys Z).toArray 37)) 86 [Value.nilFunc, Value.nilFunc, Value.nilFunc, Value.nilFunc]
    rwa [World.size_alloc, World.size_alloc, World.size_alloc] at h
  have hbB : Below w.heap.size w ((((w.alloc (.cells (bys ws).toArray 55)).alloc (.cells (bys bs).toArray 37)).alloc (.cells (bys Z).toArray 37)).alloc (.cells [Value.nilFunc, Value.nilFunc, Value.nilFunc, Value.nilFunc].toArray 86)) :=
    ((((Below.refl _ w).alloc (Nat.le_refl _) _).alloc (by simp) _).alloc (by simp; omega) _).alloc (by simp; omega) _
  have hone : fs.toArray.all (·.oneCell') = true := by rw [efs]; simp [Value.oneCell']
  have H0 : Hid (enc ws bs 0 = addL bs (rk ws 0)) := rfl
  have HE : Hid (∀ n, enc ws bs (n + 1) = addL (mixR (isL (n + 1)) (turnL ((enc ws bs n).map sb))) (rk ws (n + 1))) := fun n => rfl
  have HL : Hid (∀ n, n ≤ 14 → (enc ws bs n).length = 16) := enc_length ws bs hw hb
  obtain ⟨en, een⟩ : ∃ en, en = enc ws bs := ⟨_, rfl⟩
  rw [← een] at H0 HE HL ⊢
  clear een
  go_enter Try.func38, Try.ntmps38
  go_wp2_with (refine law_store rfl 86 _ _ rfl _ fs rfl (by rw [efs]; rfl) 86 _ hB3 (by rw [hfl]; rfl) (by rw [hfl]; kernel_rfl) hone ?_; intro WW hoF hAF)
  have hSS : BkS w WW ws bs Z fs := ⟨hB0.on hoF (by omega), hB1.on hoF (by omega), hB2.on hoF (by omega), hAF, hoF.below hbB (by omega)⟩
  have HF : Hid (fs = [Value.func (Fn.func 49) #[] #[], Value.func (Fn.func 50) #[] #[], Value.func (Fn.func 51) #[] #[], Value.func (Fn.func 52) #[] #[]]) := efs
  clear hB0 hB1 hB2 hB3 hbB hoF hAF hone efs
  simp only [Act.put]
  go_cut [6] from 12 to 15 (fun p wc => ∃ g, p = .pointer (some ⟨g, 0, none⟩) ∧ Blk wc g 85 (bys (addL bs (rk ws 0))) ∧ BkS w wc ws bs Z fs ∧ w.heap.size + 1 + 1 + 1 < g)
  case first =>
    refine wp_region_to (fun v => BkS w v ws bs Z fs) 5 (by kernel_rfl) ?_
    have hS0 := hSS.drew
    refine wpTo_take (i := 0) (show _ = some _ by simp only [List.getElem?_toArray, List.getElem?_cons_zero]; exact rfl) (by kernel_rfl) (by kernel_rfl) (by kernel_rfl) (by kernel_rfl) (by exact fun _ _ _ h => h) (yieldsIf_load_mid (by rfl) 37 (.tmp 3) rfl (w.heap.size + 1) 0 rfl (bys bs) _ (fun v h => (BkS.b h).whole) Try.underlying37 rfl (by rw [bys_length, hb]; kernel_rfl)) hS0 ?_
    (try simp only [Act.put]); (try simp only [List.setIfInBounds_toArray]); (repeat (first | simp only [List.set_cons_succ] | simp only [List.set_cons_zero]))
    refine wpTo_take (i := 1) (show _ = some _ by simp only [List.getElem?_toArray, List.getElem?_cons_succ, List.getElem?_cons_zero]; exact rfl) (by kernel_rfl) (by kernel_rfl) (by kernel_rfl) (by kernel_rfl) (by exact fun _ _ _ h => h) (yieldsIf_load_mid (by rfl) 55 (.tmp 2) rfl w.heap.size 0 rfl (bys ws) _ (fun v h => (BkS.key h).whole) Try.underlying55 rfl (by rw [bys_length, hw]; kernel_rfl)) hS0 ?_
    (try simp only [Act.put]); (try simp only [List.setIfInBounds_toArray]); (repeat (first | simp only [List.set_cons_succ] | simp only [List.set_cons_zero]))
    refine wpTo_two (i := 2) (j := 4) (by kernel_rfl) (show _ = some _ by simp only [List.getElem?_toArray, List.getElem?_cons_succ, List.getElem?_cons_zero]; exact rfl) (show _ = some _ by simp only [List.getElem?_toArray, List.getElem?_cons_succ, List.getElem?_cons_zero]; exact rfl) (fun K hK => ?_) (fun K hK => ?_)
    · go_simp
      go_at_call 53; refine (round_any ws hw 0 (by omega) _ rfl _).mono ?_; rintro e v1 ⟨rfl, h1⟩
      (try simp only [])
      refine hK.out _ _ (BkS.call hS0 h1) (fun hS1 => ?_)
      clear hK K
      (try simp only [Act.put]); (try simp only [List.setIfInBounds_toArray]); (repeat (first | simp only [List.set_cons_succ] | simp only [List.set_cons_zero]))
      refine wpTo_two (i := 3) (j := 4) (by kernel_rfl) (show _ = some _ by simp only [List.getElem?_toArray, List.getElem?_cons_succ, List.getElem?_cons_zero]; exact rfl) (show _ = some _ by simp only [List.getElem?_toArray, List.getElem?_cons_succ, List.getElem?_cons_zero]; exact rfl) (fun K hK => ?_) (fun K hK => ?_)
      · go_simp
        go_at_call 52; refine (keyed_any bs (rk ws 0) _ hb (rk_length ws 0 hw (by omega)) _).mono ?_; rintro e v2 ⟨rfl, h2⟩
        (try simp only [])
        refine hK.out _ _ (BkS.call hS1 h2) (fun hS2 => ?_)
        clear hK K
        (try simp only [Act.put]); (try simp only [List.setIfInBounds_toArray]); (repeat (first | simp only [List.set_cons_succ] | simp only [List.set_cons_zero]))
        refine wpTo_one (i := 4) (by kernel_rfl) (show _ = some _ by simp only [List.getElem?_toArray, List.getElem?_cons_succ, List.getElem?_cons_zero]; exact rfl) (fun K hK => ?_)
        go_simp
        refine hK.out _ _ (BkS.alloc hS2 _) (fun hS3 => ?_)
        clear hK K
        (try simp only [Act.put]); (try simp only [List.setIfInBounds_toArray]); (repeat (first | simp only [List.set_cons_succ] | simp only [List.set_cons_zero]))
        have hO := Blk.new v2 85 (bys Z)
        refine wpTo_last (by kernel_rfl) (show _ = some _ by simp only [List.getElem?_toArray, List.getElem?_cons_succ, List.getElem?_cons_zero]; exact rfl) (by kernel_rfl) (fun K hK => ?_)
        rw [if_pos (by rfl)]
        refine wp_store_row 85 (.tmp 6) (.tmp 15) rfl v2.heap.size (bys (addL bs (rk ws 0))).toArray rfl rfl 85 _ hO (by rw [List.size_toArray, bys_length, hA16]; kernel_rfl) (by rw [List.size_toArray, List.size_toArray, bys_length, bys_length, hA16, hZ]) (bys_one _) ?_
        refine hK.out _ _ ?_
        clear hK K
        (try simp only [Act.put]); (try simp only [List.setIfInBounds_toArray]); (repeat (first | simp only [List.set_cons_succ] | simp only [List.set_cons_zero]))
        have hoF := On.setRow (v2.alloc (.cells (bys Z).toArray 85)) v2.heap.size (bys (addL bs (rk ws 0))).toArray
        have hAF := setRow_heap (v2.alloc (.cells (bys Z).toArray 85)) v2.heap.size _ (bys (addL bs (rk ws 0))).toArray 85 _ hO
        go_wp2_with fail
        go_meet
        case rel => exact ⟨_, rfl, hAF, hS3.on hoF hS2.lt, hS2.lt⟩
      · go_simp
        refine hK.out _ _ (BkS.alloc hS1 _) (fun hS2 => ?_)
        clear hK K
        (try simp only [Act.put]); (try simp only [List.setIfInBounds_toArray]); (repeat (first | simp only [List.set_cons_succ] | simp only [List.set_cons_zero]))
        have hO1 := Blk.new v1 85 (bys Z)
        refine wpTo_one (i := 3) (by kernel_rfl) (show _ = some _ by simp only [List.getElem?_toArray, List.getElem?_cons_succ, List.getElem?_cons_zero]; exact rfl) (fun K hK => ?_)
        go_simp
        go_at_call 52; refine (keyed_any bs (rk ws 0) _ hb (rk_length ws 0 hw (by omega)) _).mono ?_; rintro e v2 ⟨rfl, h2⟩
        (try simp only [])
        refine hK.out _ _ (BkS.call hS2 h2) (fun hS3 => ?_)
        clear hK K
        (try simp only [Act.put]); (try simp only [List.setIfInBounds_toArray]); (repeat (first | simp only [List.set_cons_succ] | simp only [List.set_cons_zero]))
        have hO := hO1.next h2
        refine wpTo_last (by kernel_rfl) (show _ = some _ by simp only [List.getElem?_toArray, List.getElem?_cons_succ, List.getElem?_cons_zero]; exact rfl) (by kernel_rfl) (fun K hK => ?_)
        rw [if_pos (by rfl)]
        refine wp_store_row 85 (.tmp 6) (.tmp 15) rfl v1.heap.size (bys (addL bs (rk ws 0))).toArray rfl rfl 85 _ hO (by rw [List.size_toArray, bys_length, hA16]; kernel_rfl) (by rw [List.size_toArray, List.size_toArray, bys_length, bys_length, hA16, hZ]) (bys_one _) ?_
        refine hK.out _ _ ?_
        clear hK K
        (try simp only [Act.put]); (try simp only [List.setIfInBounds_toArray]); (repeat (first | simp only [List.set_cons_succ] | simp only [List.set_cons_zero]))
        have hoF := On.setRow v2 v1.heap.size (bys (addL bs (rk ws 0))).toArray
        have hAF := setRow_heap v2 v1.heap.size _ (bys (addL bs (rk ws 0))).toArray 85 _ hO
        go_wp2_with fail
        go_meet
        case rel => exact ⟨_, rfl, hAF, hS3.on hoF hS1.lt, hS1.lt⟩
    · go_simp
      refine hK.out _ _ (BkS.alloc hS0 _) (fun hS1 => ?_)
      clear hK K
      (try simp only [Act.put]); (try simp only [List.setIfInBounds_toArray]); (repeat (first | simp only [List.set_cons_succ] | simp only [List.set_cons_zero]))
      have hO0 := Blk.new WW.drew 85 (bys Z)
      refine wpTo_one (i := 2) (by kernel_rfl) (show _ = some _ by simp only [List.getElem?_toArray, List.getElem?_cons_succ, List.getElem?_cons_zero]; exact rfl) (fun K hK => ?_)
      go_simp
      go_at_call 53; refine (round_any ws hw 0 (by omega) _ rfl _).mono ?_; rintro e v1 ⟨rfl, h1⟩
      (try simp only [])
      refine hK.out _ _ (BkS.call hS1 h1) (fun hS2 => ?_)
      clear hK K
      (try simp only [Act.put]); (try simp only [List.setIfInBounds_toArray]); (repeat (first | simp only [List.set_cons_succ] | simp only [List.set_cons_zero]))
      have hO1 := hO0.next h1
      refine wpTo_one (i := 3) (by kernel_rfl) (show _ = some _ by simp only [List.getElem?_toArray, List.getElem?_cons_succ, List.getElem?_cons_zero]; exact rfl) (fun K hK => ?_)
      go_simp
      go_at_call 52; refine (keyed_any bs (rk ws 0) _ hb (rk_length ws 0 hw (by omega)) _).mono ?_; rintro e v2 ⟨rfl, h2⟩
      (try simp only [])
      refine hK.out _ _ (BkS.call hS2 h2) (fun hS3 => ?_)
      clear hK K
      (try simp only [Act.put]); (try simp only [List.setIfInBounds_toArray]); (repeat (first | simp only [List.set_cons_succ] | simp only [List.set_cons_zero]))
      have hO := hO1.next h2
      refine wpTo_last (by kernel_rfl) (show _ = some _ by simp only [List.getElem?_toArray, List.getElem?_cons_succ, List.getElem?_cons_zero]; exact rfl) (by kernel_rfl) (fun K hK => ?_)
      rw [if_pos (by rfl)]
      refine wp_store_row 85 (.tmp 6) (.tmp 15) rfl WW.heap.size (bys (addL bs (rk ws 0))).toArray rfl rfl 85 _ hO (by rw [List.size_toArray, bys_length, hA16]; kernel_rfl) (by rw [List.size_toArray, List.size_toArray, bys_length, bys_length, hA16, hZ]) (bys_one _) ?_
      refine hK.out _ _ ?_
      clear hK K
      (try simp only [Act.put]); (try simp only [List.setIfInBounds_toArray]); (repeat (first | simp only [List.set_cons_succ] | simp only [List.set_cons_zero]))
      have hoF := On.setRow v2 WW.heap.size (bys (addL bs (rk ws 0))).toArray
      have hAF := setRow_heap v2 WW.heap.size _ (bys (addL bs (rk ws 0))).toArray 85 _ hO
      go_wp2_with fail
      go_meet
      case rel => exact ⟨_, rfl, hAF, hS3.on hoF hSS.lt, hSS.lt⟩
  case rest =>
    clear hSS
    obtain ⟨g, rfl, hA, hS, hg⟩ := hcut
    have hA0 : Blk wc g 85 (bys (en 0)) := by rw [H0.out]; exact hA
    clear hA
    go_wp2_with fail
    go_loopw [7] (fun i wr => ∃ n : Nat, n ≤ 14 ∧ i = .int .i64 ((n : Int) + 1) ∧ Blk wr g 85 (bys (en n)) ∧ BkS w wr ws bs Z fs) (fun i _ => 16 - (intOf i).toNat)
    case atStart => exact ⟨0, by omega, rfl, hA0, hS⟩
    case round =>
      clear hA0 hS
      obtain ⟨n, hn, rfl, hA, hS⟩ := hrel
      by_cases hlt : n < 14
      · have hn0 : (0 : Int) ≤ n := by omega
        have hn1 : (n : Int) + 1 ≤ 14 := by omega
        have hrl := rk_length ws (n + 1) hw (by omega)
        have hcr : ∀ W : World, _ := fun W => round_any ws hw (n + 1) (by omega) ((n : Int) + 1) (by omega) W
        have hen := HL.out n (by omega)
        have HN : Hid (en (n + 1) = addL (mixR (isL (n + 1)) (turnL ((en n).map sb))) (rk ws (n + 1))) := HE.out n
        have hil : Hid (((n : Int) + 1 == 14) = isL (n + 1)) := by unfold isL; show _ = _; congr 1
        rw [hil.out] at hcr
        obtain ⟨ks, eks⟩ : ∃ ks, ks = rk ws (n + 1) := ⟨_, rfl⟩
        obtain ⟨lb, elb⟩ : ∃ lb, lb = isL (n + 1) := ⟨_, rfl⟩
        obtain ⟨st, est⟩ : ∃ st, st = en n := ⟨_, rfl⟩
        rw [← eks] at hrl hcr HN
        rw [← elb] at hcr HN
        rw [← est] at hA hen HN
        clear hil elb eks est
        obtain ⟨zr, hzl, hz5⟩ : ∃ zr : List Value, zr.length = 17 ∧ ∀ W : World, (zeroValue 88).run Try.prog W = .ok (.agg zr.toArray) W := by obtain ⟨Z', h1, h2⟩ := zeroed88; exact ⟨_, by rw [rnd_length, h1], h2⟩
        go_wp2_with (first
          | (refine law_load rfl 55 _ rfl _ rfl 55 _ hS.key _ Try.underlying55 rfl (by rw [bys_length, hw]; kernel_rfl) ?_)
          | (go_at_call 53; refine (hcr _).mono ?_; rintro e w1 ⟨rfl, h1⟩)
          | (refine law_store rfl 88 _ _ rfl _ (rnd ks lb) rfl rfl 88 _ (Blk.new w1 88 zr) (by rw [rnd_length, hrl, hzl]) (by rw [rnd_length, hrl]; kernel_rfl) (rnd_one _ _) ?_; intro w2 ho2 hR)
          | (refine law_load rfl 86 _ rfl _ rfl 86 _ (BkS.fn (((hS.call h1).alloc _).on ho2 (hS.call h1).lt)) _ Try.underlying86 rfl (by rw [hfl]; kernel_rfl) ?_))
        have hS2 := ((hS.call h1).alloc (.cells zr.toArray 88)).on ho2 (hS.call h1).lt
        have hgw : g < w1.heap.size := (hA.next h1).lt
        have hA2 := ((hA.next h1).alloc (.cells zr.toArray 88)).on ho2 (by omega)
        obtain ⟨gr, egr⟩ : ∃ gr, gr = w1.heap.size := ⟨_, rfl⟩
        rw [← egr] at hR hgw ⊢
        clear hS hA h1 ho2 egr hcr hz5
        have T0 : stp ks lb st 0 = st := rfl
        have T4 : Hid (stp ks lb st 4 = en (n + 1)) := HN.out.symm
        have HT : Hid (∀ j, j ≤ 4 → (stp ks lb st j).length = 16) := stp_length ks lb st hen hrl
        go_loopw [24] (fun i wr => ∃ j : Nat, j ≤ 4 ∧ i = .int .i64 j ∧ Blk wr g 85 (bys (stp ks lb st j)) ∧ BkS w wr ws bs Z fs ∧ Blk wr gr 88 (rnd ks lb)) (fun i _ => 4 - (intOf i).toNat)
        case atStart => exact ⟨0, by omega, rfl, hA2, hS2, hR⟩
        case round =>
          clear hA2 hS2 hR T0
          obtain ⟨j, hj, rfl, hA, hS, hR⟩ := hrel
          by_cases hj4 : j < 4
          · have hX := HT.out j (by omega)
            have hY := HT.out (j + 1) (by omega)
            have hj5 : j = 0 ∨ j = 1 ∨ j = 2 ∨ j = 3 := by omega
            rcases hj5 with hj0 | hj0 | hj0 | hj0
            · have hx : ∀ W : World, (Instr.index 86 (.agg fs.toArray) (.int .i64 (j : Int))).run Try.prog W = .ok (Value.func (Fn.func 49) #[] #[]) W := by rw [hj0, HF.out]; intro W; kernel_rfl
              have hcl : ∀ W : World, Calls Try.prog 49 #[.agg (bys (stp ks lb st j)).toArray, .agg (rnd ks lb).toArray] W fun e w' => e = .returned (.agg (bys (stp ks lb st (j + 1))).toArray) ∧ Below W.heap.size W w' := by rw [hj0]; exact fun W => subbed_any st hen _ W
              obtain ⟨X, eX⟩ : ∃ X, X = stp ks lb st j := ⟨_, rfl⟩
              obtain ⟨Y, eY⟩ : ∃ Y, Y = stp ks lb st (j + 1) := ⟨_, rfl⟩
              rw [← eX] at hX hcl hA
              rw [← eY] at hY hcl
              have EY : Hid (Y = stp ks lb st (j + 1)) := eY
              clear eX eY hj0
              go_wp2_with (first
                | (refine law_load rfl 85 _ rfl _ rfl 85 _ hA _ Try.underlying85 rfl (by rw [bys_length, hX]; kernel_rfl) ?_)
                | (refine law_load rfl 88 _ rfl _ rfl 88 _ hR _ Try.underlying88 rfl (by rw [rnd_length, hrl]; kernel_rfl) ?_)
                | (go_at_call 49; refine (hcl _).mono ?_; rintro e w3 ⟨rfl, h3⟩)
                | (refine law_store rfl 85 _ _ rfl _ (bys Y) rfl rfl 85 _ (hA.next h3) (by rw [bys_length, bys_length, hX, hY]) (by rw [bys_length, hY]; kernel_rfl) (bys_one Y) ?_; intro w4 ho4 hA4))
              refine ⟨⟨j + 1, by omega, by go_num, ?_, (hS.call h3).on ho4 hg, (hR.next h3).on ho4 (by omega)⟩, by simp [intOf]; omega⟩
              rw [← EY.out]
              exact hA4
            · have hx : ∀ W : World, (Instr.index 86 (.agg fs.toArray) (.int .i64 (j : Int))).run Try.prog W = .ok (Value.func (Fn.func 50) #[] #[]) W := by rw [hj0, HF.out]; intro W; kernel_rfl
              have hcl : ∀ W : World, Calls Try.prog 50 #[.agg (bys (stp ks lb st j)).toArray, .agg (rnd ks lb).toArray] W fun e w' => e = .returned (.agg (bys (stp ks lb st (j + 1))).toArray) ∧ Below W.heap.size W w' := by rw [hj0]; exact fun W => turned_any (st.map sb) (by rw [List.length_map, hen]) _ W
              obtain ⟨X, eX⟩ : ∃ X, X = stp ks lb st j := ⟨_, rfl⟩
              obtain ⟨Y, eY⟩ : ∃ Y, Y = stp ks lb st (j + 1) := ⟨_, rfl⟩
              rw [← eX] at hX hcl hA
              rw [← eY] at hY hcl
              have EY : Hid (Y = stp ks lb st (j + 1)) := eY
              clear eX eY hj0
              go_wp2_with (first
                | (refine law_load rfl 85 _ rfl _ rfl 85 _ hA _ Try.underlying85 rfl (by rw [bys_length, hX]; kernel_rfl) ?_)
                | (refine law_load rfl 88 _ rfl _ rfl 88 _ hR _ Try.underlying88 rfl (by rw [rnd_length, hrl]; kernel_rfl) ?_)
                | (go_at_call 50; refine (hcl _).mono ?_; rintro e w3 ⟨rfl, h3⟩)
                | (refine law_store rfl 85 _ _ rfl _ (bys Y) rfl rfl 85 _ (hA.next h3) (by rw [bys_length, bys_length, hX, hY]) (by rw [bys_length, hY]; kernel_rfl) (bys_one Y) ?_; intro w4 ho4 hA4))
              refine ⟨⟨j + 1, by omega, by go_num, ?_, (hS.call h3).on ho4 hg, (hR.next h3).on ho4 (by omega)⟩, by simp [intOf]; omega⟩
              rw [← EY.out]
              exact hA4
            · have hx : ∀ W : World, (Instr.index 86 (.agg fs.toArray) (.int .i64 (j : Int))).run Try.prog W = .ok (Value.func (Fn.func 51) #[] #[]) W := by rw [hj0, HF.out]; intro W; kernel_rfl
              have hcl : ∀ W : World, Calls Try.prog 51 #[.agg (bys (stp ks lb st j)).toArray, .agg (rnd ks lb).toArray] W fun e w' => e = .returned (.agg (bys (stp ks lb st (j + 1))).toArray) ∧ Below W.heap.size W w' := by rw [hj0]; exact fun W => mixed_any (turnL (st.map sb)) ks lb (turnL_length _) hrl W
              obtain ⟨X, eX⟩ : ∃ X, X = stp ks lb st j := ⟨_, rfl⟩
              obtain ⟨Y, eY⟩ : ∃ Y, Y = stp ks lb st (j + 1) := ⟨_, rfl⟩
              rw [← eX] at hX hcl hA
              rw [← eY] at hY hcl
              have EY : Hid (Y = stp ks lb st (j + 1)) := eY
              clear eX eY hj0
              go_wp2_with (first
                | (refine law_load rfl 85 _ rfl _ rfl 85 _ hA _ Try.underlying85 rfl (by rw [bys_length, hX]; kernel_rfl) ?_)
                | (refine law_load rfl 88 _ rfl _ rfl 88 _ hR _ Try.underlying88 rfl (by rw [rnd_length, hrl]; kernel_rfl) ?_)
                | (go_at_call 51; refine (hcl _).mono ?_; rintro e w3 ⟨rfl, h3⟩)
                | (refine law_store rfl 85 _ _ rfl _ (bys Y) rfl rfl 85 _ (hA.next h3) (by rw [bys_length, bys_length, hX, hY]) (by rw [bys_length, hY]; kernel_rfl) (bys_one Y) ?_; intro w4 ho4 hA4))
              refine ⟨⟨j + 1, by omega, by go_num, ?_, (hS.call h3).on ho4 hg, (hR.next h3).on ho4 (by omega)⟩, by simp [intOf]; omega⟩
              rw [← EY.out]
              exact hA4
            · have hx : ∀ W : World, (Instr.index 86 (.agg fs.toArray) (.int .i64 (j : Int))).run Try.prog W = .ok (Value.func (Fn.func 52) #[] #[]) W := by rw [hj0, HF.out]; intro W; kernel_rfl
              have hcl : ∀ W : World, Calls Try.prog 52 #[.agg (bys (stp ks lb st j)).toArray, .agg (rnd ks lb).toArray] W fun e w' => e = .returned (.agg (bys (stp ks lb st (j + 1))).toArray) ∧ Below W.heap.size W w' := by rw [hj0]; exact fun W => keyed_any (mixR lb (turnL (st.map sb))) ks lb (mixR_length _ _ (turnL_length _)) hrl W
              obtain ⟨X, eX⟩ : ∃ X, X = stp ks lb st j := ⟨_, rfl⟩
              obtain ⟨Y, eY⟩ : ∃ Y, Y = stp ks lb st (j + 1) := ⟨_, rfl⟩
              rw [← eX] at hX hcl hA
              rw [← eY] at hY hcl
              have EY : Hid (Y = stp ks lb st (j + 1)) := eY
              clear eX eY hj0
              go_wp2_with (first
                | (refine law_load rfl 85 _ rfl _ rfl 85 _ hA _ Try.underlying85 rfl (by rw [bys_length, hX]; kernel_rfl) ?_)
                | (refine law_load rfl 88 _ rfl _ rfl 88 _ hR _ Try.underlying88 rfl (by rw [rnd_length, hrl]; kernel_rfl) ?_)
                | (go_at_call 52; refine (hcl _).mono ?_; rintro e w3 ⟨rfl, h3⟩)
                | (refine law_store rfl 85 _ _ rfl _ (bys Y) rfl rfl 85 _ (hA.next h3) (by rw [bys_length, bys_length, hX, hY]) (by rw [bys_length, hY]; kernel_rfl) (bys_one Y) ?_; intro w4 ho4 hA4))
              refine ⟨⟨j + 1, by omega, by go_num, ?_, (hS.call h3).on ho4 hg, (hR.next h3).on ho4 (by omega)⟩, by simp [intOf]; omega⟩
              rw [← EY.out]
              exact hA4
          · have hjj : j = 4 := by omega
            subst hjj
            rw [T4.out] at hA
            go_wp2
            refine ⟨⟨n + 1, by omega, by go_num, hA, hS⟩, by simp [intOf]; omega⟩
      · have hn14 : n = 14 := by omega
        subst hn14
        have h16 := HL.out 14 (by omega)
        go_wp2_with (first
          | (refine law_load rfl 85 _ rfl _ rfl 85 _ hA _ Try.underlying85 rfl (by rw [bys_length, h16]; kernel_rfl) ?_)
          | (refine law_store rfl 37 _ _ rfl _ (bys (en 14)) rfl rfl 37 _ hS.res (by rw [bys_length, bys_length, h16, hZ]) (by rw [bys_length, h16]; kernel_rfl) (bys_one _) ?_; intro wF hoF hAF))
        refine bodyPost_ret (v := .agg (bys (en 14)).toArray) (results_cell_row rfl _ _ (w.heap.size + 1 + 1) 37 _ _ _ rfl hAF Try.underlying37 rfl (by rw [List.size_toArray, bys_length, h16]; kernel_rfl)) rfl ⟨rfl, hoF.below hS.k (by omega)⟩
end Go.Proofs.Ytjhkicfndbceoaa
