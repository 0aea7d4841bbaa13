/- A block deciphered. -/
import Derived.Test.YtkiljjlklelbbaaBlock
namespace Go.Proofs.Ytkiljjlklelbbaa
open Go.RowKit

/-- A round undone, when j of its steps are. -/
def stq (ks : List B) (last : Bool) (st : List B) : Nat → List B
  | 0 => st
  | 1 => addL st ks
  | 2 => mixR last (mixR last (mixR last (addL st ks)))
  | 3 => unturnL (mixR last (mixR last (mixR last (addL st ks))))
  | _ => (unturnL (mixR last (mixR last (mixR last (addL st ks))))).map us
theorem stq_length (ks : List B) (last : Bool) (st : List B) (hs : st.length = 16) (hk : ks.length = 16) : ∀ j, j ≤ 4 → (stq ks last st j).length = 16
  | 0, _ => hs
  | 1, _ => addL_length _ _ 16 hs hk
  | 2, _ => mixR_length _ _ (mixR_length _ _ (mixR_length _ _ (addL_length _ _ 16 hs hk)))
  | 3, _ => unturnL_length _
  | 4, _ => (List.length_map _).trans (unturnL_length _)

set_option maxHeartbeats 1000000 in
set_option maxRecDepth 100000 in
theorem back_any (ws bs : List B) (hw : ws.length = 240) (hb : bs.length = 16) (w : World) :
    Calls Try.prog 12 #[.agg (bys ws).toArray, .agg (bys bs).toArray] w fun e w' => e = .returned (.agg (bys (dec ws 14 bs)).toArray) ∧ Below w.heap.size w w' := by
  obtain ⟨Z, hZ, hz3, hz7⟩ := zeroed23
  obtain ⟨fs, efs⟩ : ∃ fs, fs = [Value.func (Fn.func 22) #[] #[], Value.func (Fn.func 26) #[] #[], Value.func (Fn.func 27) #[] #[], Value.func (Fn.func 28) #[] #[]] := ⟨_, rfl⟩
  have hfl : fs.length = 4 := by rw [efs]; rfl
  have hB0 : Blk ((((w.alloc (.cells (bys ws).toArray 28)).alloc (.cells (bys bs).toArray 23)).alloc (.cells (bys Z).toArray 23)).alloc (.cells [Value.nilFunc, Value.nilFunc, Value.nilFunc, Value.nilFunc].toArray 48)) w.heap.size 28 (bys ws) := (((Blk.new w 28 (bys ws)).alloc _).alloc _).alloc _
  have hB1 : Blk ((((w.alloc (.cells (bys ws).toArray 28)).alloc (.cells (bys bs).toArray 23)).alloc (.cells (bys Z).toArray 23)).alloc (.cells [Value.nilFunc, Value.nilFunc, Value.nilFunc, Value.nilFunc].toArray 48)) (w.heap.size + 1) 23 (bys bs) := by
    have h := ((Blk.new (w.alloc (.cells (bys ws).toArray 28)) 23 (bys bs)).alloc (.cells (bys Z).toArray 23)).alloc (.cells [Value.nilFunc, Value.nilFunc, Value.nilFunc, Value.nilFunc].toArray 48)
    rwa [World.size_alloc] at h
  have hB2 : Blk ((((w.alloc (.cells (bys ws).toArray 28)).alloc (.cells (bys bs).toArray 23)).alloc (.cells (bys Z).toArray 23)).alloc (.cells [Value.nilFunc, Value.nilFunc, Value.nilFunc, Value.nilFunc].toArray 48)) (w.heap.size + 1 + 1) 23 (bys Z) := by
    have h := (Blk.new ((w.alloc (.cells (bys ws).toArray 28)).alloc (.cells (bys bs).toArray 23)) 23 (bys Z)).alloc (.cells [Value.nilFunc, Value.nilFunc, Value.nilFunc, Value.nilFunc].toArray 48)
    rwa [World.size_alloc, World.size_alloc] at h
  have hB3 : Blk ((((w.alloc (.cells (bys ws).toArray 28)).alloc (.cells (bys bs).toArray 23)).alloc (.cells (bys Z).toArray 23)).alloc (.cells [Value.nilFunc, Value.nilFunc, Value.nilFunc, Value.nilFunc].toArray 48)) (w.heap.size + 1 + 1 + 1) 48 [Value.nilFunc, Value.nilFunc, Value.nilFunc, Value.nilFunc] := by
    have h := Blk.new (((w.alloc (.cells (bys ws).toArray 28)).alloc (.cells (bys bs).toArray 23)).alloc (.cells (bys Z).toArray 23)) 48 [Value.nilFunc, Value.nilFunc, Value.nilFunc, Value.nilFunc]
    rwa [World.size_alloc, World.size_alloc, World.size_alloc] at h
  have hbB : Below w.heap.size w ((((w.alloc (.cells (bys ws).toArray 28)).alloc (.cells (bys bs).toArray 23)).alloc (.cells (bys Z).toArray 23)).alloc (.cells [Value.nilFunc, Value.nilFunc, Value.nilFunc, Value.nilFunc].toArray 48)) :=
    ((((Below.refl _ w).alloc (Nat.le_refl _) _).alloc (by simp) _).alloc (by simp; omega) _).alloc (by simp; omega) _
  have hone : fs.toArray.all (·.oneCell') = true := by rw [efs]; simp [Value.oneCell']
  have H0 : Hid (∀ st, dec ws 0 st = addL st (rk ws 0)) := fun st => rfl
  have HE : Hid (∀ n st, dec ws (n + 1) st = dec ws n (stq (rk ws (n + 1)) (isL (n + 1)) st 4)) := fun n st => rfl
  obtain ⟨de, ede⟩ : ∃ de, de = dec ws := ⟨_, rfl⟩
  rw [← ede] at H0 HE ⊢
  clear ede
  obtain ⟨D, eD⟩ : ∃ D, D = de 14 bs := ⟨_, rfl⟩
  have HD : Hid (de 14 bs = D) := eD.symm
  rw [← eD]
  clear eD
  go_enter Try.func12, Try.ntmps12
  go_wp2_with (first
    | (refine law_store rfl 48 _ _ rfl _ fs rfl (by rw [efs]; rfl) 48 _ hB3 (by rw [hfl]; rfl) (by rw [hfl]; kernel_rfl) hone ?_; intro WW hoF hAF)
    | (refine law_load rfl 23 _ rfl _ rfl 23 _ (hB1.on hoF (by omega)) _ Try.underlying23 rfl (by rw [bys_length, hb]; kernel_rfl) ?_)
    | (refine law_store rfl 47 _ _ rfl _ (bys bs) rfl rfl 47 _ (Blk.new WW 47 (bys Z)) (by rw [bys_length, bys_length, hb, hZ]) (by rw [bys_length, hb]; kernel_rfl) (bys_one bs) ?_; intro w5 ho5 hA5))
  have hSS : BkS w WW ws bs Z fs := ⟨hB0.on hoF (by omega), hB1.on hoF (by omega), hB2.on hoF (by omega), hAF, hoF.below hbB (by omega)⟩
  have hS := (hSS.alloc (.cells (bys Z).toArray 47)).on ho5 hSS.lt
  have hg := hSS.lt
  have HF : Hid (fs = [Value.func (Fn.func 22) #[] #[], Value.func (Fn.func 26) #[] #[], Value.func (Fn.func 27) #[] #[], Value.func (Fn.func 28) #[] #[]]) := efs
  obtain ⟨g, eg⟩ : ∃ g, g = WW.heap.size := ⟨_, rfl⟩
  rw [← eg] at hg hA5 ⊢
  clear hB0 hB1 hB2 hB3 hbB hoF hAF hone efs hSS ho5 eg
  go_loopw [7] (fun i wr => ∃ n : Nat, n ≤ 14 ∧ i = .int .i64 (n : Int) ∧ ∃ st : List B, st.length = 16 ∧ Blk wr g 47 (bys st) ∧ BkS w wr ws bs Z fs ∧ Hid (de n st = D)) (fun i _ => (intOf i).toNat)
  case atStart => exact ⟨14, by omega, rfl, bs, hb, hA5, hS, HD⟩
  case round =>
    clear hA5 hS HD
    obtain ⟨n, hn, rfl, st, hst, hA, hS, HD⟩ := hrel
    by_cases hlt : 0 < n
    · obtain ⟨m, rfl⟩ : ∃ m, n = m + 1 := ⟨n - 1, by omega⟩
      have hn0 : (0 : Int) < ((m + 1 : Nat) : Int) := by omega
      have hn1 : ((m + 1 : Nat) : Int) ≤ 14 := by omega
      have hrl := rk_length ws (m + 1) hw (by omega)
      have hcr : ∀ W : World, _ := fun W => round_any ws hw (m + 1) (by omega) ((m + 1 : Nat) : Int) rfl W
      have HN : Hid (de (m + 1) st = de m (stq (rk ws (m + 1)) (isL (m + 1)) st 4)) := HE.out m st
      have hil : Hid ((((m + 1 : Nat) : Int) == 14) = isL (m + 1)) := rfl
      rw [hil.out] at hcr
      obtain ⟨ks, eks⟩ : ∃ ks, ks = rk ws (m + 1) := ⟨_, rfl⟩
      obtain ⟨lb, elb⟩ : ∃ lb, lb = isL (m + 1) := ⟨_, rfl⟩
      rw [← eks] at hrl hcr HN
      rw [← elb] at hcr HN
      have HNN : Hid (de m (stq ks lb st 4) = D) := HN.out.symm.trans HD.out
      have em : Hid (((m + 1 : Nat) : Int) - 1 = (m : Int)) := by show _ = _; omega
      obtain ⟨N, eN⟩ : ∃ N : Int, N = ((m + 1 : Nat) : Int) := ⟨_, rfl⟩
      rw [← eN] at hn0 hn1 hcr em
      simp only [← eN]
      have hNt : N.toNat = m + 1 := by rw [eN]; rfl
      clear hil elb eks HN HD eN
      obtain ⟨zr, hzl, hz5⟩ : ∃ zr : List Value, zr.length = 17 ∧ ∀ W : World, (zeroValue 50).run Try.prog W = .ok (.agg zr.toArray) W := by obtain ⟨Z', h1, h2⟩ := zeroed50; exact ⟨_, by rw [rnd_length, h1], h2⟩
      go_wp2_with (first
        | (refine law_load rfl 28 _ rfl _ rfl 28 _ hS.key _ Try.underlying28 rfl (by rw [bys_length, hw]; kernel_rfl) ?_)
        | (go_at_call 23; refine (hcr _).mono ?_; rintro e w1 ⟨rfl, h1⟩)
        | (refine law_store rfl 50 _ _ rfl _ (rnd ks lb) rfl rfl 50 _ (Blk.new w1 50 zr) (by rw [rnd_length, hrl, hzl]) (by rw [rnd_length, hrl]; kernel_rfl) (rnd_one _ _) ?_; intro w2 ho2 hR)
        | (refine law_load rfl 48 _ rfl _ rfl 48 _ (BkS.fn (((hS.call h1).alloc _).on ho2 (hS.call h1).lt)) _ Try.underlying48 rfl (by rw [hfl]; kernel_rfl) ?_))
      have hS2 := ((hS.call h1).alloc (.cells zr.toArray 50)).on ho2 (hS.call h1).lt
      have hgw : g < w1.heap.size := (hA.next h1).lt
      have hA2 := ((hA.next h1).alloc (.cells zr.toArray 50)).on ho2 (by omega)
      obtain ⟨gr, egr⟩ : ∃ gr, gr = w1.heap.size := ⟨_, rfl⟩
      rw [← egr] at hR hgw ⊢
      clear hS hA h1 ho2 egr hcr hz5
      have HT : Hid (∀ j, j ≤ 4 → (stq ks lb st j).length = 16) := stq_length ks lb st hst hrl
      go_loopw [21] (fun i wr => ∃ j : Nat, j ≤ 4 ∧ i = .int .i64 j ∧ Blk wr g 47 (bys (stq ks lb st j)) ∧ BkS w wr ws bs Z fs ∧ Blk wr gr 50 (rnd ks lb)) (fun i _ => 4 - (intOf i).toNat)
      case atStart => exact ⟨0, by omega, rfl, hA2, hS2, hR⟩
      case round =>
          clear hA2 hS2 hR
          obtain ⟨j, hj, rfl, hA, hS, hR⟩ := hrel
          by_cases hj4 : j < 4
          · have hX := HT.out j (by omega)
            have hY := HT.out (j + 1) (by omega)
            have hj5 : j = 0 ∨ j = 1 ∨ j = 2 ∨ j = 3 := by omega
            rcases hj5 with hj0 | hj0 | hj0 | hj0
            · have hx : ∀ W : World, (Instr.index 48 (.agg fs.toArray) (.int .i64 (j : Int))).run Try.prog W = .ok (Value.func (Fn.func 22) #[] #[]) W := by rw [hj0, HF.out]; intro W; kernel_rfl
              have hcl : ∀ W : World, Calls Try.prog 22 #[.agg (bys (stq ks lb st j)).toArray, .agg (rnd ks lb).toArray] W fun e w' => e = .returned (.agg (bys (stq ks lb st (j + 1))).toArray) ∧ Below W.heap.size W w' := by rw [hj0]; exact fun W => keyed_any st ks lb hst hrl W
              obtain ⟨X, eX⟩ : ∃ X, X = stq ks lb st j := ⟨_, rfl⟩
              obtain ⟨Y, eY⟩ : ∃ Y, Y = stq ks lb st (j + 1) := ⟨_, rfl⟩
              rw [← eX] at hX hcl hA
              rw [← eY] at hY hcl
              have EY : Hid (Y = stq ks lb st (j + 1)) := eY
              clear eX eY hj0
              go_wp2_with (first
                | (refine law_load rfl 47 _ rfl _ rfl 47 _ hA _ Try.underlying47 rfl (by rw [bys_length, hX]; kernel_rfl) ?_)
                | (refine law_load rfl 50 _ rfl _ rfl 50 _ hR _ Try.underlying50 rfl (by rw [rnd_length, hrl]; kernel_rfl) ?_)
                | (go_at_call 22; refine (hcl _).mono ?_; rintro e w3 ⟨rfl, h3⟩)
                | (refine law_store rfl 47 _ _ rfl _ (bys Y) rfl rfl 47 _ (hA.next h3) (by rw [bys_length, bys_length, hX, hY]) (by rw [bys_length, hY]; kernel_rfl) (bys_one Y) ?_; intro w4 ho4 hA4))
              refine ⟨⟨j + 1, by omega, by go_num, ?_, (hS.call h3).on ho4 hg, (hR.next h3).on ho4 (by omega)⟩, by simp [intOf]; omega⟩
              rw [← EY.out]
              exact hA4
            · have hx : ∀ W : World, (Instr.index 48 (.agg fs.toArray) (.int .i64 (j : Int))).run Try.prog W = .ok (Value.func (Fn.func 26) #[] #[]) W := by rw [hj0, HF.out]; intro W; kernel_rfl
              have hcl : ∀ W : World, Calls Try.prog 26 #[.agg (bys (stq ks lb st j)).toArray, .agg (rnd ks lb).toArray] W fun e w' => e = .returned (.agg (bys (stq ks lb st (j + 1))).toArray) ∧ Below W.heap.size W w' := by rw [hj0]; exact fun W => unmixed_any (addL st ks) ks lb (addL_length _ _ 16 hst hrl) hrl W
              obtain ⟨X, eX⟩ : ∃ X, X = stq ks lb st j := ⟨_, rfl⟩
              obtain ⟨Y, eY⟩ : ∃ Y, Y = stq ks lb st (j + 1) := ⟨_, rfl⟩
              rw [← eX] at hX hcl hA
              rw [← eY] at hY hcl
              have EY : Hid (Y = stq ks lb st (j + 1)) := eY
              clear eX eY hj0
              go_wp2_with (first
                | (refine law_load rfl 47 _ rfl _ rfl 47 _ hA _ Try.underlying47 rfl (by rw [bys_length, hX]; kernel_rfl) ?_)
                | (refine law_load rfl 50 _ rfl _ rfl 50 _ hR _ Try.underlying50 rfl (by rw [rnd_length, hrl]; kernel_rfl) ?_)
                | (go_at_call 26; refine (hcl _).mono ?_; rintro e w3 ⟨rfl, h3⟩)
                | (refine law_store rfl 47 _ _ rfl _ (bys Y) rfl rfl 47 _ (hA.next h3) (by rw [bys_length, bys_length, hX, hY]) (by rw [bys_length, hY]; kernel_rfl) (bys_one Y) ?_; intro w4 ho4 hA4))
              refine ⟨⟨j + 1, by omega, by go_num, ?_, (hS.call h3).on ho4 hg, (hR.next h3).on ho4 (by omega)⟩, by simp [intOf]; omega⟩
              rw [← EY.out]
              exact hA4
            · have hx : ∀ W : World, (Instr.index 48 (.agg fs.toArray) (.int .i64 (j : Int))).run Try.prog W = .ok (Value.func (Fn.func 27) #[] #[]) W := by rw [hj0, HF.out]; intro W; kernel_rfl
              have hcl : ∀ W : World, Calls Try.prog 27 #[.agg (bys (stq ks lb st j)).toArray, .agg (rnd ks lb).toArray] W fun e w' => e = .returned (.agg (bys (stq ks lb st (j + 1))).toArray) ∧ Below W.heap.size W w' := by rw [hj0]; exact fun W => unturned_any (mixR lb (mixR lb (mixR lb (addL st ks)))) (mixR_length _ _ (mixR_length _ _ (mixR_length _ _ (addL_length _ _ 16 hst hrl)))) _ W
              obtain ⟨X, eX⟩ : ∃ X, X = stq ks lb st j := ⟨_, rfl⟩
              obtain ⟨Y, eY⟩ : ∃ Y, Y = stq ks lb st (j + 1) := ⟨_, rfl⟩
              rw [← eX] at hX hcl hA
              rw [← eY] at hY hcl
              have EY : Hid (Y = stq ks lb st (j + 1)) := eY
              clear eX eY hj0
              go_wp2_with (first
                | (refine law_load rfl 47 _ rfl _ rfl 47 _ hA _ Try.underlying47 rfl (by rw [bys_length, hX]; kernel_rfl) ?_)
                | (refine law_load rfl 50 _ rfl _ rfl 50 _ hR _ Try.underlying50 rfl (by rw [rnd_length, hrl]; kernel_rfl) ?_)
                | (go_at_call 27; refine (hcl _).mono ?_; rintro e w3 ⟨rfl, h3⟩)
                | (refine law_store rfl 47 _ _ rfl _ (bys Y) rfl rfl 47 _ (hA.next h3) (by rw [bys_length, bys_length, hX, hY]) (by rw [bys_length, hY]; kernel_rfl) (bys_one Y) ?_; intro w4 ho4 hA4))
              refine ⟨⟨j + 1, by omega, by go_num, ?_, (hS.call h3).on ho4 hg, (hR.next h3).on ho4 (by omega)⟩, by simp [intOf]; omega⟩
              rw [← EY.out]
              exact hA4
            · have hx : ∀ W : World, (Instr.index 48 (.agg fs.toArray) (.int .i64 (j : Int))).run Try.prog W = .ok (Value.func (Fn.func 28) #[] #[]) W := by rw [hj0, HF.out]; intro W; kernel_rfl
              have hcl : ∀ W : World, Calls Try.prog 28 #[.agg (bys (stq ks lb st j)).toArray, .agg (rnd ks lb).toArray] W fun e w' => e = .returned (.agg (bys (stq ks lb st (j + 1))).toArray) ∧ Below W.heap.size W w' := by rw [hj0]; exact fun W => unsubbed_any (unturnL (mixR lb (mixR lb (mixR lb (addL st ks))))) (unturnL_length _) _ W
              obtain ⟨X, eX⟩ : ∃ X, X = stq ks lb st j := ⟨_, rfl⟩
              obtain ⟨Y, eY⟩ : ∃ Y, Y = stq ks lb st (j + 1) := ⟨_, rfl⟩
              rw [← eX] at hX hcl hA
              rw [← eY] at hY hcl
              have EY : Hid (Y = stq ks lb st (j + 1)) := eY
              clear eX eY hj0
              go_wp2_with (first
                | (refine law_load rfl 47 _ rfl _ rfl 47 _ hA _ Try.underlying47 rfl (by rw [bys_length, hX]; kernel_rfl) ?_)
                | (refine law_load rfl 50 _ rfl _ rfl 50 _ hR _ Try.underlying50 rfl (by rw [rnd_length, hrl]; kernel_rfl) ?_)
                | (go_at_call 28; refine (hcl _).mono ?_; rintro e w3 ⟨rfl, h3⟩)
                | (refine law_store rfl 47 _ _ rfl _ (bys Y) rfl rfl 47 _ (hA.next h3) (by rw [bys_length, bys_length, hX, hY]) (by rw [bys_length, hY]; kernel_rfl) (bys_one Y) ?_; intro w4 ho4 hA4))
              refine ⟨⟨j + 1, by omega, by go_num, ?_, (hS.call h3).on ho4 hg, (hR.next h3).on ho4 (by omega)⟩, by simp [intOf]; omega⟩
              rw [← EY.out]
              exact hA4
          · have hjj : j = 4 := by omega
            subst hjj
            have h16 := HT.out 4 (by omega)
            go_wp2
            refine ⟨⟨m, by omega, by rw [em.out], _, h16, hA, hS, HNN⟩, by simp [intOf]; omega⟩
    · have hn0 : n = 0 := by omega
      subst hn0
      have hF16 : (addL st (rk ws 0)).length = 16 := addL_length _ _ 16 hst (rk_length ws 0 hw (by omega))
      have HR : Hid (addL st (rk ws 0) = D) := (H0.out st).symm.trans HD.out
      go_wp2_with fail
      refine wp_region_to (fun v => BkS w v ws bs Z fs ∧ Blk v g 47 (bys st)) 4 (by kernel_rfl) ?_
      have hS0 : BkS w wr.drew ws bs Z fs ∧ Blk wr.drew g 47 (bys st) := ⟨hS.drew, hA.drew⟩
      refine wpTo_take (i := 0) (show _ = some _ by simp only [List.getElem?_toArray, List.getElem?_cons_zero]; exact rfl) (by kernel_rfl) (by kernel_rfl) (by kernel_rfl) (by kernel_rfl) (by exact fun _ _ _ h => h) (yieldsIf_load_mid (by rfl) 47 (.tmp 6) rfl g 0 rfl (bys st) _ (fun v h => h.2.whole) Try.underlying47 rfl (by rw [bys_length, hst]; kernel_rfl)) hS0 ?_
      (try simp only [Act.put]); (try simp only [List.setIfInBounds_toArray]); (repeat (first | simp only [List.set_cons_succ] | simp only [List.set_cons_zero]))
      refine wpTo_take (i := 1) (show _ = some _ by simp only [List.getElem?_toArray, List.getElem?_cons_succ, List.getElem?_cons_zero]; exact rfl) (by kernel_rfl) (by kernel_rfl) (by kernel_rfl) (by kernel_rfl) (by exact fun _ _ _ h => h) (yieldsIf_load_mid (by rfl) 28 (.tmp 2) rfl w.heap.size 0 rfl (bys ws) _ (fun v h => (BkS.key h.1).whole) Try.underlying28 rfl (by rw [bys_length, hw]; kernel_rfl)) hS0 ?_
      (try simp only [Act.put]); (try simp only [List.setIfInBounds_toArray]); (repeat (first | simp only [List.set_cons_succ] | simp only [List.set_cons_zero]))
      refine wpTo_one (i := 2) (by kernel_rfl) (show _ = some _ by simp only [List.getElem?_toArray, List.getElem?_cons_succ, List.getElem?_cons_zero]; exact rfl) (fun K hK => ?_)
      go_simp
      go_at_call 23; refine (round_any ws hw 0 (by omega) _ rfl _).mono ?_; rintro e v1 ⟨rfl, h1⟩
      (try simp only [])
      refine hK.out _ _ (⟨BkS.call hS0.1 h1, hS0.2.next h1⟩) (fun hS1 => ?_)
      clear hK K
      (try simp only [Act.put]); (try simp only [List.setIfInBounds_toArray]); (repeat (first | simp only [List.set_cons_succ] | simp only [List.set_cons_zero]))
      refine wpTo_one (i := 3) (by kernel_rfl) (show _ = some _ by simp only [List.getElem?_toArray, List.getElem?_cons_succ, List.getElem?_cons_zero]; exact rfl) (fun K hK => ?_)
      go_simp
      go_at_call 22; refine (keyed_any st (rk ws 0) _ hst (rk_length ws 0 hw (by omega)) _).mono ?_; rintro e v2 ⟨rfl, h2⟩
      (try simp only [])
      refine hK.out _ _ (⟨BkS.call hS1.1 h2, hS1.2.next h2⟩) (fun hS2 => ?_)
      clear hK K
      (try simp only [Act.put]); (try simp only [List.setIfInBounds_toArray]); (repeat (first | simp only [List.set_cons_succ] | simp only [List.set_cons_zero]))
      refine wpTo_last (by kernel_rfl) (show _ = some _ by simp only [List.getElem?_toArray, List.getElem?_cons_succ, List.getElem?_cons_zero]; exact rfl) (by kernel_rfl) (fun K hK => ?_)
      rw [if_pos (by rfl)]
      refine wp_store_row 23 (.tmp 4) (.tmp 32) rfl (w.heap.size + 1 + 1) (bys (addL st (rk ws 0))).toArray rfl rfl 23 _ hS2.1.res (by rw [List.size_toArray, bys_length, hF16]; kernel_rfl) (by rw [List.size_toArray, List.size_toArray, bys_length, bys_length, hF16, hZ]) (bys_one _) ?_
      refine hK.out _ _ ?_
      clear hK K
      (try simp only [Act.put]); (try simp only [List.setIfInBounds_toArray]); (repeat (first | simp only [List.set_cons_succ] | simp only [List.set_cons_zero]))
      have hoF := On.setRow v2 (w.heap.size + 1 + 1) (bys (addL st (rk ws 0))).toArray
      have hAF := setRow_heap v2 (w.heap.size + 1 + 1) _ (bys (addL st (rk ws 0))).toArray 23 _ hS2.1.res
      go_wp2
      refine bodyPost_ret (v := .agg (bys (addL st (rk ws 0))).toArray) (results_cell_row rfl _ _ (w.heap.size + 1 + 1) 23 _ _ _ rfl hAF Try.underlying23 rfl (by rw [List.size_toArray, bys_length, hF16]; kernel_rfl)) rfl ⟨by rw [HR.out], hoF.below hS2.1.k (by omega)⟩
end Go.Proofs.Ytkiljjlklelbbaa
