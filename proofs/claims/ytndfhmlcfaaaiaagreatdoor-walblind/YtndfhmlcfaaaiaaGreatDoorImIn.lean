import Derived.Test.YtndfhmlcfaaaiaaGreatDoorStr
/- Rows of images of the call's own. -/
namespace Go.Proofs.YtndfhmlcfaaaiaaGreatDoor
open Go.RowKit

/-- The cells of the sectors F 0, F 1 .. F (n - 1). -/
def flatI (n : Nat) (F : Nat → (Int × Pg)) : List Value := (List.range n).flatMap fun i => ic (F i)
theorem flatI_succ (n : Nat) (F : Nat → (Int × Pg)) : flatI (n + 1) F = flatI n F ++ ic (F n) := by simp [flatI, List.range_succ]
theorem flatI_length (n : Nat) (F : Nat → (Int × Pg)) : (flatI n F).length = n * 481 := by
  induction n with
  | zero => rfl
  | succ n ih => rw [flatI_succ, List.length_append, ih, ic_length]; omega
theorem flatI_at (F : Nat → (Int × Pg)) (i j : Nat) (hj : j < 481) : ∀ n, i < n → (flatI n F)[i * 481 + j]? = (ic (F i))[j]?
  | 0, h => by omega
  | n + 1, h => by
    rw [flatI_succ]
    by_cases hi : i = n
    · subst hi
      rw [List.getElem?_append_right (by rw [flatI_length]; omega), flatI_length]
      congr 1
      omega
    · rw [List.getElem?_append_left (by rw [flatI_length]; omega)]
      exact flatI_at F i j hj n (by omega)
theorem flatI_one (n : Nat) (F : Nat → (Int × Pg)) : ∀ v ∈ flatI n F, v.oneCell' = true := by
  intro v hv
  obtain ⟨i, _, h⟩ := List.mem_flatMap.1 hv
  exact ic_one _ v h
theorem flatI_congr {n : Nat} {F G : Nat → (Int × Pg)} (h : ∀ i, i < n → F i = G i) : flatI n F = flatI n G := by
  induction n with
  | zero => rfl
  | succ n ih => rw [flatI_succ, flatI_succ, ih (fun i hi => h i (by omega)), h n (by omega)]

/-- In block f lie the sectors F 0 .. F (n - 1), one behind the other. -/
def IRw (w : World) (f n : Nat) (F : Nat → (Int × Pg)) : Prop := ∃ C : Array Value, w.heap[f]? = some (.cells C 82 (0, 0)) ∧ ∀ i, i < n → ∀ j v, (ic (F i))[j]? = some v → C[i * 481 + j]? = some v
section
variable {w w' : World} {f n : Nat} {F : Nat → (Int × Pg)}
theorem IRw.lt (h : IRw w f n F) : f < w.heap.size := by obtain ⟨C, hC, _⟩ := h; exact lt_of_block hC
theorem IRw.same (h : IRw w f n F) (he : w'.heap[f]? = w.heap[f]?) : IRw w' f n F := by obtain ⟨C, hC, h⟩ := h; exact ⟨C, he.trans hC, h⟩
theorem IRw.fr {X : Nat → Prop} (h : IRw w f n F) (hf : Fr X w w') (hn : ¬ X f) : IRw w' f n F := h.same (hf.block f h.lt hn)
theorem IRw.range (h : IRw w f n F) {i : Nat} (hi : i < n) : w.rangeAt f (i * 481) (ic (F i)) := by
  obtain ⟨C, hC, h⟩ := h
  intro j v hv
  rw [cell_of_row w f _ _ 82 _ hC]
  exact h i hi j v hv
theorem IRw.there (h : IRw w f n F) {i : Nat} (hi : i < n) : w.there f (i * 481) 481 := by
  have hr := h.range hi
  obtain ⟨C, hC, h⟩ := h
  intro j hj
  refine ⟨?_, frozen_of_row w f _ _ 82 hC⟩
  rw [hr j _ (List.getElem?_eq_getElem (by rw [ic_length]; exact hj))]
  rfl
theorem IRw.congr {G : Nat → (Int × Pg)} (h : IRw w f n F) (e : ∀ i, i < n → F i = G i) : IRw w f n G := by
  obtain ⟨C, hC, h⟩ := h
  exact ⟨C, hC, fun i hi => by rw [← e i hi]; exact h i hi⟩
theorem IRw.ne {g : Nat} {t : TypeId} {vs : List Value} (h : IRw w f n F) (hb : Blk w g t vs) (ht : t ≠ 82) : f ≠ g := by
  obtain ⟨C, hC, _⟩ := h
  intro e
  subst e
  unfold Blk at hb
  rw [hC] at hb
  cases hb
  exact ht rfl
/-- A sector is put at number i. -/
theorem IRw.put (h : IRw w f n F) {i : Nat} (hi : i < n) (s : (Int × Pg)) : IRw (w.setCells f (i * 481) (ic s)) f n (upd F i s) := by
  obtain ⟨C, hC, h⟩ := h
  have hsz : i * 481 + (ic s).length ≤ C.size := by
    have := h i hi 480 _ (List.getElem?_eq_getElem (by rw [ic_length]; omega))
    have := (Array.getElem?_eq_some_iff.1 this).1
    rw [ic_length]
    omega
  obtain ⟨C', a, _, c⟩ := heap_setCells f 82 (ic s) (i * 481) w C hC hsz
  refine ⟨C', a, fun k hk j v hv => ?_⟩
  have hj : j < 481 := by have := (List.getElem?_eq_some_iff.1 hv).1; rwa [ic_length] at this
  rw [c, ic_length]
  by_cases e : k = i
  · subst e
    rw [upd_same] at hv
    rw [if_pos (by omega), show k * 481 + j - k * 481 = j by omega]
    exact hv
  · rw [upd_ne _ _ _ _ e] at hv
    rw [if_neg (by omega)]
    exact h k hk j v hv
/-- What is owned as cells is a row. -/
theorem ir_of_flat {C : Array Value} (hC : w.heap[f]? = some (.cells C 82 (0, 0))) (ht : C.toList.take (n * 481) = flatI n F) : IRw w f n F := by
  refine ⟨C, hC, fun i hi j v hv => ?_⟩
  have hj : j < 481 := by have := (List.getElem?_eq_some_iff.1 hv).1; rwa [ic_length] at this
  have h1 := flatI_at F i j hj n hi
  rw [← ht, List.getElem?_take, if_pos (by omega), hv] at h1
  simpa using h1
end
theorem made_flatI (n : Nat) : (madeCells (ic (0, zp)).toArray (n * 481)).toList = flatI n (fun _ => (0, zp)) := by
  refine List.ext_getElem? fun k => ?_
  by_cases hk : k < n * 481
  · have e : k = (k / 481) * 481 + k % 481 := by omega
    have h1 := flatI_at (fun _ => (0, zp)) (k / 481) (k % 481) (by omega) n (by omega)
    rw [← e] at h1
    have hs : (ic (0, zp)).toArray.size = 481 := by rw [List.size_toArray, ic_length]
    have hlt : k % 481 < (ic (0, zp)).length := by rw [ic_length]; omega
    rw [h1, List.getElem?_eq_getElem hlt]
    unfold madeCells
    simp only [hs, Array.toList_map, Array.toList_range, List.getElem?_map]
    rw [List.getElem?_range hk]
    simp only [Option.map_some]
    rw [getElem!_pos _ _ (by rw [hs]; omega)]
    simp
  · rw [List.getElem?_eq_none (by rw [Array.length_toList, size_madeCells]; omega), List.getElem?_eq_none (by rw [flatI_length]; omega)]

theorem IRw.im {w : World} {f n : Nat} {F : Nat → Int × Pg} (h : IRw w f n F) : ImR w f ((List.range n).map F) := by
  obtain ⟨C, hC, h⟩ := h
  refine ⟨C, hC, fun k x hk j u hu => ?_⟩
  have hkn : k < n := by have := (List.getElem?_eq_some_iff.1 hk).1; simpa using this
  rw [List.getElem?_map, List.getElem?_range hkn] at hk
  simp only [Option.map_some, Option.some.injEq] at hk
  subst hk
  exact h k hkn j u hu
theorem info74 : (Tryz.prog.info? 82).map (fun i => (i.zero, i.size, i.bytes)) = some (some (.agg (ic (0, zp)).toArray), 481, 488) := by
  unfold ic pb zp
  kernel_rfl
/-- An image is put at number i of a row. -/
theorem put_imr {w : World} {o : Oper} {a : Act} {K : Act → World → Prop} {Q : Exit → Act → World → Prop} (x y : Operand) (ho : o.op = .store 82 x y) (f n : Nat) (F : Nat → Int × Pg) (hR : IRw w f n F) (i : Nat) (hi : i < n) (s : Int × Pg)
    (hx : a.eval x = .pointer (some ⟨f, i * 481, none⟩)) (hy : a.eval y = .agg (ic s).toArray) (h : IRw (w.setCells f (i * 481) (ic s)) f n (upd F i s) → K (a.put o.dst undef) (w.setCells f (i * 481) (ic s))) : o.wp Tryz.prog a w K Q :=
  wp_store_mid 82 x y ho f (i * 481) (ic s).toArray hx hy (by rw [List.size_toArray, ic_length]; exact hR.there hi) (by rw [List.size_toArray, ic_length]; kernel_rfl) (ic_one' s) (h (hR.put hi s))

/-- Four bytes are read: where the rest lies. -/
theorem read32b (r : Nat) (ao : Option Addr) (n c : Nat) (bs : List B) (w : World) (h : Rd w r ao n c (v8s bs) 0) (hn : 4 ≤ n) :
    Calls Tryz.prog 104 #[.pointer (some ⟨r, 0, none⟩)] w fun x w' => x = .returned (.int .u32 ((nub (bs.take 4) : Nat) : Int)) ∧ Rd w' r (fromAt ao c 4) (n - 4) (c - 4) (v8s (bs.drop 4)) 0 ∧ Fr (fun k => k = r) w w' := by
  have hl := h.sh.len
  rw [v8s_length] at hl
  have hlt := nub_lt (bs.take 4)
  rw [List.length_take, Nat.min_eq_left (by omega)] at hlt
  have h1 := number_of_some (.pointer (some ⟨r, 0, none⟩)) 4 (by omega) ao c (v8s (bs.take 4)) w _ (h.k_of hn) (take_ok r ao n c (v8s bs) 4 w h hn)
  rw [beval_v8s] at h1
  refine (u32_of _ _ (by omega) (by omega) _ _ h1).mono fun x w' ⟨hx, hw⟩ => ?_
  subst hw
  exact ⟨hx, h.rest_of hn, (Fr.refl _ _).setCell _ _ (.inl rfl)⟩
theorem fromAt_block {ao : Option Addr} {c k : Nat} {P : Nat → Prop} (h : ∀ ad, ao = some ad → P ad.block) : ∀ ad, fromAt ao c k = some ad → P ad.block := by
  intro ad had
  unfold fromAt at had
  split at had
  · exact h ad had
  · cases ao with
    | none => simp at had
    | some a =>
      simp only [Option.map_some, Option.some.injEq] at had
      subst had
      have := h a rfl
      unfold Addr.add
      split <;> simpa using this

end Go.Proofs.YtndfhmlcfaaaiaaGreatDoor

/- An image is built. -/
namespace Go.Proofs.YtndfhmlcfaaaiaaGreatDoor
open Go.RowKit

theorem places74 : (match Tryz.prog.underlying 82 with | some (.struct fields) => fields.toList.mapM (fun f => (Tryz.prog.info? f.type).map fun i => (f.offset, i.size)) | _ => none) = some [(0, 1), (1, 480)] := by kernel_rfl
set_option maxRecDepth 100000 in
theorem built74 (a : Int) (x : Pg) : Tryz.prog.built 82 [(0, .int .i64 a), (1, .agg (pb x).toArray)] = some (ic (a, x)).toArray := by
  have hp := places74
  obtain ⟨i0, hi, hz0, hz1, hz2⟩ := info_parts info74
  unfold Program.built
  rw [hi]
  rw [Tryz.underlying82] at hp ⊢
  dsimp only at hp ⊢
  rw [hz0, hp]
  dsimp only
  have hsz : (Value.agg (ic (0, zp)).toArray).cells.size = 481 := by show (ic (0, zp)).toArray.size = 481; rw [List.size_toArray, ic_length]
  have hps : (Value.agg (pb x).toArray).cells.size = 480 := by show (pb x).toArray.size = 480; rw [List.size_toArray, pb_length]
  generalize (Value.agg (ic (0, zp)).toArray).cells = cs at hsz ⊢
  obtain ⟨g1, g2⟩ := Great.foldl_set 0 (Value.int .i64 a).cells.toList 0 cs
  have gs : (Value.int .i64 a).cells.size = 1 := rfl
  have gl : (Value.int .i64 a).cells.toList = [.int .i64 a] := rfl
  obtain ⟨g3, g4⟩ := Great.foldl_set 1 (Value.agg (pb x).toArray).cells.toList 0 (((Value.int .i64 a).cells.toList.zipIdx 0).foldl (fun cs (x : Value × Nat) => cs.setIfInBounds (0 + x.2) x.1) cs)
  have hpl : (Value.agg (pb x).toArray).cells.toList = pb x := rfl
  have f1 : Instr.fill (fun i => ([(0, 1), (1, 480)] : List (Nat × Nat)).toArray[i]?) cs [(0, .int .i64 a), (1, .agg (pb x).toArray)] = some ((((Value.agg (pb x).toArray).cells.toList.zipIdx 0).foldl (fun cs (x : Value × Nat) => cs.setIfInBounds (1 + x.2) x.1) (((Value.int .i64 a).cells.toList.zipIdx 0).foldl (fun cs (x : Value × Nat) => cs.setIfInBounds (0 + x.2) x.1) cs))) := by
    have e1 : ∀ (off : Nat) (v : Value) (cs : Array Value), v.cells.zipIdx.foldl (fun cs (x : Value × Nat) => cs.setIfInBounds (off + x.2) x.1) cs = (v.cells.toList.zipIdx 0).foldl (fun cs (x : Value × Nat) => cs.setIfInBounds (off + x.2) x.1) cs := fun off v cs => by
      rw [← Array.foldl_toList]
      simp
    unfold Instr.fill
    simp only [List.getElem?_toArray, List.getElem?_cons_zero, gs]
    rw [if_neg (by simp [hsz])]
    unfold Instr.fill
    simp only [List.getElem?_cons_succ, List.getElem?_cons_zero, hps]
    have g1' := g1
    rw [← e1] at g1'
    rw [if_neg (by rw [g1', hsz]; simp)]
    unfold Instr.fill
    rw [e1, e1]
  refine f1.trans ?_
  congr 1
  refine Array.ext_getElem? fun k => ?_
  rw [g4 k, g1, g2 k, hpl, gl, hsz, pb_length]
  show _ = ((Value.int .i64 a :: pb x).toArray)[k]?
  cases k with
  | zero => simp
  | succ k =>
    have er : (Value.int .i64 a :: pb x).toArray[k + 1]? = (pb x)[k]? := by simp
    rw [er]
    by_cases hk : k < 480
    · rw [if_pos (by omega)]
      congr 1
    · rw [if_neg (by omega), if_neg (by simp)]
      rw [List.getElem?_eq_none (by rw [pb_length]; omega)]
      rw [Array.getElem?_eq_none (by omega)]
theorem bd74 (a : Int) (x : Pg) (w : World) : (Instr.build 82 #[(0, .int .i64 a), (1, .agg (pb x).toArray)]).run Tryz.prog w = .ok (.agg (ic (a, x)).toArray) w := run_build w 82 _ _ (built74 a x)
end Go.Proofs.YtndfhmlcfaaaiaaGreatDoor

/- The images that a record's frames tell. -/
namespace Go.Proofs.YtndfhmlcfaaaiaaGreatDoor
open Go.RowKit

theorem Rd.next {w w' : World} {r : Nat} {ao : Option Addr} {n c : Nat} {xs : List Int} {e : Int} (h : Rd w r ao n c xs e) (hb : Below w.heap.size w w') : Rd w' r ao n c xs e :=
  ⟨(hb.block r (lt_of_block h.blk)).trans h.blk, h.sh.later hb, h.cap, h.big, h.bare, h.apart⟩
theorem Rd.same {w w' : World} {r : Nat} {ao : Option Addr} {n c : Nat} {xs : List Int} {e : Int} (h : Rd w r ao n c xs e) (hr : w'.heap[r]? = w.heap[r]?) (ha : ∀ ad, ao = some ad → w'.heap[ad.block]? = w.heap[ad.block]?) : Rd w' r ao n c xs e := by
  refine ⟨hr.trans h.blk, ⟨h.sh.len, h.sh.bare, fun ad had j hj => ?_, h.sh.rng⟩, h.cap, h.big, h.bare, h.apart⟩
  rw [World.cell?_of_block (w := w) (by
    have e : (ad.add j).block = ad.block := by unfold Addr.add; split <;> rfl
    rw [e]
    exact ha ad had)]
  exact h.sh.cell ad had j hj
theorem heap_setCells_other (g : Nat) (o : Nat) (vs : List Value) (w : World) {j : Nat} (hj : j ≠ g) : (w.setCells g o vs).heap[j]? = w.heap[j]? := by
  by_cases h : j < w.heap.size
  · exact (Fr.setCells (X := fun k => k = g) g o vs (Fr.refl _ w) (.inl rfl)).block j h hj
  · have h2 := (Fr.setCells (X := fun k => k = g) g o vs (Fr.refl _ w) (.inl rfl)).size
    have h3 : (w.setCells g o vs).heap.size = w.heap.size := by
      clear h h2
      induction vs generalizing o w with
      | nil => rfl
      | cons v vs ih => exact (ih (o + 1) (w.setCell ⟨g, o, none⟩ v)).trans (by simp)
    rw [Array.getElem?_eq_none (by omega), Array.getElem?_eq_none (by omega)]
theorem exec_build74 {o : Oper} {x y : Operand} (ho : o.op = .build 82 #[(0, x), (1, y)]) (a : Act) (N : Int) (pk : Pg) (hx : a.eval x = .int .i64 N) (hy : a.eval y = .agg (pb pk).toArray) (w : World) : (execOp a.eval o).run Tryz.prog w = .ok (.value (.agg (ic (N, pk)).toArray)) w := by
  have h := bd74 N pk w
  unfold execOp
  simp only [ho, List.map_toArray, List.map_cons, List.map_nil, hx, hy, Sem.run_bind, h, Result.andThen_ok, Sem.run_pure]
/-- What a record's frames tell of its k-th image. -/
def cdI (F : Nat → Sec) (k : Nat) : Int × Pg := ((nmIn (pin (F 0)) k : Int), pin (F (1 + k)))
def cdk (F : Nat → Sec) (k : Nat) : Nat → Int × Pg := fun i => if i < k then cdI F i else (0, zp)
theorem cdk_succ (F : Nat → Sec) (k : Nat) : upd (cdk F k) k (cdI F k) = cdk F (k + 1) := by
  funext i
  unfold upd cdk
  by_cases h : i = k
  · subst h; rw [if_pos rfl, if_pos (by omega)]
  · rw [if_neg h]
    by_cases h2 : i < k
    · rw [if_pos h2, if_pos (by omega)]
    · rw [if_neg h2, if_neg (by omega)]
structure IS (w v : World) (B A m : Nat) (F : Nat → Sec) (G n : Nat) (Fk : Nat → Int × Pg) : Prop where
  rw : Rw v A m F
  ir : IRw v G n Fk
  below : Below B w v
  gb : B ≤ G
section
variable {w v v' : World} {B A m G n r : Nat} {F : Nat → Sec} {Fk : Nat → Int × Pg}
theorem IS.next (h : IS w v B A m F G n Fk) (hb : Below v.heap.size v v') : IS w v' B A m F G n Fk := ⟨h.rw.same (hb.block A h.rw.lt), h.ir.same (hb.block G h.ir.lt), h.below.trans (hb.mono (by have := h.ir.lt; have := h.gb; omega)), h.gb⟩
theorem IS.drew (h : IS w v B A m F G n Fk) : IS w v.drew B A m F G n Fk := h.next (below_drw v)
theorem IS.fr (h : IS w v B A m F G n Fk) (hf : Fr (fun k => k = r) v v') (h1 : A ≠ r) (h2 : G ≠ r) (h3 : B ≤ r) : IS w v' B A m F G n Fk :=
  ⟨h.rw.fr hf h1, h.ir.same (hf.block G h.ir.lt h2), h.below.trans (hf.below (fun k e => by omega) (by have := h.ir.lt; have := h.gb; omega)), h.gb⟩
end
set_option maxRecDepth 100000 in
set_option maxHeartbeats 2000000 in
theorem imagesIn_any (w : World) (A n c : Nat) (F : Nat → Sec) (hA : Rw w A (n + 2) F) (h1 : 1 ≤ n) (hn : n ≤ 120) :
    Calls Tryz.prog 107 #[.slice (some ⟨A, 0, none⟩) (n + 2) c] w fun e w' => ∃ G cp, e = .returned (.slice (some ⟨G, 0, none⟩) n cp) ∧ w.heap.size ≤ G ∧ IRw w' G n (cdI F) ∧ Below w.heap.size w w' := by
  have hz1 := zero31
  have hw31 := fun W g => whole31 W g
  have hrg := hA.range (i := 0) (by omega)
  rw [Nat.zero_mul] at hrg
  obtain ⟨i0, hi, hz0, hz1', hz2⟩ := info_parts info74
  have hmade := made_flatI n
  have hzc : (Value.agg (ic (0, zp)).toArray).cells = (ic (0, zp)).toArray := rfl
  rw [← hzc] at hmade
  have HM : Hid ((madeCells (Value.agg (ic (0, zp)).toArray).cells (n * 481)).toList = flatI n (fun _ => (0, zp))) := hmade
  clear hmade hzc
  obtain ⟨zv, hzv⟩ : ∃ z, z = Value.agg (ic (0, zp)).toArray := ⟨_, rfl⟩
  rw [← hzv] at hz0 HM
  have HZV : Hid (zv = Value.agg (ic (0, zp)).toArray) := hzv
  clear hzv
  obtain ⟨s0, hs0⟩ : ∃ s0, s0 = F 0 := ⟨_, rfl⟩
  have HS0 : Hid (s0 = F 0) := hs0
  rw [← hs0] at hrg
  clear hs0
  obtain ⟨pg, hpg⟩ : ∃ pg, pg = pin s0 := ⟨_, rfl⟩
  have HPG : Hid (pg = pin s0) := hpg
  have hpi := fun W => pageIn_any s0 W
  rw [← hpg] at hpi
  clear hpg
  have hmI : ((n + 2 : Nat) : Int) = (n : Int) + 2 := by omega
  go_enter Tryz.func107, Tryz.ntmps107
  go_wp2_with (first
    | (refine wpList_load_mid rfl 26 _ rfl A 0 rfl (sb s0) _ hrg Tryz.underlying26 rfl (by rw [sb_length]; kernel_rfl) ?_)
    | (go_at_call 76; refine (hpi _).mono ?_; rintro e w1 ⟨rfl, kb1⟩
       have hN := Blk.new w1 66 (pb zp))
    | (refine store_pg rfl _ _ rfl w1.heap.size zp pg hN rfl rfl ?_; intro hP
       have hsh := hP.shows 0 480 (by rw [pg.h]; omega))
    | (go_at_call 102; refine (read_any _ _ _ _ _ hsh (by omega)).mono ?_; rintro e w2 ⟨r, ao, cc, rfl, hRd, kb2, hr1, hr2, hao⟩)
    | (at_make; refine wpList_make_full _ rfl _ _ 73 rfl w2.heap.size 82 i0 zv 481 Tryz.underlying73 hi hz0 hz1' .i64 .i64 n n n rfl rfl rfl rfl (by rw [hz2]; omega) (by unfold maxLen; omega) (Nat.le_refl _) ?_; intro w3 hown hgr))
  rw [HM.out] at hown
  obtain ⟨_, hv | ⟨g, cpx, cur, hv, hgb, hh, hc1, hc2, hc3, ht⟩⟩ := hown
  · cases hv.1
  · cases hv
    have hIR : IRw w3 w2.heap.size n (fun _ => (0, zp)) := ir_of_flat hh ht
    have hB3 : Below w2.heap.size w2 w3 := (Below.refl _ w2).grown hgr (Nat.le_refl _) (by intro k hk; cases hk)
    have kU : Below w.heap.size w ((w1.alloc (.cells (pb zp).toArray 66)).setRow w1.heap.size (pb pg).toArray) := (kb1.alloc kb1.size _).trans (Fr.below (X := fun k => k = w1.heap.size) ((Fr.refl _ _).setRow _ _ (.inl rfl)) (fun k e => by have := kb1.size; omega) (by have := kb1.size; simp; omega))
    have hUs := kU.size
    have h2s := kb2.size
    have hbel : Below w.heap.size w w3 := (kU.trans (kb2.mono hUs)).trans (hB3.mono (Nat.le_trans hUs h2s))
    have hRd3 := hRd.next hB3
    have hAlt := hA.lt
    have hBr : w.heap.size ≤ r := Nat.le_trans hUs hr1
    have hao3 : ∀ ad, ao = some ad → ad.block < w2.heap.size := fun ad h => (hao ad h).2
    have hsg : seg pg.l 0 480 = pg.l.drop (4 * 0) := by
      unfold seg
      rw [List.take_of_length_le (by rw [List.drop_zero, pg.h]; omega)]
    rw [hsg] at hRd3
    obtain ⟨B, hB⟩ : ∃ B, B = w.heap.size := ⟨_, rfl⟩
    obtain ⟨G, hG⟩ : ∃ G, G = w2.heap.size := ⟨_, rfl⟩
    rw [← hB] at hbel hAlt hBr
    rw [← hG] at hIR hao3 hr2 ⊢
    have hBG : B ≤ G := by omega
    have e0 : cdk F 0 = fun _ => (0, zp) := by funext i; simp [cdk]
    have hI0 : IS w w3 B A (n + 2) F G n (cdk F 0) := ⟨hA.same (hbel.block A (by omega)), by rw [e0]; exact hIR, hbel, hBG⟩
    have HB : Hid (B = w.heap.size) := hB
    clear hh ht hgr hc1 hc2 hc3 hgb hB3 kU hUs h2s hbel hRd hao hsg hB hG e0 hi hz0 hz1' hz2 HM HZV hIR hr1 kb2 hsh hP hN kb1 hrg hpi
    go_loopw [19] (fun i wr => ∃ (k : Nat) (ao : Option Addr) (cc : Nat), k ≤ n ∧ i = .int .i64 (k : Int) ∧ IS w wr B A (n + 2) F G n (cdk F k) ∧ Rd wr r ao (480 - 4 * k) cc (v8s (pg.l.drop (4 * k))) 0 ∧ ∀ ad, ao = some ad → ad.block < G) (fun i _ => n - (intOf i).toNat)
    case atStart => exact ⟨0, ao, cc, by omega, rfl, hI0, hRd3, hao3⟩
    case round =>
      obtain ⟨k, ao, cc, hk, rfl, hI, hRd, hao⟩ := hrel
      clear hI0 hRd3 hao3
      by_cases hlt : k < n
      · have hkI : (k : Int) < (n : Int) := by omega
        have hsucc := cdk_succ F k
        obtain ⟨Fk, hFk⟩ : ∃ Fk, Fk = cdk F k := ⟨_, rfl⟩
        rw [← hFk] at hI hsucc
        obtain ⟨sc, hsc⟩ : ∃ sc, sc = F (1 + k) := ⟨_, rfl⟩
        have GA : Hid (∀ v, IS w v B A (n + 2) F G n Fk → v.rangeAt A ((1 + k) * 512) (sb sc)) := fun v h => by rw [hsc]; exact h.rw.range (by omega)
        have hpi := fun W => pageIn_any sc W
        obtain ⟨pk, hpk⟩ : ∃ pk, pk = pin sc := ⟨_, rfl⟩
        rw [← hpk] at hpi
        obtain ⟨N, hN⟩ : ∃ N, N = nub ((pg.l.drop (4 * k)).take 4) := ⟨_, rfl⟩
        have hNlt : N < 4294967296 := by rw [hN]; exact nmIn_lt pg k (by omega)
        have HCD : Hid (upd Fk k ((N : Int), pk) = cdk F (k + 1)) := by
          show _ = _
          rw [← hsucc]
          unfold cdI
          rw [hN, hpk, hsc, ← HS0.out, ← HPG.out]
          rfl
        have hu : ∀ W, Rd W r ao (480 - 4 * k) cc (v8s (pg.l.drop (4 * k))) 0 → Calls Tryz.prog 104 #[.pointer (some ⟨r, 0, none⟩)] W fun x w' => x = .returned (.int .u32 (N : Int)) ∧ Rd w' r (fromAt ao cc 4) (480 - 4 * (k + 1)) (cc - 4) (v8s (pg.l.drop (4 * (k + 1)))) 0 ∧ Fr (fun k => k = r) W w' := fun W hW => by
          have := read32b r ao (480 - 4 * k) cc _ W hW (by omega)
          rw [← hN, List.drop_drop, show 480 - 4 * k - 4 = 480 - 4 * (k + 1) by omega, show 4 * k + 4 = 4 * (k + 1) by omega] at this
          exact this
        have hao2 : ∀ ad, fromAt ao cc 4 = some ad → ad.block < G := fromAt_block (P := fun b => b < G) hao
        have hcv : IntKind.i64.wrap (N : Int) = (N : Int) := by rw [IntKind.wrap_i64]; omega
        have h1k : IntKind.i64.wrap (1 + (k : Int)) = 1 + (k : Int) := by rw [IntKind.wrap_i64]; omega
        have hk0 : 0 ≤ 1 + (k : Int) := by omega
        have hk1 : 1 + (k : Int) < (n : Int) + 2 := by omega
        have hoff : (1 + (k : Int)).toNat = 1 + k := by omega
        have hb74 := bd74 (N : Int) pk
        clear hN hpk hsc hFk hsucc
        go_upto_region 7 with fail
        have hS0 := hI.drew
        have hR0 := hRd.next (below_drw wr)
        clear hI hRd
        refine wp_region_to (fun v => IS w v B A (n + 2) F G n Fk) 13 (by kernel_rfl) ?_
        refine wpTo_take (i := 0) (v := ?v0z1) (show _ = some _ by simp only [List.getElem?_toArray, List.getElem?_cons_zero]; exact rfl) (by kernel_rfl) (by kernel_rfl) (by kernel_rfl) (by kernel_rfl) (by exact fun _ _ _ h => h) (Or.inl ⟨by rfl, ?hy0z1⟩) hS0 ?r0z1
        case hy0z1 => (intro w hSw; (try dsimp only at hSw); go_simp; try with_reducible rfl)
        (try simp only [Act.put]); (try simp only [List.setIfInBounds_toArray]); (repeat (first | simp only [List.set_cons_succ] | simp only [List.set_cons_zero]))
        refine wpTo_take (i := 1) (v := ?v1z2) (show _ = some _ by simp only [List.getElem?_toArray, List.getElem?_cons_succ, List.getElem?_cons_zero]; exact rfl) (by kernel_rfl) (by kernel_rfl) (by kernel_rfl) (by kernel_rfl) (by exact fun _ _ _ h => h) (Or.inl ⟨by rfl, ?hy1z2⟩) hS0 ?r1z2
        case hy1z2 => (intro w hSw; (try dsimp only at hSw); go_simp; try with_reducible rfl)
        (try simp only [Act.put]); (try simp only [List.setIfInBounds_toArray]); (repeat (first | simp only [List.set_cons_succ] | simp only [List.set_cons_zero]))
        refine wpTo_take (i := 2) (v := ?v2z3) (show _ = some _ by simp only [List.getElem?_toArray, List.getElem?_cons_succ, List.getElem?_cons_zero]; exact rfl) (by kernel_rfl) (by kernel_rfl) (by kernel_rfl) (by kernel_rfl) (by exact fun _ _ _ h => h) (Or.inl ⟨by rfl, ?hy2z3⟩) hS0 ?r2z3
        case hy2z3 => (intro w hSw; (try dsimp only at hSw); go_simp; try with_reducible rfl)
        (try simp only [Act.put]); (try simp only [List.setIfInBounds_toArray]); (repeat (first | simp only [List.set_cons_succ] | simp only [List.set_cons_zero]))
        refine wpTo_take (i := 5) (v := ?v5z4) (show _ = some _ by simp only [List.getElem?_toArray, List.getElem?_cons_succ, List.getElem?_cons_zero]; exact rfl) (by kernel_rfl) (by kernel_rfl) (by kernel_rfl) (by kernel_rfl) (by exact fun _ _ _ h => h) (Or.inl ⟨by rfl, ?hy5z4⟩) hS0 ?r5z4
        case hy5z4 => (intro w hSw; (try dsimp only at hSw); go_simp; try with_reducible rfl)
        (try simp only [Act.put]); (try simp only [List.setIfInBounds_toArray]); (repeat (first | simp only [List.set_cons_succ] | simp only [List.set_cons_zero]))
        refine wpTo_take (i := 6) (v := ?v6z5) (show _ = some _ by simp only [List.getElem?_toArray, List.getElem?_cons_succ, List.getElem?_cons_zero]; exact rfl) (by kernel_rfl) (by kernel_rfl) (by kernel_rfl) (by kernel_rfl) (by exact fun _ _ _ h => h) (Or.inl ⟨by rfl, ?hy6z5⟩) hS0 ?r6z5
        case hy6z5 => (intro w hSw; (try dsimp only at hSw); go_simp; try with_reducible rfl)
        (try simp only [Act.put]); (try simp only [List.setIfInBounds_toArray]); (repeat (first | simp only [List.set_cons_succ] | simp only [List.set_cons_zero]))
        refine wpTo_take (i := 7) (v := ?v7z6) (show _ = some _ by simp only [List.getElem?_toArray, List.getElem?_cons_succ, List.getElem?_cons_zero]; exact rfl) (by kernel_rfl) (by kernel_rfl) (by kernel_rfl) (by kernel_rfl) (by exact fun _ _ _ h => h) (Or.inl ⟨by rfl, ?hy7z6⟩) hS0 ?r7z6
        case hy7z6 => (intro w hSw; (try dsimp only at hSw); go_simp; try with_reducible rfl)
        (try simp only [Act.put]); (try simp only [List.setIfInBounds_toArray]); (repeat (first | simp only [List.set_cons_succ] | simp only [List.set_cons_zero]))
        refine wpTo_take (i := 8) (v := ?v8z7) (show _ = some _ by simp only [List.getElem?_toArray, List.getElem?_cons_succ, List.getElem?_cons_zero]; exact rfl) (by kernel_rfl) (by kernel_rfl) (by kernel_rfl) (by kernel_rfl) (by exact fun _ _ _ h => h) (Or.inl ⟨by rfl, ?hy8z7⟩) hS0 ?r8z7
        case hy8z7 => (intro w hSw; (try dsimp only at hSw); go_simp; try with_reducible rfl)
        (try simp only [Act.put]); (try simp only [List.setIfInBounds_toArray]); (repeat (first | simp only [List.set_cons_succ] | simp only [List.set_cons_zero]))
        refine wpTo_take (i := 9) (show _ = some _ by simp only [List.getElem?_toArray, List.getElem?_cons_succ, List.getElem?_cons_zero]; exact rfl) (by kernel_rfl) (by kernel_rfl) (by kernel_rfl) (by kernel_rfl) (by exact fun _ _ _ h => h) (yieldsIf_load_mid (by rfl) 26 (.tmp 30) rfl A ((1 + k) * 512) rfl (sb sc) _ (fun v h => GA.out v h) Tryz.underlying26 rfl (by rw [sb_length]; kernel_rfl)) hS0 ?_
        (try simp only [Act.put]); (try simp only [List.setIfInBounds_toArray]); (repeat (first | simp only [List.set_cons_succ] | simp only [List.set_cons_zero]))
        refine wpTo_one (i := 3) (by kernel_rfl) (show _ = some _ by simp only [List.getElem?_toArray, List.getElem?_cons_succ, List.getElem?_cons_zero]; exact rfl) (fun K hK => ?_)
        go_simp
        go_at_call 104; refine (hu _ hR0).mono ?_; rintro e v1 ⟨rfl, hR1, hF1⟩
        (try simp only [])
        have hS1 := hS0.fr hF1 (by omega) (by omega) (by omega)

        refine hK.out _ _ (hS1) (fun _ => ?_)
        clear hK K
        (try simp only [Act.put]); (try simp only [List.setIfInBounds_toArray]); (repeat (first | simp only [List.set_cons_succ] | simp only [List.set_cons_zero]))
        refine wpTo_take (i := 4) (v := ?v4z8) (show _ = some _ by simp only [List.getElem?_toArray, List.getElem?_cons_succ, List.getElem?_cons_zero]; exact rfl) (by kernel_rfl) (by kernel_rfl) (by kernel_rfl) (by kernel_rfl) (by exact fun _ _ _ h => h) (Or.inl ⟨by rfl, ?hy4z8⟩) hS1 ?r4z8
        case hy4z8 => (intro w hSw; (try dsimp only at hSw); go_simp; try with_reducible rfl)
        (try simp only [Act.put]); (try simp only [List.setIfInBounds_toArray]); (repeat (first | simp only [List.set_cons_succ] | simp only [List.set_cons_zero]))
        refine wpTo_one (i := 10) (by kernel_rfl) (show _ = some _ by simp only [List.getElem?_toArray, List.getElem?_cons_succ, List.getElem?_cons_zero]; exact rfl) (fun K hK => ?_)
        go_simp
        go_at_call 76; refine (hpi _).mono ?_; rintro e v2 ⟨rfl, kb2⟩
        (try simp only [])
        have hS2 := hS1.next kb2
        have hR2 := hR1.next kb2

        refine hK.out _ _ (hS2) (fun _ => ?_)
        clear hK K
        (try simp only [Act.put]); (try simp only [List.setIfInBounds_toArray]); (repeat (first | simp only [List.set_cons_succ] | simp only [List.set_cons_zero]))
        refine wpTo_take (i := 11) (show _ = some _ by simp only [List.getElem?_toArray, List.getElem?_cons_succ, List.getElem?_cons_zero]; exact rfl) (by kernel_rfl) (by kernel_rfl) (by kernel_rfl) (by kernel_rfl) (by exact fun _ _ _ h => h) (Or.inl ⟨by rfl, fun w _ => exec_build74 rfl _ (N : Int) pk rfl rfl w⟩) hS2 ?_
        (try simp only [Act.put]); (try simp only [List.setIfInBounds_toArray]); (repeat (first | simp only [List.set_cons_succ] | simp only [List.set_cons_zero]))
        refine wpTo_take (i := 12) (v := ?v12z9) (show _ = some _ by simp only [List.getElem?_toArray, List.getElem?_cons_succ, List.getElem?_cons_zero]; exact rfl) (by kernel_rfl) (by kernel_rfl) (by kernel_rfl) (by kernel_rfl) (by exact fun _ _ _ h => h) (Or.inl ⟨by rfl, ?hy12z9⟩) hS2 ?r12z9
        case hy12z9 => (intro w hSw; (try dsimp only at hSw); go_simp; try with_reducible rfl)
        (try simp only [Act.put]); (try simp only [List.setIfInBounds_toArray]); (repeat (first | simp only [List.set_cons_succ] | simp only [List.set_cons_zero]))
        refine wpTo_last (by kernel_rfl) (show _ = some _ by simp only [List.getElem?_toArray, List.getElem?_cons_succ, List.getElem?_cons_zero]; exact rfl) (by kernel_rfl) (fun K hK => ?_)
        rw [if_pos (by rfl)]
        refine put_imr _ _ rfl G n Fk hS2.ir k hlt ((N : Int), pk) rfl rfl (fun hIR2 => ?_)
        have hfr := Fr.setCells G (k * 481) (ic ((N : Int), pk)) (Fr.refl (fun j => j = G) v2) (.inl rfl)
        rw [HCD.out] at hIR2
        have hrw2 := hS2.rw.fr hfr (by omega)
        have hbl2 := hS2.below.trans (hfr.below (fun j e => by omega) (by have := hS2.ir.lt; omega))
        have hRR := hR2.same (hfr.block r (lt_of_block hR2.blk) (by omega)) (fun ad had => heap_setCells_other _ _ _ _ (by have := hao2 ad had; omega))
        refine hK.out _ _ ?_
        clear hK K
        (try simp only [Act.put]); (try simp only [List.setIfInBounds_toArray]); (repeat (first | simp only [List.set_cons_succ] | simp only [List.set_cons_zero]))
        go_wp2_with fail
        exact ⟨⟨k + 1, _, _, by omega, by go_num, ⟨hrw2, hIR2, hbl2, hBG⟩, hRR, hao2⟩, by simp only [intOf]; omega⟩

      · have hkI : ¬ (k : Int) < (n : Int) := by omega
        have ek : k = n := by omega
        rw [ek] at hI
        clear ek
        go_wp2_with fail
        go_ret
        refine ⟨_, ⟨_, rfl⟩, by rw [← HB.out]; exact hBG, hI.ir.congr (fun i hi => ?_), by rw [← HB.out]; exact hI.below⟩
        unfold cdk
        rw [if_pos hi]
end Go.Proofs.YtndfhmlcfaaaiaaGreatDoor
