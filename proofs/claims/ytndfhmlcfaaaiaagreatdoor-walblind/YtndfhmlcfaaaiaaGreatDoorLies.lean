/- Rows of sectors, and a map from numbers to sectors: how they lie, how they are read and written. -/
import Derived.Test.YtndfhmlcfaaaiaaGreatDoorLastS
import Derived.Maps.RangeWalk
import Derived.Maps.OwnSet
import Derived.Maps.Ext
namespace Go.Proofs.YtndfhmlcfaaaiaaGreatDoor
open Go.RowKit

/-- A thing put in one place. -/
def upd {α : Type} (f : Nat → α) (i : Nat) (x : α) : Nat → α := fun j => if j = i then x else f j
theorem upd_same {α : Type} (f : Nat → α) (i : Nat) (x : α) : upd f i x i = x := by simp [upd]
theorem upd_ne {α : Type} (f : Nat → α) (i j : Nat) (x : α) (h : j ≠ i) : upd f i x j = f j := by simp [upd, h]

/-- The cells of the sectors F 0, F 1 .. F (n - 1). -/
def flat (n : Nat) (F : Nat → Sec) : List Value := (List.range n).flatMap fun i => sb (F i)
theorem flat_succ (n : Nat) (F : Nat → Sec) : flat (n + 1) F = flat n F ++ sb (F n) := by simp [flat, List.range_succ]
theorem flat_length (n : Nat) (F : Nat → Sec) : (flat n F).length = n * 512 := by
  induction n with
  | zero => rfl
  | succ n ih => rw [flat_succ, List.length_append, ih, sb_length]; omega
theorem flat_at (F : Nat → Sec) (i j : Nat) (hj : j < 512) : ∀ n, i < n → (flat n F)[i * 512 + j]? = (sb (F i))[j]?
  | 0, h => by omega
  | n + 1, h => by
    rw [flat_succ]
    by_cases hi : i = n
    · subst hi
      rw [List.getElem?_append_right (by rw [flat_length]; omega), flat_length]
      congr 1
      omega
    · rw [List.getElem?_append_left (by rw [flat_length]; omega)]
      exact flat_at F i j hj n (by omega)
theorem flat_one (n : Nat) (F : Nat → Sec) : ∀ v ∈ flat n F, v.oneCell' = true := by
  intro v hv
  obtain ⟨i, _, h⟩ := List.mem_flatMap.1 hv
  exact sb_one' _ v h
theorem flat_congr {n : Nat} {F G : Nat → Sec} (h : ∀ i, i < n → F i = G i) : flat n F = flat n G := by
  induction n with
  | zero => rfl
  | succ n ih => rw [flat_succ, flat_succ, ih (fun i hi => h i (by omega)), h n (by omega)]

/-- In block f lie the sectors F 0 .. F (n - 1), one behind the other. -/
def Rw (w : World) (f n : Nat) (F : Nat → Sec) : Prop := ∃ C : Array Value, w.heap[f]? = some (.cells C 26 (0, 0)) ∧ ∀ i, i < n → ∀ j v, (sb (F i))[j]? = some v → C[i * 512 + j]? = some v
section
variable {w w' : World} {f n : Nat} {F : Nat → Sec}
theorem Rw.lt (h : Rw w f n F) : f < w.heap.size := by obtain ⟨C, hC, _⟩ := h; exact lt_of_block hC
theorem Rw.same (h : Rw w f n F) (he : w'.heap[f]? = w.heap[f]?) : Rw w' f n F := by obtain ⟨C, hC, h⟩ := h; exact ⟨C, he.trans hC, h⟩
theorem Rw.fr {X : Nat → Prop} (h : Rw w f n F) (hf : Fr X w w') (hn : ¬ X f) : Rw w' f n F := h.same (hf.block f h.lt hn)
theorem Rw.range (h : Rw w f n F) {i : Nat} (hi : i < n) : w.rangeAt f (i * 512) (sb (F i)) := by
  obtain ⟨C, hC, h⟩ := h
  intro j v hv
  rw [cell_of_row w f _ _ 26 _ hC]
  exact h i hi j v hv
theorem Rw.there (h : Rw w f n F) {i : Nat} (hi : i < n) : w.there f (i * 512) 512 := by
  have hr := h.range hi
  obtain ⟨C, hC, h⟩ := h
  intro j hj
  refine ⟨?_, frozen_of_row w f _ _ 26 hC⟩
  rw [hr j _ (List.getElem?_eq_getElem (by rw [sb_length]; exact hj))]
  rfl
theorem Rw.congr {G : Nat → Sec} (h : Rw w f n F) (e : ∀ i, i < n → F i = G i) : Rw w f n G := by
  obtain ⟨C, hC, h⟩ := h
  exact ⟨C, hC, fun i hi => by rw [← e i hi]; exact h i hi⟩
theorem Rw.ne {g : Nat} {t : TypeId} {vs : List Value} (h : Rw w f n F) (hb : Blk w g t vs) (ht : t ≠ 26) : f ≠ g := by
  obtain ⟨C, hC, _⟩ := h
  intro e
  subst e
  unfold Blk at hb
  rw [hC] at hb
  cases hb
  exact ht rfl
theorem heap_setCells (g : Nat) (t : TypeId) : ∀ (vs : List Value) (o : Nat) (w : World) (C : Array Value), w.heap[g]? = some (.cells C t (0, 0)) → o + vs.length ≤ C.size →
    ∃ C', (w.setCells g o vs).heap[g]? = some (.cells C' t (0, 0)) ∧ C'.size = C.size ∧ ∀ k, C'[k]? = if o ≤ k ∧ k < o + vs.length then vs[k - o]? else C[k]?
  | [], o, w, C, h, _ => ⟨C, h, rfl, fun k => by rw [if_neg (by simp only [List.length_nil]; omega)]⟩
  | v :: vs, o, w, C, h, hl => by
    simp only [List.length_cons] at hl
    have h1 := heap_setCell_same w g o _ t v h
    obtain ⟨C', a, b, c⟩ := heap_setCells g t vs (o + 1) (w.setCell ⟨g, o, none⟩ v) _ h1 (by simp; omega)
    refine ⟨C', a, by simpa using b, fun k => ?_⟩
    rw [c k]
    simp only [List.length_cons]
    by_cases e : k = o
    · subst e
      rw [if_neg (by omega), if_pos (by omega)]
      simp only [Nat.sub_self, List.getElem?_cons_zero]
      rw [Array.getElem?_setIfInBounds_self_of_lt (by omega)]
    · by_cases hk : o + 1 ≤ k ∧ k < o + 1 + vs.length
      · rw [if_pos hk, if_pos (by omega), show k - o = (k - (o + 1)) + 1 by omega, List.getElem?_cons_succ]
      · rw [if_neg hk, if_neg (by omega), Array.getElem?_setIfInBounds_ne (by omega)]
/-- A sector is put at number i. -/
theorem Rw.put (h : Rw w f n F) {i : Nat} (hi : i < n) (s : Sec) : Rw (w.setCells f (i * 512) (sb s)) f n (upd F i s) := by
  obtain ⟨C, hC, h⟩ := h
  have hsz : i * 512 + (sb s).length ≤ C.size := by
    have := h i hi 511 _ (List.getElem?_eq_getElem (by rw [sb_length]; omega))
    have := (Array.getElem?_eq_some_iff.1 this).1
    rw [sb_length]
    omega
  obtain ⟨C', a, _, c⟩ := heap_setCells f 26 (sb s) (i * 512) w C hC hsz
  refine ⟨C', a, fun k hk j v hv => ?_⟩
  have hj : j < 512 := by have := (List.getElem?_eq_some_iff.1 hv).1; rwa [sb_length] at this
  rw [c, sb_length]
  by_cases e : k = i
  · subst e
    rw [upd_same] at hv
    rw [if_pos (by omega), show k * 512 + j - k * 512 = j by omega]
    exact hv
  · rw [upd_ne _ _ _ _ e] at hv
    rw [if_neg (by omega)]
    exact h k hk j v hv
/-- What is owned as cells is a row. -/
theorem rw_of_flat {C : Array Value} (hC : w.heap[f]? = some (.cells C 26 (0, 0))) (ht : C.toList.take (n * 512) = flat n F) : Rw w f n F := by
  refine ⟨C, hC, fun i hi j v hv => ?_⟩
  have hj : j < 512 := by have := (List.getElem?_eq_some_iff.1 hv).1; rwa [sb_length] at this
  have h1 := flat_at F i j hj n hi
  rw [← ht, List.getElem?_take, if_pos (by omega), hv] at h1
  simpa using h1
end

theorem sb_zs (k : Nat) (h : k < 512) : (sb zs)[k]? = some (.int .u8 0) := by
  unfold sb zs bys
  rw [List.map_replicate, List.getElem?_replicate, if_pos h]
  rfl
theorem made_flat (n : Nat) : (madeCells (sb zs).toArray (n * 512)).toList = flat n (fun _ => zs) := by
  refine List.ext_getElem? fun k => ?_
  by_cases hk : k < n * 512
  · have e : k = (k / 512) * 512 + k % 512 := by omega
    have h1 := flat_at (fun _ => zs) (k / 512) (k % 512) (by omega) n (by omega)
    rw [← e] at h1
    rw [h1, sb_zs _ (by omega)]
    have hs : (sb zs).toArray.size = 512 := by rw [List.size_toArray, sb_length]
    have hz : (sb zs).toArray[k % 512]! = .int .u8 0 := by
      rw [getElem!_pos _ _ (by rw [hs]; omega)]
      have := sb_zs (k % 512) (by omega)
      rw [List.getElem?_eq_getElem (by rw [sb_length]; omega)] at this
      simpa using Option.some.inj this
    unfold madeCells
    simp only [hs, Array.toList_map, Array.toList_range, List.getElem?_map]
    rw [List.getElem?_range hk]
    simp only [Option.map_some, hz]
  · rw [List.getElem?_eq_none (by rw [Array.length_toList, size_madeCells]; omega), List.getElem?_eq_none (by rw [flat_length]; omega)]

/-! ### the map -/
open Classical in
/-- How a sector reads as a map's element. -/
noncomputable def secR (v : Value) : Option (DataW Sec × List MemPlace) := if h : ∃ s : Sec, v = sv s then some (.held (Classical.choose h), []) else none
theorem secR_mk (s : Sec) : secR (sv s) = some (.held s, []) := by
  have h : ∃ t : Sec, sv s = sv t := ⟨s, rfl⟩
  unfold secR
  rw [dif_pos h, ← sv_inj (Classical.choose_spec h)]
theorem secR_inv {v : Value} {z : DataW Sec × List MemPlace} (h : secR v = some z) : ∃ s, v = sv s ∧ z = (.held s, []) := by
  unfold secR at h
  split at h
  · rename_i hx
    cases h
    exact ⟨_, Classical.choose_spec hx, rfl⟩
  · cases h
theorem law3 : Maps.Keyed Tryz.prog 3 := Maps.int_keyed Tryz.underlying3
/-- A number as a key. -/
def ky (i : Nat) : Lit := .int .i64 (i : Int)
theorem ky_inj {i j : Nat} (h : ky i = ky j) : i = j := by unfold ky at h; injection h with _ h; omega
/-- The map that reads as D has at number i just what W has. -/
def wl (W : Nat → Option Sec) : Lit → Option Sec
  | .int .i64 i => if 0 ≤ i then W i.toNat else none
  | _ => none
theorem wl_ky (W : Nat → Option Sec) (i : Nat) : wl W (ky i) = W i := by simp [wl, ky]
theorem wl_neg (W : Nat → Option Sec) (i : Int) (h : i < 0) : wl W (.int .i64 i) = none := by simp [wl]; omega
def Mp (D : DataW Sec) (W : Nat → Option Sec) : Prop := Maps.IsMap D ∧ ∀ kl z, D.atKey kl z = match wl W kl with | some s => .held s | none => z
theorem Mp.has {D : DataW Sec} {W : Nat → Option Sec} (h : Mp D W) (kl : Lit) : Maps.has D kl = (wl W kl).isSome := by
  have h1 := h.2 kl
  cases hw : wl W kl with
  | none => rw [hw] at h1; exact Maps.has_false_of_atKey h1
  | some s => rw [hw] at h1; exact Maps.has_true_of_atKey h1
theorem mp_empty : Mp (.map []) (fun _ => none) := ⟨Maps.isMap_empty, fun kl z => by
  have : wl (fun _ => none) kl = none := by unfold wl; split <;> simp
  rw [this]
  rfl⟩
theorem wl_upd (W : Nat → Option Sec) (i : Nat) (s : Sec) (kl : Lit) (h : kl ≠ ky i) : wl (upd W i (some s)) kl = wl W kl := by
  unfold wl
  split
  · rename_i j
    split
    · rw [upd_ne]
      intro e
      apply h
      unfold ky
      congr 1
      omega
    · rfl
  · rfl
theorem Mp.put {D : DataW Sec} {W : Nat → Option Sec} (h : Mp D W) (i : Nat) (s : Sec) : Mp (D.put (ky i) (.held s)) (upd W i (some s)) := by
  refine ⟨h.1.put _ _, fun kl z => ?_⟩
  by_cases e : kl = ky i
  · subst e
    rw [Maps.atKey_put_same h.1 (by exact trivial), wl_ky, upd_same]
  · rw [Maps.atKey_put_other e, h.2 kl z, wl_upd _ _ _ _ e]
end Go.Proofs.YtndfhmlcfaaaiaaGreatDoor

