/- Whether places are right: none is 0, no two are the same. -/
import Derived.Test.YtineieoghlbchaaDoorPoints
import Derived.Test.YtineieoghlbchaaDoorEvalA
import Derived.Test.YtineieoghlbchaaDoorBlk
namespace Go.Proofs.YtineieoghlbchaaDoor
open Go.RowKit

theorem zero73 (W : World) : (zeroValue 73).run Tryd.prog W = .ok (.agg (List.replicate 256 (Value.bool false)).toArray) W := by kernel_rfl
theorem size73 : (Tryd.prog.info? 73).map (·.size) = some 256 := by kernel_rfl

/-- All but the block g is as it was. -/
structure On (w w' : World) (g : Nat) : Prop where
  os : w'.os = w.os
  tape : w'.tape = w.tape
  output : w'.output = w.output
  size : w'.heap.size = w.heap.size
  block : ∀ k, k ≠ g → w'.heap[k]? = w.heap[k]?
theorem On.setRow (w : World) (g : Nat) (cs : Array Value) : On w (w.setRow g cs) g := ⟨rfl, rfl, rfl, setRow_size _ _ _, fun _ hk => setRow_other _ _ _ _ hk⟩
theorem On.below {n : Nat} {w0 w w' : World} {g : Nat} (h : On w w' g) (hb : Below n w0 w) (hg : n ≤ g) : Below n w0 w' :=
  hb.trans ⟨h.os, h.tape, h.output, by rw [h.size]; exact Nat.le_refl _, fun _ hk => h.block _ (by omega)⟩

/-- A whole array is stored. -/
theorem law_store {w : World} {ops : Array Oper} {rest : List Oper} {o : Oper} {a : Act} {Q : Exit → Act → World → Prop} (hgd : o.guard = none) (ty : TypeId) (x y : Operand) (ho : o.op = .store ty x y) (g : Nat) (ys : List Value) (hx : a.eval x = .pointer (some ⟨g, 0, none⟩)) (hy : a.eval y = .agg ys.toArray)
    (t : TypeId) (xs : List Value) (hA : Blk w g t xs) (hl : xs.length = ys.length) (hi : (Tryd.prog.info? ty).map (·.size) = some ys.length) (hone : ∀ v ∈ ys, v.oneCell' = true)
    (h : ∀ w', On w w' g → Blk w' g t ys → wpList Tryd.prog ops Q rest (a.put o.dst undef) w') : wpList Tryd.prog ops Q (o :: rest) a w :=
  wpList_store_row hgd ty x y ho g ys.toArray hx hy t xs.toArray hA (by simpa using hi) (by simp [hl]) (by rw [Array.all_eq_true']; intro v hv; exact hone v (by simpa using hv))
    (h _ (On.setRow w g _) (setRow_heap w g _ _ t _ hA))

/-- Whether the element with this number is 0, or among ps. -/
def seenB (ps : List B) (a : Nat) : Bool := a == 0 || ps.any (fun p => p.toNat == a)
def seenV (ps : List B) : List Value := (List.range 256).map (fun a => Value.bool (seenB ps a))
theorem seenV_length (ps : List B) : (seenV ps).length = 256 := by simp [seenV]
theorem seenV_at (ps : List B) (a : Nat) (h : a < 256) : (seenV ps)[a]? = some (.bool (seenB ps a)) := by
  unfold seenV
  rw [List.getElem?_map, List.getElem?_range h]
  rfl
theorem seenV_snoc (ps : List B) (x : B) : (seenV ps).set x.toNat (.bool true) = seenV (ps ++ [x]) := by
  apply List.ext_getElem?
  intro a
  have hx := x.isLt
  by_cases ha : a < 256
  · rw [seenV_at _ a ha]
    by_cases e : x.toNat = a
    · rw [e, List.getElem?_set_self (by rw [seenV_length]; exact ha)]
      simp [seenB, e]
    · rw [List.getElem?_set_ne e, seenV_at _ a ha]
      have : (x.toNat == a) = false := by simp [e]
      simp [seenB, this]
  · rw [List.getElem?_eq_none (by rw [List.length_set, seenV_length]; omega), List.getElem?_eq_none (by rw [seenV_length]; omega)]
theorem seenV_nil : (List.replicate 256 (Value.bool false)).set 0 (Value.bool true) = seenV [] := by
  apply List.ext_getElem?
  intro a
  by_cases ha : a < 256
  · rw [seenV_at _ a ha]
    by_cases e : 0 = a
    · subst e
      rfl
    · rw [List.getElem?_set_ne e, List.getElem?_replicate, if_pos ha]
      have : (a == 0) = false := by simp; omega
      simp [seenB, this]
  · rw [List.getElem?_eq_none (by rw [List.length_set, List.length_replicate]; omega), List.getElem?_eq_none (by rw [seenV_length]; omega)]
theorem seenV_one (ps : List B) : ∀ v ∈ seenV ps, v.oneCell' = true := by
  intro v hv
  obtain ⟨a, _, rfl⟩ := List.mem_map.1 hv
  rfl
theorem seenB_iff (ps : List B) (x : B) : seenB ps x.toNat = true ↔ x = 0#8 ∨ x ∈ ps := by
  unfold seenB
  rw [Bool.or_eq_true, List.any_eq_true]
  constructor
  · rintro (h | ⟨p, hp, h⟩)
    · left
      apply BitVec.eq_of_toNat_eq
      simpa using h
    · right
      have : p = x := BitVec.eq_of_toNat_eq (by simpa using h)
      exact this ▸ hp
  · rintro (h | h)
    · left; rw [h]; rfl
    · right; exact ⟨x, h, by simp⟩

/-- What arePlaces answers. -/
def Placed (cs : List B) (w : World) (e : Ending) (w' : World) : Prop := ∃ b : Bool, e = .returned (.bool b) ∧ (b = true ↔ Good cs) ∧ Below w.heap.size w w'
theorem placed_mk {cs : List B} {w w' : World} {e : Ending} (b : Bool) (he : e = .returned (.bool b)) (hg : b = true ↔ Good cs) (hb : Below w.heap.size w w') : Placed cs w e w' := ⟨b, he, hg, hb⟩

set_option maxRecDepth 100000 in
set_option maxHeartbeats 1000000 in
theorem places_any (ao : Option Addr) (n c : Nat) (cs : List B) (w : World) (hs : Shows w ao n (cs.map v8)) (hn : (n : Int) ≤ 140737488355328) :
    Calls Tryd.prog 54 #[.slice ao n c] w fun e w' => Placed cs w e w' := by
  have hl : cs.length = n := by have := hs.len; rwa [List.length_map] at this
  have HL : Hid (cs.length = n) := hl
  clear hl
  have hz := zero73
  have hz0 := Blk.new w 73 (List.replicate 256 (Value.bool false))
  have hz1 := seenV_nil
  obtain ⟨zs, hzs⟩ : ∃ zs, zs = List.replicate 256 (Value.bool false) := ⟨_, rfl⟩
  rw [← hzs] at hz hz0 hz1
  have hzl : zs.length = 256 := by rw [hzs]; simp
  have hzn : ¬ zs = [] := by intro e; rw [e] at hzl; simp at hzl
  have hA1 := seenV_length []
  have hA2 := seenV_one []
  clear hzs
  go_enter Tryd.func54, Tryd.ntmps54
  go_wp2_with (refine law_store rfl 73 _ _ rfl w.heap.size (seenV []) rfl (by rw [← hz1]; rfl) 73 zs hz0 (by rw [hzl, hA1]) (by rw [hA1]; exact size73) hA2 ?_; intro w2 ho2 hB2)
  have hb2 : Below w.heap.size w w2 := ho2.below ((Below.refl _ w).alloc (Nat.le_refl _) _) (Nat.le_refl _)
  clear hz hz0 hz1 hzl hzn hA1 hA2 ho2
  go_loopw [9] (fun i wr => ∃ j : Nat, j ≤ n ∧ i = .int .i64 j ∧ Blk wr w.heap.size 73 (seenV (cs.take j)) ∧ Good (cs.take j) ∧ Below w.heap.size w wr) (fun i _ => n - (intOf i).toNat)
  case atStart => exact ⟨0, Nat.zero_le _, rfl, hB2, ⟨List.nodup_nil, by simp⟩, hb2⟩
  case round =>
    obtain ⟨k, hk, rfl, hB, hG, hb⟩ := hrel
    have HG : Hid (Good (cs.take k)) := hG
    clear hG
    by_cases hlt : k < n
    · obtain ⟨ad, rfl⟩ := hs.some (by omega)
      have hc := (hs.later hb).elem k (by omega)
      have HT : Hid (cs.take (k + 1) = cs.take k ++ [cs.getD k 0#8]) := take_next cs k (by rw [HL.out]; omega)
      obtain ⟨d, ed⟩ : ∃ d, d = cs.getD k 0#8 := ⟨_, rfl⟩
      rw [← ed] at hc HT
      clear ed
      have hkn : (k : Int) < (n : Int) := by omega
      have hd0 := v8_nn d
      have hd1 := v8_le d
      have hsn := seenB_iff (cs.take k) d
      have hcl := hB.cell d.toNat _ (seenV_at (cs.take k) d.toNat d.isLt)
      have hfz := hB.fz d.toNat
      have hst := hB.set d.toNat (.bool true)
      rw [seenV_snoc] at hst
      have hv : (v8 d).toNat = d.toNat := by unfold v8; omega
      rw [← hv] at hcl hfz hst hsn
      have HST : Hid (Blk _ _ _ _) := hst
      clear hst hB hv
      cases hsb : seenB (cs.take k) (v8 d).toNat
      · rw [hsb] at hcl hsn
        have HSN : Hid (false = true ↔ d = 0#8 ∨ d ∈ cs.take k) := hsn
        clear hsn hsb
        go_wp2
        go_roundw
        case rel =>
          refine ⟨k + 1, by omega, by go_num, ?_, ?_, hb.setCell (by simp) _⟩
          · rw [HT.out]; exact HST.out
          · rw [HT.out, good_snoc]
            exact ⟨HG.out, fun hm => by have := HSN.out.2 (Or.inr hm); simp at this, fun e => by have := HSN.out.2 (Or.inl e); simp at this⟩
        case measure => simp [intOf]; omega
      · rw [hsb] at hcl hsn
        have HSN : Hid (true = true ↔ d = 0#8 ∨ d ∈ cs.take k) := hsn
        clear hsn hsb
        go_wp2
        go_ret
        refine placed_mk false rfl ⟨fun h => by simp at h, fun h => ?_⟩ hb
        have h1 := good_take cs h (k + 1)
        rw [HT.out, good_snoc] at h1
        rcases HSN.out.1 (by simp) with e | e
        · exact absurd e h1.2.2
        · exact absurd e h1.2.1
    · have hkn : k = n := by omega
      subst hkn
      go_wp2
      go_ret
      refine placed_mk true rfl ⟨fun _ => ?_, fun _ => rfl⟩ hb
      have h1 := HG.out
      rwa [List.take_of_length_le (by rw [HL.out]; exact Nat.le_refl _)] at h1

theorem places_yes (ao : Option Addr) (n c : Nat) (cs : List B) (w : World) (hs : Shows w ao n (cs.map v8)) (hn : (n : Int) ≤ 140737488355328) (hG : Good cs) :
    Calls Tryd.prog 54 #[.slice ao n c] w fun e w' => e = .returned (.bool true) ∧ Below w.heap.size w w' := by
  refine (places_any ao n c cs w hs hn).mono ?_
  rintro e w' ⟨b, rfl, hg, hb⟩
  rw [hg.2 hG]
  exact ⟨rfl, hb⟩
theorem places_no (ao : Option Addr) (n c : Nat) (cs : List B) (w : World) (hs : Shows w ao n (cs.map v8)) (hn : (n : Int) ≤ 140737488355328) (hG : ¬ Good cs) :
    Calls Tryd.prog 54 #[.slice ao n c] w fun e w' => e = .returned (.bool false) ∧ Below w.heap.size w w' := by
  refine (places_any ao n c cs w hs hn).mono ?_
  rintro e w' ⟨b, rfl, hg, hb⟩
  cases b
  · exact ⟨rfl, hb⟩
  · exact absurd (hg.1 rfl) hG
end Go.Proofs.YtineieoghlbchaaDoor
