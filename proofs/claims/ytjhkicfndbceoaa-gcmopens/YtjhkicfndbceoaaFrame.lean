/- What the rows of all statements need: how the arguments are opened. -/
import Derived.Test.YtjhkicfndbceoaaLaw
import Derived.ProofKit
import Derived.OpenShut
import Derived.Deep.DeepHandedRow
namespace Go.Proofs.Ytjhkicfndbceoaa
open Go.ChangeShapes Go.WideShapes Go.ChangeAt Go.RowKit

theorem own : ownKnob Try.prog.godebug = none := by kernel_rfl
theorem laidOut : laidOutB Try.prog = true := by kernel_rfl
theorem cells3 : Try.prog.cellsOf 3 = 1 := by kernel_rfl
theorem cells5 : Try.prog.cellsOf 5 = 1 := by kernel_rfl
theorem cells22 : Try.prog.cellsOf 22 = 32 := by kernel_rfl
theorem cells23 : Try.prog.cellsOf 23 = 12 := by kernel_rfl
theorem cells24 : Try.prog.cellsOf 24 = 1 := by kernel_rfl
theorem cells26 : Try.prog.cellsOf 26 = 46 := by kernel_rfl
theorem cells37 : Try.prog.cellsOf 37 = 16 := by kernel_rfl
theorem cells39 : Try.prog.cellsOf 39 = 18 := by kernel_rfl
set_option maxRecDepth 100000 in
/-- Cells that are bytes. -/
theorem bys_of (cs : List Value) (h : ∀ i, i < cs.length → ∃ x : B, cs[i]? = some (.int .u8 (v8 x))) : ∃ l : List B, l.length = cs.length ∧ cs = bys l := by
  induction cs with
  | nil => exact ⟨[], rfl, rfl⟩
  | cons c cs ih =>
    obtain ⟨x, hx⟩ := h 0 (by simp)
    obtain ⟨l, hl, e⟩ := ih (fun i hi => by have := h (i + 1) (by simp; omega); simpa using this)
    refine ⟨x :: l, by simp [hl], ?_⟩
    simp at hx
    rw [hx, e]
    rfl
/-- Cells that are an array of bytes. -/
theorem arr_of {H : Type} {enc : TypeId × Value → H} {W : World} {fuel : Nat} {t n : Nat} {cs : List Value} {y : DataW H × List MemPlace} (hu : Try.prog.underlying t = some (.array n 5)) (hc : Try.prog.cellsOf t = n) (hf : DataW.trod enc Try.prog W 0 (fun _ => true) true fuel t cs = some y) :
    ∃ l : List B, l.length = n ∧ cs = bys l := by
  obtain ⟨xs, m, rfl, hx, hlen, hxl, hall⟩ := DataW.trod_array hu hf
  have hcs : cs.length = n := by rw [hlen, hc]
  obtain ⟨l, hl, e⟩ := bys_of cs (fun i hi => by
    have h1 := hall i (by omega)
    rw [cells5, Nat.mul_one] at h1
    have hi2 : i < xs.length := by omega
    rw [List.getElem?_eq_getElem hi2] at h1
    obtain ⟨a, ea, _, wa⟩ := DataW.trod_int Try.underlying5 h1
    have hb := bounds_u8 wa
    refine ⟨BitVec.ofNat 8 a.toNat, ?_⟩
    rw [← v8_of a (by omega) (by omega)]
    have h2 : (List.take 1 (List.drop i cs))[0]? = some (Value.int .u8 a) := by rw [ea]; rfl
    rw [List.getElem?_take, if_pos (by omega), List.getElem?_drop, Nat.add_zero] at h2
    exact h2)
  exact ⟨l, by rw [hl, hcs], e⟩
theorem elems_of (xs : List Int) (h : ∀ x ∈ xs, 0 ≤ x ∧ x ≤ 255) : ∃ bs : List B, xs = v8s bs := by
  induction xs with
  | nil => exact ⟨[], rfl⟩
  | cons x xs ih =>
    obtain ⟨bs, rfl⟩ := ih (fun y hy => h y (by simp [hy]))
    have hx := h x (by simp)
    exact ⟨BitVec.ofNat 8 x.toNat :: bs, by show x :: v8s bs = v8 (BitVec.ofNat 8 x.toNat) :: v8s bs; rw [← v8_of x hx.1 hx.2]⟩
/-- A row of bytes that came in. -/
theorem open_row {H : Type} {enc : TypeId × Value → H} {W : World} {fuel : Nat} {v : Value} {y : DataW H × List MemPlace} (hf : DataW.trod enc Try.prog W 0 (fun _ => true) true fuel 24 [v] = some y) :
    ∃ ao n c, ∃ S : List B, v = .slice ao n c ∧ Shows W ao n (v8s S) ∧ (ao = none → c = 0) ∧ n ≤ c ∧ c ≤ maxLen := by
  have hr : ∃ ao n c xs, v = .slice ao n c ∧ Shows W ao n xs ∧ (ao = none → c = 0) ∧ n ≤ c ∧ c ≤ maxLen := by
    rcases open_ints Try.underlying24 Try.underlying5 cells5 hf with ⟨hcs, hx⟩ | ⟨a, len, cap, zs, hcs, _, hl, hm, hz, hx, hcell, hwz⟩
    · have := List.cons.inj hcs
      exact ⟨none, 0, 0, [], this.1, ⟨rfl, fun _ => rfl, fun ad h => (by cases h), fun x hx => (by simp at hx)⟩, fun _ => rfl, Nat.le_refl _, Nat.zero_le _⟩
    · have he := List.cons.inj hcs
      rw [if_pos rfl] at hz
      refine ⟨some a, len, cap, zs.take len, he.1, ⟨by simp; omega, fun h => (by cases h), fun ad had j hj => ?_, fun x hx => ?_⟩, fun h => (by cases h), hl, hm⟩
      · cases had
        rw [hcell j (by omega)]
        simp [List.getD, hj]
      · have := hwz x (List.mem_of_mem_take hx)
        have := bounds_u8 this
        omega
  obtain ⟨ao, n, c, xs, hv, hs, r⟩ := hr
  obtain ⟨S, rfl⟩ := elems_of xs hs.rng
  exact ⟨ao, n, c, S, hv, hs, r⟩
theorem under26 : ∃ f0 f1 f2 f3 : Field, Try.prog.underlying 26 = some (.struct #[f0, f1, f2, f3]) ∧ (f0.type = 22 ∧ f1.type = 23 ∧ f2.type = 24 ∧ f3.type = 24) ∧ f0.offset = 0 ∧ f1.offset = 32 ∧ f2.offset = 44 ∧ f3.offset = 45 :=
  ⟨_, _, _, _, Try.underlying26, ⟨rfl, rfl, rfl, rfl⟩, rfl, rfl, rfl, rfl⟩
theorem cut_four (cs : List Value) (h : cs.length = 46) : ∃ a b, cs.drop 44 = [a, b] ∧ (cs.drop 44).take 1 = [a] ∧ (cs.drop 45).take 1 = [b] := by
  have hl : (cs.drop 44).length = 2 := by simp; omega
  match e : cs.drop 44, hl with
  | [a, b], _ =>
    refine ⟨a, b, rfl, rfl, ?_⟩
    have : cs.drop 45 = (cs.drop 44).drop 1 := by rw [List.drop_drop]
    rw [this, e]
    rfl
set_option maxRecDepth 100000 in
/-- What is sealed, or to be opened, as it came in. -/
theorem open_sealing {H : Type} {enc : TypeId × Value → H} {W : World} {base : Nat} {v : Value} {d : DataW H} {ps : List MemPlace} (hval : Value.okWide Try.prog W .any base 26 v) (h : DataW.Trod enc Try.prog W 0 (fun _ => true) true 26 v d ps) :
    ∃ (key nonce : List B) (ao : Option Addr) (n c : Nat) (ad : List B) (bo : Option Addr) (m d : Nat) (p : List B), v = .agg (sc key nonce (.slice ao n c) (.slice bo m d)).toArray ∧ key.length = 32 ∧ nonce.length = 12 ∧ (Shows W ao n (v8s ad) ∧ (ao = none → c = 0) ∧ n ≤ c ∧ c ≤ maxLen) ∧ (Shows W bo m (v8s p) ∧ (bo = none → d = 0) ∧ m ≤ d ∧ d ≤ maxLen) := by
  obtain ⟨f0, f1, f2, f3, hu, ⟨t0, t1, t2, t3⟩, o0, o1, o2, o3⟩ := under26
  obtain ⟨cs, rfl, hsz⟩ := okWide_struct hu hval
  obtain ⟨fuel, hf⟩ := h
  simp only [Value.cells] at hf
  obtain ⟨xs, k, _, _, hl, hlen, hfl⟩ := DataW.trod_struct hu hf
  have hcl : cs.toList.length = 46 := by rw [hl]; exact cells26
  match xs, hlen with
  | [y0, y1, y2, y3], _ =>
    have g0 : DataW.trod enc Try.prog W 0 (fun _ => true) true k f0.type ((cs.toList.drop f0.offset).take (Try.prog.cellsOf f0.type)) = some y0 := by simpa using hfl 0 f0 rfl
    have g1 : DataW.trod enc Try.prog W 0 (fun _ => true) true k f1.type ((cs.toList.drop f1.offset).take (Try.prog.cellsOf f1.type)) = some y1 := by simpa using hfl 1 f1 rfl
    have g2 : DataW.trod enc Try.prog W 0 (fun _ => true) true k f2.type ((cs.toList.drop f2.offset).take (Try.prog.cellsOf f2.type)) = some y2 := by simpa using hfl 2 f2 rfl
    have g3 : DataW.trod enc Try.prog W 0 (fun _ => true) true k f3.type ((cs.toList.drop f3.offset).take (Try.prog.cellsOf f3.type)) = some y3 := by simpa using hfl 3 f3 rfl
    rw [t0, o0, cells22] at g0
    rw [t1, o1, cells23] at g1
    rw [t2, o2, cells24] at g2
    rw [t3, o3, cells24] at g3
    obtain ⟨a, b, e, ea, eb⟩ := cut_four cs.toList hcl
    rw [ea] at g2
    rw [eb] at g3
    obtain ⟨key, hk, ek⟩ := arr_of Try.underlying22 cells22 g0
    obtain ⟨nonce, hn, en⟩ := arr_of Try.underlying23 cells23 g1
    obtain ⟨ao, n, c, ad, rfl, ha⟩ := open_row g2
    obtain ⟨bo, m, d, p, rfl, hb⟩ := open_row g3
    refine ⟨key, nonce, ao, n, c, ad, bo, m, d, p, ?_, hk, hn, ha, hb⟩
    have hcs : cs.toList = sc key nonce (.slice ao n c) (.slice bo m d) := by
      unfold sc
      rw [← ek, ← en, ← e, List.drop_zero]
      have h1 : (cs.toList.drop 32).take 12 ++ cs.toList.drop 44 = cs.toList.drop 32 := by
        have : cs.toList.drop 44 = (cs.toList.drop 32).drop 12 := by rw [List.drop_drop]
        rw [this, List.take_append_drop]
      rw [h1, List.take_append_drop]
    rw [← hcs]
set_option maxRecDepth 100000 in
/-- A row of bytes that came in by itself. -/
theorem open_bytes {H : Type} {enc : TypeId × Value → H} {W : World} {base : Nat} {v : Value} {d : DataW H} {ps : List MemPlace} (hval : Value.okWide Try.prog W .any base 24 v) (h : DataW.Trod enc Try.prog W 0 (fun _ => true) true 24 v d ps) :
    ∃ ao n c, ∃ S : List B, v = .slice ao n c ∧ Shows W ao n (v8s S) ∧ (ao = none → c = 0) ∧ n ≤ c ∧ c ≤ maxLen := by
  obtain ⟨a0, len, cap, rfl⟩ := okWide_slice Try.underlying24 hval
  obtain ⟨fuel, hf⟩ := h
  exact open_row (v := .slice a0 len cap) hf
end Go.Proofs.Ytjhkicfndbceoaa
