/- How long the numbers of an op that came in can be. -/
import Derived.Test.YteimfnnkjhopdaaFrame
import Derived.SizedLaws
namespace Go.Proofs.Yteimfnnkjhopdaa
open Go.ChangeShapes Go.WideShapes Go.ChangeAt Go.RowKit

theorem bytes3 : Try.prog.bytesOf 3 = 8 := by kernel_rfl
section
variable {H : Type} {enc : TypeId × Value → H} {W : World}
theorem mem_weightsAll {P : Program} {e : TypeId} : ∀ {l : List (DataW H)} {d : DataW H}, d ∈ l → ∀ k ∈ d.weights P e, k ∈ DataW.weightsAll P e l
  | x :: l, d, h, k, hk => by
    simp only [DataW.weightsAll, List.mem_append]
    rcases List.mem_cons.1 h with rfl | h
    · exact Or.inl hk
    · exact Or.inr (mem_weightsAll h k hk)
theorem nums_len {fuel : Nat} {ao : Option Addr} {n c : Nat} {y : DataW H × List MemPlace} (hf : DataW.trod enc Try.prog W 0 (fun _ => true) true fuel 32 [.slice ao n c] = some y) (hz : ∀ k ∈ y.1.weights Try.prog 32, k ≤ reachBytes) : n ≤ 17592186043904 := by
  rcases open_ints Try.underlying32 Try.underlying3 cells3 hf with ⟨hcs, hx⟩ | ⟨a, len, cap, zs, hcs, _, hl, hm, hz0, hx, hcell, hwz⟩
  · simp at hcs
    omega
  · simp at hcs
    obtain ⟨rfl, rfl, rfl⟩ := hcs
    rw [hx] at hz
    have h1 := hz (((lits .i64 (zs.take n) : List (DataW H)).length + (lits .i64 (zs.drop n) : List (DataW H)).length) * Try.prog.bytesOf 3) (by simp [DataW.weights, Try.underlying32])
    rw [bytes3] at h1
    rw [if_pos rfl] at hz0
    simp only [lits, List.length_map, List.length_take, List.length_drop, reachBytes] at h1
    omega
theorem op_len {fuel : Nat} {cs : List Value} {y : DataW H × List MemPlace} (hf : DataW.trod enc Try.prog W 0 (fun _ => true) true fuel 34 cs = some y) (a i : Int) (t : ByteArray) (ao : Option Addr) (n c : Nat) (hcs : cs = oc a i t ao n c) (hz : ∀ k ∈ y.1.weights Try.prog 34, k ≤ reachBytes) : n ≤ 17592186043904 := by
  subst hcs
  obtain ⟨f0, f1, f2, f3, hu, ⟨t0, t1, t2, t3⟩, o0, o1, o2, o3⟩ := under34
  obtain ⟨xs, k, _, hy, hl, hlen, hfl⟩ := DataW.trod_struct hu hf
  match xs, hlen with
  | [y0, y1, y2, y3], _ =>
    have g3 : DataW.trod enc Try.prog W 0 (fun _ => true) true k f3.type (((oc a i t ao n c).drop f3.offset).take (Try.prog.cellsOf f3.type)) = some y3 := by simpa using hfl 3 f3 rfl
    rw [t3, o3, cells32] at g3
    refine nums_len (y := y3) (c := c) (ao := ao) g3 fun j hj => hz j ?_
    rw [hy]
    simp only [DataW.weights, hu, List.map_cons, List.map_nil]
    exact DataW.weights_mem_each (j := 3) (t := f3.type) (d := y3.1) rfl rfl j (by rw [t3]; exact hj)
set_option maxRecDepth 100000 in
/-- A list of ops that came in. -/
theorem open_opsz {base : Nat} {v : Value} {d : DataW H} {ps : List MemPlace} (hval : Value.okWide Try.prog W .any base 22 v) (h : DataW.Trod enc Try.prog W 0 (fun _ => true) true 22 v d ps) (hz : ∀ k ∈ d.weights Try.prog 22, k ≤ reachBytes) :
    ∃ ao n c O, v = .slice ao n c ∧ n ≤ maxLen ∧ Ops W ao n O ∧ ∀ i, i < n → (O i).kn ≤ 17592186043904 := by
  obtain ⟨a0, len, cap, rfl⟩ := okWide_slice Try.underlying22 hval
  obtain ⟨fuel, hf⟩ := h
  rcases DataW.trod_slice Try.underlying22 hf with ⟨hcs, hx⟩ | ⟨a, len', cap', elems, rest, n, _, hcs, hx, _, hl, hm, hlen, hel, _, _⟩
  · simp [Value.cells] at hcs
    obtain ⟨rfl, rfl, rfl⟩ := hcs
    exact ⟨none, 0, 0, fun _ => OpD.none, rfl, Nat.zero_le _, ⟨fun _ => rfl, fun ad h => (by cases h), fun i hi => absurd hi (by simp)⟩, fun i hi => absurd hi (by simp)⟩
  · simp [Value.cells] at hcs
    obtain ⟨rfl, rfl, rfl⟩ := hcs
    have hd : d = .slice (elems.map (·.1)) (rest.map (·.1)) := (Prod.mk.inj hx).1
    have each : ∀ i, ∃ o : OpD, i < len → ((W.cell? (a.add (i * 4)) = some (.int .i64 o.a) ∧ W.cell? ((a.add (i * 4)).add 1) = some (.int .i64 o.i) ∧ W.cell? ((a.add (i * 4)).add 2) = some (.string o.t) ∧ W.cell? ((a.add (i * 4)).add 3) = some (.slice o.ko o.kn o.kc)) ∧ o.Good W) ∧ o.kn ≤ 17592186043904 := by
      intro i
      by_cases hi : i < len
      · have h1 := hel i hi
        rw [cells34, List.getElem?_eq_getElem (by omega)] at h1
        obtain ⟨cs, hcs, htr⟩ := Option.bind_eq_some_iff.1 h1
        obtain ⟨c0, c1, c2, c3, rfl, hc0, hc1, hc2, hc3⟩ := cells4_open hcs
        obtain ⟨o, ho, hg⟩ := trod_op htr rfl
        have hkn := op_len htr o.a o.i o.t o.ko o.kn o.kc ho (fun k hk => hz k (by
          rw [hd]
          simp only [DataW.weights, Try.underlying22]
          exact List.mem_cons_of_mem _ (List.mem_append_left _ (mem_weightsAll (List.mem_map.2 ⟨_, List.getElem_mem (by omega), rfl⟩) k hk))))
        unfold oc at ho
        simp only [List.cons.injEq, and_true] at ho
        obtain ⟨rfl, rfl, rfl, rfl⟩ := ho
        exact ⟨o, fun _ => ⟨⟨⟨hc0, hc1, hc2, hc3⟩, hg⟩, hkn⟩⟩
      · exact ⟨OpD.none, fun h => absurd h hi⟩
    classical
    have sp := fun i (hi : i < len) => (each i).choose_spec hi
    refine ⟨some a, len, cap, fun i => (each i).choose, rfl, Nat.le_trans hl hm, ⟨fun h => (by cases h), fun ad had i hi => ?_, fun i hi => (sp i hi).1.2⟩, fun i hi => (sp i hi).2⟩
    cases had
    obtain ⟨h0, h1, h2, h3⟩ := (sp i hi).1.1
    exact ⟨h0, h1, h2, h3⟩
/-- What is weighed of all is weighed of each. -/
theorem weights_at {P : Program} {ts : List TypeId} {ds : List (DataW H)} (hsz : (DataW.weightsEach P ts ds).all (· ≤ reachBytes) = true) {j : Nat} {t : TypeId} {d : DataW H} (ht : ts[j]? = some t) (hd : ds[j]? = some d) : ∀ k ∈ d.weights P t, k ≤ reachBytes := fun k hk => by
  have := List.all_eq_true.1 hsz k (DataW.weights_mem_each ht hd k hk)
  simpa using this
end
end Go.Proofs.Yteimfnnkjhopdaa
