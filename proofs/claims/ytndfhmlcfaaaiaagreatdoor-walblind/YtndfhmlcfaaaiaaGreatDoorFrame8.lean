/- What the rows of all statements need: the two tables, the witness's world, and how the arguments are opened. -/
import Derived.Test.YtndfhmlcfaaaiaaGreatDoorImgs
import Derived.Test.YtndfhmlcfaaaiaaGreatDoorCards
import Derived.Test.YtndfhmlcfaaaiaaGreatDoorTie
import Derived.ProofKit
import Derived.OpenShut
import Derived.Deep.DeepHandedRow
import Derived.Deep.Strs
import Derived.Lib.LaidTab
namespace Go.Proofs.YtndfhmlcfaaaiaaGreatDoor
open Go.ChangeShapes Go.WideShapes Go.ChangeAt Go.RowKit

theorem own : ownKnob Tryz.prog.godebug = none := by kernel_rfl
theorem laidOut : laidOutB Tryz.prog = true := by kernel_rfl
theorem gLow : Tryz.prog.globalNamed "ciborium/wal.lowTurns" = some 0 := by kernel_rfl
theorem gHigh : Tryz.prog.globalNamed "ciborium/wal.highTurns" = some 1 := by kernel_rfl
theorem gLowType : (Tryz.prog.globals[0]?).map (·.type) = some 179 := by kernel_rfl
theorem gHighType : (Tryz.prog.globals[1]?).map (·.type) = some 179 := by kernel_rfl
theorem cells139 : Tryz.prog.cellsOf 179 = 16 := by kernel_rfl
theorem cells59 : Tryz.prog.cellsOf 28 = 1 := by kernel_rfl
theorem cells3 : Tryz.prog.cellsOf 3 = 1 := by kernel_rfl
theorem cells4 : Tryz.prog.cellsOf 4 = 1 := by kernel_rfl
theorem cells9 : Tryz.prog.cellsOf 9 = 1 := by kernel_rfl
theorem cells22 : Tryz.prog.cellsOf 29 = 1 := by kernel_rfl
theorem cells23 : Tryz.prog.cellsOf 54 = 1 := by kernel_rfl
theorem cells25 : Tryz.prog.cellsOf 56 = 4 := by kernel_rfl
theorem cells45 : Tryz.prog.cellsOf 59 = 2 := by kernel_rfl
def lowTab : List Int := [0, 4067132163, 3778769143, 324072436, 3348797215, 904991772, 648144872, 3570033899, 2329499855, 2024987596, 1809983544, 2575936315, 1296289744, 3207089363, 2893594407, 1578318884]
def highTab : List Int := [0, 274646895, 549293790, 820201905, 1098587580, 1361435347, 1640403810, 1905808397, 2197175160, 2460548119, 2722870694, 2987750089, 3280807620, 3553878443, 3811616794, 4084100981]
theorem lowTab_at : ∀ i : Fin 16, lowTab.getD i.val 0 = v32 (lows.getD i.val 0#32) := by decide
theorem highTab_at : ∀ i : Fin 16, highTab.getD i.val 0 = v32 (highs.getD i.val 0#32) := by decide

theorem tabs_of {W : World} (h : laidMetH Tryz.prog [("ciborium/wal.lowTurns", Rows.laid_ciborium_wal_lowTurns), ("ciborium/wal.highTurns", Rows.laid_ciborium_wal_highTurns)] W) : Tabs W := by
  have h' : laidMet Tryz.prog [("ciborium/wal.lowTurns", Lib.tabData .u32 lowTab), ("ciborium/wal.highTurns", Lib.tabData .u32 highTab)] W := h
  obtain ⟨ps, ⟨g', t', cs, fuel, p, q, hg', ht', hvar, hd, ⟨g2, t2, cs2, fuel2, p2, q2, hg2, ht2, hvar2, hd2, _, _⟩, _⟩, _⟩ := h'
  obtain rfl := Option.some.inj (gLow.symm.trans hg')
  obtain rfl := Option.some.inj (gLowType.symm.trans ht')
  obtain rfl := Option.some.inj (gHigh.symm.trans hg2)
  obtain rfl := Option.some.inj (gHighType.symm.trans ht2)
  have hL : Lib.TabIs Tryz.prog W "ciborium/wal.lowTurns" .u32 lowTab := by
    unfold Lib.TabIs
    rw [hvar, ← Lib.cells_of_tab Tryz.underlying179 Tryz.underlying28 cells59 cells139 hd]
  have hH : Lib.TabIs Tryz.prog W "ciborium/wal.highTurns" .u32 highTab := by
    unfold Lib.TabIs
    rw [hvar2, ← Lib.cells_of_tab Tryz.underlying179 Tryz.underlying28 cells59 cells139 hd2]
  have h0 : ∀ i : Nat, i < 16 → W.cell? ⟨0, i, none⟩ = some (.int .u32 (v32 (lows.getD i 0#32))) := fun i hi => by
    rw [hL.cell gLow i (by simpa [lowTab] using hi)]
    rw [show lowTab.getD i 0 = v32 (lows.getD i 0#32) from lowTab_at ⟨i, hi⟩]
  have h1 : ∀ i : Nat, i < 16 → W.cell? ⟨1, i, none⟩ = some (.int .u32 (v32 (highs.getD i 0#32))) := fun i hi => by
    rw [hH.cell gHigh i (by simpa [highTab] using hi)]
    rw [show highTab.getD i 0 = v32 (highs.getD i 0#32) from highTab_at ⟨i, hi⟩]
  exact ⟨h0, h1, block_lt_of_cell (h1 0 (by omega))⟩

def layLow : Obj → Obj
  | .cells _ t frozen => .cells #[.int .u32 0, .int .u32 4067132163, .int .u32 3778769143, .int .u32 324072436, .int .u32 3348797215, .int .u32 904991772, .int .u32 648144872, .int .u32 3570033899, .int .u32 2329499855, .int .u32 2024987596, .int .u32 1809983544, .int .u32 2575936315, .int .u32 1296289744, .int .u32 3207089363, .int .u32 2893594407, .int .u32 1578318884] t frozen
  | o => o
def layHigh : Obj → Obj
  | .cells _ t frozen => .cells #[.int .u32 0, .int .u32 274646895, .int .u32 549293790, .int .u32 820201905, .int .u32 1098587580, .int .u32 1361435347, .int .u32 1640403810, .int .u32 1905808397, .int .u32 2197175160, .int .u32 2460548119, .int .u32 2722870694, .int .u32 2987750089, .int .u32 3280807620, .int .u32 3553878443, .int .u32 3811616794, .int .u32 4084100981] t frozen
  | o => o
/-- A world for the witness: the settled one, the tables (blocks 0 and 1) holding what their initialisers lay. -/
noncomputable def laidWorld (os : Os) : World :=
  { World.holding Tryz.prog os ⟨#[], #[], []⟩ with heap := ((World.holding Tryz.prog os ⟨#[], #[], []⟩).heap.modify 0 layLow).modify 1 layHigh }

theorem under25 : ∃ f0 f1 f2 f3 : Field, Tryz.prog.underlying 56 = some (.struct #[f0, f1, f2, f3]) ∧ (f0.type = 3 ∧ f1.type = 3 ∧ f2.type = 29 ∧ f3.type = 54) ∧ f0.offset = 0 ∧ f1.offset = 1 ∧ f2.offset = 2 ∧ f3.offset = 3 :=
  ⟨_, _, _, _, Tryz.underlying56, ⟨rfl, rfl, rfl, rfl⟩, rfl, rfl, rfl, rfl⟩
theorem under45 : ∃ f0 f1 : Field, Tryz.prog.underlying 59 = some (.struct #[f0, f1]) ∧ (f0.type = 3 ∧ f1.type = 3) ∧ f0.offset = 0 ∧ f1.offset = 1 :=
  ⟨_, _, Tryz.underlying59, ⟨rfl, rfl⟩, rfl, rfl⟩
/-- An op that came in. -/
structure Op8 where
  a : Int
  i : Int
  po : Option Addr
  pn : Nat
  pc : Nat
  Ps : List Int
  so : Option Addr
  sn : Nat
  sc : Nat
  S : Nat → ByteArray
def Op8.cells (o : Op8) : List Value := oc8 o.a o.i o.po o.pn o.pc o.so o.sn o.sc
structure Op8.Good (o : Op8) (w : World) : Prop where
  ints : Ints w o.po o.pn o.Ps
  strs : Strs w o.so o.sn o.S
  len : o.pn ≤ maxLen
  wf : (Lit.int .i64 o.i).wf = true
theorem Op8.Good.next {o : Op8} {w w' : World} (h : o.Good w) (hb : Below w.heap.size w w') : o.Good w' := ⟨h.ints.next hb, h.strs.next hb, h.len, h.wf⟩
def Op8.none : Op8 := ⟨0, 0, Option.none, 0, 0, [], Option.none, 0, 0, fun _ => ⟨#[]⟩⟩
structure Ops8 (w : World) (oo : Option Addr) (n : Nat) (O : Nat → Op8) : Prop where
  bare : oo = Option.none → n = 0
  cell : ∀ ad, oo = some ad → ∀ i, i < n → w.cell? (ad.add (i * 4)) = some (.int .i64 (O i).a) ∧ w.cell? ((ad.add (i * 4)).add 1) = some (.int .i64 (O i).i) ∧ w.cell? ((ad.add (i * 4)).add 2) = some (.slice (O i).po (O i).pn (O i).pc) ∧ w.cell? ((ad.add (i * 4)).add 3) = some (.slice (O i).so (O i).sn (O i).sc)
  good : ∀ i, i < n → (O i).Good w
theorem Ops8.next {w w' : World} {oo : Option Addr} {n : Nat} {O : Nat → Op8} (h : Ops8 w oo n O) (hb : Below w.heap.size w w') : Ops8 w' oo n O :=
  ⟨h.bare, fun ad had i hi => by obtain ⟨h1, h2, h3, h4⟩ := h.cell ad had i hi; exact ⟨cell_later hb h1, cell_later hb h2, cell_later hb h3, cell_later hb h4⟩, fun i hi => (h.good i hi).next hb⟩
section
variable {H : Type} {enc : TypeId × Value → H} {W : World}
/-- A row of numbers that came in. -/
theorem open_nums {fuel : Nat} {v : Value} {y : DataW H × List MemPlace} (hf : DataW.trod enc Tryz.prog W 0 (fun _ => true) true fuel 29 [v] = some y) :
    ∃ ao n c, ∃ xs : List Int, v = .slice ao n c ∧ Ints W ao n xs ∧ n ≤ maxLen := by
  rcases open_ints Tryz.underlying29 Tryz.underlying3 cells3 hf with ⟨hcs, hx⟩ | ⟨a, len, cap, zs, hcs, _, hl, hm, hz, hx, hcell, hwz⟩
  · have := List.cons.inj hcs
    exact ⟨none, 0, 0, [], this.1, ⟨rfl, fun _ => rfl, fun ad h => (by cases h), fun x hx => (by simp at hx)⟩, Nat.zero_le _⟩
  · have he := List.cons.inj hcs
    rw [if_pos rfl] at hz
    refine ⟨some a, len, cap, zs.take len, he.1, ⟨by simp; omega, fun h => (by cases h), fun ad had j hj => ?_, fun x hx => hwz x (List.mem_of_mem_take hx)⟩, Nat.le_trans hl hm⟩
    cases had
    rw [hcell j (by omega)]
    simp [List.getD, hj]
/-- A row of texts that came in. -/
theorem open_texts {fuel : Nat} {v : Value} {y : DataW H × List MemPlace} (hf : DataW.trod enc Tryz.prog W 0 (fun _ => true) true fuel 54 [v] = some y) :
    ∃ ao n c S, v = .slice ao n c ∧ Strs W ao n S := by
  rcases Go.Deep.open_strs Tryz.underlying54 Tryz.underlying9 cells9 hf with ⟨hcs, hx⟩ | ⟨a, len, cap, m, Sx, hcs, _, hl, hm, hmm, hx, hcell⟩
  · have := List.cons.inj hcs
    exact ⟨none, 0, 0, fun _ => ⟨#[]⟩, this.1, ⟨fun _ => rfl, fun ad h => (by cases h), fun j hj => absurd hj (by omega)⟩⟩
  · have he := List.cons.inj hcs
    rw [if_pos rfl] at hmm
    refine ⟨some a, len, cap, Sx, he.1, ⟨fun h => (by cases h), fun ad had j hj => ?_, fun j hj => (hcell j (by omega)).2⟩⟩
    cases had
    exact (hcell j (by omega)).1
set_option maxRecDepth 100000 in
/-- An op's cells that came in. -/
theorem trod_op {fuel : Nat} {cs : List Value} {y : DataW H × List MemPlace} (hf : DataW.trod enc Tryz.prog W 0 (fun _ => true) true fuel 56 cs = some y) (hl4 : cs.length = 4) :
    ∃ o : Op8, cs = o.cells ∧ o.Good W := by
  obtain ⟨f0, f1, f2, f3, hu, ⟨t0, t1, t2, t3⟩, o0, o1, o2, o3⟩ := under25
  obtain ⟨xs, k, _, _, hl, hlen, hfl⟩ := DataW.trod_struct hu hf
  match cs, hl4 with
  | [v0, v1, v2, v3], _ =>
  match xs, hlen with
  | [y0, y1, y2, y3], _ =>
    have g0 : DataW.trod enc Tryz.prog W 0 (fun _ => true) true k f0.type (([v0, v1, v2, v3].drop f0.offset).take (Tryz.prog.cellsOf f0.type)) = some y0 := by simpa using hfl 0 f0 rfl
    have g1 : DataW.trod enc Tryz.prog W 0 (fun _ => true) true k f1.type (([v0, v1, v2, v3].drop f1.offset).take (Tryz.prog.cellsOf f1.type)) = some y1 := by simpa using hfl 1 f1 rfl
    have g2 : DataW.trod enc Tryz.prog W 0 (fun _ => true) true k f2.type (([v0, v1, v2, v3].drop f2.offset).take (Tryz.prog.cellsOf f2.type)) = some y2 := by simpa using hfl 2 f2 rfl
    have g3 : DataW.trod enc Tryz.prog W 0 (fun _ => true) true k f3.type (([v0, v1, v2, v3].drop f3.offset).take (Tryz.prog.cellsOf f3.type)) = some y3 := by simpa using hfl 3 f3 rfl
    rw [t0, o0, cells3] at g0
    rw [t1, o1, cells3] at g1
    rw [t2, o2, cells22] at g2
    rw [t3, o3, cells23] at g3
    obtain ⟨a, e0, _, _⟩ := DataW.trod_int Tryz.underlying3 g0
    obtain ⟨i, e1, _, hi⟩ := DataW.trod_int Tryz.underlying3 g1
    obtain ⟨ao, n, c, zs, e2, hx, hn⟩ := open_nums g2
    obtain ⟨so, sn, sc, S, e3, hs⟩ := open_texts g3
    simp at e0 e1
    subst e0 e1 e2 e3
    exact ⟨⟨a, i, ao, n, c, zs, so, sn, sc, S⟩, rfl, ⟨hx, hs, hn, hi⟩⟩
set_option maxRecDepth 100000 in
/-- An op that came in by itself. -/
theorem open_op {base : Nat} {v : Value} {d : DataW H} {ps : List MemPlace} (hval : Value.okWide Tryz.prog W .any base 56 v) (h : DataW.Trod enc Tryz.prog W 0 (fun _ => true) true 56 v d ps) :
    ∃ o : Op8, v = .agg o.cells.toArray ∧ o.Good W := by
  obtain ⟨f0, f1, f2, f3, hu, _⟩ := under25
  obtain ⟨cs, rfl, hsz⟩ := okWide_struct hu hval
  obtain ⟨fuel, hf⟩ := h
  simp only [Value.cells] at hf
  obtain ⟨o, ho, hg⟩ := trod_op hf (by rw [Array.length_toList, hsz]; exact cells25)
  refine ⟨o, ?_, hg⟩
  rw [← ho]
set_option maxRecDepth 100000 in
theorem open_num {base : Nat} {v : Value} {d : DataW H} {ps : List MemPlace} (hval : Value.okWide Tryz.prog W .any base 3 v) (h : DataW.Trod enc Tryz.prog W 0 (fun _ => true) true 3 v d ps) :
    ∃ n : Int, v = .int .i64 n ∧ (Lit.int .i64 n).wf = true := by
  obtain ⟨n, rfl⟩ := okWide_int Tryz.underlying3 hval
  obtain ⟨fuel, hf⟩ := h
  obtain ⟨m, e, _, hm⟩ := DataW.trod_int Tryz.underlying3 hf
  simp [Value.cells] at e
  subst e
  exact ⟨n, rfl, hm⟩
set_option maxRecDepth 100000 in
/-- A place that came in. -/
theorem open_place {base : Nat} {v : Value} {d : DataW H} {ps : List MemPlace} (hval : Value.okWide Tryz.prog W .any base 59 v) (h : DataW.Trod enc Tryz.prog W 0 (fun _ => true) true 59 v d ps) :
    ∃ s l : Int, v = .agg #[.int .i64 s, .int .i64 l] ∧ (Lit.int .i64 s).wf = true ∧ (Lit.int .i64 l).wf = true := by
  obtain ⟨f0, f1, hu, ⟨t0, t1⟩, o0, o1⟩ := under45
  obtain ⟨cs, rfl, hsz⟩ := okWide_struct hu hval
  obtain ⟨fuel, hf⟩ := h
  simp only [Value.cells] at hf
  have hl2 : cs.toList.length = 2 := by rw [Array.length_toList, hsz]; exact cells45
  obtain ⟨xs, k, _, _, hl, hlen, hfl⟩ := DataW.trod_struct hu hf
  obtain ⟨l⟩ := cs
  match l, hl2 with
  | [v0, v1], _ =>
  match xs, hlen with
  | [y0, y1], _ =>
    have g0 : DataW.trod enc Tryz.prog W 0 (fun _ => true) true k f0.type (([v0, v1].drop f0.offset).take (Tryz.prog.cellsOf f0.type)) = some y0 := by simpa using hfl 0 f0 rfl
    have g1 : DataW.trod enc Tryz.prog W 0 (fun _ => true) true k f1.type (([v0, v1].drop f1.offset).take (Tryz.prog.cellsOf f1.type)) = some y1 := by simpa using hfl 1 f1 rfl
    rw [t0, o0, cells3] at g0
    rw [t1, o1, cells3] at g1
    obtain ⟨a, e0, _, ha⟩ := DataW.trod_int Tryz.underlying3 g0
    obtain ⟨i, e1, _, hi⟩ := DataW.trod_int Tryz.underlying3 g1
    simp at e0 e1
    subst e0 e1
    exact ⟨a, i, rfl, ha, hi⟩
theorem cells4_open {w : World} {base : Nat} {a : Addr} {cs : List Value} (h : w.cells? base a 4 = some cs) : ∃ c0 c1 c2 c3, cs = [c0, c1, c2, c3] ∧ w.cell? a = some c0 ∧ w.cell? (a.add 1) = some c1 ∧ w.cell? (a.add 2) = some c2 ∧ w.cell? (a.add 3) = some c3 := by
  unfold World.cells? at h
  split at h
  · have e : List.range 4 = [0, 1, 2, 3] := by decide
    rw [e] at h
    simp only [List.mapM_cons, List.mapM_nil, Option.bind_eq_bind, Option.bind_eq_some_iff, Option.pure_def, Option.some.injEq] at h
    obtain ⟨c0, h0, l1, ⟨c1, h1, l2, ⟨c2, h2, l3, ⟨c3, h3, l4, rfl, rfl⟩, rfl⟩, rfl⟩, rfl⟩ := h
    refine ⟨c0, c1, c2, c3, rfl, ?_, h1, h2, h3⟩
    have : a.add 0 = a := by unfold Addr.add; simp
    rwa [this] at h0
  · cases h
set_option maxRecDepth 100000 in
/-- A list of ops that came in. -/
theorem open_ops {base : Nat} {v : Value} {d : DataW H} {ps : List MemPlace} (hval : Value.okWide Tryz.prog W .any base 60 v) (h : DataW.Trod enc Tryz.prog W 0 (fun _ => true) true 60 v d ps) :
    ∃ ao n c O, v = .slice ao n c ∧ n ≤ maxLen ∧ n ≤ c ∧ Ops8 W ao n O := by
  obtain ⟨a0, len, cap, rfl⟩ := okWide_slice Tryz.underlying60 hval
  obtain ⟨fuel, hf⟩ := h
  rcases DataW.trod_slice Tryz.underlying60 hf with ⟨hcs, hx⟩ | ⟨a, len', cap', elems, rest, n, _, hcs, hx, _, hl, hm, hlen, hel, _, _⟩
  · simp [Value.cells] at hcs
    obtain ⟨rfl, rfl, rfl⟩ := hcs
    exact ⟨none, 0, 0, fun _ => Op8.none, rfl, Nat.zero_le _, Nat.le_refl _, ⟨fun _ => rfl, fun ad h => (by cases h), fun i hi => absurd hi (by simp)⟩⟩
  · simp [Value.cells] at hcs
    obtain ⟨rfl, rfl, rfl⟩ := hcs
    have each : ∀ i, ∃ o : Op8, i < len → (W.cell? (a.add (i * 4)) = some (.int .i64 o.a) ∧ W.cell? ((a.add (i * 4)).add 1) = some (.int .i64 o.i) ∧ W.cell? ((a.add (i * 4)).add 2) = some (.slice o.po o.pn o.pc) ∧ W.cell? ((a.add (i * 4)).add 3) = some (.slice o.so o.sn o.sc)) ∧ o.Good W := by
      intro i
      by_cases hi : i < len
      · have h1 := hel i hi
        rw [cells25, List.getElem?_eq_getElem (by omega)] at h1
        obtain ⟨cs, hcs, htr⟩ := Option.bind_eq_some_iff.1 h1
        obtain ⟨c0, c1, c2, c3, rfl, hc0, hc1, hc2, hc3⟩ := cells4_open hcs
        obtain ⟨o, ho, hg⟩ := trod_op htr rfl
        unfold Op8.cells oc8 at ho
        simp only [List.cons.injEq, and_true] at ho
        obtain ⟨rfl, rfl, rfl, rfl⟩ := ho
        exact ⟨o, fun _ => ⟨⟨hc0, hc1, hc2, hc3⟩, hg⟩⟩
      · exact ⟨Op8.none, fun h => absurd h hi⟩
    classical
    have sp := fun i (hi : i < len) => (each i).choose_spec hi
    refine ⟨some a, len, cap, fun i => (each i).choose, rfl, Nat.le_trans hl hm, hl, ⟨fun h => (by cases h), fun ad had i hi => ?_, fun i hi => (sp i hi).2⟩⟩
    cases had
    obtain ⟨h0, h1, h2, h3⟩ := (sp i hi).1
    exact ⟨h0, h1, h2, h3⟩
end
end Go.Proofs.YtndfhmlcfaaaiaaGreatDoor

