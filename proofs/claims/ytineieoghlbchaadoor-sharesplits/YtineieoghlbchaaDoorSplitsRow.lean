/- ShareSplits: for every secret, numbers and draws the shares, or the error, are those of the document; what is handed in stays, and what is answered is new memory, each row its own (of a secret of more than 4096 bytes or more than 65536 draws only the anchor is asked). -/
import Derived.Test.YtineieoghlbchaaDoorSplitsA
import Derived.Test.YtineieoghlbchaaDoorFrame
namespace Go.Proofs.YtineieoghlbchaaDoor
open Go.ChangeShapes Go.WideShapes Go.ChangeAt Go.RowKit
open Go.ChangeMaps (open_string shut_string)

theorem cells24 : Tryd.prog.cellsOf 24 = 4 := by kernel_rfl
set_option maxRecDepth 100000 in
theorem open_part {H : Type} {enc : TypeId × Value → H} {W : World} {base : Nat} {v : Value} {d : DataW H} {ps : List MemPlace} (hval : Value.okWide Tryd.prog W .any base 24 v) (h : DataW.Trod enc Tryd.prog W 0 (fun _ => true) true 24 v d ps) :
    ∃ (so : Option Addr) (m sc : Nat) (S : List B) (n k : Int) (ro : Option Addr) (dn rc : Nat) (D : List B), v = .agg #[.slice so m sc, .int .i64 n, .int .i64 k, .slice ro dn rc] ∧ (Shows W so m (S.map v8) ∧ (so = none → sc = 0)) ∧ Shows W ro dn (D.map v8) ∧ (ro = none → rc = 0) ∧ dn ≤ rc := by
  obtain ⟨v0, v1, v2, v3, y0, y1, y2, y3, k, rfl, _, _, g0, g1, g2, g3⟩ := Go.Joins.open_agg4 Tryd.underlying24 (by kernel_rfl) cells24 hval h
  obtain ⟨so, m, sc, S, rfl, hs, hsc, _⟩ := open_elems g0
  obtain ⟨n, rfl, _⟩ := open_num1 g1
  obtain ⟨k, rfl, _⟩ := open_num1 g2
  obtain ⟨ro, dn, rc, D, rfl, hd, hdc, hrc, _⟩ := open_elems g3
  exact ⟨so, m, sc, S, n, k, ro, dn, rc, D, rfl, ⟨hs, hsc⟩, hd, hdc, hrc⟩

namespace ShareSplits

set_option maxRecDepth 100000 in
theorem contract (H : Type) (enc : TypeId × Value → H) (W : World) (base : Nat) (args : Array Value) (ds gs : List (DataW H)) (before : List MemPlace)
    (hval : ∀ (j : Nat) t v, Tryd.f3.params[j]? = some t → args[j]? = some v → Value.okWide Tryd.prog W .any base t v)
    (hW : DataW.Whole enc Tryd.prog Tryd.f3.params.toList Rows.shareSplitsSpec.vars false W args.toList ds gs before) (hL : laidMetH Tryd.prog Rows.shareSplitsRow.laid W) :
    Calls Tryd.prog 3 args W fun e W' => ∃ v, e = .returned v ∧ Rows.shareSplitsSpec.post enc Tryd.prog Tryd.f3 false true false false W args v W' := by
  have hW' := hW
  obtain ⟨p, q, hA0, hV, rfl, hfz, hnd⟩ := hW
  have hA : DataW.TrodAll enc Tryd.prog W 0 (fun _ => true) true Tryd.f3.params.toList args.toList ds p := hA0
  rw [Tryd.params3] at hA hval
  obtain ⟨v0, vs0, d0, ds0, p0, q0, hargs, rfl, rfl, h0, r0⟩ := trodAll_cons hA
  obtain ⟨rfl, rfl, rfl⟩ := trodAll_nil r0
  obtain rfl : args = #[v0] := by cases args; simp_all
  obtain ⟨rfl, rfl⟩ := trodVars_none hV
  clear hA0
  simp only [List.append_nil] at hW'
  obtain ⟨hT, hz⟩ := tab_of hL
  obtain ⟨so, m, sc, S, n, k, ro, dn, rc, D, rfl, ⟨hs, hsc⟩, hd, hdc, hrc⟩ := open_part (hval 0 24 v0 rfl rfl) h0
  have walk : Calls Tryd.prog 3 #[.agg #[.slice so m sc, .int .i64 n, .int .i64 k, .slice ro dn rc]] W fun e w' => e = .returned (.bool true) ∧ Below W.heap.size W w' := by
    by_cases hm : (m : Int) ≤ 4096
    · by_cases hdn : (dn : Int) ≤ 65536
      · exact splits_walk so ro m sc dn rc n k S D W hs hsc hd hdc hrc hT hz hm hdn
      · exact splits_big so ro m sc dn rc n k W hT (Or.inr (by omega))
    · exact splits_big so ro m sc dn rc n k W hT (Or.inl (by omega))
  refine walk.mono fun e W' ⟨he, hb⟩ => ?_
  subst he
  refine ⟨_, rfl, _, _, _, [], p0, [], hW', ?_, ?_, ?_, hb.frame _, fun h => by cases h⟩
  · exact trodAll_cons_mk (shut_bool Tryd.underlying4 _) trodAll_mk0
  · have ha := trodAll_cons_mk (Below.trod laidOut (by kernel_rfl) (of_decide_eq_true (by kernel_rfl)) h0 hb (fun x hx => by simpa using hW'.lt x (by simp [hx]))) trodAll_mk0
    simp only [List.append_nil] at ha
    exact ha
  · rfl

theorem laid_met (os : Os) : laidMet Tryd.prog Rows.shareSplitsRow.laid ((laidWorld os).forCall (fun _ _ => 0) ⟨#[], #[.agg #[.slice none 0 0, .int .i64 0, .int .i64 0, .slice none 0 0]], []⟩).memory :=
  laidMet_of_run' 8 (by kernel_rfl) (by kernel_rfl)
theorem reads (os : Os) {H : Type} (enc : TypeId × Value → H) : ∃ places, DataW.whole enc Tryd.prog ((laidWorld os).forCall (fun _ _ => 0) ⟨#[], #[.agg #[.slice none 0 0, .int .i64 0, .int .i64 0, .slice none 0 0]], []⟩).memory Tryd.f3.params.toList Rows.shareSplitsSpec.vars false (#[.agg #[.slice none 0 0, .int .i64 0, .int .i64 0, .slice none 0 0]] : Array Value).toList 8 = some ([.agg [.nil, .lit (.int .i64 0), .lit (.int .i64 0), .nil]], [], places) :=
  ⟨[], by kernel_rfl⟩

set_option maxRecDepth 100000 in
theorem lifted (os : Os) (started : os.Started) (H : Type) (enc : TypeId × Value → H) (F : Stop.Interp) :
    ReturnsInHanded {} Tryd.checked os 3 .any ((OpenSpec.ofChange Rows.shareSplitsSpec).preRow enc Tryd.prog Tryd.f3 Rows.shareSplitsRow.domain false Rows.shareSplitsRow.laid) (((OpenSpec.ofChange Rows.shareSplitsSpec).at F).post enc Tryd.prog Tryd.f3 false true false false) := by
  obtain ⟨places, hx⟩ := reads os enc
  refine returnsInHanded_of_row (C := Tryd.checked) (s := OpenSpec.ofChange Rows.shareSplitsSpec) own started (by kernel_rfl) Tryd.func3
    (witness_row_at (enc := enc) (C := Tryd.checked) false (laidWorld os) #[.agg #[.slice none 0 0, .int .i64 0, .int .i64 0, .slice none 0 0]] rfl (by kernel_rfl) (by kernel_rfl) (by kernel_rfl)
      (OpenSpec.preRow_of_cond 8 hx (by kernel_rfl) (fun k hk => by cases hk) (by kernel_rfl) (laid_met os))) ?_
  intro W base args ds gs before hval hW _ _ _ hL _ _
  exact contract H enc W base args ds gs before hval hW hL

theorem said : Rows.ShareSplitsSaid :=
  OpenClaim.holds_of_cond 3 Tryd.f3 rfl rfl rfl rfl rfl rfl rfl ⟨rfl, rfl, rfl, rfl, rfl⟩ rfl rfl rfl rfl rfl (by kernel_rfl) Tryd.func3 (by kernel_rfl)
    (of_decide_eq_true (by kernel_rfl)) (by unfold Func.isWrapper; first | (rw [if_pos (by decide +kernel)]; kernel_rfl) | (rw [if_neg (by decide +kernel)]; exact ⟨rfl, rfl⟩))
    (fun os started H enc _ F => by rw [OpenClaim.pre_eq_preRow]; exact lifted os started H enc F)

/-- No parameter wants a stand-in; the program's own looks are the card's. -/
theorem plain (f : FuncId) (fn : Func) (hf : Tryd.pinned.checked.prog.funcNamed "ciborium/ciboriumlaw04.ShareSplits" = some f) (hfn : Tryd.pinned.checked.prog.funcs[f]? = some fn) :
    false = Tryd.pinned.checked.prog.looks [] ∧ ∀ (j : Nat) t, fn.params[j]? = some t → Tryd.pinned.checked.prog.wantsStandIn t = false := by
  obtain rfl : f = 3 := Option.some.inj ((show Tryd.prog.funcNamed "ciborium/ciboriumlaw04.ShareSplits" = some 3 by kernel_rfl).symm.trans hf) |>.symm
  obtain rfl : fn = Tryd.f3 := (Option.some.inj (Tryd.func3.symm.trans hfn)).symm
  refine ⟨by kernel_rfl, fun j t ht => ?_⟩
  rw [Tryd.params3] at ht
  obtain rfl : t = 24 := by simpa using Array.mem_of_getElem? ht
  exact (show Tryd.prog.wantsStandIn 24 = false by kernel_rfl)

end ShareSplits

/-- ShareSplits, tied: for every input the call returns true, and each argument reads as it did. -/
theorem shareSplits_holds : Rows.ShareSplitsCardSaid :=
  Claim7.holds_tied_plain_at .later [] _ _ _ _ ShareSplits.said (fun _ h => by cases h) (by kernel_rfl) (fun _ h => by cases h) shareSplits_row_tie rfl ⟨rfl, rfl⟩ (by kernel_rfl) rfl ShareSplits.plain (by kernel_rfl)

end Go.Proofs.YtineieoghlbchaaDoor
