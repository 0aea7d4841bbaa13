/- OctetOne: for every input there is one form: what is taken is written so, what is written is taken as what it was, and a greater number has no fewer digits. -/
import Derived.Test.YtmnkbbfpdohpkabDoorOneB
import Derived.Test.YtmnkbbfpdohpkabDoorNumFrame
import Derived.Lib.SmallJoins
namespace Go.Proofs.YtmnkbbfpdohpkabDoor
open Go.ChangeShapes Go.WideShapes Go.ChangeAt Go.RowKit
open Go.ChangeMaps (open_string shut_string)

theorem cells25 : Tryd.prog.cellsOf 25 = 4 := by kernel_rfl

theorem open_bytes1 {H : Type} {enc : TypeId × Value → H} {W : World} {fuel : Nat} {v : Value} {y : DataW H × List MemPlace} (hf : DataW.trod enc Tryd.prog W 0 (fun _ => true) true fuel 22 [v] = some y) :
    ∃ ao n c xs, v = .slice ao n c ∧ Shows W ao n xs ∧ (ao = none → c = 0) := by
  rcases open_ints Tryd.underlying22 Tryd.underlying5 cells5 hf with ⟨hcs, hx⟩ | ⟨a, len', cap', zs, hcs, _, hl, hm, hz, hx, hcell, hwz⟩
  · simp at hcs
    exact ⟨none, 0, 0, [], hcs, ⟨rfl, fun _ => rfl, fun ad h => (by cases h), fun x hx => (by simp at hx)⟩, fun _ => rfl⟩
  · simp at hcs
    rw [if_pos rfl] at hz
    refine ⟨some a, len', cap', zs.take len', hcs, ⟨by simp; omega, fun h => (by cases h), fun ad had j hj => ?_, fun x hx => ?_⟩, fun h => (by cases h)⟩
    · cases had
      rw [hcell j (by omega)]
      simp [List.getD, hj]
    · have := hwz x (List.mem_of_mem_take hx)
      have := bounds_u8 this
      omega

set_option maxRecDepth 100000 in
theorem open_one {H : Type} {enc : TypeId × Value → H} {W : World} {base : Nat} {v : Value} {d : DataW H} {ps : List MemPlace} (hval : Value.okWide Tryd.prog W .any base 25 v) (h : DataW.Trod enc Tryd.prog W 0 (fun _ => true) true 25 v d ps) :
    ∃ (s : ByteArray) (ao : Option Addr) (n c : Nat) (xs : List Int) (m u : Nat), v = .agg #[.string s, .slice ao n c, .int .u64 m, .int .u64 u] ∧ Shows W ao n xs ∧ (ao = none → c = 0) ∧ m < 18446744073709551616 ∧ u < 18446744073709551616 := by
  obtain ⟨v0, v1, v2, v3, y0, y1, y2, y3, k, rfl, _, _, g0, g1, g2, g3⟩ := Go.Joins.open_agg4 Tryd.underlying25 (by kernel_rfl) cells25 hval h
  obtain ⟨s, e0, _, _⟩ := DataW.trod_string Tryd.underlying9 g0
  obtain ⟨ao, n, c, xs, rfl, hx, hc⟩ := open_bytes1 g1
  obtain ⟨m, e2, _, wm⟩ := DataW.trod_int Tryd.underlying23 g2
  obtain ⟨u, e3, _, wu⟩ := DataW.trod_int Tryd.underlying23 g3
  have bm := bounds_u64 wm
  have bu := bounds_u64 wu
  simp at e0 e2 e3
  subst e0 e2 e3
  obtain ⟨m', rfl⟩ : ∃ k : Nat, m = k := ⟨m.toNat, by omega⟩
  obtain ⟨u', rfl⟩ : ∃ k : Nat, u = k := ⟨u.toNat, by omega⟩
  exact ⟨s, ao, n, c, xs, m', u', rfl, hx, hc, by omega, by omega⟩

set_option maxHeartbeats 400000 in
theorem one_big1 (s : ByteArray) (ao : Option Addr) (n c m u : Nat) (w : World) (E : Env w) (hs : (65536 : Int) < s.size) :
    Calls Tryd.prog 3 #[.agg #[.string s, .slice ao n c, .int .u64 m, .int .u64 u]] w fun e w' => e = .returned (.bool true) ∧ Below w.heap.size w w' := by
  go_enter Tryd.func3, Tryd.ntmps3
  go_wp2_with fail
  go_quiet (fail)
  go_wp2_with fail
  go_at_call 4
  refine (works_to E _ (keep_box w _ _)).mono ?_
  rintro e w1 ⟨rfl, hk⟩
  go_wp2
  go_ret
  exact ⟨rfl, hk⟩

set_option maxHeartbeats 400000 in
theorem one_big2 (s : ByteArray) (ao : Option Addr) (n c m u : Nat) (w : World) (E : Env w) (hs : (s.size : Int) ≤ 65536) (hn : (65536 : Int) < n) :
    Calls Tryd.prog 3 #[.agg #[.string s, .slice ao n c, .int .u64 m, .int .u64 u]] w fun e w' => e = .returned (.bool true) ∧ Below w.heap.size w w' := by
  go_enter Tryd.func3, Tryd.ntmps3
  go_wp2_with fail
  go_quiet (fail)
  go_wp2_with fail
  go_at_call 4
  refine (works_to E _ (keep_box w _ _)).mono ?_
  rintro e w1 ⟨rfl, hk⟩
  go_wp2
  go_ret
  exact ⟨rfl, hk⟩

namespace OctetOne

set_option maxRecDepth 100000 in
theorem contract (H : Type) (enc : TypeId × Value → H) (W : World) (base : Nat) (args : Array Value) (ds gs : List (DataW H)) (before : List MemPlace)
    (hval : ∀ (j : Nat) t v, Tryd.f3.params[j]? = some t → args[j]? = some v → Value.okWide Tryd.prog W .any base t v)
    (hW : DataW.Whole enc Tryd.prog Tryd.f3.params.toList Rows.octetOneSpec.vars false W args.toList ds gs before) (hL : laidMetH Tryd.prog Rows.octetOneRow.laid W) :
    Calls Tryd.prog 3 args W fun e W' => ∃ v, e = .returned v ∧ Rows.octetOneSpec.post enc Tryd.prog Tryd.f3 false true false false W args v W' := by
  have hW' := hW
  obtain ⟨p, q, hA0, hV, rfl, hfz, hnd⟩ := hW
  have hA : DataW.TrodAll enc Tryd.prog W 0 (fun _ => true) true Tryd.f3.params.toList args.toList ds p := hA0
  rw [Tryd.params3] at hA hval
  obtain ⟨v0, vs0, d0, ds0, p0, q0, hargs, rfl, rfl, h0, r0⟩ := trodAll_cons hA
  obtain ⟨rfl, rfl, rfl⟩ := trodAll_nil r0
  obtain rfl : args = #[v0] := by cases args; simp_all
  obtain ⟨rfl, rfl⟩ := trodVars_none hV
  clear hA0
  simp only [List.append_nil] at hW'
  obtain ⟨hT, hz, hP, te, pe, hE⟩ := six_of hL
  have E : Env W := ⟨hT, hz, hP, te, pe, hE⟩
  obtain ⟨s, ao, n, c, xs, m, u, rfl, hx, hc, hm, hu⟩ := open_one (hval 0 25 v0 rfl rfl) h0
  have walk : Calls Tryd.prog 3 #[.agg #[.string s, .slice ao n c, .int .u64 m, .int .u64 u]] W fun e w' => e = .returned (.bool true) ∧ Below W.heap.size W w' := by
    by_cases hs : (s.size : Int) ≤ 65536
    · by_cases hn : (n : Int) ≤ 65536
      · by_cases hA : uhE (nums s) = 0
        · by_cases hB : nE s.data.toList = 0
          · by_cases hC : (u : Int) < m
            · exact one_111 s ao n c xs m u W E hx hc hs hn hm hu hA hB hC
            · exact one_110 s ao n c xs m u W E hx hc hs hn hm hu hA hB hC
          · by_cases hC : (u : Int) < m
            · exact one_101 s ao n c xs m u W E hx hc hs hn hm hu hA hB hC
            · exact one_100 s ao n c xs m u W E hx hc hs hn hm hu hA hB hC
        · by_cases hB : nE s.data.toList = 0
          · by_cases hC : (u : Int) < m
            · exact one_011 s ao n c xs m u W E hx hc hs hn hm hu hA hB hC
            · exact one_010 s ao n c xs m u W E hx hc hs hn hm hu hA hB hC
          · by_cases hC : (u : Int) < m
            · exact one_001 s ao n c xs m u W E hx hc hs hn hm hu hA hB hC
            · exact one_000 s ao n c xs m u W E hx hc hs hn hm hu hA hB hC
      · exact one_big2 s ao n c m u W E hs (by omega)
    · exact one_big1 s ao n c m u W E (by omega)
  refine walk.mono fun e W' ⟨he, hb⟩ => ?_
  subst he
  refine ⟨_, rfl, _, _, _, [], p0, [], hW', ?_, ?_, ?_, hb.frame _, fun h => by cases h⟩
  · exact trodAll_cons_mk (shut_bool Tryd.underlying4 _) trodAll_mk0
  · have ha := trodAll_cons_mk (Below.trod laidOut (by kernel_rfl) (of_decide_eq_true (by kernel_rfl)) h0 hb (fun x hx => by simpa using hW'.lt x (by simp [hx]))) trodAll_mk0
    simp only [List.append_nil] at ha
    exact ha
  · rfl

theorem laid_met (os : Os) : laidMet Tryd.prog Rows.octetOneRow.laid ((laidWorld5 os).forCall (fun _ _ => 0) ⟨#[], #[.agg #[.string ⟨#[]⟩, .slice none 0 0, .int .u64 0, .int .u64 0]], []⟩).memory :=
  laidMet_of_run' 8 (by kernel_rfl) (by kernel_rfl)
theorem reads (os : Os) {H : Type} (enc : TypeId × Value → H) : ∃ places, DataW.whole enc Tryd.prog ((laidWorld5 os).forCall (fun _ _ => 0) ⟨#[], #[.agg #[.string ⟨#[]⟩, .slice none 0 0, .int .u64 0, .int .u64 0]], []⟩).memory Tryd.f3.params.toList Rows.octetOneSpec.vars false (#[.agg #[.string ⟨#[]⟩, .slice none 0 0, .int .u64 0, .int .u64 0]] : Array Value).toList 8 = some ([.agg [.lit (.string []), .nil, .lit (.int .u64 0), .lit (.int .u64 0)]], [], places) :=
  ⟨[], by kernel_rfl⟩

set_option maxRecDepth 100000 in
theorem lifted (os : Os) (started : os.Started) (H : Type) (enc : TypeId × Value → H) (F : Stop.Interp) :
    ReturnsInHanded {} Tryd.checked os 3 .any ((OpenSpec.ofChange Rows.octetOneSpec).preRow enc Tryd.prog Tryd.f3 Rows.octetOneRow.domain false Rows.octetOneRow.laid) (((OpenSpec.ofChange Rows.octetOneSpec).at F).post enc Tryd.prog Tryd.f3 false true false false) := by
  obtain ⟨places, hx⟩ := reads os enc
  refine returnsInHanded_of_row (C := Tryd.checked) (s := OpenSpec.ofChange Rows.octetOneSpec) own started (by kernel_rfl) Tryd.func3
    (witness_row_at (enc := enc) (C := Tryd.checked) false (laidWorld5 os) #[.agg #[.string ⟨#[]⟩, .slice none 0 0, .int .u64 0, .int .u64 0]] rfl (by kernel_rfl) (by kernel_rfl) (by kernel_rfl)
      (OpenSpec.preRow_of_cond 8 hx (by kernel_rfl) (fun k hk => by cases hk) (by kernel_rfl) (laid_met os))) ?_
  intro W base args ds gs before hval hW _ _ _ hL _ _
  exact contract H enc W base args ds gs before hval hW hL

theorem said : Rows.OctetOneSaid :=
  OpenClaim.holds_of_cond 3 Tryd.f3 rfl rfl rfl rfl rfl rfl rfl ⟨rfl, rfl, rfl, rfl, rfl⟩ rfl rfl rfl rfl rfl (by kernel_rfl) Tryd.func3 (by kernel_rfl)
    (of_decide_eq_true (by kernel_rfl)) (by unfold Func.isWrapper; first | (rw [if_pos (by decide +kernel)]; kernel_rfl) | (rw [if_neg (by decide +kernel)]; exact ⟨rfl, rfl⟩))
    (fun os started H enc _ F => by rw [OpenClaim.pre_eq_preRow]; exact lifted os started H enc F)

/-- No parameter wants a stand-in; the program's own looks are the card's. -/
theorem plain (f : FuncId) (fn : Func) (hf : Tryd.pinned.checked.prog.funcNamed "ciborium/ciboriumlaw01.OctetOne" = some f) (hfn : Tryd.pinned.checked.prog.funcs[f]? = some fn) :
    true = Tryd.pinned.checked.prog.looks [] ∧ ∀ (j : Nat) t, fn.params[j]? = some t → Tryd.pinned.checked.prog.wantsStandIn t = false := by
  obtain rfl : f = 3 := Option.some.inj ((show Tryd.prog.funcNamed "ciborium/ciboriumlaw01.OctetOne" = some 3 by kernel_rfl).symm.trans hf) |>.symm
  obtain rfl : fn = Tryd.f3 := (Option.some.inj (Tryd.func3.symm.trans hfn)).symm
  refine ⟨by kernel_rfl, fun j t ht => ?_⟩
  rw [Tryd.params3] at ht
  obtain rfl : t = 25 := by simpa using Array.mem_of_getElem? ht
  exact (show Tryd.prog.wantsStandIn 25 = false by kernel_rfl)

end OctetOne

/-- OctetOne, tied: for every input the call returns true, and each argument reads as it did. -/
theorem octetOne_holds : Rows.OctetOneCardSaid :=
  Claim7.holds_tied_plain_at .later [] _ _ _ _ OctetOne.said (fun _ h => by cases h) (by kernel_rfl) (fun _ h => by cases h) octetOne_row_tie rfl ⟨rfl, rfl⟩ (by kernel_rfl) rfl OctetOne.plain (by kernel_rfl)

end Go.Proofs.YtmnkbbfpdohpkabDoor
