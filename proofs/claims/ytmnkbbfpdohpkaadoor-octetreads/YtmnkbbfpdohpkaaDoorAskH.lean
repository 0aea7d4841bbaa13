/- Any question, asked of both readers; the document's reader is made; a list of questions that came in, opened. -/
import Derived.Test.YtmnkbbfpdohpkaaDoorAskG
import Derived.Test.YtmnkbbfpdohpkaaDoorFrame
import Derived.Deep.Strs
namespace Go.Proofs.YtmnkbbfpdohpkaaDoor
open Go.ChangeShapes Go.WideShapes Go.ChangeAt Go.RowKit

theorem asked_any (r q : Nat) (bo : Option Addr) (N bc : Nat) (ys : List Int) (x1 x2 : Int) (w : World) (h : Alike2 w r q bo N bc ys) (hN : N ≤ 140737488350000) :
    Calls Tryd.prog 32 #[.pointer (some ⟨r, 0, none⟩), .pointer (some ⟨q, 0, none⟩), .agg #[.int .i64 x1, .int .i64 x2]] w fun e w' => e = .returned (.bool true) ∧ Alike2 w' r q bo N bc ys ∧ Two r q w w' := by
  obtain ⟨ao, n, c, e, k, h1, hq, _⟩ := h
  have hn : n ≤ 140737488350000 := by have a := h1.sh.len; have b := hq.sh.len; rw [List.length_drop] at a; omega
  by_cases e1 : x1 = 1
  · subst e1; exact asked_1 r q ao bo n c N bc ys k e x2 w h1 hq
  by_cases e2 : x1 = 2
  · subst e2; exact asked_2 r q ao bo n c N bc ys k e x2 w h1 hq
  by_cases e3 : x1 = 3
  · subst e3; exact asked_3 r q ao bo n c N bc ys k e x2 w h1 hq hn
  by_cases e4 : x1 = 4
  · subst e4; exact asked_4 r q ao bo n c N bc ys k e x2 w h1 hq
  by_cases e5 : x1 = 5
  · subst e5; exact asked_5 r q ao bo n c N bc ys k e x2 w h1 hq
  by_cases e8 : x1 = 8
  · subst e8; exact asked_8 r q ao bo n c N bc ys k e x2 w h1 hq
  exact asked_no r q ao bo n c N bc ys k e x1 x2 w h1 hq (by simpa using e1) (by simpa using e2) (by simpa using e3) (by simpa using e4) (by simpa using e5) (by simpa using e8)

theorem Alike2.two {w w' : World} {r q s p : Nat} {bo co : Option Addr} {N bc M dc : Nat} {ys zs : List Int} (h : Alike2 w s p bo N bc ys) (h2 : Alike2 w r q co M dc zs) (ht : Two r q w w') (hne : s ≠ r) (hne2 : p ≠ q) : Alike2 w' s p bo N bc ys := by
  obtain ⟨ao, n, c, e, k, h1, hq, hl⟩ := h
  obtain ⟨ao2, n2, c2, e2, k2, h12, hq2, _⟩ := h2
  exact ⟨ao, n, c, e, k, h1.two h12 hq2 ht hne, hq.two h12 hq2 ht hne2, hl⟩

set_option maxHeartbeats 400000 in
set_option maxRecDepth 100000 in
theorem rread_any (ao : Option Addr) (n c : Nat) (xs : List Int) (w : World) (hs : Shows w ao n xs) (hc : ao = none → c = 0) (hbig : n ≤ 140737488355328) :
    Calls Tryd.prog 31 #[.slice ao n c] w fun e w' => ∃ q bo bc, e = .returned (.pointer (some ⟨q, 0, none⟩)) ∧ RR w' q bo n bc xs 0 0 ∧ Below w.heap.size w w' ∧ w.heap.size ≤ q ∧ q < w'.heap.size := by
  go_enter Tryd.func31, Tryd.ntmps31
  go_wp2_with (at_builtin; go_must (refine law_append rfl _ _ rfl w.heap.size _ 0 [] rfl (World.ownsRow_nil _ _ _ _) ao n c xs rfl hs hc (by omega) (Nat.le_refl _) ?_))
  intro v1 w1 hown1 hgrow1
  try simp only [Nat.zero_add, List.nil_append] at hown1
  have hb1 : Below w.heap.size w w1 := (Below.refl _ w).grown hgrow1 (Nat.le_refl _) (by intro b hb; simp [Value.ownBlock] at hb)
  obtain ⟨ao', c', hv, hsh, hcap, hmax, hbare, hblk⟩ := own_shape hown1 hs.rng
  subst hv
  go_wp2
  go_ret
  have hb2 : Below w1.heap.size w1 (w1.alloc (.cells #[.slice ao' n c', .int .i64 0, .int .i64 0] 84)) := (Below.refl _ _).alloc (Nat.le_refl _) _
  refine ⟨w1.heap.size, ao', c', rfl, ⟨heap_alloc_new _ _, hsh.later hb2, Nat.zero_le _, hcap, hmax, hbare, fun ad had => ?_, hbig⟩, hb1.alloc hb1.size _, hb1.size, by simp⟩
  have := (hblk ad had).2
  omega

theorem cells53 : Tryd.prog.cellsOf 53 = 2 := by kernel_rfl
theorem cells3b : Tryd.prog.cellsOf 3 = 1 := by kernel_rfl

/-- In the world w a slice at ao shows the questions l. -/
structure Asks (w : World) (ao : Option Addr) (n : Nat) (l : List (Int × Int)) : Prop where
  len : l.length = n
  bare : ao = none → n = 0
  cell : ∀ ad, ao = some ad → ∀ i (h : i < l.length), w.cell? (ad.add (i * 2)) = some (.int .i64 l[i].1) ∧ w.cell? ((ad.add (i * 2)).add 1) = some (.int .i64 l[i].2)

theorem cells2_open {w : World} {base : Nat} {a : Addr} {cs : List Value} (h : w.cells? base a 2 = some cs) : ∃ c0 c1, cs = [c0, c1] ∧ w.cell? a = some c0 ∧ w.cell? (a.add 1) = some c1 := by
  unfold World.cells? at h
  split at h
  · have e : List.range 2 = [0, 1] := by decide
    rw [e] at h
    simp only [List.mapM_cons, List.mapM_nil, Option.bind_eq_bind, Option.bind_eq_some_iff, Option.pure_def, Option.some.injEq] at h
    obtain ⟨c0, h0, l1, ⟨c1, h1, l2, rfl, rfl⟩, rfl⟩ := h
    refine ⟨c0, c1, rfl, ?_, h1⟩
    have : a.add 0 = a := by unfold Addr.add; simp
    rwa [this] at h0
  · cases h

theorem under53 : ∃ f0 f1 : Field, Tryd.prog.underlying 53 = some (.struct #[f0, f1]) ∧ f0.type = 3 ∧ f1.type = 3 ∧ f0.offset = 0 ∧ f1.offset = 1 :=
  ⟨_, _, Tryd.underlying53, rfl, rfl, rfl, rfl⟩

set_option maxRecDepth 100000 in
theorem open_asks {H : Type} {enc : TypeId × Value → H} {W : World} {base : Nat} {v : Value} {d : DataW H} {ps : List MemPlace} (hval : Value.okWide Tryd.prog W .any base 46 v) (h : DataW.Trod enc Tryd.prog W 0 (fun _ => true) true 46 v d ps) :
    ∃ ao n c l, v = .slice ao n c ∧ Asks W ao n l := by
  obtain ⟨a0, len, cap, rfl⟩ := okWide_slice Tryd.underlying46 hval
  obtain ⟨fuel, hf⟩ := h
  rcases DataW.trod_slice Tryd.underlying46 hf with ⟨hcs, hx⟩ | ⟨a, len', cap', elems, rest, n, _, hcs, hx, _, hl, hm, hlen, hel, _, _⟩
  · simp [Value.cells] at hcs
    obtain ⟨rfl, rfl, rfl⟩ := hcs
    exact ⟨none, 0, 0, [], rfl, ⟨rfl, fun _ => rfl, fun ad h => (by cases h)⟩⟩
  · simp [Value.cells] at hcs
    obtain ⟨rfl, rfl, rfl⟩ := hcs
    obtain ⟨f0, f1, hu, t0, t1, o0, o1⟩ := under53
    have each : ∀ i, i < len → ∃ k u : Int, W.cell? (a.add (i * 2)) = some (.int .i64 k) ∧ W.cell? ((a.add (i * 2)).add 1) = some (.int .i64 u) := by
      intro i hi
      have h1 := hel i hi
      rw [cells53, List.getElem?_eq_getElem (by omega)] at h1
      obtain ⟨cs, hcs, htr⟩ := Option.bind_eq_some_iff.1 h1
      obtain ⟨c0, c1, rfl, hc0, hc1⟩ := cells2_open hcs
      obtain ⟨xs, m, _, _, _, hln, hff⟩ := DataW.trod_struct hu htr
      have g0 := hff 0 f0 rfl
      have g1 := hff 1 f1 rfl
      rw [t0, o0, cells3b] at g0
      rw [t1, o1, cells3b] at g1
      match xs, hln with
      | [y0, y1], _ =>
        obtain ⟨k, e0, _, _⟩ := DataW.trod_int Tryd.underlying3 (show DataW.trod enc Tryd.prog W 0 (fun _ => true) true m 3 _ = some y0 by simpa using g0)
        obtain ⟨u, e1, _, _⟩ := DataW.trod_int Tryd.underlying3 (show DataW.trod enc Tryd.prog W 0 (fun _ => true) true m 3 _ = some y1 by simpa using g1)
        simp at e0 e1
        subst e0 e1
        exact ⟨k, u, hc0, hc1⟩
    classical
    let l : List (Int × Int) := (List.range len).map fun i => if hi : i < len then ((each i hi).choose, (each i hi).choose_spec.choose) else (0, 0)
    have hits : l.length = len := by simp [l]
    have hat : ∀ i (hi : i < l.length), l[i] = ((each i (by omega)).choose, (each i (by omega)).choose_spec.choose) := by
      intro i hi
      have : i < len := by omega
      simp [l, this]
    refine ⟨some a, len, cap, l, rfl, ⟨hits, fun h => (by cases h), fun ad had i hi => ?_⟩⟩
    cases had
    rw [hat i hi]
    exact (each i (by omega)).choose_spec.choose_spec

end Go.Proofs.YtmnkbbfpdohpkaaDoor
