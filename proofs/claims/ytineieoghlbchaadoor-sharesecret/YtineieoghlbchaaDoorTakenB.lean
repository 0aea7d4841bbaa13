/- The places that are taken: so many, unlike, below n. -/
import Derived.Test.YtineieoghlbchaaDoorTaken
namespace Go.Proofs.YtineieoghlbchaaDoor
open Go.RowKit

theorem Tryd.info3 : (Tryd.prog.info? 3).map (fun i => (i.zero, i.size, i.bytes)) = some (some (.int .i64 0), 1, 8) := by kernel_rfl
def i64s (P : List Nat) : List Value := P.map (fun (p : Nat) => Value.int .i64 (p : Int))

/-- In the world w a slice at ao, of length n, shows the numbers xs. -/
structure IShows (w : World) (ao : Option Addr) (n : Nat) (xs : List Int) : Prop where
  len : xs.length = n
  bare : ao = none → n = 0
  cell : ∀ ad, ao = some ad → ∀ (j : Nat) x, xs[j]? = some x → w.cell? (ad.add j) = some (.int .i64 x)
theorem IShows.later {w w' : World} {ao : Option Addr} {n : Nat} {xs : List Int} (h : IShows w ao n xs) (hb : Below w.heap.size w w') : IShows w' ao n xs :=
  ⟨h.len, h.bare, fun ad had j x hj => cell_later hb (h.cell ad had j x hj)⟩

/-- 'append(l, p)', l a list of numbers of the call's own. -/
theorem law_pushI {w : World} {ops : Array Oper} {rest : List Oper} {o : Oper} {a : Act} {Q : Exit → Act → World → Prop} (hgd : o.guard = none) (s x : Operand)
    (ho : o.op = .call { callee := .builtin .append, args := #[s, x], argTypes := #[49, 49] }) (base : Nat) (v : Value) (n : Nat) (P : List Nat) (hv : a.eval s = v) (hown : w.ownsRow base 3 1 v n (i64s P))
    (g : Nat) (p : Nat) (hx : a.eval x = .slice (some ⟨g, 0, none⟩) 1 1) (hc : w.heap[g]? = some (.cells #[.int .i64 (p : Int)] 3 (0, 0))) (hbig : n ≤ 1000000) (hbase : base ≤ w.heap.size)
    (h : ∀ v' w', w'.ownsRow base 3 1 v' (n + 1) (i64s (P ++ [p])) → w.grownBy w' v.ownBlock → wpList Tryd.prog ops Q rest (a.put o.dst v') w') : wpList Tryd.prog ops Q (o :: rest) a w := by
  obtain ⟨i0, hi, hz0, hz1, hz2⟩ := info_parts Tryd.info3
  refine wpList_append_own w hgd s x 49 ho base 3 i0 (.int .i64 0) 1 8 Tryd.underlying49 hi hz0 hz1 hz2 rfl (by decide) v n (i64s P) hv hown ⟨g, 0, none⟩ 1 1 [.int .i64 (p : Int)] hx rfl (World.news_of_block (cs := #[.int .i64 (p : Int)]) hc) (by simp [Value.oneCell']) (by unfold maxLen; omega) (by omega) hbase ?_
  intro v' w' h1 h2 _
  refine h v' w' ?_ h2
  unfold i64s at *
  rw [List.map_append]
  exact h1

theorem cover (n : Nat) : ∀ P : List Nat, (∀ p, p < n → p ∈ P) → n ≤ P.length := by
  induction n with
  | zero => intro P _; omega
  | succ n ih =>
    intro P h
    have hm := h n (by omega)
    have h1 := ih (P.erase n) (fun p hp => (List.mem_erase_of_ne (by omega)).2 (h p (by omega)))
    rw [List.length_erase_of_mem hm] at h1
    have : 0 < P.length := List.length_pos_of_mem hm
    omega

set_option maxRecDepth 100000 in
set_option maxHeartbeats 4000000 in
theorem taken_any (oo : Option Addr) (on oc n many : Nat) (os : List Int) (w : World) (ho : IShows w oo on os) (hon : (on : Int) ≤ 100) (hn0 : 0 < n) (hn : (n : Int) ≤ 16) (hmn : many ≤ n) :
    Calls Tryd.prog 31 #[.slice oo on oc, .int .i64 n, .int .i64 many] w fun e w' => ∃ v, ∃ P : List Nat, e = .returned v ∧ w'.ownsRow w.heap.size 3 1 v many (i64s P) ∧ P.length = many ∧ P.Nodup ∧ (∀ p ∈ P, p < n) ∧ Below w.heap.size w w' := by
  have hnz : ¬ (n : Int) = 0 := by omega
  have hnz' : ¬ n = 0 := by omega
  go_enter Tryd.func31, Tryd.ntmps31
  go_wp2
  go_loopw [7, 8] (fun l x wr => ∃ (i : Nat) (P : List Nat), i ≤ on + n ∧ x = .int .i64 i ∧ P.Nodup ∧ (∀ p ∈ P, p < n) ∧ P.length ≤ many ∧ wr.ownsRow w.heap.size 3 1 l P.length (i64s P) ∧ (∀ p, on + p < i → p ∈ P) ∧ Below w.heap.size w wr) (fun _ x _ => on + n - (intOf x).toNat)
  case atStart => exact ⟨0, [], Nat.zero_le _, rfl, List.nodup_nil, by simp, by simp, World.ownsRow_nil _ _ _ _, fun p h => by omega, Below.refl _ _⟩
  case round =>
    obtain ⟨i, P, hi, rfl, hnd, hlt2, hle, hv, hcov, hb⟩ := hrel
    have hsz := hb.size
    have HND : Hid (P.Nodup) := hnd
    have HLT : Hid (∀ p ∈ P, p < n) := hlt2
    have HCOV : Hid (∀ p, on + p < i → p ∈ P) := hcov
    obtain ⟨pl, hpl⟩ : ∃ pl, pl = P.length := ⟨_, rfl⟩
    rw [← hpl] at hle hv
    have HPL : Hid (pl = P.length) := hpl
    obtain ⟨lo, lc, rfl, hpr⟩ : ∃ lo lc, u7 = .slice lo pl lc ∧ ∀ j, j < pl → ∃ lg, ∃ r : Nat, lo = some ⟨lg, 0, none⟩ ∧ P[j]? = some r ∧ wr.cell? ⟨lg, j, none⟩ = some (.int .i64 (r : Int)) := by
      rcases hv.2 with ⟨h1, h2⟩ | ⟨g, cap, cur, h1, _⟩
      · exact ⟨none, 0, by rw [h1, h2], fun j hj => by omega⟩
      · refine ⟨_, _, h1, fun j hj => ⟨g, P[j]'(by omega), rfl, List.getElem?_eq_getElem (by omega), ?_⟩⟩
        rw [h1] at hv
        rw [hv.cellAt j (by omega)]
        unfold i64s
        rw [List.getElem?_map, List.getElem?_eq_getElem (by omega)]
        rfl
    clear hnd hlt2 hcov hpl
    have hon1 : (i : Int) + 1 < 9223372036854775807 := by omega
    by_cases hlt : i < on + n
    · have hlt' : (i : Int) < (on : Int) + (n : Int) := by omega
      by_cases hlm : pl < many
      · have hlm' : (pl : Int) < (many : Int) := by omega
        by_cases hio : i < on
        · have hio' : (i : Int) < (on : Int) := by omega
          obtain ⟨od, rfl⟩ : ∃ od, oo = some od := by
            cases oo with
            | none => have := ho.bare rfl; omega
            | some od => exact ⟨od, rfl⟩
          obtain ⟨x, hx⟩ : ∃ x, os[i]? = some x := ⟨_, List.getElem?_eq_getElem (by have := ho.len; omega)⟩
          have hcx := (ho.later hb).cell od rfl i x hx
          have hmd := mod_any x n wr hn0 (by omega)
          obtain ⟨p, hp⟩ : ∃ p : Nat, x % (n : Int) = p := ⟨(x % (n : Int)).toNat, by have := Int.emod_nonneg x (show (n : Int) ≠ 0 by omega); omega⟩
          have hpn : p < n := by have := Int.emod_lt_of_pos x (show (0 : Int) < n by omega); omega
          rw [hp] at hmd
          clear hp hx
          go_wp2_with (go_at_call 28; refine hmd.mono ?_; rintro e w' ⟨rfl, rfl⟩)
          go_loop [10, 11] (fun f q => ∃ (j : Nat) (b : Bool), j ≤ pl ∧ q = .int .i64 j ∧ f = .bool b ∧ (b = true ↔ p ∉ P.take j)) (fun _ q => pl - (intOf q).toNat)
          case atStart => exact ⟨0, true, Nat.zero_le _, rfl, rfl, by simp⟩
          case round =>
            obtain ⟨j, b, hj, rfl, rfl, hbp⟩ := hrel
            have HB : Hid (b = true ↔ p ∉ P.take j) := hbp
            clear hbp
            by_cases hltj : j < pl
            · obtain ⟨lg, r, rfl, hr, hcr⟩ := hpr j hltj
              have HT : Hid (P.take (j + 1) = P.take j ++ [r]) := take_next' hr
              have hjl : (j : Int) < (pl : Int) := by omega
              clear hr
              cases b
              · go_wp2
                refine ⟨⟨j + 1, false, by omega, by go_num, rfl, ?_⟩, by simp [intOf]; omega⟩
                rw [HT.out]
                constructor
                · intro h; cases h
                · intro h
                  exact absurd (HB.out.2 (fun hm => h (List.mem_append.2 (.inl hm)))) (by decide)
              · by_cases hrp : r = p
                · subst hrp
                  go_wp2
                  refine ⟨⟨j + 1, false, by omega, by go_num, rfl, ?_⟩, by simp [intOf]; omega⟩
                  rw [HT.out]
                  constructor
                  · intro h; cases h
                  · intro h
                    exact absurd (List.mem_append.2 (.inr (by simp))) h
                · have hrp' : ((r : Int) == (p : Int)) = false := by simp; omega
                  have hrp2 : ¬ (r : Int) = (p : Int) := by omega
                  go_wp2
                  refine ⟨⟨j + 1, true, by omega, by go_num, by simpa using hrp2, ?_⟩, by simp [intOf]; omega⟩
                  rw [HT.out]
                  constructor
                  · intro _ hm
                    rcases List.mem_append.1 hm with hm | hm
                    · exact HB.out.1 rfl hm
                    · rw [List.mem_singleton] at hm; exact hrp hm.symm
                  · intro _; rfl
            · have hjl : j = pl := by omega
              subst hjl
              have HB2 : Hid (b = true ↔ p ∉ P) := by have := HB.out; rwa [List.take_of_length_le (by rw [← HPL.out]; exact Nat.le_refl _)] at this
              clear HB
              cases b
              · go_wp2
                go_roundw
                case rel =>
                  have hin : p ∈ P := by
                    by_cases h : p ∈ P
                    · exact h
                    · exact absurd (HB2.out.2 h) (by decide)
                  refine ⟨i + 1, P, by omega, by go_num, HND.out, HLT.out, by rw [← HPL.out]; omega, by rw [← HPL.out]; exact hv, ?_, hb⟩
                  intro x hx
                  exact absurd hx (by omega)
                case measure => simp [intOf]; omega
              · have hni : p ∉ P := HB2.out.1 rfl
                clear HB2
                go_wp2_with (at_builtin; go_must (refine law_pushI rfl _ _ rfl w.heap.size _ _ _ rfl (hv.alloc _) wr.heap.size p rfl (new_at rfl) (by omega) (by simp; omega) ?_))
                intro v' w2 hv2 hg
                go_wp2
                go_roundw
                case rel =>
                  refine ⟨i + 1, P ++ [p], by omega, by go_num, ?_, ?_, by simp [← HPL.out]; omega, ?_, ?_, (hb.alloc hsz _).grown hg (by simp; omega) (fun b hb => (hv.lt b hb).1)⟩
                  · rw [List.nodup_append]
                    exact ⟨HND.out, by simp, fun a ha c hc => by rw [List.mem_singleton] at hc; subst hc; exact fun e => hni (e ▸ ha)⟩
                  · intro x hx
                    rcases List.mem_append.1 hx with hx | hx
                    · exact HLT.out x hx
                    · rw [List.mem_singleton] at hx; omega
                  · rw [List.length_append, ← HPL.out]; exact hv2
                  · intro x hx
                    apply List.mem_append.2
                    exact absurd hx (by omega)
                case measure => simp [intOf]; omega
        · have hio' : ¬ (i : Int) < (on : Int) := by omega
          obtain ⟨p, hp⟩ : ∃ p : Nat, p = i - on := ⟨_, rfl⟩
          have hpn : p < n := by omega
          have hip : (i : Int) - (on : Int) = (p : Int) := by omega
          have HIP : Hid (i = on + p) := by show _ = _; omega
          clear hp
          go_wp2
          go_loop [10, 11] (fun f q => ∃ (j : Nat) (b : Bool), j ≤ pl ∧ q = .int .i64 j ∧ f = .bool b ∧ (b = true ↔ p ∉ P.take j)) (fun _ q => pl - (intOf q).toNat)
          case atStart => exact ⟨0, true, Nat.zero_le _, rfl, rfl, by simp⟩
          case round =>
            obtain ⟨j, b, hj, rfl, rfl, hbp⟩ := hrel
            have HB : Hid (b = true ↔ p ∉ P.take j) := hbp
            clear hbp
            by_cases hltj : j < pl
            · obtain ⟨lg, r, rfl, hr, hcr⟩ := hpr j hltj
              have HT : Hid (P.take (j + 1) = P.take j ++ [r]) := take_next' hr
              have hjl : (j : Int) < (pl : Int) := by omega
              clear hr
              cases b
              · go_wp2
                refine ⟨⟨j + 1, false, by omega, by go_num, rfl, ?_⟩, by simp [intOf]; omega⟩
                rw [HT.out]
                constructor
                · intro h; cases h
                · intro h
                  exact absurd (HB.out.2 (fun hm => h (List.mem_append.2 (.inl hm)))) (by decide)
              · by_cases hrp : r = p
                · subst hrp
                  go_wp2
                  refine ⟨⟨j + 1, false, by omega, by go_num, rfl, ?_⟩, by simp [intOf]; omega⟩
                  rw [HT.out]
                  constructor
                  · intro h; cases h
                  · intro h
                    exact absurd (List.mem_append.2 (.inr (by simp))) h
                · have hrp' : ((r : Int) == (p : Int)) = false := by simp; omega
                  have hrp2 : ¬ (r : Int) = (p : Int) := by omega
                  go_wp2
                  refine ⟨⟨j + 1, true, by omega, by go_num, by simpa using hrp2, ?_⟩, by simp [intOf]; omega⟩
                  rw [HT.out]
                  constructor
                  · intro _ hm
                    rcases List.mem_append.1 hm with hm | hm
                    · exact HB.out.1 rfl hm
                    · rw [List.mem_singleton] at hm; exact hrp hm.symm
                  · intro _; rfl
            · have hjl : j = pl := by omega
              subst hjl
              have HB2 : Hid (b = true ↔ p ∉ P) := by have := HB.out; rwa [List.take_of_length_le (by rw [← HPL.out]; exact Nat.le_refl _)] at this
              clear HB
              cases b
              · go_wp2
                go_roundw
                case rel =>
                  have hin : p ∈ P := by
                    by_cases h : p ∈ P
                    · exact h
                    · exact absurd (HB2.out.2 h) (by decide)
                  refine ⟨i + 1, P, by omega, by go_num, HND.out, HLT.out, by rw [← HPL.out]; omega, by rw [← HPL.out]; exact hv, ?_, hb⟩
                  intro x hx
                  by_cases e : x = p
                  · rw [e]; exact hin
                  · exact HCOV.out x (by have := HIP.out; omega)
                case measure => simp [intOf]; omega
              · have hni : p ∉ P := HB2.out.1 rfl
                clear HB2
                go_wp2_with (at_builtin; go_must (refine law_pushI rfl _ _ rfl w.heap.size _ _ _ rfl (hv.alloc _) wr.heap.size p rfl (new_at rfl) (by omega) (by simp; omega) ?_))
                intro v' w2 hv2 hg
                go_wp2
                go_roundw
                case rel =>
                  refine ⟨i + 1, P ++ [p], by omega, by go_num, ?_, ?_, by simp [← HPL.out]; omega, ?_, ?_, (hb.alloc hsz _).grown hg (by simp; omega) (fun b hb => (hv.lt b hb).1)⟩
                  · rw [List.nodup_append]
                    exact ⟨HND.out, by simp, fun a ha c hc => by rw [List.mem_singleton] at hc; subst hc; exact fun e => hni (e ▸ ha)⟩
                  · intro x hx
                    rcases List.mem_append.1 hx with hx | hx
                    · exact HLT.out x hx
                    · rw [List.mem_singleton] at hx; omega
                  · rw [List.length_append, ← HPL.out]; exact hv2
                  · intro x hx
                    apply List.mem_append.2
                    by_cases e : x = p
                    · exact .inr (by rw [e]; simp)
                    · exact .inl (HCOV.out x (by have := HIP.out; omega))
                case measure => simp [intOf]; omega
      · have hlm' : ¬ (pl : Int) < (many : Int) := by omega
        have hpm : many = pl := by omega
        subst hpm
        go_wp2
        go_ret
        exact ⟨_, rfl, P, hv, HPL.out.symm, HND.out, HLT.out, hb⟩
    · have hlt' : ¬ (i : Int) < (on : Int) + (n : Int) := by omega
      have hpm : many = pl := by
        have h1 := cover n P (fun p hp => HCOV.out p (by omega))
        have h2 := HPL.out
        omega
      subst hpm
      go_wp2
      go_ret
      exact ⟨_, rfl, P, hv, HPL.out.symm, HND.out, HLT.out, hb⟩
end Go.Proofs.YtineieoghlbchaaDoor
