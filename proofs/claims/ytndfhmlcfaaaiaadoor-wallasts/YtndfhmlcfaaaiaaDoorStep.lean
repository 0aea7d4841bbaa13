/- Steps: function values that are called one behind the other, till one fails. -/
import Derived.Test.YtndfhmlcfaaaiaaDoorCount
namespace Go.Proofs.YtndfhmlcfaaaiaaDoor
open Go.RowKit

/-- Function k has a body and is called by its number. -/
def Entr (k : FuncId) : Prop := ∀ (args : Array Value) (w : World), (callFunc k args).run Tryd.prog w = .ok (.enter k args) w
theorem entr_of {k : FuncId} {fn : Func} {c : Code} (hf : Tryd.prog.funcs[k]? = some fn) (hname : (fn.name == "runtime.NumGoroutine") = false) (hb : fn.body = some c) : Entr k := by
  intro args w
  have h1 : fn.name ≠ "runtime.NumGoroutine" := by simpa using hname
  simp [callFunc, hf, h1, hb]
theorem entr12 : Entr 12 := entr_of Tryd.func12 (by kernel_rfl) rfl
theorem entr29 : Entr 29 := entr_of Tryd.func29 (by kernel_rfl) rfl
theorem entr35 : Entr 35 := entr_of Tryd.func35 (by kernel_rfl) rfl
theorem entr59 : Entr 59 := entr_of Tryd.func59 (by kernel_rfl) rfl
theorem entr60 : Entr 60 := entr_of Tryd.func60 (by kernel_rfl) rfl
theorem entr61 : Entr 61 := entr_of Tryd.func61 (by kernel_rfl) rfl
theorem entr65 : Entr 65 := entr_of Tryd.func65 (by kernel_rfl) rfl
theorem entr67 : Entr 67 := entr_of Tryd.func67 (by kernel_rfl) rfl
theorem entr68 : Entr 68 := entr_of Tryd.func68 (by kernel_rfl) rfl

section
variable {w : World} {ops : Array Oper} {rest : List Oper} {o : Oper} {a : Act} {Q : Exit → Act → World → Prop}
/-- 'do()', a function value. -/
theorem law_do (hgd : o.guard = none) (x : Operand) (ho : o.op = .call { callee := .value x, args := #[], argTypes := #[] }) (k : FuncId) (fi ca : Array Value) (hx : a.eval x = .func (.func k) fi ca) (hk : Entr k)
    (R : Int → World → Prop) (hc : Calls Tryd.prog k (fi ++ ca) w fun e w' => ∃ E, e = .returned (.int .i64 E) ∧ R E w')
    (h : ∀ E w', R E w' → wpList Tryd.prog ops Q rest (a.put o.dst (.int .i64 E)) w') : wpList Tryd.prog ops Q (o :: rest) a w := by
  refine wpList_plain hgd fun K hK => ?_
  unfold Oper.wp execOp
  have hk2 := hk (fi ++ ca) w
  simp only [ho, resolve, Sem.run_bind, Sem.run_pure, Result.andThen_ok, List.map_toArray, List.map_nil, hx, Deferred.ofValue, invoke, Array.append_empty, hk2, Oper.upon]
  refine Calls.mono hc fun e w' he => ?_
  obtain ⟨E, rfl, hR⟩ := he
  exact hK _ _ (h E w' hR)
end
set_option maxRecDepth 100000 in
set_option maxHeartbeats 1000000 in
/-- Steps in order. P j: what holds behind j steps; R: what holds in the end, by the error. -/
theorem inOrder_any (P : Nat → World → Prop) (R : Int → World → Prop) (g n cap : Nat) (w : World) (hn : n ≤ 1000000) (h0 : P 0 w) (hend : ∀ v, P n v → R 0 v)
    (hstep : ∀ j, j < n → ∀ v, P j v → ∃ k fi ca, v.cell? ⟨g, j, none⟩ = some (.func (.func k) fi ca) ∧ Entr k ∧ Calls Tryd.prog k (fi ++ ca) v fun e v' => ∃ E, e = .returned (.int .i64 E) ∧ ((E = 0 ∧ P (j + 1) v') ∨ (E ≠ 0 ∧ R E v'))) :
    Calls Tryd.prog 34 #[.slice (some ⟨g, 0, none⟩) n cap] w fun e w' => ∃ E, e = .returned (.int .i64 E) ∧ R E w' := by
  go_enter Tryd.func34, Tryd.ntmps34
  go_wp2
  go_loopw [8] (fun i wr => ∃ j : Nat, j ≤ n ∧ i = .int .i64 j ∧ P j wr) (fun i _ => n - (intOf i).toNat)
  case atStart => exact ⟨0, by omega, rfl, h0⟩
  case round =>
    obtain ⟨j, hj, rfl, hP⟩ := hrel
    by_cases hlt : j < n
    · have hjI : (j : Int) < n := by omega
      obtain ⟨k, fi, ca, hcell, hk, hc⟩ := hstep j hlt wr hP
      go_wp2_with (refine law_do rfl _ rfl k fi ca rfl hk _ hc ?_; intro E w1 hE; rcases hE with ⟨hE0, hP1⟩ | ⟨hE0, hR1⟩)
      · exact ⟨⟨j + 1, by omega, by go_num, hP1⟩, by simp [intOf]; omega⟩
      · go_ret
        exact ⟨_, rfl, hR1⟩
    · have : j = n := by omega
      subst this
      go_wp2
      go_ret
      exact ⟨_, rfl, hend _ hP⟩

/-! ### steps on a disk -/
/-- What a step does: a sector is written, or all is flushed. -/
inductive Stp where
  | wr (i : Nat) (s : Sec)
  | fl
def Stp.go (d : St) : Stp → St × Int
  | .wr i s => d.wr i s
  | .fl => d.fl
/-- One behind the other, till one fails. -/
def runs (d : St) : List Stp → St × Int
  | [] => (d, 0)
  | s :: ss => if (s.go d).2 = 0 then runs (s.go d).1 ss else s.go d
theorem runs_append (ss ts : List Stp) : ∀ d : St, runs d (ss ++ ts) = if (runs d ss).2 = 0 then runs (runs d ss).1 ts else runs d ss := by
  induction ss with
  | nil => intro d; simp [runs]
  | cons s ss ih =>
    intro d
    simp only [List.cons_append, runs]
    by_cases h : (s.go d).2 = 0
    · simp only [if_pos h, ih]
    · simp only [if_neg h]
theorem runs_one (d : St) (s : Stp) : runs d [s] = s.go d := by
  simp only [runs]
  by_cases h : (s.go d).2 = 0
  · rw [if_pos h, ← h]
  · rw [if_neg h]
theorem fl_writes (d : St) : d.fl.1.writes ≤ d.writes + 1 ∧ d.fl.1.flushes ≤ d.flushes + 1 := by
  unfold St.fl
  split
  · exact ⟨Nat.le_succ _, Nat.le_succ _⟩
  · split
    · show (d.tick.op.1).writes ≤ _ ∧ (d.tick.op.1).flushes ≤ _
      rw [op_writes, op_flushes]
      exact ⟨Nat.le_succ _, Nat.le_refl _⟩
    · rw [op_writes, op_flushes]
      exact ⟨Nat.le_succ _, Nat.le_refl _⟩
theorem wr_writes (d : St) (i : Int) (s : Sec) : (d.wr i s).1.writes ≤ d.writes + 1 ∧ (d.wr i s).1.flushes ≤ d.flushes + 1 := by
  unfold St.wr
  split
  · exact ⟨Nat.le_succ _, Nat.le_succ _⟩
  · split
    · exact ⟨Nat.le_succ _, Nat.le_succ _⟩
    · rw [op_writes, op_flushes]
      exact ⟨Nat.le_refl _, Nat.le_succ _⟩
theorem go_writes (d : St) (s : Stp) : (s.go d).1.writes ≤ d.writes + 1 ∧ (s.go d).1.flushes ≤ d.flushes + 1 := by
  cases s with
  | wr i s => exact wr_writes d i s
  | fl => exact fl_writes d
theorem runs_writes (ss : List Stp) : ∀ d : St, (runs d ss).1.writes ≤ d.writes + ss.length ∧ (runs d ss).1.flushes ≤ d.flushes + ss.length := by
  induction ss with
  | nil => intro d; exact ⟨Nat.le_refl _, Nat.le_refl _⟩
  | cons s ss ih =>
    intro d
    have h1 := go_writes d s
    simp only [runs, List.length_cons]
    split
    · have h2 := ih (s.go d).1
      omega
    · omega

/-- The value c, called, does the step s, as long as nothing but the disk has been touched since w0. -/
def StepIs (w0 : World) (r f m0 cap : Nat) (c : Value) (s : Stp) : Prop := ∃ k fi ca, c = .func (.func k) fi ca ∧ Entr k ∧ ∀ v m d, Lay v r f m cap d → Fr (fp r f m0) w0 v → (m = m0 ∨ w0.heap.size ≤ m) → d.writes < 1000000000 → d.flushes < 1000000000 →
  Calls Tryd.prog k (fi ++ ca) v fun e v' => e = .returned (.int .i64 (s.go d).2) ∧ Turn v v' r f m cap (s.go d).1
theorem StepIs.next {w0 w1 : World} {r f m0 cap : Nat} {c : Value} {s : Stp} (h : StepIs w0 r f m0 cap c s) (hf : Fr (fp r f m0) w0 w1) : StepIs w1 r f m0 cap c s := by
  obtain ⟨k, fi, ca, hc, hk, h⟩ := h
  exact ⟨k, fi, ca, hc, hk, fun v m d hL hF hm hw hfl => h v m d hL (hf.trans hF (fun _ _ h => h)) (hm.imp id (fun h => Nat.le_trans hf.size h)) hw hfl⟩
theorem Turn.trans {w w1 w2 : World} {r f m m1 cap : Nat} {d2 : St} (hm1 : m1 = m ∨ w.heap.size ≤ m1) (hF : Fr (fp r f m) w w1) (h : Turn w1 w2 r f m1 cap d2) : Turn w w2 r f m cap d2 := by
  obtain ⟨m2, hm2, hL, hF2⟩ := h
  refine ⟨m2, ?_, hL, hF.trans hF2 (fun j hj hx => ?_)⟩
  · rcases hm2 with e | e
    · subst e; exact hm1
    · exact Or.inr (Nat.le_trans hF.size e)
  · rcases hx with e | e | e
    · exact .inl e
    · exact .inr (.inl e)
    · rcases hm1 with e1 | e1
      · exact .inr (.inr (e.trans e1))
      · omega
/-- Steps on a disk, in order. -/
theorem steps_any (ss : List Stp) (w0 : World) (r f m0 cap : Nat) (d : St) (hL : Lay w0 r f m0 cap d) (g n cp : Nat) (cs : List Value) (hn : ss.length = n) (hn2 : n ≤ 1000000) (hc : cs.length = n) (hg : ¬ fp r f m0 g)
    (hcell : ∀ (j : Nat) c, cs[j]? = some c → w0.cell? ⟨g, j, none⟩ = some c) (hrow : ∀ (j : Nat) c s, cs[j]? = some c → ss[j]? = some s → StepIs w0 r f m0 cap c s) (hw : d.writes + n ≤ 1000000000) (hfl : d.flushes + n ≤ 1000000000) :
    Calls Tryd.prog 34 #[.slice (some ⟨g, 0, none⟩) n cp] w0 fun e w' => e = .returned (.int .i64 (runs d ss).2) ∧ Turn w0 w' r f m0 cap (runs d ss).1 := by
  refine (inOrder_any (fun j v => (runs d (ss.take j)).2 = 0 ∧ Turn w0 v r f m0 cap (runs d (ss.take j)).1) (fun E v => E = (runs d ss).2 ∧ Turn w0 v r f m0 cap (runs d ss).1) g n cp w0 hn2 ⟨rfl, .of hL (Fr.refl _ _)⟩ ?_ ?_).mono ?_
  · intro v h
    rw [List.take_of_length_le (by omega)] at h
    exact ⟨h.1.symm, h.2⟩
  · rintro j hj v ⟨h1, m, hm, hLv, hFv⟩
    obtain ⟨c, hcj⟩ : ∃ c, cs[j]? = some c := ⟨_, List.getElem?_eq_getElem (by omega)⟩
    obtain ⟨s, hsj⟩ : ∃ s, ss[j]? = some s := ⟨_, List.getElem?_eq_getElem (by omega)⟩
    obtain ⟨k, fi, ca, rfl, hk, hcall⟩ := hrow j c s hcj hsj
    have hcv := hcell j _ hcj
    have hgl : g < w0.heap.size := World.block_lt_of_cell? _ _ hcv
    have htk : ss.take (j + 1) = ss.take j ++ [s] := by rw [List.take_add_one, hsj]; rfl
    have hcnt := runs_writes (ss.take j) d
    rw [List.length_take, Nat.min_eq_left (by omega)] at hcnt
    refine ⟨k, fi, ca, ?_, hk, ?_⟩
    · rw [World.cell?_of_block (w := w0) (w' := v) (a := ⟨g, j, none⟩) (hFv.block g hgl hg)]
      exact hcv
    · refine (hcall v m _ hLv hFv hm (by omega) (by omega)).mono fun e v' ⟨he, hT⟩ => ⟨_, he, ?_⟩
      have hT2 := Turn.trans hm hFv hT
      have e1 : runs d (ss.take (j + 1)) = s.go (runs d (ss.take j)).1 := by rw [htk, runs_append, if_pos h1, runs_one]
      by_cases h0 : (s.go (runs d (ss.take j)).1).2 = 0
      · exact Or.inl ⟨h0, by rw [e1]; exact h0, by rw [e1]; exact hT2⟩
      · have e2 : runs d ss = s.go (runs d (ss.take j)).1 := by
          have e0 : runs d ss = runs d (ss.take (j + 1) ++ ss.drop (j + 1)) := by rw [List.take_append_drop]
          rw [e0, runs_append, e1, if_neg h0]
        exact Or.inr ⟨h0, by rw [e2], by rw [e2]; exact hT2⟩
  · rintro e w' ⟨E, rfl, rfl, hT⟩
    exact ⟨rfl, hT⟩
end Go.Proofs.YtndfhmlcfaaaiaaDoor
