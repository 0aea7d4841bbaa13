import Derived.Test.YtndfhmlcfaaaiaaGreatDoorCount
import Derived.Deep.AppendLies
/- Steps: function values that are called one behind the other, till one fails. -/
namespace Go.Proofs.YtndfhmlcfaaaiaaGreatDoor
open Go.RowKit

/-- Function k has a body and is called by its number. -/
def Entr (k : FuncId) : Prop := ∀ (args : Array Value) (w : World), (callFunc k args).run Tryz.prog w = .ok (.enter k args) w
theorem entr_of {k : FuncId} {fn : Func} {c : Code} (hf : Tryz.prog.funcs[k]? = some fn) (hname : (fn.name == "runtime.NumGoroutine") = false) (hb : fn.body = some c) : Entr k := by
  intro args w
  have h1 : fn.name ≠ "runtime.NumGoroutine" := by simpa using hname
  simp [callFunc, hf, h1, hb]
theorem entr12 : Entr 37 := entr_of Tryz.func37 (by kernel_rfl) rfl
theorem entr29 : Entr 82 := entr_of Tryz.func82 (by kernel_rfl) rfl
theorem entr35 : Entr 49 := entr_of Tryz.func49 (by kernel_rfl) rfl
theorem entr59 : Entr 88 := entr_of Tryz.func88 (by kernel_rfl) rfl
theorem entr60 : Entr 89 := entr_of Tryz.func89 (by kernel_rfl) rfl
theorem entr61 : Entr 90 := entr_of Tryz.func90 (by kernel_rfl) rfl
theorem entr65 : Entr 83 := entr_of Tryz.func83 (by kernel_rfl) rfl
theorem entr67 : Entr 98 := entr_of Tryz.func98 (by kernel_rfl) rfl
theorem entr68 : Entr 99 := entr_of Tryz.func99 (by kernel_rfl) rfl

section
variable {w : World} {ops : Array Oper} {rest : List Oper} {o : Oper} {a : Act} {Q : Exit → Act → World → Prop}
/-- 'do()', a function value. -/
theorem law_do (hgd : o.guard = none) (x : Operand) (ho : o.op = .call { callee := .value x, args := #[], argTypes := #[] }) (k : FuncId) (fi ca : Array Value) (hx : a.eval x = .func (.func k) fi ca) (hk : Entr k)
    (R : Int → World → Prop) (hc : Calls Tryz.prog k (fi ++ ca) w fun e w' => ∃ E, e = .returned (.int .i64 E) ∧ R E w')
    (h : ∀ E w', R E w' → wpList Tryz.prog ops Q rest (a.put o.dst (.int .i64 E)) w') : wpList Tryz.prog ops Q (o :: rest) a w := by
  refine wpList_plain hgd fun K hK => ?_
  unfold Oper.wp execOp
  have hk2 := hk (fi ++ ca) w
  simp only [ho, resolve, Sem.run_bind, Sem.run_pure, Result.andThen_ok, List.map_toArray, List.map_nil, hx, Deferred.ofValue, invoke, Array.append_empty, hk2, Oper.upon]
  refine Calls.mono hc fun e w' he => ?_
  obtain ⟨E, rfl, hR⟩ := he
  exact hK _ _ (h E w' hR)
end
set_option maxRecDepth 100000 in
set_option maxHeartbeats 1000000 in
/-- Steps in order. P j: what holds behind j steps; R: what holds in the end, by the error. -/
theorem inOrder_any (P : Nat → World → Prop) (R : Int → World → Prop) (g n cap : Nat) (w : World) (hn : n ≤ 1000000) (h0 : P 0 w) (hend : ∀ v, P n v → R 0 v)
    (hstep : ∀ j, j < n → ∀ v, P j v → ∃ k fi ca, v.cell? ⟨g, j, none⟩ = some (.func (.func k) fi ca) ∧ Entr k ∧ Calls Tryz.prog k (fi ++ ca) v fun e v' => ∃ E, e = .returned (.int .i64 E) ∧ ((E = 0 ∧ P (j + 1) v') ∨ (E ≠ 0 ∧ R E v'))) :
    Calls Tryz.prog 48 #[.slice (some ⟨g, 0, none⟩) n cap] w fun e w' => ∃ E, e = .returned (.int .i64 E) ∧ R E w' := by
  go_enter Tryz.func48, Tryz.ntmps48
  go_wp2
  go_loopw [8] (fun i wr => ∃ j : Nat, j ≤ n ∧ i = .int .i64 j ∧ P j wr) (fun i _ => n - (intOf i).toNat)
  case atStart => exact ⟨0, by omega, rfl, h0⟩
  case round =>
    obtain ⟨j, hj, rfl, hP⟩ := hrel
    by_cases hlt : j < n
    · have hjI : (j : Int) < n := by omega
      obtain ⟨k, fi, ca, hcell, hk, hc⟩ := hstep j hlt wr hP
      go_wp2_with (refine law_do rfl _ rfl k fi ca rfl hk _ hc ?_; intro E w1 hE; rcases hE with ⟨hE0, hP1⟩ | ⟨hE0, hR1⟩)
      · exact ⟨⟨j + 1, by omega, by go_num, hP1⟩, by simp [intOf]; omega⟩
      · go_ret
        exact ⟨_, rfl, hR1⟩
    · have : j = n := by omega
      subst this
      go_wp2
      go_ret
      exact ⟨_, rfl, hend _ hP⟩

/-! ### steps on a disk -/
/-- What a step does: a sector is written, or all is flushed. -/
inductive Stp where
  | wr (i : Nat) (s : Sec)
  | fl
def Stp.go (d : St) : Stp → St × Int
  | .wr i s => d.wr i s
  | .fl => d.fl
/-- One behind the other, till one fails. -/
def runs (d : St) : List Stp → St × Int
  | [] => (d, 0)
  | s :: ss => if (s.go d).2 = 0 then runs (s.go d).1 ss else s.go d
theorem runs_append (ss ts : List Stp) : ∀ d : St, runs d (ss ++ ts) = if (runs d ss).2 = 0 then runs (runs d ss).1 ts else runs d ss := by
  induction ss with
  | nil => intro d; simp [runs]
  | cons s ss ih =>
    intro d
    simp only [List.cons_append, runs]
    by_cases h : (s.go d).2 = 0
    · simp only [if_pos h, ih]
    · simp only [if_neg h]
theorem runs_one (d : St) (s : Stp) : runs d [s] = s.go d := by
  simp only [runs]
  by_cases h : (s.go d).2 = 0
  · rw [if_pos h, ← h]
  · rw [if_neg h]
theorem fl_writes (d : St) : d.fl.1.writes ≤ d.writes + 1 ∧ d.fl.1.flushes ≤ d.flushes + 1 := by
  unfold St.fl
  split
  · exact ⟨Nat.le_succ _, Nat.le_succ _⟩
  · split
    · show (d.tick.op.1).writes ≤ _ ∧ (d.tick.op.1).flushes ≤ _
      rw [op_writes, op_flushes]
      exact ⟨Nat.le_succ _, Nat.le_refl _⟩
    · rw [op_writes, op_flushes]
      exact ⟨Nat.le_succ _, Nat.le_refl _⟩
theorem wr_writes (d : St) (i : Int) (s : Sec) : (d.wr i s).1.writes ≤ d.writes + 1 ∧ (d.wr i s).1.flushes ≤ d.flushes + 1 := by
  unfold St.wr
  split
  · exact ⟨Nat.le_succ _, Nat.le_succ _⟩
  · split
    · exact ⟨Nat.le_succ _, Nat.le_succ _⟩
    · rw [op_writes, op_flushes]
      exact ⟨Nat.le_refl _, Nat.le_succ _⟩
theorem go_writes (d : St) (s : Stp) : (s.go d).1.writes ≤ d.writes + 1 ∧ (s.go d).1.flushes ≤ d.flushes + 1 := by
  cases s with
  | wr i s => exact wr_writes d i s
  | fl => exact fl_writes d
theorem runs_writes (ss : List Stp) : ∀ d : St, (runs d ss).1.writes ≤ d.writes + ss.length ∧ (runs d ss).1.flushes ≤ d.flushes + ss.length := by
  induction ss with
  | nil => intro d; exact ⟨Nat.le_refl _, Nat.le_refl _⟩
  | cons s ss ih =>
    intro d
    have h1 := go_writes d s
    simp only [runs, List.length_cons]
    split
    · have h2 := ih (s.go d).1
      omega
    · omega

/-- The value c, called, does the step s, as long as nothing but the disk has been touched since w0. -/
def StepIs (w0 : World) (r f m0 cap : Nat) (c : Value) (s : Stp) : Prop := ∃ k fi ca, c = .func (.func k) fi ca ∧ Entr k ∧ ∀ v m d, Lay v r f m cap d → Fr (fp r f m0) w0 v → (m = m0 ∨ w0.heap.size ≤ m) → d.writes < 1000000000 → d.flushes < 1000000000 →
  Calls Tryz.prog k (fi ++ ca) v fun e v' => e = .returned (.int .i64 (s.go d).2) ∧ Turn v v' r f m cap (s.go d).1
theorem StepIs.next {w0 w1 : World} {r f m0 cap : Nat} {c : Value} {s : Stp} (h : StepIs w0 r f m0 cap c s) (hf : Fr (fp r f m0) w0 w1) : StepIs w1 r f m0 cap c s := by
  obtain ⟨k, fi, ca, hc, hk, h⟩ := h
  exact ⟨k, fi, ca, hc, hk, fun v m d hL hF hm hw hfl => h v m d hL (hf.trans hF (fun _ _ h => h)) (hm.imp id (fun h => Nat.le_trans hf.size h)) hw hfl⟩
theorem Turn.trans {w w1 w2 : World} {r f m m1 cap : Nat} {d2 : St} (hm1 : m1 = m ∨ w.heap.size ≤ m1) (hF : Fr (fp r f m) w w1) (h : Turn w1 w2 r f m1 cap d2) : Turn w w2 r f m cap d2 := by
  obtain ⟨m2, hm2, hL, hF2⟩ := h
  refine ⟨m2, ?_, hL, hF.trans hF2 (fun j hj hx => ?_)⟩
  · rcases hm2 with e | e
    · subst e; exact hm1
    · exact Or.inr (Nat.le_trans hF.size e)
  · rcases hx with e | e | e
    · exact .inl e
    · exact .inr (.inl e)
    · rcases hm1 with e1 | e1
      · exact .inr (.inr (e.trans e1))
      · omega
/-- Steps on a disk, in order. -/
theorem steps_any (ss : List Stp) (w0 : World) (r f m0 cap : Nat) (d : St) (hL : Lay w0 r f m0 cap d) (g n cp : Nat) (cs : List Value) (hn : ss.length = n) (hn2 : n ≤ 1000000) (hc : cs.length = n) (hg : ¬ fp r f m0 g)
    (hcell : ∀ (j : Nat) c, cs[j]? = some c → w0.cell? ⟨g, j, none⟩ = some c) (hrow : ∀ (j : Nat) c s, cs[j]? = some c → ss[j]? = some s → StepIs w0 r f m0 cap c s) (hw : d.writes + n ≤ 1000000000) (hfl : d.flushes + n ≤ 1000000000) :
    Calls Tryz.prog 48 #[.slice (some ⟨g, 0, none⟩) n cp] w0 fun e w' => e = .returned (.int .i64 (runs d ss).2) ∧ Turn w0 w' r f m0 cap (runs d ss).1 := by
  refine (inOrder_any (fun j v => (runs d (ss.take j)).2 = 0 ∧ Turn w0 v r f m0 cap (runs d (ss.take j)).1) (fun E v => E = (runs d ss).2 ∧ Turn w0 v r f m0 cap (runs d ss).1) g n cp w0 hn2 ⟨rfl, .of hL (Fr.refl _ _)⟩ ?_ ?_).mono ?_
  · intro v h
    rw [List.take_of_length_le (by omega)] at h
    exact ⟨h.1.symm, h.2⟩
  · rintro j hj v ⟨h1, m, hm, hLv, hFv⟩
    obtain ⟨c, hcj⟩ : ∃ c, cs[j]? = some c := ⟨_, List.getElem?_eq_getElem (by omega)⟩
    obtain ⟨s, hsj⟩ : ∃ s, ss[j]? = some s := ⟨_, List.getElem?_eq_getElem (by omega)⟩
    obtain ⟨k, fi, ca, rfl, hk, hcall⟩ := hrow j c s hcj hsj
    have hcv := hcell j _ hcj
    have hgl : g < w0.heap.size := World.block_lt_of_cell? _ _ hcv
    have htk : ss.take (j + 1) = ss.take j ++ [s] := by rw [List.take_add_one, hsj]; rfl
    have hcnt := runs_writes (ss.take j) d
    rw [List.length_take, Nat.min_eq_left (by omega)] at hcnt
    refine ⟨k, fi, ca, ?_, hk, ?_⟩
    · rw [World.cell?_of_block (w := w0) (w' := v) (a := ⟨g, j, none⟩) (hFv.block g hgl hg)]
      exact hcv
    · refine (hcall v m _ hLv hFv hm (by omega) (by omega)).mono fun e v' ⟨he, hT⟩ => ⟨_, he, ?_⟩
      have hT2 := Turn.trans hm hFv hT
      have e1 : runs d (ss.take (j + 1)) = s.go (runs d (ss.take j)).1 := by rw [htk, runs_append, if_pos h1, runs_one]
      by_cases h0 : (s.go (runs d (ss.take j)).1).2 = 0
      · exact Or.inl ⟨h0, by rw [e1]; exact h0, by rw [e1]; exact hT2⟩
      · have e2 : runs d ss = s.go (runs d (ss.take j)).1 := by
          have e0 : runs d ss = runs d (ss.take (j + 1) ++ ss.drop (j + 1)) := by rw [List.take_append_drop]
          rw [e0, runs_append, e1, if_neg h0]
        exact Or.inr ⟨h0, by rw [e2], by rw [e2]; exact hT2⟩
  · rintro e w' ⟨E, rfl, rfl, hT⟩
    exact ⟨rfl, hT⟩
end Go.Proofs.YtndfhmlcfaaaiaaGreatDoor

/- Format: a log is laid. -/
namespace Go.Proofs.YtndfhmlcfaaaiaaGreatDoor
open Go.RowKit

theorem info103 : (Tryz.prog.info? 139).map (fun i => (i.zero, i.size, i.bytes)) = some (some .nilFunc, 1, 8) := by kernel_rfl
/-- The value c, called, does the step s, as long as what it captured is as it is in v. -/
def StepC (v : World) (r f m cap : Nat) (c : Value) (s : Stp) : Prop := ∃ k fi ca, ∃ caps : List (Nat × Obj), c = .func (.func k) fi ca ∧ Entr k ∧ (∀ x ∈ caps, v.heap[x.1]? = some x.2 ∧ ¬ fp r f m x.1 ∧ ∀ C fr, x.2 ≠ .cells C 139 fr) ∧
  ∀ v' m' d, Lay v' r f m' cap d → Tabs v' → (∀ x ∈ caps, v'.heap[x.1]? = some x.2 ∧ ¬ fp r f m' x.1) → (∀ k, fp r f m' k → 2 ≤ k) → d.writes < 1000000000 → d.flushes < 1000000000 →
    Calls Tryz.prog k (fi ++ ca) v' fun e v2 => e = .returned (.int .i64 (s.go d).2) ∧ Turn v' v2 r f m' cap (s.go d).1
theorem StepC.is {v : World} {r f m cap : Nat} {c : Value} {s : Stp} (h : StepC v r f m cap c s) (hT : Tabs v) (h2 : ∀ k, fp r f m k → 2 ≤ k) : StepIs v r f m cap c s := by
  obtain ⟨k, fi, ca, caps, hc, hk, hcaps, h⟩ := h
  have hsz := hT.two
  refine ⟨k, fi, ca, hc, hk, fun v' m' d hL hF hm hw hfl => h v' m' d hL (hT.fr hF h2) (fun x hx => ?_) (fun k hk => ?_) hw hfl⟩
  · obtain ⟨h1, hn, _⟩ := hcaps x hx
    have hlt : x.1 < v.heap.size := (Array.getElem?_eq_some_iff.1 h1).1
    refine ⟨(hF.block x.1 hlt hn).trans h1, fun hx2 => ?_⟩
    rcases hx2 with e | e | e
    · exact hn (.inl e)
    · exact hn (.inr (.inl e))
    · rcases hm with e2 | e2
      · exact hn (.inr (.inr (e.trans e2)))
      · omega
  · rcases hk with e | e | e
    · exact h2 k (.inl e)
    · exact h2 k (.inr (.inl e))
    · rcases hm with e2 | e2
      · exact h2 k (.inr (.inr (e.trans e2)))
      · omega
theorem StepC.grown {v v' : World} {r f m cap : Nat} {c : Value} {s : Stp} (h : StepC v r f m cap c s) {row : Option Nat} (hg : v.grownBy v' row) (hr : ∀ b, row = some b → ∃ C fr, v.heap[b]? = some (.cells C 139 fr)) : StepC v' r f m cap c s := by
  obtain ⟨k, fi, ca, caps, hc, hk, hcaps, h⟩ := h
  refine ⟨k, fi, ca, caps, hc, hk, fun x hx => ?_, h⟩
  obtain ⟨h1, hn, h3⟩ := hcaps x hx
  have hlt : x.1 < v.heap.size := (Array.getElem?_eq_some_iff.1 h1).1
  refine ⟨(hg.block x.1 hlt (fun e => ?_)).trans h1, hn, h3⟩
  obtain ⟨C, fr, hb⟩ := hr x.1 e.symm
  rw [h1] at hb
  exact h3 C fr (Option.some.inj hb)
theorem StepC.next {v v' : World} {r f m cap : Nat} {c : Value} {s : Stp} (h : StepC v r f m cap c s) (hb : Below v.heap.size v v') : StepC v' r f m cap c s := by
  obtain ⟨k, fi, ca, caps, hc, hk, hcaps, h⟩ := h
  refine ⟨k, fi, ca, caps, hc, hk, fun x hx => ?_, h⟩
  obtain ⟨h1, hn, h3⟩ := hcaps x hx
  have hlt : x.1 < v.heap.size := (Array.getElem?_eq_some_iff.1 h1).1
  exact ⟨(hb.block x.1 hlt).trans h1, hn, h3⟩
theorem grown_of_below {v v' : World} (hb : Below v.heap.size v v') : v.grownBy v' none := ⟨hb.os, hb.tape, hb.output, hb.size, fun i hi _ => hb.block i hi⟩
/-- A row of function values that do the steps ss. -/
def Rowed (v : World) (base : Nat) (x : Value) (r f m cap : Nat) (ss : List Stp) : Prop := ∃ cs : List Value, v.ownsRow base 139 1 x ss.length cs ∧ cs.length = ss.length ∧ ∀ (j : Nat) c s, cs[j]? = some c → ss[j]? = some s → StepC v r f m cap c s
theorem Rowed.nil (v : World) (base r f m cap : Nat) : Rowed v base (.slice none 0 0) r f m cap [] := ⟨[], World.ownsRow_nil _ _ _ _, rfl, fun j c s h => by simp at h⟩
theorem Rowed.next {v v' : World} {base : Nat} {x : Value} {r f m cap : Nat} {ss : List Stp} (h : Rowed v base x r f m cap ss) (hb : Below v.heap.size v v') : Rowed v' base x r f m cap ss := by
  obtain ⟨cs, h1, h2, h3⟩ := h
  exact ⟨cs, h1.kept (row := none) (grown_of_below hb) (by cases hv : x.ownBlock <;> simp), h2, fun j c s hc hs => (h3 j c s hc hs).next hb⟩
theorem getElem?_append_cases {α : Type} (l m : List α) (j : Nat) (x : α) (h : (l ++ m)[j]? = some x) : (j < l.length ∧ l[j]? = some x) ∨ (l.length ≤ j ∧ m[j - l.length]? = some x) := by
  by_cases hj : j < l.length
  · rw [List.getElem?_append_left hj] at h
    exact Or.inl ⟨hj, h⟩
  · rw [List.getElem?_append_right (by omega)] at h
    exact Or.inr ⟨by omega, h⟩
section
variable {w : World} {ops : Array Oper} {rest : List Oper} {o : Oper} {a : Act} {Q : Exit → Act → World → Prop}
/-- 'append(steps, news...)', the news in a block of their own. -/
theorem push_fns_k {K : Act → World → Prop} (s x : Operand) (ho : o.op = .call { callee := .builtin .append, args := #[s, x], argTypes := #[108, 108] }) (base : Nat) (v : Value) (r f m cap : Nat) (ss ts : List Stp) (hv : a.eval s = v) (hR : Rowed w base v r f m cap ss)
    (g M : Nat) (news : List Value) (hx : a.eval x = .slice (some ⟨g, 0, none⟩) M M) (hc : w.heap[g]? = some (.cells news.toArray 139 (0, 0))) (hnl : news.length = M) (htl : ts.length = M) (h1 : ∀ u ∈ news, u.oneCell' = true)
    (hst : ∀ (j : Nat) c s, news[j]? = some c → ts[j]? = some s → StepC w r f m cap c s) (hbig : ss.length + M ≤ 1000000) (hbase : base ≤ w.heap.size)
    (h : ∀ v' w', Rowed w' base v' r f m cap (ss ++ ts) → Below base w w' → (∀ g t vs, t ≠ 139 → Blk w g t vs → Blk w' g t vs) → K (a.put o.dst v') w') : o.wp Tryz.prog a w K Q := by
  obtain ⟨i0, hi, hz0, hz1, hz2⟩ := info_parts info103
  obtain ⟨cs, hown, hl, hcs⟩ := hR
  refine wp_append_own w s x 108 ho base 139 i0 .nilFunc 1 8 Tryz.underlying108 hi hz0 hz1 hz2 rfl (by decide) v ss.length cs hv hown ⟨g, 0, none⟩ M M news hx (by omega) (World.news_of_block (cs := news.toArray) hc) h1 (by unfold maxLen; omega) (by omega) hbase ?_
  intro v' w' h2 h3 _
  have hrow : ∀ b, v.ownBlock = some b → ∃ C fr, w.heap[b]? = some (.cells C 139 fr) := by
    intro b hb
    rcases hown.2 with ⟨rfl, _⟩ | ⟨g', cap', cur, rfl, _, hg', _⟩
    · simp [Value.ownBlock] at hb
    · simp [Value.ownBlock] at hb
      subst hb
      exact ⟨cur, _, hg'⟩
  have hKeep : ∀ b t vs, t ≠ 139 → Blk w b t vs → Blk w' b t vs := by
    intro b t vs ht hb
    refine (h3.block b hb.lt (fun e => ?_)).trans hb
    obtain ⟨C, fr, h5⟩ := hrow b e.symm
    unfold Blk at hb
    rw [h5] at hb
    cases hb
    exact ht rfl
  refine h v' w' ⟨cs ++ news, by rw [List.length_append, htl]; exact h2, by simp [hl, hnl, htl], fun j c s hc hs => ?_⟩ ((Below.refl base w).grown h3 hbase (fun k hk => (hown.lt k hk).1)) hKeep
  rcases getElem?_append_cases cs news j c hc with ⟨h4, h5⟩ | ⟨h4, h5⟩
  · rw [List.getElem?_append_left (by omega)] at hs
    exact (hcs j c s h5 hs).grown h3 hrow
  · rw [List.getElem?_append_right (by omega)] at hs
    rw [← hl] at hs
    exact (hst _ c s h5 hs).grown h3 hrow
/-- 'append(steps, news...)', the news in a block of their own. -/
theorem push_fns (hgd : o.guard = none) (s x : Operand) (ho : o.op = .call { callee := .builtin .append, args := #[s, x], argTypes := #[108, 108] }) (base : Nat) (v : Value) (r f m cap : Nat) (ss ts : List Stp) (hv : a.eval s = v) (hR : Rowed w base v r f m cap ss)
    (g M : Nat) (news : List Value) (hx : a.eval x = .slice (some ⟨g, 0, none⟩) M M) (hc : w.heap[g]? = some (.cells news.toArray 139 (0, 0))) (hnl : news.length = M) (htl : ts.length = M) (h1 : ∀ u ∈ news, u.oneCell' = true)
    (hst : ∀ (j : Nat) c s, news[j]? = some c → ts[j]? = some s → StepC w r f m cap c s) (hbig : ss.length + M ≤ 1000000) (hbase : base ≤ w.heap.size)
    (h : ∀ v' w', Rowed w' base v' r f m cap (ss ++ ts) → Below base w w' → (∀ g t vs, t ≠ 139 → Blk w g t vs → Blk w' g t vs) → wpList Tryz.prog ops Q rest (a.put o.dst v') w') : wpList Tryz.prog ops Q (o :: rest) a w :=
  wpList_plain hgd fun _ hK => push_fns_k s x ho base v r f m cap ss ts hv hR g M news hx hc hnl htl h1 hst hbig hbase fun v' w' h2 h3 h4 => hK _ _ (h v' w' h2 h3 h4)
end

theorem bd31 (w : World) : (Instr.build 66 #[]).run Tryz.prog w = .ok (.agg (pb zp).toArray) w := by
  unfold pb zp
  kernel_rfl
/-- The three things that a step of Format captures. -/
structure C3 (v : World) (D0 E0 I r L H p : Nat) : Prop where
  d : Blk v D0 33 [.pointer (some ⟨r, 0, none⟩)]
  e : Blk v E0 102 (ly L H)
  i : Blk v I 3 [.int .i64 (p : Int)]
  t : Tabs v
theorem C3.next {v v' : World} {D0 E0 I r L H p : Nat} (h : C3 v D0 E0 I r L H p) (hb : Below v.heap.size v v') : C3 v' D0 E0 I r L H p := ⟨h.d.next hb, h.e.next hb, h.i.next hb, h.t.next hb⟩
theorem C3.drew {v : World} {D0 E0 I r L H p : Nat} (h : C3 v D0 E0 I r L H p) : C3 v.drew D0 E0 I r L H p := h.next ⟨rfl, rfl, rfl, Nat.le_refl _, fun _ _ => rfl⟩
/-- Blocks that a disk's step leaves. -/
theorem Turn.fr {w w' : World} {r f m cap : Nat} {d : St} (h : Turn w w' r f m cap d) : Fr (fp r f m) w w' := by obtain ⟨_, _, _, hF⟩ := h; exact hF
theorem below_drw (w : World) : Below w.heap.size w w.drew := ⟨rfl, rfl, rfl, Nat.le_refl _, fun _ _ => rfl⟩
theorem Turn.before {w w1 w2 : World} {r f m cap : Nat} {d : St} (hb : Below w.heap.size w w1) (h : Turn w1 w2 r f m cap d) : Turn w w2 r f m cap d := by
  obtain ⟨m', hm, hL, hF⟩ := h
  exact ⟨m', hm.imp id (Nat.le_trans hb.size), hL, (Fr.of_below (X := fp r f m) hb (Nat.le_refl _)).trans hF (fun _ _ h => h)⟩
set_option maxRecDepth 100000 in
theorem zero_step (v : World) (D0 I r f m cap p : Nat) (d : St) (hL : Lay v r f m cap d) (hD : Blk v D0 33 [.pointer (some ⟨r, 0, none⟩)]) (hI : Blk v I 3 [.int .i64 (p : Int)]) (hw : d.writes < 1000000000) :
    Calls Tryz.prog 88 #[.pointer (some ⟨D0, 0, none⟩), .pointer (some ⟨I, 0, none⟩)] v fun e v' => e = .returned (.int .i64 (d.wr p zs).2) ∧ Turn v v' r f m cap (d.wr p zs).1 := by
  have c0 := hD.cell 0 _ rfl
  have c1 := hI.cell 0 _ rfl
  go_enter Tryz.func88, Tryz.ntmps88
  go_wp2_with (first
    | (refine build_zero rfl rfl ?_)
    | (go_at_call 84; refine (wr_any _ r f m cap d hL p zs hw).mono ?_; rintro e v1 ⟨rfl, hT⟩))
  go_ret
  exact ⟨rfl, hT⟩

set_option maxRecDepth 100000 in
set_option maxHeartbeats 2000000 in
theorem home_step (v : World) (D0 E0 I r f m cap L H p : Nat) (d : St) (hL : Lay v r f m cap d) (hC : C3 v D0 E0 I r L H p) (hnd : ¬ fp r f m D0) (hne : ¬ fp r f m E0) (hni : ¬ fp r f m I) (h2 : ∀ k, fp r f m k → 2 ≤ k) (hL4 : L ≤ 4000) (hp : p < 16384) (hw : d.writes < 1000000000) :
    Calls Tryz.prog 89 #[.pointer (some ⟨D0, 0, none⟩), .pointer (some ⟨E0, 0, none⟩), .pointer (some ⟨I, 0, none⟩)] v fun e v' => e = .returned (.int .i64 (d.wr ((2 + L + p : Nat) : Int) (hmF 1 p zp)).2) ∧ Turn v v' r f m cap (d.wr ((2 + L + p : Nat) : Int) (hmF 1 p zp)).1 := by
  have hbd := bd31
  have hh := fun W => home_any L H p hL4 (by omega) W
  obtain ⟨q, hq⟩ : ∃ q, q = 2 + L + p := ⟨_, rfl⟩
  rw [← hq] at hh ⊢
  clear hq
  have B0 := below_drw v
  go_enter Tryz.func89, Tryz.ntmps89
  go_wp2_with fail
  refine wp_region_to (fun v => C3 v D0 E0 I r L H p) 9 (by kernel_rfl) ?_
  have hS0 := hC.drew
  have hL := hL.drew
  refine wpTo_take (i := 0) (v := ?v0a) (show _ = some _ by simp only [List.getElem?_toArray, List.getElem?_cons_zero]; exact rfl) (by kernel_rfl) (by kernel_rfl) (by kernel_rfl) (by kernel_rfl) (by exact fun _ _ _ h => h) (Or.inl ⟨by rfl, ?hy0a⟩) hS0 ?r0a
  case hy0a => (intro w hSw; (try dsimp only at hSw); have hc0 := Blk.cell hSw.d 0 _ rfl; have hc1 := Blk.cell hSw.i 0 _ rfl; go_simp; try with_reducible rfl)
  (try simp only [Act.put]); (try simp only [List.setIfInBounds_toArray]); (repeat (first | simp only [List.set_cons_succ] | simp only [List.set_cons_zero]))
  refine wpTo_take (i := 1) (show _ = some _ by simp only [List.getElem?_toArray, List.getElem?_cons_succ, List.getElem?_cons_zero]; exact rfl) (by kernel_rfl) (by kernel_rfl) (by kernel_rfl) (by kernel_rfl) (by exact fun _ _ _ h => h) (yieldsIf_load_mid (by rfl) 102 (.tmp 1) rfl E0 0 rfl (ly L H) _ (fun v h => (C3.e h).whole) Tryz.underlying102 rfl (by kernel_rfl)) hS0 ?_
  (try simp only [Act.put]); (try simp only [List.setIfInBounds_toArray]); (repeat (first | simp only [List.set_cons_succ] | simp only [List.set_cons_zero]))
  refine wpTo_take (i := 2) (v := ?v2a) (show _ = some _ by simp only [List.getElem?_toArray, List.getElem?_cons_succ, List.getElem?_cons_zero]; exact rfl) (by kernel_rfl) (by kernel_rfl) (by kernel_rfl) (by kernel_rfl) (by exact fun _ _ _ h => h) (Or.inl ⟨by rfl, ?hy2a⟩) hS0 ?r2a
  case hy2a => (intro w hSw; (try dsimp only at hSw); have hc0 := Blk.cell hSw.d 0 _ rfl; have hc1 := Blk.cell hSw.i 0 _ rfl; go_simp; try with_reducible rfl)
  (try simp only [Act.put]); (try simp only [List.setIfInBounds_toArray]); (repeat (first | simp only [List.set_cons_succ] | simp only [List.set_cons_zero]))
  refine wpTo_take (i := 4) (v := ?v4a) (show _ = some _ by simp only [List.getElem?_toArray, List.getElem?_cons_succ, List.getElem?_cons_zero]; exact rfl) (by kernel_rfl) (by kernel_rfl) (by kernel_rfl) (by kernel_rfl) (by exact fun _ _ _ h => h) (Or.inl ⟨by rfl, ?hy4a⟩) hS0 ?r4a
  case hy4a => (intro w hSw; (try dsimp only at hSw); have hc0 := Blk.cell hSw.d 0 _ rfl; have hc1 := Blk.cell hSw.i 0 _ rfl; go_simp; try with_reducible rfl)
  (try simp only [Act.put]); (try simp only [List.setIfInBounds_toArray]); (repeat (first | simp only [List.set_cons_succ] | simp only [List.set_cons_zero]))
  refine wpTo_take (i := 5) (v := ?v5a) (show _ = some _ by simp only [List.getElem?_toArray, List.getElem?_cons_succ, List.getElem?_cons_zero]; exact rfl) (by kernel_rfl) (by kernel_rfl) (by kernel_rfl) (by kernel_rfl) (by exact fun _ _ _ h => h) (Or.inl ⟨by rfl, ?hy5a⟩) hS0 ?r5a
  case hy5a => (intro w hSw; (try dsimp only at hSw); go_simp; try with_reducible rfl)
  (try simp only [Act.put]); (try simp only [List.setIfInBounds_toArray]); (repeat (first | simp only [List.set_cons_succ] | simp only [List.set_cons_zero]))
  refine wpTo_one (i := 3) (by kernel_rfl) (show _ = some _ by simp only [List.getElem?_toArray, List.getElem?_cons_succ, List.getElem?_cons_zero]; exact rfl) (fun K hK => ?_)
  go_simp
  go_at_call 75; refine (hh _).mono ?_; rintro e v1 ⟨rfl, k1⟩
  have hL := hL.next k1
  (try simp only [])
  refine hK.out _ _ (C3.next hS0 k1) (fun hS1 => ?_)
  clear hK K
  (try simp only [Act.put]); (try simp only [List.setIfInBounds_toArray]); (repeat (first | simp only [List.set_cons_succ] | simp only [List.set_cons_zero]))
  refine wpTo_one (i := 6) (by kernel_rfl) (show _ = some _ by simp only [List.getElem?_toArray, List.getElem?_cons_succ, List.getElem?_cons_zero]; exact rfl) (fun K hK => ?_)
  go_simp
  go_at_call 77; refine (homeFrame_any 1 p zp _ hS1.t (by omega) (by omega)).mono ?_; rintro e v2 ⟨rfl, k2⟩
  have hL := hL.next k2
  (try simp only [])
  refine hK.out _ _ (C3.next hS1 k2) (fun hS2 => ?_)
  clear hK K
  (try simp only [Act.put]); (try simp only [List.setIfInBounds_toArray]); (repeat (first | simp only [List.set_cons_succ] | simp only [List.set_cons_zero]))
  refine wpTo_one (i := 7) (by kernel_rfl) (show _ = some _ by simp only [List.getElem?_toArray, List.getElem?_cons_succ, List.getElem?_cons_zero]; exact rfl) (fun K hK => ?_)
  go_simp
  go_at_call 84; refine (wr_any _ r f m cap d hL _ _ hw).mono ?_; rintro e v9 ⟨rfl, hT⟩
  have hF9 := hT.fr
  (try simp only [])
  refine hK.out _ _ (⟨hS2.d.fr hF9 hnd, hS2.e.fr hF9 hne, hS2.i.fr hF9 hni, hS2.t.fr hF9 h2⟩) (fun hS3 => ?_)
  clear hK K
  (try simp only [Act.put]); (try simp only [List.setIfInBounds_toArray]); (repeat (first | simp only [List.set_cons_succ] | simp only [List.set_cons_zero]))
  refine wpTo_take (i := 8) (v := ?v8a) (show _ = some _ by simp only [List.getElem?_toArray, List.getElem?_cons_succ, List.getElem?_cons_zero]; exact rfl) (by kernel_rfl) (by kernel_rfl) (by kernel_rfl) (by kernel_rfl) (by exact fun _ _ _ h => h) (Or.inl ⟨by rfl, ?hy8a⟩) hS3 ?r8a
  case hy8a => (intro w hSw; (try dsimp only at hSw); go_simp; try with_reducible rfl)
  (try simp only [Act.put]); (try simp only [List.setIfInBounds_toArray]); (repeat (first | simp only [List.set_cons_succ] | simp only [List.set_cons_zero]))
  refine wpTo_done (by kernel_rfl) ?_
  go_wp2_with fail
  go_ret
  exact ⟨rfl, Turn.before ((B0.trans (k1.mono B0.size)).trans (k2.mono (Nat.le_trans B0.size k1.size))) hT⟩

structure C2 (v : World) (D0 E0 r L H : Nat) : Prop where
  d : Blk v D0 33 [.pointer (some ⟨r, 0, none⟩)]
  e : Blk v E0 102 (ly L H)
  t : Tabs v
theorem C2.next {v v' : World} {D0 E0 r L H : Nat} (h : C2 v D0 E0 r L H) (hb : Below v.heap.size v v') : C2 v' D0 E0 r L H := ⟨h.d.next hb, h.e.next hb, h.t.next hb⟩
theorem C2.drew {v : World} {D0 E0 r L H : Nat} (h : C2 v D0 E0 r L H) : C2 v.drew D0 E0 r L H := h.next (below_drw v)
set_option maxRecDepth 100000 in
set_option maxHeartbeats 2000000 in
theorem begin_step (v : World) (D0 E0 r f m cap L H : Nat) (d : St) (hL : Lay v r f m cap d) (hC : C2 v D0 E0 r L H) (hnd : ¬ fp r f m D0) (hne : ¬ fp r f m E0) (h2 : ∀ k, fp r f m k → 2 ≤ k) (hL4 : L ≤ 4000) (hH : H ≤ 16384) (hw : d.writes < 1000000000) :
    Calls Tryz.prog 90 #[.pointer (some ⟨D0, 0, none⟩), .pointer (some ⟨E0, 0, none⟩)] v fun e v' => e = .returned (.int .i64 (d.wr 1 (hdF L H 1)).2) ∧ Turn v v' r f m cap (d.wr 1 (hdF L H 1)).1 := by
  have B0 := below_drw v
  go_enter Tryz.func90, Tryz.ntmps90
  go_wp2_with fail
  refine wp_region_to (fun v => C2 v D0 E0 r L H) 6 (by kernel_rfl) ?_
  have hS0 := hC.drew
  have hL := hL.drew
  refine wpTo_take (i := 0) (v := ?v0b) (show _ = some _ by simp only [List.getElem?_toArray, List.getElem?_cons_zero]; exact rfl) (by kernel_rfl) (by kernel_rfl) (by kernel_rfl) (by kernel_rfl) (by exact fun _ _ _ h => h) (Or.inl ⟨by rfl, ?hy0b⟩) hS0 ?r0b
  case hy0b => (intro w hSw; (try dsimp only at hSw); have hc0 := Blk.cell hSw.d 0 _ rfl; go_simp; try with_reducible rfl)
  (try simp only [Act.put]); (try simp only [List.setIfInBounds_toArray]); (repeat (first | simp only [List.set_cons_succ] | simp only [List.set_cons_zero]))
  refine wpTo_take (i := 2) (show _ = some _ by simp only [List.getElem?_toArray, List.getElem?_cons_succ, List.getElem?_cons_zero]; exact rfl) (by kernel_rfl) (by kernel_rfl) (by kernel_rfl) (by kernel_rfl) (by exact fun _ _ _ h => h) (yieldsIf_load_mid (by rfl) 102 (.tmp 1) rfl E0 0 rfl (ly L H) _ (fun v h => (C2.e h).whole) Tryz.underlying102 rfl (by kernel_rfl)) hS0 ?_
  (try simp only [Act.put]); (try simp only [List.setIfInBounds_toArray]); (repeat (first | simp only [List.set_cons_succ] | simp only [List.set_cons_zero]))
  refine wpTo_one (i := 1) (by kernel_rfl) (show _ = some _ by simp only [List.getElem?_toArray, List.getElem?_cons_succ, List.getElem?_cons_zero]; exact rfl) (fun K hK => ?_)
  go_simp
  go_at_call 91; refine (headPlace_any 1 (by omega) _).mono ?_; rintro e v1 ⟨rfl, rfl⟩
  (try simp only [])
  refine hK.out _ _ (hS0) (fun hS1 => ?_)
  clear hK K
  (try simp only [Act.put]); (try simp only [List.setIfInBounds_toArray]); (repeat (first | simp only [List.set_cons_succ] | simp only [List.set_cons_zero]))
  refine wpTo_one (i := 3) (by kernel_rfl) (show _ = some _ by simp only [List.getElem?_toArray, List.getElem?_cons_succ, List.getElem?_cons_zero]; exact rfl) (fun K hK => ?_)
  go_simp
  go_at_call 92; refine (head_any L H 1 _ hS1.t (by omega) (by omega) (by omega)).mono ?_; rintro e v2 ⟨rfl, k2⟩
  have hL := hL.next k2
  (try simp only [])
  refine hK.out _ _ (C2.next hS1 k2) (fun hS2 => ?_)
  clear hK K
  (try simp only [Act.put]); (try simp only [List.setIfInBounds_toArray]); (repeat (first | simp only [List.set_cons_succ] | simp only [List.set_cons_zero]))
  refine wpTo_one (i := 4) (by kernel_rfl) (show _ = some _ by simp only [List.getElem?_toArray, List.getElem?_cons_succ, List.getElem?_cons_zero]; exact rfl) (fun K hK => ?_)
  go_simp
  go_at_call 84; refine (wr_any _ r f m cap d hL 1 _ hw).mono ?_; rintro e v9 ⟨rfl, hT⟩
  have hF9 := hT.fr
  (try simp only [])
  refine hK.out _ _ (⟨hS2.d.fr hF9 hnd, hS2.e.fr hF9 hne, hS2.t.fr hF9 h2⟩) (fun hS3 => ?_)
  clear hK K
  (try simp only [Act.put]); (try simp only [List.setIfInBounds_toArray]); (repeat (first | simp only [List.set_cons_succ] | simp only [List.set_cons_zero]))
  refine wpTo_take (i := 5) (v := ?v5b) (show _ = some _ by simp only [List.getElem?_toArray, List.getElem?_cons_succ, List.getElem?_cons_zero]; exact rfl) (by kernel_rfl) (by kernel_rfl) (by kernel_rfl) (by kernel_rfl) (by exact fun _ _ _ h => h) (Or.inl ⟨by rfl, ?hy5b⟩) hS3 ?r5b
  case hy5b => (intro w hSw; (try dsimp only at hSw); go_simp; try with_reducible rfl)
  (try simp only [Act.put]); (try simp only [List.setIfInBounds_toArray]); (repeat (first | simp only [List.set_cons_succ] | simp only [List.set_cons_zero]))
  refine wpTo_done (by kernel_rfl) ?_
  go_wp2_with fail
  go_ret
  exact ⟨rfl, Turn.before (B0.trans (k2.mono B0.size)) hT⟩

theorem hmf0 (fn : Fn) (first ca : Array Value) (w : World) : (Instr.makeFunc fn first ca).run Tryz.prog w = .ok (.func fn first ca) w := rfl
/-- The first k steps that write zeros; those that write homes. -/
def zst (k : Nat) : List Stp := (List.range k).map fun i => .wr i zs
def hst (L k : Nat) : List Stp := (List.range k).map fun p => .wr (2 + L + p) (hmF 1 p zp)
def fmtS (L H : Nat) : List Stp := zst (2 + L) ++ [.fl] ++ hst L H ++ [.fl, .wr 1 (hdF L H 1), .fl]
theorem only_one {α β : Type} {P : α → β → Prop} {a : α} {b : β} (h : P a b) : ∀ (j : Nat) c s, [a][j]? = some c → [b][j]? = some s → P c s := by
  intro j c s h1 h2
  cases j with
  | zero => simp at h1 h2; subst h1; subst h2; exact h
  | succ j => simp at h1
theorem zst_succ (k : Nat) : zst (k + 1) = zst k ++ [.wr k zs] := by simp [zst, List.range_succ]
theorem hst_succ (L k : Nat) : hst L (k + 1) = hst L k ++ [.wr (2 + L + k) (hmF 1 k zp)] := by simp [hst, List.range_succ]
theorem zst_length (k : Nat) : (zst k).length = k := by simp [zst]
theorem hst_length (L k : Nat) : (hst L k).length = k := by simp [hst]
theorem fl_step (v : World) (r f m cap : Nat) : StepC v r f m cap (.func (.func 82) #[.pointer (some ⟨r, 0, none⟩)] #[]) .fl :=
  ⟨82, _, _, [], rfl, entr29, fun x hx => (by cases hx), fun v' m' d hL _ _ _ _ hf => fl_any v' r f m' cap d hL hf⟩
set_option maxRecDepth 100000 in
set_option maxHeartbeats 4000000 in
theorem formatting_any (w : World) (r f m cap L H : Nat) (hT : Tabs w) (hfp : ∀ k, fp r f m k → 2 ≤ k ∧ k < w.heap.size) (hL4 : L ≤ 4000) (hH : H ≤ 16384) :
    Calls Tryz.prog 59 #[.pointer (some ⟨r, 0, none⟩), .agg (ly L H).toArray] w fun e w' => ∃ x, e = .returned x ∧ Rowed w' w.heap.size x r f m cap (fmtS L H) ∧ Below w.heap.size w w' := by
  have hmf := hmf0
  have hD := (Blk.new w 33 [.pointer (some ⟨r, 0, none⟩)]).alloc (.cells (ly L H).toArray 102)
  have hE := Blk.new (w.alloc (.cells #[.pointer (some ⟨r, 0, none⟩)] 33)) 102 (ly L H)
  have hB := ((Below.refl w.heap.size w).alloc (Nat.le_refl _) (.cells #[.pointer (some ⟨r, 0, none⟩)] 33)).alloc (by simp) (.cells (ly L H).toArray 102)
  have c0 := hE.cell 0 _ rfl
  rw [World.size_alloc] at hE c0
  have hC : C2 ((w.alloc (.cells #[.pointer (some ⟨r, 0, none⟩)] 33)).alloc (.cells (ly L H).toArray 102)) w.heap.size (w.heap.size + 1) r L H := ⟨hD, hE, (hT.alloc _).alloc _⟩
  have hLI : 2 + (L : Int) ≤ 5000 := by omega
  go_enter Tryz.func59, Tryz.ntmps59
  go_wp2_with fail
  go_loopw [5, 12] (fun x i wr => ∃ k : Nat, k ≤ 2 + L ∧ i = .int .i64 (k : Int) ∧ Rowed wr w.heap.size x r f m cap (zst k) ∧ C2 wr w.heap.size (w.heap.size + 1) r L H ∧ Below w.heap.size w wr) (fun _ i _ => 2 + L - (intOf i).toNat)
  case atStart => exact ⟨0, by omega, rfl, Rowed.nil _ _ _ _ _ _, hC, hB⟩
  case round =>
    obtain ⟨k, hk, rfl, hR, hC1, hb⟩ := hrel
    by_cases hlt : k < 2 + L
    · have hkI : (k : Int) < 2 + (L : Int) := by omega
      have hs1 := hb.size
      have hb1 := (Below.refl wr.heap.size wr).alloc (Nat.le_refl _) (.cells #[.int .i64 (k : Int)] 3)
      have hI := Blk.new wr 3 [.int .i64 (k : Int)]
      obtain ⟨FN, hFN⟩ : ∃ FN, FN = Value.func (.func 88) #[] #[.pointer (some ⟨w.heap.size, 0, none⟩), .pointer (some ⟨wr.heap.size, 0, none⟩)] := ⟨_, rfl⟩
      have hb2 := hb1.alloc (by simp) (.cells #[FN] 139)
      have hFC := Blk.new (wr.alloc (.cells #[.int .i64 (k : Int)] 3)) 139 [FN]
      rw [World.size_alloc] at hFC
      have hst : StepC ((wr.alloc (.cells #[.int .i64 (k : Int)] 3)).alloc (.cells #[FN] 139)) r f m cap FN (.wr k zs) := by
        refine ⟨88, _, _, [(w.heap.size, .cells #[.pointer (some ⟨r, 0, none⟩)] 33), (wr.heap.size, .cells #[.int .i64 (k : Int)] 3)], hFN, entr59, ?_, ?_⟩
        · intro x hx
          simp only [List.mem_cons, List.not_mem_nil, or_false] at hx
          rcases hx with rfl | rfl
          · exact ⟨(hC1.d.next hb2), fun h => by have := hfp _ h; omega, fun C fr e => by cases e⟩
          · exact ⟨hI.alloc _, fun h => by have := hfp _ h; omega, fun C fr e => by cases e⟩
        · intro v' m' d hL _ hcaps _ hw _
          exact zero_step v' w.heap.size wr.heap.size r f m' cap k d hL (hcaps (w.heap.size, _) (by simp)).1 (hcaps (wr.heap.size, _) (by simp)).1 hw
      have hR2 := hR.next hb2
      have hC2 := hC1.next hb2
      have hbb := hb.trans (hb2.mono hs1)
      have hzl := zst_length k
      have hS2 := hbb.size
      have HZ : Hid (zst (k + 1) = zst k ++ [.wr k zs]) := zst_succ k
      obtain ⟨ZK, hZK⟩ : ∃ ZK, ZK = zst k := ⟨_, rfl⟩
      rw [← hZK] at hR2 HZ hzl
      have hone := only_one (P := fun c s => StepC ((wr.alloc (.cells #[.int .i64 (k : Int)] 3)).alloc (.cells #[FN] 139)) r f m cap c s) hst
      have h103 : FN.oneCell' = true := by rw [hFN]; rfl
      clear hZK hst hR hb1 hI
      go_wp2_with (at_builtin; rw [← hFN]; refine push_fns rfl _ _ rfl w.heap.size _ r f m cap ZK [.wr k zs] rfl hR2 (wr.heap.size + 1) 1 [FN] rfl hFC rfl rfl (by simpa using h103) hone (by rw [hzl]; simp; omega) hS2 ?_; intro v' w2 hR3 hB3 hK3)
      have hC3 : C2 w2 w.heap.size (w.heap.size + 1) r L H := ⟨hK3 _ _ _ (by decide) hC2.d, hK3 _ _ _ (by decide) hC2.e, hC2.t.later hB3 hT.two⟩
      exact ⟨⟨k + 1, by omega, by go_num, by rw [HZ.out]; exact hR3, hC3, hbb.trans hB3⟩, by simp [intOf]; omega⟩
    · have hkI : ¬ (k : Int) < 2 + (L : Int) := by omega
      have ek : k = 2 + L := by omega
      have hs1 := hb.size
      have cD := hC1.d.cell 0 _ rfl
      obtain ⟨FN, hFN⟩ : ∃ FN, FN = Value.func (.func 82) #[.pointer (some ⟨r, 0, none⟩)] #[] := ⟨_, rfl⟩
      have hb2 := (Below.refl wr.heap.size wr).alloc (Nat.le_refl _) (.cells #[FN] 139)
      have hFC := Blk.new wr 139 [FN]
      have hone := only_one (P := fun c s => StepC (wr.alloc (.cells #[FN] 139)) r f m cap c s) (hFN ▸ fl_step _ r f m cap)
      have h103 : FN.oneCell' = true := by rw [hFN]; rfl
      have hR2 := hR.next hb2
      have hC2 := hC1.next hb2
      have hbb := hb.trans (hb2.mono hs1)
      have hzl := zst_length k
      have hS2 := hbb.size
      rw [ek] at hR2 hzl
      have hT2 := hT.two
      obtain ⟨ZK, hZK⟩ : ∃ ZK, ZK = zst (2 + L) := ⟨_, rfl⟩
      rw [← hZK] at hR2 hzl
      have HZK : Hid (ZK = zst (2 + L)) := hZK
      clear hZK hR
      go_upto_region 8 with (at_builtin; rw [← hFN]; refine push_fns rfl _ _ rfl w.heap.size _ r f m cap ZK [.fl] rfl hR2 wr.heap.size 1 [FN] rfl hFC rfl rfl (by simpa using h103) hone (by rw [hzl]; simp; omega) hS2 ?_; intro v' w2 hR3 hB3 hK3)
      have hC3 : C2 w2 w.heap.size (w.heap.size + 1) r L H := ⟨hK3 _ _ _ (by decide) hC2.d, hK3 _ _ _ (by decide) hC2.e, hC2.t.later hB3 hT2⟩
      have hb3 := hbb.trans hB3
      obtain ⟨S1, hS1⟩ : ∃ S1, S1 = ZK ++ [Stp.fl] := ⟨_, rfl⟩
      rw [← hS1] at hR3
      have hs1l : S1.length = 2 + L + 1 := by rw [hS1, List.length_append, hzl]; rfl
      have HS1 : Hid (S1 = ZK ++ [Stp.fl]) := hS1
      have cH := hC3.e.cell 1 _ rfl
      clear hS1 hK3 hB3 hone h103 hFC hFN hbb hb2 hC2 hR2 hS2 cD hs1 hzl hC1 hb hkI hlt hk c0
      go_wp2_with fail
      go_loopw [5, 27] (fun x i wr => ∃ k : Nat, k ≤ H ∧ i = .int .i64 (k : Int) ∧ Rowed wr w.heap.size x r f m cap (S1 ++ hst L k) ∧ C2 wr w.heap.size (w.heap.size + 1) r L H ∧ Below w.heap.size w wr) (fun _ i _ => H - (intOf i).toNat)
      case atStart => exact ⟨0, by omega, rfl, by simpa [hst] using hR3, hC3, hb3⟩
      case round =>
        clear hR3 hC3 hb3 cH
        obtain ⟨k, hk, rfl, hR, hC1, hb⟩ := hrel
        have hs1 := hb.size
        by_cases hlt : k < H
        · have hkI : (k : Int) < (H : Int) := by omega
          have hb1 := (Below.refl wr.heap.size wr).alloc (Nat.le_refl _) (.cells #[.int .i64 (k : Int)] 3)
          have hI := Blk.new wr 3 [.int .i64 (k : Int)]
          obtain ⟨FN, hFN⟩ : ∃ FN, FN = Value.func (.func 89) #[] #[.pointer (some ⟨w.heap.size, 0, none⟩), .pointer (some ⟨w.heap.size + 1, 0, none⟩), .pointer (some ⟨wr.heap.size, 0, none⟩)] := ⟨_, rfl⟩
          have hb2 := hb1.alloc (by simp) (.cells #[FN] 139)
          have hFC := Blk.new (wr.alloc (.cells #[.int .i64 (k : Int)] 3)) 139 [FN]
          rw [World.size_alloc] at hFC
          have hst1 : StepC ((wr.alloc (.cells #[.int .i64 (k : Int)] 3)).alloc (.cells #[FN] 139)) r f m cap FN (.wr (2 + L + k) (hmF 1 k zp)) := by
            have hnd : ¬ fp r f m w.heap.size := fun h => by have := hfp _ h; omega
            have hne : ¬ fp r f m (w.heap.size + 1) := fun h => by have := hfp _ h; omega
            have hni : ¬ fp r f m wr.heap.size := fun h => by have := hfp _ h; omega
            refine ⟨89, _, _, [(w.heap.size, .cells #[.pointer (some ⟨r, 0, none⟩)] 33), (w.heap.size + 1, .cells (ly L H).toArray 102), (wr.heap.size, .cells #[.int .i64 (k : Int)] 3)], hFN, entr60, ?_, ?_⟩
            · intro x hx
              simp only [List.mem_cons, List.not_mem_nil, or_false] at hx
              rcases hx with rfl | rfl | rfl
              · exact ⟨(hC1.d.next hb2), hnd, fun C fr e => by cases e⟩
              · exact ⟨(hC1.e.next hb2), hne, fun C fr e => by cases e⟩
              · exact ⟨hI.alloc _, hni, fun C fr e => by cases e⟩
            · intro v' m' d hL hTv hcaps h2 hw _
              have q1 := hcaps (w.heap.size, .cells #[.pointer (some ⟨r, 0, none⟩)] 33) (by simp)
              have q2 := hcaps (w.heap.size + 1, .cells (ly L H).toArray 102) (by simp)
              have q3 := hcaps (wr.heap.size, .cells #[.int .i64 (k : Int)] 3) (by simp)
              exact home_step v' w.heap.size (w.heap.size + 1) wr.heap.size r f m' cap L H k d hL ⟨q1.1, q2.1, q3.1, hTv⟩ q1.2 q2.2 q3.2 h2 hL4 (by omega) hw
          have hR2 := hR.next hb2
          have hC2 := hC1.next hb2
          have hbb := hb.trans (hb2.mono hs1)
          have hzl : (S1 ++ hst L k).length = 2 + L + 1 + k := by rw [List.length_append, hs1l, hst_length]
          have hS2 := hbb.size
          have HZ : Hid (S1 ++ hst L (k + 1) = (S1 ++ hst L k) ++ [.wr (2 + L + k) (hmF 1 k zp)]) := by show _ = _; rw [hst_succ, List.append_assoc]
          obtain ⟨ZK, hZK⟩ : ∃ ZK, ZK = S1 ++ hst L k := ⟨_, rfl⟩
          rw [← hZK] at hR2 HZ hzl
          have hone := only_one (P := fun c s => StepC ((wr.alloc (.cells #[.int .i64 (k : Int)] 3)).alloc (.cells #[FN] 139)) r f m cap c s) hst1
          have h103 : FN.oneCell' = true := by rw [hFN]; rfl
          have hT2 := hT.two
          clear hZK hst1 hR hb1 hI
          go_wp2_with (at_builtin; rw [← hFN]; refine push_fns rfl _ _ rfl w.heap.size _ r f m cap ZK [.wr (2 + L + k) (hmF 1 k zp)] rfl hR2 (wr.heap.size + 1) 1 [FN] rfl hFC rfl rfl (by simpa using h103) hone (by rw [hzl]; simp; omega) hS2 ?_; intro v' w2 hR3 hB3 hK3)
          have hC3 : C2 w2 w.heap.size (w.heap.size + 1) r L H := ⟨hK3 _ _ _ (by decide) hC2.d, hK3 _ _ _ (by decide) hC2.e, hC2.t.later hB3 hT.two⟩
          exact ⟨⟨k + 1, by omega, by go_num, by rw [HZ.out]; exact hR3, hC3, hbb.trans hB3⟩, by simp [intOf]; omega⟩
        · have hkI : ¬ (k : Int) < (H : Int) := by omega
          have ek : k = H := by omega
          rw [ek] at hR
          have cD := hC1.d.cell 0 _ rfl
          obtain ⟨FL, hFL⟩ : ∃ FL, FL = Value.func (.func 82) #[.pointer (some ⟨r, 0, none⟩)] #[] := ⟨_, rfl⟩
          obtain ⟨FB, hFB⟩ : ∃ FB, FB = Value.func (.func 90) #[] #[.pointer (some ⟨w.heap.size, 0, none⟩), .pointer (some ⟨w.heap.size + 1, 0, none⟩)] := ⟨_, rfl⟩
          have hb2 := (Below.refl wr.heap.size wr).alloc (Nat.le_refl _) (.cells #[FL, FB, FL] 139)
          have hFC := Blk.new wr 139 [FL, FB, FL]
          have hstB : StepC (wr.alloc (.cells #[FL, FB, FL] 139)) r f m cap FB (.wr 1 (hdF L H 1)) := by
            have hnd : ¬ fp r f m w.heap.size := fun h => by have := hfp _ h; omega
            have hne : ¬ fp r f m (w.heap.size + 1) := fun h => by have := hfp _ h; omega
            refine ⟨90, _, _, [(w.heap.size, .cells #[.pointer (some ⟨r, 0, none⟩)] 33), (w.heap.size + 1, .cells (ly L H).toArray 102)], hFB, entr61, ?_, ?_⟩
            · intro x hx
              simp only [List.mem_cons, List.not_mem_nil, or_false] at hx
              rcases hx with rfl | rfl
              · exact ⟨(hC1.d.next hb2), hnd, fun C fr e => by cases e⟩
              · exact ⟨(hC1.e.next hb2), hne, fun C fr e => by cases e⟩
            · intro v' m' d hL hTv hcaps h2 hw _
              have q1 := hcaps (w.heap.size, .cells #[.pointer (some ⟨r, 0, none⟩)] 33) (by simp)
              have q2 := hcaps (w.heap.size + 1, .cells (ly L H).toArray 102) (by simp)
              exact begin_step v' w.heap.size (w.heap.size + 1) r f m' cap L H d hL ⟨q1.1, q2.1, hTv⟩ q1.2 q2.2 h2 hL4 hH hw
          have hfls : StepC (wr.alloc (.cells #[FL, FB, FL] 139)) r f m cap FL .fl := hFL ▸ fl_step _ r f m cap
          have hall : ∀ (j : Nat) c s, [FL, FB, FL][j]? = some c → [Stp.fl, .wr 1 (hdF L H 1), .fl][j]? = some s → StepC (wr.alloc (.cells #[FL, FB, FL] 139)) r f m cap c s := by
            intro j c s h1 h2
            match j with
            | 0 => simp at h1 h2; subst h1; subst h2; exact hfls
            | 1 => simp at h1 h2; subst h1; subst h2; exact hstB
            | 2 => simp at h1 h2; subst h1; subst h2; exact hfls
            | j + 3 => simp at h1
          have h103 : ∀ u ∈ [FL, FB, FL], u.oneCell' = true := by
            intro u hu
            simp only [List.mem_cons, List.not_mem_nil, or_false] at hu
            rcases hu with rfl | rfl | rfl
            · rw [hFL]; rfl
            · rw [hFB]; rfl
            · rw [hFL]; rfl
          have hR2 := hR.next hb2
          have hbb := hb.trans (hb2.mono hs1)
          have hzl : (S1 ++ hst L H).length = 2 + L + 1 + H := by rw [List.length_append, hs1l, hst_length]
          have hS2 := hbb.size
          have HF : Hid (fmtS L H = (S1 ++ hst L H) ++ [Stp.fl, .wr 1 (hdF L H 1), .fl]) := by show _ = _; rw [HS1.out, HZK.out]; rfl
          obtain ⟨ZE, hZE⟩ : ∃ ZE, ZE = S1 ++ hst L H := ⟨_, rfl⟩
          rw [← hZE] at hR2 HF hzl
          clear hZE hstB hfls hR
          go_wp2_with (at_builtin; rw [← hFL, ← hFB]; refine push_fns rfl _ _ rfl w.heap.size _ r f m cap ZE [.fl, .wr 1 (hdF L H 1), .fl] rfl hR2 wr.heap.size 3 [FL, FB, FL] rfl hFC rfl rfl h103 hall (by rw [hzl]; simp; omega) hS2 ?_; intro v' w2 hR3 hB3 hK3)
          go_ret
          exact ⟨_, rfl, by rw [HF.out]; exact hR3, hbb.trans hB3⟩

theorem Rowed.row {v : World} {base : Nat} {x : Value} {r f m cap : Nat} {ss : List Stp} (h : Rowed v base x r f m cap ss) (hne : ss ≠ []) : ∃ g cp, ∃ cs : List Value, x = .slice (some ⟨g, 0, none⟩) ss.length cp ∧ base ≤ g ∧ cs.length = ss.length ∧ (∀ (j : Nat) c, cs[j]? = some c → v.cell? ⟨g, j, none⟩ = some c) ∧ ∀ (j : Nat) c s, cs[j]? = some c → ss[j]? = some s → StepC v r f m cap c s := by
  obtain ⟨cs, hown, hl, hst⟩ := h
  have hown2 := hown
  rcases hown.2 with ⟨_, h0⟩ | ⟨g, cp, cur, rfl, hg, _⟩
  · exact absurd (List.eq_nil_of_length_eq_zero h0) hne
  · refine ⟨g, cp, cs, rfl, hg, hl, fun j c hc => ?_, hst⟩
    have hj : j < cs.length := (List.getElem?_eq_some_iff.1 hc).1
    rw [hown2.cellAt j (by omega)]
    exact hc
/-- Steps of a row, in order. -/
theorem rowed_any (ss : List Stp) (hne : ss ≠ []) (w0 : World) (base : Nat) (x : Value) (r f m cap : Nat) (d : St) (hL : Lay w0 r f m cap d) (hT : Tabs w0) (hR : Rowed w0 base x r f m cap ss) (hfp : ∀ k, fp r f m k → 2 ≤ k ∧ k < base) (hn : ss.length ≤ 1000000)
    (hw : d.writes + ss.length ≤ 1000000000) (hfl : d.flushes + ss.length ≤ 1000000000) :
    Calls Tryz.prog 48 #[x] w0 fun e w' => e = .returned (.int .i64 (runs d ss).2) ∧ Turn w0 w' r f m cap (runs d ss).1 := by
  obtain ⟨g, cp, cs, rfl, hg, hl, hcell, hst⟩ := hR.row hne
  exact steps_any ss w0 r f m cap d hL g ss.length cp cs rfl hn hl (fun h => by have := hfp _ h; omega) hcell (fun j c s hc hs => (hst j c s hc hs).is hT (fun k hk => (hfp k hk).1)) hw hfl
theorem Lay.fp2 {w : World} {r f m cap : Nat} {d : St} (h : Lay w r f m cap d) : ∀ k, fp r f m k → k < w.heap.size := by
  intro k hk
  rcases hk with rfl | rfl | rfl
  · exact h.blk.lt
  · exact h.row.lt
  · exact h.mlt
theorem format_nil (w : World) (log : Int) : Calls Tryz.prog 23 #[.pointer none, .int .i64 log] w fun e w' => e = .returned (.int .i64 1) ∧ w = w' := by
  go_enter Tryz.func23, Tryz.ntmps23
  go_wp2
  go_ret
  exact ⟨rfl, rfl⟩
set_option maxRecDepth 100000 in
set_option maxHeartbeats 1000000 in
theorem format_any (w : World) (r f m cap L H : Nat) (d : St) (hL : Lay w r f m cap d) (hT : Tabs w) (hfp : ∀ k, fp r f m k → 2 ≤ k) (hL3 : 3 ≤ L) (hL4 : L ≤ 4000) (hH1 : 1 ≤ H) (hH : H ≤ 16384) (hn : d.n = 2 + L + H) (hw : d.writes ≤ 900000000) (hfl : d.flushes ≤ 900000000) :
    Calls Tryz.prog 23 #[.pointer (some ⟨r, 0, none⟩), .int .i64 (L : Int)] w fun e w' => e = .returned (.int .i64 (runs d (fmtS L H)).2) ∧ Turn w w' r f m cap (runs d (fmtS L H)).1 := by
  have hsz : ∀ W, Lay W r f m cap d → Calls Tryz.prog 58 #[.pointer (some ⟨r, 0, none⟩)] W fun e w' => e = .returned (.int .i64 ((2 + L + H : Nat) : Int)) ∧ W = w' := fun W h => by
    have := size_any W r f m cap d h
    rwa [hn] at this
  have hly := fun W => layoutOf_good L H W hL3 hL4 hH1 hH
  obtain ⟨n, hnn⟩ : ∃ n, n = 2 + L + H := ⟨_, rfl⟩
  rw [← hnn] at hsz hly
  clear hnn
  have hlen : (fmtS L H).length = 2 + L + 1 + H + 3 := by simp [fmtS, zst_length, hst_length]; omega
  have hne : fmtS L H ≠ [] := by intro e; rw [e] at hlen; simp at hlen
  obtain ⟨ss, hss⟩ : ∃ ss, ss = fmtS L H := ⟨_, rfl⟩
  rw [← hss] at hlen hne ⊢
  have hfm := fun (W : World) (hW : Tabs W) (h : ∀ k, fp r f m k → 2 ≤ k ∧ k < W.heap.size) => formatting_any W r f m cap L H hW h hL4 hH
  rw [← hss] at hfm
  clear hss
  have hfl2 := Lay.fp2 hL
  go_enter Tryz.func23, Tryz.ntmps23
  go_wp2_with (first
    | (go_at_call 58; refine (hsz _ hL).mono ?_; rintro e w1 ⟨rfl, rfl⟩)
    | (go_at_call 57; refine (hly _).mono ?_; rintro e w1 ⟨rfl, kb⟩; have hA := Blk.new w1 102 (ly 0 0))
    | (refine store_ly rfl _ _ rfl w1.heap.size 0 0 L H hA rfl rfl ?_; intro hA1)
    | (refine wpList_load_mid rfl 102 _ rfl w1.heap.size 0 rfl (ly L H) _ hA1.whole Tryz.underlying102 rfl (by kernel_rfl) ?_
       have kb1 : Below w.heap.size w ((w1.alloc (.cells (ly 0 0).toArray 102)).setRow w1.heap.size (ly L H).toArray) := kb.trans (Fr.below (X := fun k => k = w1.heap.size) (((Fr.refl _ w1).alloc _).setRow _ _ (.inl rfl)) (fun k e => by have := kb.size; omega) kb.size)
       have hL1 := hL.next kb1
       have hT1 := hT.next kb1
       have hfp1 : ∀ k, fp r f m k → 2 ≤ k ∧ k < ((w1.alloc (.cells (ly 0 0).toArray 102)).setRow w1.heap.size (ly L H).toArray).heap.size := fun k hk => ⟨hfp k hk, Nat.lt_of_lt_of_le (hfl2 k hk) kb1.size⟩)
    | (go_at_call 59; refine (hfm _ hT1 hfp1).mono ?_; rintro e w2 ⟨x, rfl, hR, kb2⟩
       have hL2 := hL1.next kb2
       have hT2 := hT1.next kb2)
    | (go_at_call 48; refine (rowed_any ss hne _ _ x r f m cap d hL2 hT2 hR hfp1 (by omega) (by omega) (by omega)).mono ?_; rintro e w3 ⟨rfl, hTn⟩))
  go_ret
  exact ⟨rfl, hTn.before (kb1.trans (kb2.mono kb1.size))⟩
end Go.Proofs.YtndfhmlcfaaaiaaGreatDoor
