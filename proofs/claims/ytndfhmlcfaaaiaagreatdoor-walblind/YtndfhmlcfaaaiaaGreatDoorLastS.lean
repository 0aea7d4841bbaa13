import Derived.Test.YtndfhmlcfaaaiaaGreatDoorBase
import Derived.Deep.RegionWith
import Derived.Deep.RegionHeld3
/- A region that draws its order, whose last operation waits for all others: what holds of the world while the others come up need not hold behind the last. -/
namespace Go.Proofs.YtndfhmlcfaaaiaaGreatDoor
open Go.RowKit

section
variable {P : Program} {ops : Array Oper} {Q : Exit → Act → World → Prop} {md : Region.Mode} {S : World → Prop} {z : Nat}

/-- Whatever order is picked: S holds behind each operation but number z. -/
def wpTo (P : Program) (md : Region.Mode) (ops : Array Oper) (Q : Exit → Act → World → Prop) (S : World → Prop) (z : Nat) : Nat → Array Bool → Act → World → Prop
  | 0, done, a, w => Region.ready md ops done = [] ∧ Q .normal a w
  | n + 1, done, a, w => (Region.ready md ops done = [] → Q .normal a w) ∧
    ∀ i ∈ Region.ready md ops done, wpOp P ops Q i (fun b v => (i = z ∨ S v) ∧ wpTo P md ops Q S z n (done.setIfInBounds i true) b v) a w

theorem wpTo_any : ∀ (n : Nat) (done : Array Bool) (a : Act) (w : World), wpTo P md ops Q S z n done a w → wpAny P md ops Q n done a w
  | 0, _, _, _, h => h
  | n + 1, _, _, _, h => ⟨h.1, fun i hi => wpOp_mono (fun b v h' => wpTo_any n _ b v h'.2) (h.2 i hi)⟩

/-- Does number z wait for number i, be it by way of others? -/
def waits (md : Region.Mode) (ops : Array Oper) : Nat → Nat → Nat → Bool
  | 0, z, i => z == i
  | n + 1, z, i => z == i || match ops[z]? with
    | some o => o.after.any fun e => Region.binds md e && waits md ops n e.on i
    | none => false
/-- With each operation all that it waits for has come up. -/
def shutB (md : Region.Mode) (ops : Array Oper) (done : Array Bool) : Bool :=
  (List.range ops.size).all fun j => !(done.getD j false) || match ops[j]? with
    | some o => o.after.all fun e => !(Region.binds md e) || done.getD e.on false
    | none => true
theorem shutB_spec {done : Array Bool} (h : shutB md ops done = true) {j : Nat} {o : Oper} (ho : ops[j]? = some o) (hd : done.getD j false = true) {e : Edge} (he : e ∈ o.after) (hb : Region.binds md e = true) : done.getD e.on false = true := by
  have hj := (Array.getElem?_eq_some_iff.1 ho).1
  have h1 := List.all_eq_true.1 h j (List.mem_range.2 hj)
  simp only [hd, ho, Bool.not_true, Bool.false_or] at h1
  have h2 := Array.all_eq_true_iff_forall_mem.1 h1 e he
  simp only [hb, Bool.not_true, Bool.false_or] at h2
  exact h2
theorem shutB_mk {done : Array Bool} (h : ∀ (j : Nat) (o : Oper), ops[j]? = some o → done.getD j false = true → ∀ e ∈ o.after, Region.binds md e = true → done.getD e.on false = true) : shutB md ops done = true := by
  refine List.all_eq_true.2 fun j hj => ?_
  cases hd : done.getD j false
  · rfl
  · cases ho : ops[j]? with
    | none => rfl
    | some o =>
      simp only [Bool.not_true, Bool.false_or]
      refine Array.all_eq_true_iff_forall_mem.2 fun e he => ?_
      cases hb : Region.binds md e
      · rfl
      · simp only [Bool.not_true, Bool.false_or]
        exact h j o ho hd e he hb
theorem shutB_set {done : Array Bool} {i : Nat} (h : shutB md ops done = true) (hi : i ∈ Region.ready md ops done) : shutB md ops (done.setIfInBounds i true) = true := by
  refine shutB_mk fun j o ho hd e he hb => ?_
  by_cases hij : i = j
  · subst hij
    obtain ⟨_, o', ho', hall⟩ := mem_ready.1 hi
    rw [ho] at ho'
    cases ho'
    exact getD_set_true (hall e he hb)
  · rw [getD_set_ne false hij] at hd
    exact getD_set_true (shutB_spec h ho hd he hb)
theorem waits_done {done : Array Bool} (h : shutB md ops done = true) {i : Nat} : ∀ (n j : Nat), done.getD j false = true → waits md ops n j i = true → done.getD i false = true
  | 0, j, hd, hw => by
    simp only [waits, beq_iff_eq] at hw
    rw [← hw]
    exact hd
  | n + 1, j, hd, hw => by
    simp only [waits, Bool.or_eq_true, beq_iff_eq] at hw
    rcases hw with hw | hw
    · rw [← hw]
      exact hd
    · cases ho : ops[j]? with
      | none =>
        rw [ho] at hw
        cases hw
      | some o =>
        rw [ho] at hw
        simp only [Array.any_eq_true'] at hw
        obtain ⟨e, he, hb⟩ := hw
        simp only [Bool.and_eq_true] at hb
        exact waits_done h n e.on (shutB_spec h ho hd he hb.1) hb.2
theorem waits_not {i : Nat} {done : Array Bool} {m : Nat} (h : shutB md ops done = true) (hw : waits md ops m z i = true) (hzi : z ≠ i) (hi : i ∈ Region.ready md ops done) : z ∉ Region.ready md ops done := by
  intro hz
  have hd : done.getD i false = true := by
    cases m with
    | zero =>
      simp only [waits, beq_iff_eq] at hw
      exact absurd hw hzi
    | succ m =>
      obtain ⟨_, o, ho, hall⟩ := mem_ready.1 hz
      simp only [waits, ho, Bool.or_eq_true, beq_iff_eq, hzi, false_or, Array.any_eq_true'] at hw
      obtain ⟨e, he, hb⟩ := hw
      simp only [Bool.and_eq_true] at hb
      exact waits_done h m e.on (hall e he hb.1) hb.2
  have h0 := (mem_ready.1 hi).1
  rcases Nat.lt_or_ge i done.size with h' | h'
  · simp [h'] at h0 hd
    rw [h0] at hd
    cases hd
  · simp [Array.getElem?_eq_none h'] at hd

theorem wpTo_first {i : Nat} {oi : Oper} {v : Value} (hi : ops[i]? = some oi) (hsel : ∀ (j : Nat) (o : Oper) cs b, ops[j]? = some o → o.op ≠ .select cs b)
    (hQ : ∀ c a w, Q (.panic c) (a.put oi.dst v) w → Q (.panic c) a w) {m : Nat} (hwt : ops.size ≤ z ∨ waits md ops m z i = true) (hzi : z ≠ i) :
    ∀ (n : Nat) (done : Array Bool) (a : Act) (w : World), shutB md ops done = true →
      (∀ j oj, ops[j]? = some oj → j ≠ i → done.getD j true = false → (∀ e ∈ oj.after, Region.binds md e = true → e.on ≠ i) → oi.apart ops oj = true) →
      i ∈ Region.ready md ops done → YieldsIf P ops S oi v a → S w →
      wpTo P md ops Q S z n (done.setIfInBounds i true) (a.put oi.dst v) w → wpTo P md ops Q S z (n + 1) done a w := by
  intro n
  induction n with
  | zero =>
    intro done a w _ _ hr hy hS H
    refine ⟨fun h => (by rw [h] at hr; cases hr), fun j hj => ?_⟩
    by_cases hji : j = i
    · subst hji
      exact hy.wpOp hi hS ⟨Or.inr hS, H⟩
    · have hh := ready_mono hj hji
      rw [H.1] at hh
      cases hh
  | succ n ih =>
    intro done a w hsh hfree hr hy hS H
    refine ⟨fun h => (by rw [h] at hr; cases hr), fun j hj => ?_⟩
    by_cases hji : j = i
    · subst hji
      exact hy.wpOp hi hS ⟨Or.inr hS, H⟩
    · have hjz : j ≠ z := fun e => hwt.elim (fun hsz => by
        obtain ⟨_, o, ho, _⟩ := mem_ready.1 hj
        have := (Array.getElem?_eq_some_iff.1 ho).1
        omega) (fun hw => waits_not hsh hw hzi hr (e ▸ hj))
      have h1 := H.2 j (ready_mono hj hji)
      obtain ⟨hjun, oj, hoj, hall⟩ := mem_ready.1 hj
      have hnot : ∀ e ∈ oj.after, Region.binds md e = true → e.on ≠ i := fun e he hb heq => by
        have h2 := hall e he hb
        have h0 := (mem_ready.1 hr).1
        rw [heq] at h2
        rcases Nat.lt_or_ge i done.size with h' | h'
        · simp [h'] at h0 h2
          rw [h0] at h2
          cases h2
        · simp [Array.getElem?_eq_none h'] at h2
      have h2 := wpOp_putIf hoj (hfree j oj hoj hji hjun hnot) (fun cs b => hsel i oi cs b hi) (fun cs b => hsel j oj cs b hoj) hQ hy h1
      refine wpOp_mono (fun b u h3 => ?_) h2
      have hSu : S u := h3.2.1.resolve_left hjz
      refine ⟨Or.inr hSu, ih (done.setIfInBounds j true) b u (shutB_set hsh hj) ?_ (ready_mono hr (Ne.symm hji)) h3.1 hSu ?_⟩
      · intro k ok hk hki hun hno
        refine hfree k ok hk hki ?_ hno
        by_cases hjk : j = k
        · rw [← hjk]
          exact hjun
        · rw [getD_set_ne true hjk] at hun
          exact hun
      · rw [Array.setIfInBounds_comm _ _ hji]
        exact h3.2.2

/-- Number i may be taken first. -/
theorem wpTo_take {i : Nat} {oi : Oper} {v : Value} {n : Nat} {done : Array Bool} {a : Act} {w : World} (hi : ops[i]? = some oi)
    (hs : Region.noSelect ops = true) (hf : Region.free md ops done i = true) (hr : (Region.ready md ops done).contains i = true) (hw : ((decide (ops.size ≤ z) || waits md ops 8 z i) && !(z == i) && shutB md ops done) = true)
    (hQ : ∀ c a w, Q (.panic c) (a.put oi.dst v) w → Q (.panic c) a w) (hy : YieldsIf P ops S oi v a) (hS : S w)
    (h : wpTo P md ops Q S z n (done.setIfInBounds i true) (a.put oi.dst v) w) : wpTo P md ops Q S z (n + 1) done a w := by
  simp only [Bool.and_eq_true, Bool.or_eq_true, decide_eq_true_eq, Bool.not_eq_true', beq_eq_false_iff_ne] at hw
  exact wpTo_first hi (Region.noSelect_spec hs) hQ hw.1.1 hw.1.2 n done a w hw.2 (Region.free_spec hi hf) (by simpa using hr) hy hS h

/-- Nothing but number i may come up. -/
theorem wpTo_one {i : Nat} {o : Oper} {n : Nat} {done : Array Bool} {a : Act} {w : World} (hr : Region.ready md ops done = [i]) (ho : ops[i]? = some o)
    (h : ∀ K : Act → World → Prop, Shut (∀ b v, S v → (S v → wpTo P md ops Q S z n (done.setIfInBounds i true) b v) → K b v) → if Region.wanted o (yielded ops a.tmps) = true then Oper.wp P o a w K Q else K (a.put o.dst undef) w) :
    wpTo P md ops Q S z (n + 1) done a w := by
  refine ⟨fun h0 => (by rw [hr] at h0; cases h0), fun j hj => ?_⟩
  rw [hr, List.mem_singleton] at hj
  subst hj
  exact wpOp_step ho (fun K hK => h K (fun b v hS hW => hK b v ⟨Or.inr hS, hW hS⟩))

/-- One of two may come up. -/
theorem wpTo_two {i j : Nat} {o q : Oper} {n : Nat} {done : Array Bool} {a : Act} {w : World} (hr : Region.ready md ops done = [i, j]) (ho : ops[i]? = some o) (hq : ops[j]? = some q)
    (h : ∀ K : Act → World → Prop, Shut (∀ b v, S v → (S v → wpTo P md ops Q S z n (done.setIfInBounds i true) b v) → K b v) → if Region.wanted o (yielded ops a.tmps) = true then Oper.wp P o a w K Q else K (a.put o.dst undef) w)
    (h' : ∀ K : Act → World → Prop, Shut (∀ b v, S v → (S v → wpTo P md ops Q S z n (done.setIfInBounds j true) b v) → K b v) → if Region.wanted q (yielded ops a.tmps) = true then Oper.wp P q a w K Q else K (a.put q.dst undef) w) :
    wpTo P md ops Q S z (n + 1) done a w := by
  refine ⟨fun h0 => (by rw [hr] at h0; cases h0), fun k hk => ?_⟩
  rw [hr] at hk
  rcases List.mem_cons.1 hk with rfl | hk
  · exact wpOp_step ho (fun K hK => h K (fun b v hS hW => hK b v ⟨Or.inr hS, hW hS⟩))
  · rw [List.mem_singleton] at hk
    subst hk
    exact wpOp_step hq (fun K hK => h' K (fun b v hS hW => hK b v ⟨Or.inr hS, hW hS⟩))

/-- Nothing but the last is left. -/
theorem wpTo_last {o : Oper} {n : Nat} {done : Array Bool} {a : Act} {w : World} (hr : Region.ready md ops done = [z]) (ho : ops[z]? = some o) (he : Region.ready md ops (done.setIfInBounds z true) = [])
    (h : ∀ K : Act → World → Prop, Shut (∀ b v, Q .normal b v → K b v) → if Region.wanted o (yielded ops a.tmps) = true then Oper.wp P o a w K Q else K (a.put o.dst undef) w) :
    wpTo P md ops Q S z (n + 1) done a w := by
  refine ⟨fun h0 => (by rw [hr] at h0; cases h0), fun j hj => ?_⟩
  rw [hr, List.mem_singleton] at hj
  subst hj
  refine wpOp_step ho (fun K hK => h K (fun b v hQ => hK b v ⟨Or.inl rfl, ?_⟩))
  cases n with
  | zero => exact ⟨he, hQ⟩
  | succ n => exact ⟨fun _ => hQ, by rw [he]; simp⟩

/-- All have come up. -/
theorem wpTo_done {n : Nat} {done : Array Bool} {a : Act} {w : World} (he : Region.ready md ops done = []) (h : Q .normal a w) : wpTo P md ops Q S z n done a w := by
  cases n with
  | zero => exact ⟨he, h⟩
  | succ n => exact ⟨fun _ => h, by rw [he]; simp⟩

/-- The beginning. -/
theorem wp_region_to {id : Nat} {a : Act} {w : World} (S : World → Prop) (z : Nat) (hm : P.follows .mixedOrders = true)
    (h : wpTo P .any ops Q S z ops.size (Array.replicate ops.size false) a w.drew) : (Code.region id ops true).wp P Q a w :=
  wp_region_any hm (wpTo_any _ _ _ _ h)
end
end Go.Proofs.YtndfhmlcfaaaiaaGreatDoor


/- A region that draws its order, each of whose operations tells one value wherever S holds, and leaves S: no order is seen. -/
namespace Go.Proofs.YtndfhmlcfaaaiaaGreatDoor
open Go.RowKit

section
variable {P : Program} {ops : Array Oper} {Q : Exit → Act → World → Prop} {md : Region.Mode} {S : World → Prop} {z : Nat}

/-- What comes of an operation: the value v, and S still. -/
def Leads (P : Program) (S : World → Prop) (v : Value) : Result Next → Prop
  | .ok (.value u) w => u = v ∧ S w
  | .ok .skip w => undef = v ∧ S w
  | .ok (.enter f args) w => Calls P f args w fun e u => e = .returned v ∧ S u
  | .ok (.row row args) w => Rows P row args w fun u w' => u = v ∧ S w'
  | _ => False
/-- The operation tells v wherever S holds, and leaves S; or it is not wanted. -/
def Tells (P : Program) (ops : Array Oper) (S : World → Prop) (o : Oper) (v : Value) (a : Act) : Prop :=
  (Region.wanted o (yielded ops a.tmps) = true ∧ ∀ w, S w → Leads P S v ((execOp a.eval o).run P w)) ∨
  (Region.wanted o (yielded ops a.tmps) = false ∧ v = undef)
theorem Tells.of_same {o : Oper} {v : Value} {a a' : Act} (hy : Tells P ops S o v a) (he : execOp a'.eval o = execOp a.eval o)
    (hw : Region.wanted o (yielded ops a'.tmps) = Region.wanted o (yielded ops a.tmps)) : Tells P ops S o v a' := by
  unfold Tells at *
  rw [he, hw]
  exact hy
theorem Tells.of_yields {o : Oper} {v : Value} {a : Act} (h : YieldsIf P ops S o v a) : Tells P ops S o v a := by
  rcases h with ⟨h1, h2⟩ | h
  · exact Or.inl ⟨h1, fun w hS => by rw [h2 w hS]; exact ⟨rfl, hS⟩⟩
  · exact Or.inr h
theorem put_inj {a : Act} {t : Nat} (ht : t < a.tmps.size) {u v : Value} (h : a.put (some t) u = a.put (some t) v) : u = v := by
  have h1 := congrArg (fun b : Act => b.tmps[t]?) h
  simpa [Act.put, ht] using h1
/-- A call of which a contract is known. -/
theorem Tells.of_wp {o : Oper} {v : Value} {a : Act} (hw : Region.wanted o (yielded ops a.tmps) = true) {t : Nat} (hd : o.dst = some t) (htd : decide (t < a.tmps.size) = true)
    (h : ∀ w, S w → Oper.wp P o a w (fun b u => b = a.put o.dst v ∧ S u) (fun _ _ _ => False)) : Tells P ops S o v a := by
  have ht : t < a.tmps.size := of_decide_eq_true htd
  refine Or.inl ⟨hw, fun w hS => ?_⟩
  have h1 := h w hS
  unfold Oper.wp at h1
  rw [hd] at h1
  generalize (execOp a.eval o).run P w = r at *
  cases r with
  | ok n w' =>
    cases n <;> simp only [Oper.upon, hd] at h1 <;> simp only [Leads]
    case value u => exact ⟨put_inj ht h1.1, h1.2⟩
    case skip => exact ⟨put_inj ht h1.1, h1.2⟩
    case defer d =>
      have h2 := congrArg (fun b : Act => b.defers.length) h1.1
      simp [Act.put] at h2
    case enter f args =>
      refine Calls.mono h1 fun e w'' he => ?_
      cases e with
      | returned u => exact ⟨by rw [put_inj ht he.1], he.2⟩
      | panicked c => exact he.elim
      | outgrown =>
        simp [LetsOut] at he
    case row row args => exact Rows.mono h1 fun u w'' he => ⟨put_inj ht he.1, he.2⟩
  | halt x w' => cases x <;> simp only [Oper.upon] at h1

theorem Tells.wpOp {i : Nat} {o : Oper} {v : Value} {a : Act} (hi : ops[i]? = some o) (hy : Tells P ops S o v a) {K : Act → World → Prop} {w : World} (hS : S w)
    (h : ∀ u, S u → K (a.put o.dst v) u) : wpOp P ops Q i K a w := by
  unfold Go.wpOp
  simp only [hi]
  rcases hy with ⟨hw, hv⟩ | ⟨hw, rfl⟩
  · have h1 := hv w hS
    simp only [hw, if_true, Oper.wp]
    refine .inl ?_
    generalize (execOp a.eval o).run P w = r at *
    cases r with
    | ok n w' =>
      cases n <;> simp only [Leads] at h1 <;> simp only [Oper.upon]
      case value u => obtain ⟨rfl, h2⟩ := h1; exact h _ h2
      case skip => obtain ⟨rfl, h2⟩ := h1; exact h _ h2
      case enter f args =>
        refine Calls.mono h1 fun e w'' he => ?_
        obtain ⟨rfl, h2⟩ := he
        exact h _ h2
      case row row args => exact Rows.mono h1 fun u w'' he => by obtain ⟨rfl, h2⟩ := he; exact h _ h2
    | halt x w' => simp only [Leads] at h1
  · simp only [hw, Bool.false_eq_true, if_false]
    exact h w hS
/-- One operation apart from one that tells: whether the other's value is there already makes no difference. -/
theorem wpOp_putS {j : Nat} {oi oj : Oper} {v : Value} (hj : ops[j]? = some oj) (hap : oi.apart ops oj = true)
    (hsi : ∀ cs b, oi.op ≠ .select cs b) (hsj : ∀ cs b, oj.op ≠ .select cs b)
    (hQ : ∀ c a w, Q (.panic c) (a.put oi.dst v) w → Q (.panic c) a w) {K : Act → World → Prop} {a : Act} {w : World}
    (hy : Tells P ops S oi v a) (h : wpOp P ops Q j K (a.put oi.dst v) w) :
    wpOp P ops Q j (fun a' w' => Tells P ops S oi v a' ∧ K (a'.put oi.dst v) w') a w := by
  obtain ⟨h1, h2, h3⟩ := Oper.apart_spec hap
  have keep : ∀ (a : Act), Tells P ops S oi v a → ∀ u, Tells P ops S oi v (a.put oj.dst u) := fun a hy u =>
    hy.of_same (execOp_put oi hsi a oj.dst u h3) (wanted_put oi a oj.dst u h3)
  have keepD : ∀ d, Tells P ops S oi v { a with defers := d :: a.defers } := fun d => hy.of_same rfl rfl
  unfold wpOp at *
  simp only [hj] at *
  rw [wanted_put oj a oi.dst v h1] at h
  split
  · rename_i hw
    simp only [hw, if_true] at h
    rcases h with h | ⟨hasks, hlets⟩
    case inr => exact .inr ⟨by unfold Oper.asks at *; rw [execOp_put oj hsj a oi.dst v h1] at hasks; exact hasks, hlets⟩
    refine .inl ?_
    unfold Oper.wp at *
    rw [execOp_put oj hsj a oi.dst v h1] at h
    generalize (execOp a.eval oj).run P w = r at *
    cases r with
    | ok n w' =>
      cases n <;> simp only [Oper.upon] at h ⊢
      case value u => exact ⟨keep a hy u, by rw [← Act.put_comm a v u h2]; exact h⟩
      case skip => exact ⟨keep a hy _, by rw [← Act.put_comm a v undef h2]; exact h⟩
      case defer d =>
        refine ⟨keep _ (keepD d) _, ?_⟩
        rw [← Act.put_comm _ v undef h2, ← Act.put_defers]
        exact h
      case enter f args =>
        refine Calls.mono h fun e w'' he => ?_
        cases e with
        | returned u => exact ⟨keep a hy u, by rw [← Act.put_comm a v u h2]; exact he⟩
        | panicked c => exact hQ _ _ _ he
        | outgrown => exact he
      case row row args => exact Rows.mono h fun u w'' he => ⟨keep a hy u, by rw [← Act.put_comm a v u h2]; exact he⟩
    | halt x w' =>
      cases x <;> simp only [Oper.upon] at h ⊢
      case panic u => exact hQ _ _ _ h
  · rename_i hw
    simp only [hw, Bool.false_eq_true, if_false] at h
    exact ⟨keep a hy _, by rw [← Act.put_comm a v undef h2]; exact h⟩

/-- Whatever order is picked, wherever S holds: S holds behind each operation but number z, the last. -/
def wpS (P : Program) (md : Region.Mode) (ops : Array Oper) (Q : Exit → Act → World → Prop) (S : World → Prop) (z : Nat) : Nat → Array Bool → Act → Prop
  | 0, done, a => Region.ready md ops done = [] ∧ ∀ w, S w → Q .normal a w
  | n + 1, done, a => (Region.ready md ops done = [] → ∀ w, S w → Q .normal a w) ∧
    ∀ i ∈ Region.ready md ops done, ∀ w, S w → wpOp P ops Q i (fun b v => (i = z ∧ Region.ready md ops (done.setIfInBounds i true) = [] ∧ Q .normal b v) ∨ (i ≠ z ∧ S v ∧ wpS P md ops Q S z n (done.setIfInBounds i true) b)) a w
theorem wpS_any : ∀ (n : Nat) (done : Array Bool) (a : Act) (w : World), S w → wpS P md ops Q S z n done a → wpAny P md ops Q n done a w
  | 0, _, _, w, hS, h => ⟨h.1, h.2 w hS⟩
  | n + 1, _, _, w, hS, h => ⟨fun h0 => h.1 h0 w hS, fun i hi => wpOp_mono (fun b v h' => by
      rcases h' with ⟨_, h1, h2⟩ | ⟨_, h1, h2⟩
      · cases n with
        | zero => exact ⟨h1, h2⟩
        | succ n => exact ⟨fun _ => h2, by rw [h1]; simp⟩
      · exact wpS_any n _ b v h1 h2) (h.2 i hi w hS)⟩
theorem wpS_first {i : Nat} {oi : Oper} {v : Value} (hi : ops[i]? = some oi) (hsel : ∀ (j : Nat) (o : Oper) cs b, ops[j]? = some o → o.op ≠ .select cs b)
    (hQ : ∀ c a w, Q (.panic c) (a.put oi.dst v) w → Q (.panic c) a w) {m : Nat} (hwt : ops.size ≤ z ∨ waits md ops m z i = true) (hzi : z ≠ i) :
    ∀ (n : Nat) (done : Array Bool) (a : Act), shutB md ops done = true →
      (∀ j oj, ops[j]? = some oj → j ≠ i → done.getD j true = false → (∀ e ∈ oj.after, Region.binds md e = true → e.on ≠ i) → oi.apart ops oj = true) →
      i ∈ Region.ready md ops done → Tells P ops S oi v a →
      wpS P md ops Q S z n (done.setIfInBounds i true) (a.put oi.dst v) → wpS P md ops Q S z (n + 1) done a := by
  intro n
  induction n with
  | zero =>
    intro done a _ _ hr hy H
    refine ⟨fun h => (by rw [h] at hr; cases hr), fun j hj w hS => ?_⟩
    by_cases hji : j = i
    · subst hji
      exact hy.wpOp hi hS (fun u hu => Or.inr ⟨fun e => hzi e.symm, hu, H⟩)
    · have hh := ready_mono hj hji
      rw [H.1] at hh
      cases hh
  | succ n ih =>
    intro done a hsh hfree hr hy H
    refine ⟨fun h => (by rw [h] at hr; cases hr), fun j hj w hS => ?_⟩
    by_cases hji : j = i
    · subst hji
      exact hy.wpOp hi hS (fun u hu => Or.inr ⟨fun e => hzi e.symm, hu, H⟩)
    · have hjz : j ≠ z := fun e => hwt.elim (fun hsz => by
        obtain ⟨_, o, ho, _⟩ := mem_ready.1 hj
        have := (Array.getElem?_eq_some_iff.1 ho).1
        omega) (fun hw => waits_not hsh hw hzi hr (e ▸ hj))
      have h1 := H.2 j (ready_mono hj hji) w hS
      obtain ⟨hjun, oj, hoj, hall⟩ := mem_ready.1 hj
      have hnot : ∀ e ∈ oj.after, Region.binds md e = true → e.on ≠ i := fun e he hb heq => by
        have h2 := hall e he hb
        have h0 := (mem_ready.1 hr).1
        rw [heq] at h2
        rcases Nat.lt_or_ge i done.size with h' | h'
        · simp [h'] at h0 h2
          rw [h0] at h2
          cases h2
        · simp [Array.getElem?_eq_none h'] at h2
      have h2 := wpOp_putS hoj (hfree j oj hoj hji hjun hnot) (fun cs b => hsel i oi cs b hi) (fun cs b => hsel j oj cs b hoj) hQ hy h1
      refine wpOp_mono (fun b u h3 => ?_) h2
      rcases h3.2 with ⟨h4, _⟩ | ⟨_, hSu, h4⟩
      · exact absurd h4 hjz
      refine Or.inr ⟨hjz, hSu, ih (done.setIfInBounds j true) b (shutB_set hsh hj) ?_ (ready_mono hr (Ne.symm hji)) h3.1 ?_⟩
      · intro k ok hk hki hun hno
        refine hfree k ok hk hki ?_ hno
        by_cases hjk : j = k
        · rw [← hjk]
          exact hjun
        · rw [getD_set_ne true hjk] at hun
          exact hun
      · rw [Array.setIfInBounds_comm _ _ hji]
        exact h4
/-- Number i may be taken first. -/
theorem wpS_take {i : Nat} {oi : Oper} {v : Value} {n : Nat} {done : Array Bool} {a : Act} (hi : ops[i]? = some oi)
    (hs : Region.noSelect ops = true) (hf : Region.free md ops done i = true) (hr : (Region.ready md ops done).contains i = true) (hw : ((decide (ops.size ≤ z) || waits md ops 8 z i) && !(z == i) && shutB md ops done) = true)
    (hQ : ∀ c a w, Q (.panic c) (a.put oi.dst v) w → Q (.panic c) a w) (hy : Tells P ops S oi v a)
    (h : wpS P md ops Q S z n (done.setIfInBounds i true) (a.put oi.dst v)) : wpS P md ops Q S z (n + 1) done a := by
  simp only [Bool.and_eq_true, Bool.or_eq_true, decide_eq_true_eq, Bool.not_eq_true', beq_eq_false_iff_ne] at hw
  exact wpS_first hi (Region.noSelect_spec hs) hQ hw.1.1 hw.1.2 n done a hw.2 (Region.free_spec hi hf) (by simpa using hr) hy h
/-- Nothing but the last is left. -/
theorem wpS_last {o : Oper} {n : Nat} {done : Array Bool} {a : Act} (hr : Region.ready md ops done = [z]) (ho : ops[z]? = some o) (he : Region.ready md ops (done.setIfInBounds z true) = [])
    (h : ∀ w, S w → ∀ K : Act → World → Prop, Shut (∀ b v, Q .normal b v → K b v) → if Region.wanted o (yielded ops a.tmps) = true then Oper.wp P o a w K Q else K (a.put o.dst undef) w) :
    wpS P md ops Q S z (n + 1) done a := by
  refine ⟨fun h0 => (by rw [hr] at h0; cases h0), fun j hj w hS => ?_⟩
  rw [hr, List.mem_singleton] at hj
  subst hj
  exact wpOp_step ho (fun K hK => h w hS K (fun b v hQ => hK b v (Or.inl ⟨rfl, he, hQ⟩)))
/-- All have come up. -/
theorem wpS_done {n : Nat} {done : Array Bool} {a : Act} (he : Region.ready md ops done = []) (h : ∀ w, S w → Q .normal a w) : wpS P md ops Q S z n done a := by
  cases n with
  | zero => exact ⟨he, h⟩
  | succ n => exact ⟨fun _ => h, by rw [he]; simp⟩
/-- The beginning. -/
theorem wp_region_s {id : Nat} {a : Act} {w : World} (S : World → Prop) (z : Nat) (hm : P.follows .mixedOrders = true) (hS : S w.drew)
    (h : wpS P .any ops Q S z ops.size (Array.replicate ops.size false) a) : (Code.region id ops true).wp P Q a w :=
  wp_region_any hm (wpS_any _ _ _ _ hS h)
end
end Go.Proofs.YtndfhmlcfaaaiaaGreatDoor
