import Derived.Test.YtndfhmlcfaaaiaaGreatDoorOpen8
/- What a row of steps does to a disk, wherever the power goes: the mathematics of a crash. -/
namespace Go.Proofs.YtndfhmlcfaaaiaaGreatDoor

abbrev Fs := Nat → Sec
/-- Of each sector what was flushed, or what was written behind it. -/
def Mix (F G K : Fs) : Prop := ∀ i, K i = F i ∨ K i = G i
def Cr (P : Fs → Prop) (F G : Fs) : Prop := ∀ K, Mix F G K → P K
def eff (F G : Fs) : List Stp → Fs × Fs
  | [] => (F, G)
  | .wr i s :: ss => eff F (upd G i s) ss
  | .fl :: ss => eff G G ss
/-- Q holds wherever the power goes. -/
def Safe (Q : Fs → Fs → Prop) (F G : Fs) : List Stp → Prop
  | [] => True
  | .wr i s :: ss => Q F (upd G i s) ∧ Safe Q F (upd G i s) ss
  | .fl :: ss => Q F G ∧ Safe Q G G ss
def inN (n : Nat) : Stp → Prop
  | .wr i _ => i < n
  | .fl => True
theorem eff_append (ss ts : List Stp) : ∀ F G, eff F G (ss ++ ts) = eff (eff F G ss).1 (eff F G ss).2 ts := by
  induction ss with
  | nil => intro F G; rfl
  | cons s ss ih =>
    intro F G
    cases s with
    | wr i s => exact ih F (upd G i s)
    | fl => exact ih G G
theorem op_cases (d : St) : (d.armed ≠ 1 ∧ d.op = ({ d with armed := d.armed - 1 }, 0)) ∨ (d.armed = 1 ∧ d.op = ({ d with off := true, armed := 0 }, 6)) := by
  unfold St.op
  by_cases h0 : d.armed = 0
  · left
    rw [if_pos h0]
    refine ⟨by omega, ?_⟩
    rw [show d.armed - 1 = d.armed by omega]
  · rw [if_neg h0]
    by_cases h1 : d.armed = 1
    · right
      rw [if_pos h1]
      exact ⟨h1, rfl⟩
    · left
      rw [if_neg h1]
      exact ⟨h1, rfl⟩
theorem at_write (d : St) (i : Nat) (s : Sec) : (d.write i s).at = upd d.at i s := by
  funext j
  unfold St.at St.write upd
  dsimp only
  by_cases h : j = i
  · rw [if_pos h, if_pos h]; rfl
  · rw [if_neg h, if_neg h]
theorem runs_sem (Q : Fs → Fs → Prop) : ∀ (ss : List Stp) (d : St) (F G : Fs), d.off = false → d.lasts = F → d.at = G → (∀ s ∈ ss, inN d.n s) → Safe Q F G ss →
    ((runs d ss).2 = 0 ∧ (runs d ss).1.off = false ∧ (runs d ss).1.lasts = (eff F G ss).1 ∧ (runs d ss).1.at = (eff F G ss).2 ∧ (d.armed = 0 ∨ ss.length < d.armed) ∧ (runs d ss).1.armed = d.armed - ss.length) ∨
    ((runs d ss).2 = 6 ∧ (runs d ss).1.off = true ∧ (runs d ss).1.armed = 0 ∧ Q (runs d ss).1.lasts (runs d ss).1.at ∧ d.armed ≠ 0 ∧ d.armed ≤ ss.length) := by
  intro ss
  induction ss with
  | nil =>
    intro d F G ho hF hG _ _
    left
    exact ⟨rfl, ho, hF, hG, by simp; omega, rfl⟩
  | cons s ss ih =>
    intro d F G ho hF hG hn hS
    have hn0 := hn s (by simp)
    have hn1 : ∀ t ∈ ss, inN d.n t := fun t ht => hn t (by simp [ht])
    cases s with
    | wr i s =>
      have hi : i < d.n := hn0
      have hgo : Stp.go d (.wr i s) = (d.write i s).op := by
        show St.wr d i s = _
        unfold St.wr
        rw [if_neg (by rw [ho]; simp), if_neg (by omega)]
        simp
      have hwa : (d.write i s).armed = d.armed := rfl
      rcases op_cases (d.write i s) with ⟨h1, h2⟩ | ⟨h1, h2⟩
      · have e2 : (Stp.go d (.wr i s)).2 = 0 := by rw [hgo, h2]
        simp only [runs, e2, if_true]
        have e1 : (Stp.go d (.wr i s)).1 = { d.write i s with armed := d.armed - 1 } := by rw [hgo, h2]; rfl
        rw [e1]
        have hat : ({ d.write i s with armed := d.armed - 1 } : St).at = upd G i s := by
          rw [← hG, ← at_write]; rfl
        rcases ih { d.write i s with armed := d.armed - 1 } F (upd G i s) ho hF hat hn1 hS.2 with h | h
        · left
          obtain ⟨a, b, c, e, f, g⟩ := h
          refine ⟨a, b, c, e, ?_, ?_⟩
          · simp only [List.length_cons]; dsimp only at f; rw [hwa] at h1; omega
          · rw [g]; simp only [List.length_cons]; omega
        · right
          obtain ⟨a, b, c, e, f, g⟩ := h
          refine ⟨a, b, c, e, ?_, ?_⟩
          · dsimp only at f; omega
          · simp only [List.length_cons]; dsimp only at g; omega
      · have e2 : (Stp.go d (.wr i s)).2 = 6 := by rw [hgo, h2]
        have e3 : ¬ (6 : Int) = 0 := by decide
        simp only [runs, e2, e3, if_false]
        right
        rw [hwa] at h1
        rw [hgo, h2]
        refine ⟨trivial, rfl, rfl, ?_, by omega, by simp only [List.length_cons]; omega⟩
        have hat : ({ d.write i s with off := true, armed := 0 } : St).at = upd G i s := by
          rw [← hG, ← at_write]; rfl
        dsimp only
        rw [hat]
        show Q d.lasts _
        rw [hF]
        exact hS.1
    | fl =>
      have hgo : Stp.go d .fl = if d.tick.op.2 = 0 then (d.tick.op.1.all, 0) else (d.tick.op.1, d.tick.op.2) := by
        show St.fl d = _
        unfold St.fl
        rw [if_neg (by rw [ho]; simp)]
      have hta : d.tick.armed = d.armed := rfl
      rcases op_cases d.tick with ⟨h1, h2⟩ | ⟨h1, h2⟩
      · rw [h2, if_pos rfl] at hgo
        have e2 : (Stp.go d .fl).2 = 0 := by rw [hgo]
        simp only [runs, e2, if_true]
        have e1 : (Stp.go d .fl).1 = ({ d.tick with armed := d.tick.armed - 1 } : St).all := by rw [hgo]
        rw [e1]
        have hl : (({ d.tick with armed := d.tick.armed - 1 } : St).all).lasts = G := hG
        have hat : (({ d.tick with armed := d.tick.armed - 1 } : St).all).at = G := hG
        rcases ih (({ d.tick with armed := d.tick.armed - 1 } : St).all) G G ho hl hat hn1 hS.2 with h | h
        · left
          obtain ⟨a, b, c, e, f, g⟩ := h
          refine ⟨a, b, c, e, ?_, ?_⟩
          · simp only [List.length_cons]; have f2 : d.armed - 1 = 0 ∨ ss.length < d.armed - 1 := f; rw [hta] at h1; omega
          · rw [g]; simp only [List.length_cons]; show d.armed - 1 - _ = _; omega
        · right
          obtain ⟨a, b, c, e, f, g⟩ := h
          have f2 : d.armed - 1 ≠ 0 := f
          have g2 : d.armed - 1 ≤ ss.length := g
          exact ⟨a, b, c, e, by omega, by simp only [List.length_cons]; omega⟩
      · rw [h2, if_neg (by show ¬ (6 : Int) = 0; decide)] at hgo
        have e2 : (Stp.go d .fl).2 = 6 := by rw [hgo]
        have e3 : ¬ (6 : Int) = 0 := by decide
        simp only [runs, e2, e3, if_false]
        right
        rw [hta] at h1
        rw [hgo]
        refine ⟨trivial, rfl, rfl, ?_, by omega, by simp only [List.length_cons]; omega⟩
        have e4 : ({ d.tick with off := true, armed := 0 } : St).at = G := hG
        dsimp only
        rw [e4]
        show Q d.lasts _
        rw [hF]
        exact hS.1
theorem fl_waits (d : St) (h : d.fl.2 = 0) (ho : d.off = false) : d.fl.1.waits = fun _ => none := by
  unfold St.fl at h ⊢
  rw [if_neg (by rw [ho]; simp)] at h ⊢
  by_cases h0 : d.tick.op.2 = 0
  · rw [if_pos h0]; rfl
  · rw [if_neg h0] at h; exact absurd h h0
theorem runs_off0 : ∀ (ss : List Stp) (d : St), d.off = false → (runs d ss).2 = 0 → (runs d ss).1.off = false := by
  intro ss
  induction ss with
  | nil => intro d h _; exact h
  | cons s ss ih =>
    intro d ho h
    simp only [runs] at h ⊢
    by_cases h0 : (s.go d).2 = 0
    · rw [if_pos h0] at h ⊢
      refine ih _ ?_ h
      cases s with
      | wr i s =>
        have e : (Stp.go d (.wr i s)) = St.wr d i s := rfl
        rw [e] at h0 ⊢
        unfold St.wr at h0 ⊢
        rw [if_neg (by rw [ho]; simp)] at h0 ⊢
        by_cases hi : (i : Int) < 0 ∨ (d.n : Int) ≤ i
        · rw [if_pos hi]; exact ho
        · rw [if_neg hi] at h0 ⊢
          rcases op_cases (d.write (i : Int).toNat s) with ⟨_, e2⟩ | ⟨_, e2⟩
          · rw [e2]; exact ho
          · rw [e2] at h0; exact absurd h0 (by show ¬ (6 : Int) = 0; decide)
      | fl =>
        have e : (Stp.go d .fl) = St.fl d := rfl
        rw [e] at h0 ⊢
        unfold St.fl at h0 ⊢
        rw [if_neg (by rw [ho]; simp)] at h0 ⊢
        rcases op_cases d.tick with ⟨_, e2⟩ | ⟨_, e2⟩
        · rw [e2, if_pos rfl]; exact ho
        · rw [e2, if_neg (by show ¬ (6 : Int) = 0; decide)] at h0; exact absurd h0 (by show ¬ (6 : Int) = 0; decide)
    · rw [if_neg h0] at h; exact absurd h h0
theorem runs_waits (ss : List Stp) (d : St) (ho : d.off = false) (h : (runs d (ss ++ [.fl])).2 = 0) : (runs d (ss ++ [.fl])).1.waits = fun _ => none := by
  rw [runs_append] at h ⊢
  by_cases h0 : (runs d ss).2 = 0
  · rw [if_pos h0, runs_one] at h ⊢
    exact fl_waits _ h (runs_off0 ss d ho h0)
  · rw [if_neg h0] at h; exact absurd h h0
theorem safe_wrs {Q : Fs → Fs → Prop} {F : Fs} {rest : List Stp} (I : Fs → Prop) (hq : ∀ G, I G → Q F G) : ∀ (l : List Stp) (G : Fs), I G → (∀ s ∈ l, ∃ i x, s = .wr i x ∧ ∀ G, I G → I (upd G i x)) → (I (eff F G l).2 → Safe Q F (eff F G l).2 rest) → Safe Q F G (l ++ rest) := by
  intro l
  induction l with
  | nil => intro G hI _ hr; exact hr hI
  | cons s l ih =>
    intro G hI hl hr
    obtain ⟨i, x, rfl, hx⟩ := hl s (by simp)
    have h1 := hx G hI
    exact ⟨hq _ h1, ih (upd G i x) h1 (fun t ht => hl t (by simp [ht])) hr⟩
theorem eff_wrs {F : Fs} : ∀ (l : List Stp) (G : Fs), (∀ s ∈ l, ∃ i x, s = .wr i x) → (eff F G l).1 = F := by
  intro l
  induction l with
  | nil => intro G _; rfl
  | cons s l ih =>
    intro G hl
    obtain ⟨i, x, rfl⟩ := hl s (by simp)
    exact ih (upd G i x) (fun t ht => hl t (by simp [ht]))
theorem eff_inv {F : Fs} (I : Fs → Prop) : ∀ (l : List Stp) (G : Fs), I G → (∀ s ∈ l, ∃ i x, s = .wr i x ∧ ∀ G, I G → I (upd G i x)) → I (eff F G l).2 := by
  intro l
  induction l with
  | nil => intro G h _; exact h
  | cons s l ih =>
    intro G hI hl
    obtain ⟨i, x, rfl, hx⟩ := hl s (by simp)
    exact ih (upd G i x) (hx G hI) (fun t ht => hl t (by simp [ht]))
/-- What lies at a place behind writes of which each says of its place the same. -/
theorem eff_at {F : Fs} (V : Nat → Sec) : ∀ (l : List Stp) (G : Fs), (∀ s ∈ l, ∃ i x, s = .wr i x ∧ x = V i) → ∀ j, ((∃ x, Stp.wr j x ∈ l) → (eff F G l).2 j = V j) ∧ ((¬ ∃ x, Stp.wr j x ∈ l) → (eff F G l).2 j = G j) := by
  intro l
  induction l with
  | nil => intro G _ j; exact ⟨(fun h => by obtain ⟨x, hx⟩ := h; cases hx), fun _ => rfl⟩
  | cons s l ih =>
    intro G hl j
    obtain ⟨i, x, rfl, rfl⟩ := hl s (by simp)
    have h := ih (upd G i (V i)) (fun t ht => hl t (by simp [ht])) j
    constructor
    · rintro ⟨x, hx⟩
      show (eff F (upd G i (V i)) l).2 j = _
      by_cases h1 : ∃ x, Stp.wr j x ∈ l
      · exact h.1 h1
      · rw [h.2 h1]
        rcases List.mem_cons.1 hx with e | e
        · injection e with e1 e2; subst e1; rw [upd_same]
        · exact absurd ⟨x, e⟩ h1
    · intro hn
      show (eff F (upd G i (V i)) l).2 j = _
      rw [h.2 (fun ⟨x, hx⟩ => hn ⟨x, by simp [hx]⟩), upd_ne]
      intro e
      subst e
      exact hn ⟨V j, by simp⟩
theorem mix_one {F K : Fs} {i : Nat} {s : Sec} (h : Mix F (upd F i s) K) : K = F ∨ K = upd F i s := by
  rcases h i with e | e
  · left
    funext j
    by_cases hj : j = i
    · subst hj; exact e
    · rcases h j with e2 | e2
      · exact e2
      · rw [e2, upd_ne _ _ _ _ hj]
  · right
    funext j
    by_cases hj : j = i
    · subst hj; exact e
    · rcases h j with e2 | e2
      · rw [e2, upd_ne _ _ _ _ hj]
      · exact e2
theorem mix_same {F K : Fs} (h : Mix F F K) : K = F := by
  funext j
  rcases h j with e | e <;> exact e
end Go.Proofs.YtndfhmlcfaaaiaaGreatDoor

/- What a log's calls do to the pages that lie on a disk, wherever the power goes. -/
namespace Go.Proofs.YtndfhmlcfaaaiaaGreatDoor

/-- What lies there stands for these pages, at a generation of k at the most. -/
def Okp (F : Fs) (L H k : Nat) (pg : Nat → Pg) : Prop := ∃ g ws, g ≤ k ∧ Rep F L H g ws pg
/-- Either of these. -/
def Oks (F : Fs) (L H k : Nat) (P : (Nat → Pg) → Prop) : Prop := ∃ pg, P pg ∧ Okp F L H k pg
/-- A log that lives, over a disk on which all is flushed. -/
structure Lv (d : St) (x : Lg) (k : Nat) (pg : Nat → Pg) : Prop where
  on : d.off = false
  w : d.waits = fun _ => none
  n : d.n = 2 + x.L + x.H
  alive : x.dead = false
  gk : x.g ≤ k
  rep : Rep d.at x.L x.H x.g x.ws pg
/-- A disk without power. -/
structure Dd (d : St) (L H k : Nat) (P : (Nat → Pg) → Prop) : Prop where
  off : d.off = true
  armed : d.armed = 0
  n : d.n = 2 + L + H
  cr : Cr (fun K => Oks K L H k P) d.lasts d.at
/-- A disk on which all is flushed. -/
structure Rs (d : St) (L H k : Nat) (pg : Nat → Pg) : Prop where
  on : d.off = false
  w : d.waits = fun _ => none
  n : d.n = 2 + L + H
  ok : Okp d.at L H k pg
theorem at_flushed {d : St} (h : d.waits = fun _ => none) : d.at = d.lasts := by
  funext i
  unfold St.at
  rw [h]
  rfl
theorem Okp.mono {F : Fs} {L H k k' : Nat} {pg : Nat → Pg} (h : Okp F L H k pg) (hk : k ≤ k') : Okp F L H k' pg := by
  obtain ⟨g, ws, h1, h2⟩ := h
  exact ⟨g, ws, by omega, h2⟩
theorem Oks.mono {F : Fs} {L H k k' : Nat} {P P' : (Nat → Pg) → Prop} (h : Oks F L H k P) (hk : k ≤ k') (hP : ∀ pg, P pg → P' pg) : Oks F L H k' P' := by
  obtain ⟨pg, h1, h2⟩ := h
  exact ⟨pg, hP pg h1, h2.mono hk⟩
theorem Dd.mono {d : St} {L H k k' : Nat} {P P' : (Nat → Pg) → Prop} (h : Dd d L H k P) (hk : k ≤ k') (hP : ∀ pg, P pg → P' pg) : Dd d L H k' P' := ⟨h.off, h.armed, h.n, fun K hK => (h.cr K hK).mono hk hP⟩
theorem kept_mix (d : St) (ks : List Int) : Mix d.lasts d.at (kept d ks) := by
  intro i
  unfold kept
  by_cases h : (i : Int) ∈ ks
  · rw [if_pos h]; exact .inr rfl
  · rw [if_neg h]; exact .inl rfl
/-- The power comes back. -/
theorem Dd.back {d : St} {L H k : Nat} {P : (Nat → Pg) → Prop} (h : Dd d L H k P) (ks : List Int) : ∃ pg, P pg ∧ Rs (d.on ks) L H k pg := by
  obtain ⟨pg, h1, h2⟩ := h.cr _ (kept_mix d ks)
  have e : (d.on ks).at = kept d ks := rfl
  exact ⟨pg, h1, rfl, rfl, h.n, by rw [e]; exact h2⟩
/-- The power goes while all is flushed. -/
theorem Rs.gone {d : St} {L H k : Nat} {pg : Nat → Pg} (h : Rs d L H k pg) : Dd d.goOff L H k (fun p => p = pg) := by
  refine ⟨rfl, rfl, h.n, fun K hK => ⟨pg, rfl, ?_⟩⟩
  have e1 : d.goOff.at = d.at := rfl
  have e2 : d.goOff.lasts = d.lasts := rfl
  rw [e1, e2, ← at_flushed h.w] at hK
  rw [mix_same hK]
  exact h.ok
theorem Lv.rs {d : St} {x : Lg} {k : Nat} {pg : Nat → Pg} (h : Lv d x k pg) : Rs d x.L x.H k pg := ⟨h.on, h.w, h.n, x.g, x.ws, h.gk, h.rep⟩

/-- Pages brought home, some of them. -/
def Bk (F : Fs) (L H g : Nat) (W : Nat → Option Pg) (G : Fs) : Prop := ∀ i, G i = F i ∨ ∃ p x, p < H ∧ i = 2 + L + p ∧ W p = some x ∧ G i = hmF g p x
theorem Bk.mix {F G K : Fs} {L H g : Nat} {W : Nat → Option Pg} (h : Bk F L H g W G) (hK : Mix F G K) : Bk F L H g W K := by
  intro i
  rcases hK i with e | e
  · exact .inl e
  · rw [e]; exact h i
theorem bst_wr {L g : Nat} {W : Nat → Option Pg} {l : List Nat} : ∀ s ∈ bst L g W l, ∃ p, p ∈ l ∧ s = .wr (2 + L + p) (hmF g p ((W p).getD zp)) := by
  intro s hs
  obtain ⟨p, hp, rfl⟩ := List.mem_map.1 hs
  exact ⟨p, hp, rfl⟩
theorem bk_step {F : Fs} {L H g : Nat} {W : Nat → Option Pg} : ∀ s ∈ bst L g W (chg H W), ∃ i x, s = .wr i x ∧ ∀ G, Bk F L H g W G → Bk F L H g W (upd G i x) := by
  intro s hs
  obtain ⟨p, hp, rfl⟩ := bst_wr s hs
  refine ⟨_, _, rfl, fun G hG i => ?_⟩
  obtain ⟨h1, h2⟩ := (chg_mem H W p).1 hp
  obtain ⟨x, hx⟩ := Option.isSome_iff_exists.1 h2
  by_cases hi : i = 2 + L + p
  · right
    refine ⟨p, x, h1, hi, hx, ?_⟩
    rw [hi, upd_same, hx]
    rfl
  · rw [upd_ne _ _ _ _ hi]
    exact hG i
theorem bst_at {F : Fs} {L H g : Nat} {W : Nat → Option Pg} {p : Nat} {x : Pg} (hp : p < H) (hx : W p = some x) : (eff F F (bst L g W (chg H W))).2 (2 + L + p) = hmF g p x := by
  have h := (eff_at (F := F) (fun j => hmF g (j - (2 + L)) ((W (j - (2 + L))).getD zp)) (bst L g W (chg H W)) F (fun s hs => by
    obtain ⟨q, hq, rfl⟩ := bst_wr s hs
    refine ⟨_, _, rfl, ?_⟩
    rw [show 2 + L + q - (2 + L) = q by omega]) (2 + L + p)).1 ⟨hmF g p ((W p).getD zp), List.mem_map.2 ⟨p, (chg_mem H W p).2 ⟨hp, by rw [hx]; rfl⟩, rfl⟩⟩
  rw [h]
  rw [show 2 + L + p - (2 + L) = p by omega, hx]
  rfl
theorem inN_bst {L H g n : Nat} {W : Nat → Option Pg} (hn : n = 2 + L + H) : ∀ s ∈ bst L g W (chg H W), inN n s := by
  intro s hs
  obtain ⟨p, hp, rfl⟩ := bst_wr s hs
  have := ((chg_mem H W p).1 hp).1
  show 2 + L + p < n
  omega
/-- What a Checkpoint leaves. -/
theorem ckp_sem (d : St) (x : Lg) (k : Nat) (pg : Nat → Pg) (h : Lv d x k pg) (hg : x.g + 1 < 18446744073709551000) :
    ((ckp d x).2.2 = 0 ∧ Lv (ckp d x).1 (ckp d x).2.1 (k + 1) pg ∧ (ckp d x).2.1.L = x.L ∧ (ckp d x).2.1.H = x.H ∧ (ckp d x).2.1.ws = [] ∧ (d.armed = 0 → (ckp d x).1.armed = 0) ∧ (x.ws = [] ∨ d.armed = 0 ∨ (ckS x).length < d.armed)) ∨
    ((ckp d x).2.2 = 6 ∧ Dd (ckp d x).1 x.L x.H (k + 1) (fun p => p = pg) ∧ d.armed ≠ 0) := by
  unfold ckp
  by_cases hws : x.ws = []
  · rw [if_pos hws]
    exact .inl ⟨rfl, ⟨h.on, h.w, h.n, h.alive, by have := h.gk; dsimp only; omega, h.rep⟩, rfl, rfl, hws, fun e => e, .inl hws⟩
  · rw [if_neg hws]
    have hat := at_flushed h.w
    obtain ⟨F, hF⟩ : ∃ F, F = d.at := ⟨_, rfl⟩
    have hrep := h.rep
    rw [← hF] at hrep
    obtain ⟨G, hG⟩ : ∃ G, G = (eff F F (bst x.L x.g (ov x.ws) (chg x.H (ov x.ws)))).2 := ⟨_, rfl⟩
    have hBk : Bk F x.L x.H x.g (ov x.ws) G := by rw [hG]; exact eff_inv _ _ _ (fun i => .inl rfl) bk_step
    have hrepG : Rep G x.L x.H x.g x.ws pg := hrep.home hBk
    have hbeg : Rep (upd G ((x.g + 1) % 2) (hdF x.L x.H (x.g + 1))) x.L x.H (x.g + 1) [] pg := hrepG.begun hg (fun p y hp hy => by rw [hG]; exact bst_at hp hy)
    have hgk := h.gk
    have hQ : ∀ K, K = G ∨ K = upd G ((x.g + 1) % 2) (hdF x.L x.H (x.g + 1)) → Oks K x.L x.H (k + 1) (fun p => p = pg) := by
      rintro K (rfl | rfl)
      · exact ⟨pg, rfl, x.g, x.ws, by omega, hrepG⟩
      · exact ⟨pg, rfl, x.g + 1, [], by omega, hbeg⟩
    have hsafe : Safe (Cr fun K => Oks K x.L x.H (k + 1) (fun p => p = pg)) F F (ckS x) := by
      unfold ckS
      refine safe_wrs (Bk F x.L x.H x.g (ov x.ws)) (fun G' hG' K hK => ⟨pg, rfl, x.g, x.ws, by omega, hrep.home (hG'.mix hK)⟩) _ F (fun i => .inl rfl) bk_step ?_
      intro _
      rw [← hG]
      exact ⟨fun K hK => ⟨pg, rfl, x.g, x.ws, by omega, hrep.home (hBk.mix hK)⟩, fun K hK => hQ K (mix_one hK), fun K hK => hQ K (mix_one hK), trivial⟩
    have heff : eff F F (ckS x) = (upd G ((x.g + 1) % 2) (hdF x.L x.H (x.g + 1)), upd G ((x.g + 1) % 2) (hdF x.L x.H (x.g + 1))) := by
      unfold ckS
      rw [eff_append, ← hG]
      rfl
    have hin : ∀ s ∈ ckS x, inN d.n s := by
      intro s hs
      unfold ckS at hs
      rcases List.mem_append.1 hs with h1 | h1
      · exact inN_bst h.n s h1
      · simp only [List.mem_cons, List.not_mem_nil, or_false] at h1
        rcases h1 with rfl | rfl | rfl
        · trivial
        · show (x.g + 1) % 2 < d.n
          have := h.n
          omega
        · trivial
    have hcs : ckS x = (bst x.L x.g (ov x.ws) (chg x.H (ov x.ws)) ++ [.fl, .wr ((x.g + 1) % 2) (hdF x.L x.H (x.g + 1))]) ++ [.fl] := by unfold ckS; rw [List.append_assoc]; rfl
    rcases runs_sem (Cr fun K => Oks K x.L x.H (k + 1) (fun p => p = pg)) (ckS x) d F F h.on (by rw [hF, hat]) hF.symm hin hsafe with ⟨e1, e2, e3, e4, e5, e6⟩ | ⟨e1, e2, e3, e4, e5, e6⟩
    · rw [if_pos e1]
      left
      refine ⟨rfl, ⟨e2, ?_, ?_, h.alive, by dsimp only; omega, ?_⟩, rfl, rfl, rfl, fun h0 => by dsimp only; omega, .inr e5⟩
      · dsimp only
        rw [hcs] at e1 ⊢
        exact runs_waits _ _ h.on e1
      · dsimp only
        rw [runs_n]
        exact h.n
      · dsimp only
        rw [e4, heff]
        exact hbeg
    · rw [if_neg (by rw [e1]; decide)]
      right
      exact ⟨e1, ⟨e2, e3, by dsimp only; rw [runs_n]; exact h.n, e4⟩, e5⟩

/-- Frames of a record, but its end, some of them. -/
def Pt (F : Fs) (g s u : Nat) (W : List Im) (G : Fs) : Prop := ∀ i, G i = F i ∨ ∃ j, j ≤ W.length ∧ i = 2 + u + j ∧ G i = rf g s W j
theorem Pt.mix {F G K : Fs} {g s u : Nat} {W : List Im} (h : Pt F g s u W G) (hK : Mix F G K) : Pt F g s u W K := by
  intro i
  rcases hK i with e | e
  · exact .inl e
  · rw [e]; exact h i
theorem cw_wr {x : Lg} {W : List Im} {k : Nat} : ∀ s ∈ cw x W k, ∃ j, j < k ∧ s = .wr (2 + tot x.ws + j) (rf x.g x.ws.length W j) := by
  intro s hs
  obtain ⟨p, hp, rfl⟩ := List.mem_map.1 hs
  exact ⟨p, List.mem_range.1 hp, rfl⟩
theorem pt_step {F : Fs} {x : Lg} {W : List Im} : ∀ s ∈ cw x W (W.length + 1), ∃ i y, s = .wr i y ∧ ∀ G, Pt F x.g x.ws.length (tot x.ws) W G → Pt F x.g x.ws.length (tot x.ws) W (upd G i y) := by
  intro s hs
  obtain ⟨p, hp, rfl⟩ := cw_wr s hs
  refine ⟨_, _, rfl, fun G hG i => ?_⟩
  by_cases hi : i = 2 + tot x.ws + p
  · right
    exact ⟨p, by omega, hi, by rw [hi, upd_same]⟩
  · rw [upd_ne _ _ _ _ hi]
    exact hG i
theorem cw_at {F : Fs} {x : Lg} {W : List Im} {j : Nat} (hj : j ≤ W.length) : (eff F F (cw x W (W.length + 1))).2 (2 + tot x.ws + j) = rf x.g x.ws.length W j := by
  have h := (eff_at (F := F) (fun i => rf x.g x.ws.length W (i - (2 + tot x.ws))) (cw x W (W.length + 1)) F (fun s hs => by
    obtain ⟨q, hq, rfl⟩ := cw_wr s hs
    refine ⟨_, _, rfl, ?_⟩
    rw [show 2 + tot x.ws + q - (2 + tot x.ws) = q by omega]) (2 + tot x.ws + j)).1 ⟨rf x.g x.ws.length W j, List.mem_map.2 ⟨j, List.mem_range.2 (by omega), rfl⟩⟩
  rw [h]
  rw [show 2 + tot x.ws + j - (2 + tot x.ws) = j by omega]
theorem com2_sem (d : St) (x : Lg) (k : Nat) (pg : Nat → Pg) (W : List Im) (h : Lv d x k pg) (hL : x.L ≤ 4000) (ho : okR x.L x.H (tot x.ws) W) :
    ((com2 d x W).2.2 = 0 ∧ Lv (com2 d x W).1 (com2 d x W).2.1 k (on1 pg W) ∧ (com2 d x W).2.1 = { x with ws := x.ws ++ [W] } ∧ (d.armed = 0 → (com2 d x W).1.armed = 0)) ∨
    ((com2 d x W).2.2 = 6 ∧ Dd (com2 d x W).1 x.L x.H k (fun p => p = pg ∨ p = on1 pg W) ∧ d.armed ≠ 0) := by
  unfold com2
  have hat := at_flushed h.w
  obtain ⟨F, hF⟩ : ∃ F, F = d.at := ⟨_, rfl⟩
  have hrep := h.rep
  rw [← hF] at hrep
  have hgk := h.gk
  have hr : tot x.ws + W.length + 2 ≤ x.L := ho.2.2.1
  obtain ⟨G, hG⟩ : ∃ G, G = (eff F F (cw x W (W.length + 1))).2 := ⟨_, rfl⟩
  have hPt : Pt F x.g x.ws.length (tot x.ws) W G := by rw [hG]; exact eff_inv _ _ _ (fun i => .inl rfl) pt_step
  have hrepG : Rep G x.L x.H x.g x.ws pg := hrep.parts W hr hPt
  obtain ⟨E, hE⟩ : ∃ E, E = upd G (2 + tot x.ws + (W.length + 1)) (rf x.g x.ws.length W (W.length + 1)) := ⟨_, rfl⟩
  have hrepE : Rep E x.L x.H x.g (x.ws ++ [W]) (on1 pg W) := by
    rw [hE]
    exact hrepG.whole hL W ho (fun j hj => by rw [hG]; exact cw_at hj)
  have hQ : ∀ K, K = G ∨ K = E → Oks K x.L x.H k (fun p => p = pg ∨ p = on1 pg W) := by
    rintro K (rfl | rfl)
    · exact ⟨pg, .inl rfl, x.g, x.ws, hgk, hrepG⟩
    · exact ⟨on1 pg W, .inr rfl, x.g, _, hgk, hrepE⟩
  have hsafe : Safe (Cr fun K => Oks K x.L x.H k (fun p => p = pg ∨ p = on1 pg W)) F F (cmS x W) := by
    unfold cmS cmE
    rw [List.append_assoc]
    refine safe_wrs (Pt F x.g x.ws.length (tot x.ws) W) (fun G' hG' K hK => ⟨pg, .inl rfl, x.g, x.ws, hgk, hrep.parts W hr (hG'.mix hK)⟩) _ F (fun i => .inl rfl) pt_step ?_
    intro _
    rw [← hG]
    refine ⟨fun K hK => ⟨pg, .inl rfl, x.g, x.ws, hgk, hrep.parts W hr (hPt.mix hK)⟩, fun K hK => hQ K ?_, fun K hK => hQ K ?_, trivial⟩
    · rw [hE]; exact mix_one hK
    · rw [hE]; exact mix_one hK
  have heff : eff F F (cmS x W) = (E, E) := by
    unfold cmS cmE
    rw [List.append_assoc, eff_append, ← hG, hE]
    rfl
  have hin : ∀ s ∈ cmS x W, inN d.n s := by
    intro s hs
    have hn := h.n
    unfold cmS cmE at hs
    rw [List.append_assoc] at hs
    rcases List.mem_append.1 hs with h1 | h1
    · obtain ⟨j, hj, rfl⟩ := cw_wr s h1
      show 2 + tot x.ws + j < d.n
      omega
    · simp only [List.cons_append, List.nil_append, List.mem_cons, List.not_mem_nil, or_false] at h1
      rcases h1 with rfl | rfl | rfl
      · trivial
      · show 2 + tot x.ws + (W.length + 1) < d.n
        omega
      · trivial
  rcases runs_sem (Cr fun K => Oks K x.L x.H k (fun p => p = pg ∨ p = on1 pg W)) (cmS x W) d F F h.on (by rw [hF, hat]) hF.symm hin hsafe with ⟨e1, e2, e3, e4, e5, e6⟩ | ⟨e1, e2, e3, e4, e5, e6⟩
  · rw [if_pos e1]
    left
    refine ⟨rfl, ⟨e2, runs_waits _ _ h.on e1, ?_, h.alive, hgk, ?_⟩, rfl, fun h0 => by dsimp only; omega⟩
    · dsimp only
      rw [runs_n]
      exact h.n
    · dsimp only
      rw [e4, heff]
      exact hrepE
  · rw [if_neg (by rw [e1]; decide)]
    right
    exact ⟨e1, ⟨e2, e3, by dsimp only; rw [runs_n]; exact h.n, e4⟩, e5⟩
/-- What a Commit leaves that is not refused. -/
theorem com_sem (d : St) (x : Lg) (k : Nat) (pg : Nat → Pg) (W : List Im) (h : Lv d x k pg) (hL : x.L ≤ 4000) (hg : x.g + 1 < 18446744073709551000) (h0 : W ≠ []) (h1 : W.length ≤ 120) (h2 : W.length + 2 ≤ x.L) (h3 : nam x.H W) :
    ((com d x W).2.2 = 0 ∧ Lv (com d x W).1 (com d x W).2.1 (k + 1) (on1 pg W) ∧ (com d x W).2.1.L = x.L ∧ (com d x W).2.1.H = x.H ∧ (d.armed = 0 → (com d x W).1.armed = 0)) ∨
    ((com d x W).2.2 = 6 ∧ Dd (com d x W).1 x.L x.H (k + 1) (fun p => p = pg ∨ p = on1 pg W) ∧ d.armed ≠ 0) := by
  unfold com
  by_cases hsp : x.L - tot x.ws < W.length + 2
  · rw [if_pos hsp]
    rcases ckp_sem d x k pg h hg with ⟨e1, e2, e3, e4, e5, e6, _⟩ | ⟨e1, e2, e3⟩
    · rw [if_pos e1]
      have ho : okR (ckp d x).2.1.L (ckp d x).2.1.H (tot (ckp d x).2.1.ws) W := by
        rw [e3, e4, e5]
        exact ⟨h0, h1, by show 0 + W.length + 2 ≤ x.L; omega, h3⟩
      rcases com2_sem _ _ _ _ W e2 (by rw [e3]; exact hL) ho with ⟨f1, f2, f3, f4⟩ | ⟨f1, f2, f3⟩
      · exact .inl ⟨f1, f2, by rw [f3]; exact e3, by rw [f3]; exact e4, fun hz => f4 (e6 hz)⟩
      · rw [e3, e4] at f2
        exact .inr ⟨f1, f2, fun hz => f3 (e6 hz)⟩
    · rw [if_neg (by rw [e1]; decide)]
      exact .inr ⟨e1, e2.mono (Nat.le_refl _) (fun p hp => .inl hp), e3⟩
  · rw [if_neg hsp]
    have hus := h.rep.len
    rcases com2_sem d x k pg W h hL ⟨h0, h1, by omega, h3⟩ with ⟨f1, f2, f3, f4⟩ | ⟨f1, f2, f3⟩
    · exact .inl ⟨f1, ⟨f2.on, f2.w, f2.n, f2.alive, by have := f2.gk; omega, f2.rep⟩, by rw [f3], by rw [f3], f4⟩
    · exact .inr ⟨f1, f2.mono (by omega) (fun p hp => hp), f3⟩
theorem com_short (d : St) (x : Lg) (W : List Im) (h1 : x.L - tot x.ws < W.length + 2) (h2 : (ckp d x).2.2 ≠ 0) : com d x W = ckp d x := by
  unfold com
  rw [if_pos h1, if_neg h2]
end Go.Proofs.YtndfhmlcfaaaiaaGreatDoor

/- What Format, Open and Read do, of pages. -/
namespace Go.Proofs.YtndfhmlcfaaaiaaGreatDoor

theorem zst_wr {k : Nat} : ∀ s ∈ zst k, ∃ i, i < k ∧ s = .wr i zs := by
  intro s hs
  obtain ⟨p, hp, rfl⟩ := List.mem_map.1 hs
  exact ⟨p, List.mem_range.1 hp, rfl⟩
theorem hst_wr {L k : Nat} : ∀ s ∈ hst L k, ∃ p, p < k ∧ s = .wr (2 + L + p) (hmF 1 p zp) := by
  intro s hs
  obtain ⟨p, hp, rfl⟩ := List.mem_map.1 hs
  exact ⟨p, List.mem_range.1 hp, rfl⟩
theorem fmt_eff (F : Fs) (L H : Nat) : ∃ G, eff F F (fmtS L H) = (G, G) ∧ (∀ i, i ≠ 1 → i < 2 + L → G i = zs) ∧ G 1 = hdF L H 1 ∧ ∀ p, p < H → G (2 + L + p) = hmF 1 p zp := by
  obtain ⟨A, hA⟩ : ∃ A, A = (eff F F (zst (2 + L))).2 := ⟨_, rfl⟩
  obtain ⟨B, hB⟩ : ∃ B, B = (eff A A (hst L H)).2 := ⟨_, rfl⟩
  refine ⟨upd B 1 (hdF L H 1), ?_, ?_, upd_same _ _ _, ?_⟩
  · unfold fmtS
    rw [eff_append, eff_append, eff_append, ← hA]
    have e1 : eff (eff F F (zst (2 + L))).1 A [.fl] = (A, A) := rfl
    rw [e1]
    dsimp only
    rw [← hB]
    rfl
  · intro i h1 h2
    rw [upd_ne _ _ _ _ h1, hB, (eff_at (F := A) (fun j => hmF 1 (j - (2 + L)) zp) (hst L H) A (fun s hs => by
      obtain ⟨q, hq, rfl⟩ := hst_wr s hs
      refine ⟨_, _, rfl, ?_⟩
      rw [show 2 + L + q - (2 + L) = q by omega]) i).2 (by
        rintro ⟨x, hx⟩
        obtain ⟨q, hq, e⟩ := hst_wr _ hx
        injection e with e1 e2
        omega), hA]
    exact (eff_at (F := F) (fun _ => zs) (zst (2 + L)) F (fun s hs => by
      obtain ⟨q, hq, rfl⟩ := zst_wr s hs
      exact ⟨_, _, rfl, rfl⟩) i).1 ⟨zs, List.mem_map.2 ⟨i, List.mem_range.2 h2, rfl⟩⟩
  · intro p hp
    rw [upd_ne _ _ _ _ (by omega), hB, (eff_at (F := A) (fun j => hmF 1 (j - (2 + L)) zp) (hst L H) A (fun s hs => by
      obtain ⟨q, hq, rfl⟩ := hst_wr s hs
      refine ⟨_, _, rfl, ?_⟩
      rw [show 2 + L + q - (2 + L) = q by omega]) (2 + L + p)).1 ⟨hmF 1 p zp, List.mem_map.2 ⟨p, List.mem_range.2 hp, rfl⟩⟩]
    rw [show 2 + L + p - (2 + L) = p by omega]
theorem fmt_in (L H n : Nat) (hn : n = 2 + L + H) : ∀ s ∈ fmtS L H, inN n s := by
  intro s hs
  unfold fmtS at hs
  simp only [List.mem_append, List.mem_cons, List.not_mem_nil, or_false] at hs
  rcases hs with ((h | rfl) | h) | (rfl | rfl | rfl)
  · obtain ⟨i, hi, rfl⟩ := zst_wr s h
    show i < n
    omega
  · trivial
  · obtain ⟨i, hi, rfl⟩ := hst_wr s h
    show 2 + L + i < n
    omega
  · trivial
  · show 1 < n
    omega
  · trivial
theorem safe_true : ∀ (ss : List Stp) (F G : Fs), Safe (fun _ _ => True) F G ss
  | [], _, _ => trivial
  | .wr i s :: ss, F, G => ⟨trivial, safe_true ss F (upd G i s)⟩
  | .fl :: ss, _, G => ⟨trivial, safe_true ss G G⟩
/-- Format lays pages that are all zero. -/
theorem fmt_sem (d : St) (L H : Nat) (hon : d.off = false) (hw : d.waits = fun _ => none) (ha : d.armed = 0) (hn : d.n = 2 + L + H) :
    (runs d (fmtS L H)).2 = 0 ∧ Rs (runs d (fmtS L H)).1 L H 1 (fun _ => zp) ∧ (runs d (fmtS L H)).1.armed = 0 := by
  obtain ⟨G, h1, h2, h3, h4⟩ := fmt_eff d.at L H
  rcases runs_sem (fun _ _ => True) (fmtS L H) d d.at d.at hon (by rw [at_flushed hw]) rfl (fmt_in L H d.n hn) (safe_true _ _ _) with ⟨e1, e2, e3, e4, e5, e6⟩ | ⟨e1, e2, e3, e4, e5, e6⟩
  · refine ⟨e1, ⟨e2, ?_, by rw [runs_n]; exact hn, 1, [], Nat.le_refl _, ?_⟩, by omega⟩
    · have hf : fmtS L H = (zst (2 + L) ++ [.fl] ++ hst L H ++ [.fl, .wr 1 (hdF L H 1)]) ++ [.fl] := by unfold fmtS; simp
      rw [hf] at e1 ⊢
      exact runs_waits _ _ hon e1
    · rw [e4, h1]
      dsimp only
      refine ⟨by omega, by omega, by rw [show 1 % 2 = 1 by omega]; exact h3, ?_, trivial, ?_, ?_, fun p x hx => by cases hx⟩
      · intro hf
        rw [show (1 + 1) % 2 = 0 by omega, h2 0 (by omega) (by omega)] at hf
        exact absurd hf zs_notF
      · intro i hi hf
        rw [h2 _ (by omega) (by omega)] at hf
        exact absurd hf zs_notF
      · intro p hp
        exact ⟨1, zp, h4 p hp, fun _ => rfl⟩
  · exact absurd ha e5

theorem Lw_hdF (L H g : Nat) (hL : L < 4294967296) : Lw (hdF L H g) = L := by
  unfold Lw hdF
  rw [pin_frm]
  unfold pgOf
  show nub (((beb 4 L ++ beb 4 H) ++ zp.l).take 480 |>.take 4) = L
  rw [List.take_take, Nat.min_eq_left (by omega), List.append_assoc, List.take_append_of_le_length (by rw [beb_length]; exact Nat.le_refl _), List.take_of_length_le (by rw [beb_length]; exact Nat.le_refl _), nub_beb]
  exact Nat.mod_eq_of_lt hL
/-- The head that holds is the one of what lies there. -/
theorem hol_rep {d : St} {L H g : Nat} {ws : List (List Im)} {pg : Nat → Pg} (h : Rep d.at L H g ws pg) (hL3 : 3 ≤ L) (hL4 : L ≤ 4000) (hH1 : 1 ≤ H) (hn : d.n = 2 + L + H) : hol d 2 = (L, H, g) := by
  have g1 := h.g1
  have g2 := h.g2
  have hin : gin (hdF L H g) = g := by unfold hdF; rw [gin_frm]; exact Nat.mod_eq_of_lt (by omega)
  have hlw : Lw (hdF L H g) = L := Lw_hdF L H g (by omega)
  have hg : hdOK (d.at (g % 2)) (g % 2) d.n := by
    rw [h.head]
    unfold hdOK
    rw [hin, hlw]
    exact ⟨hL3, hL4, by omega, by omega, rfl, by rw [show d.n - 2 - L = H by omega]⟩
  have hv : (Lw (d.at (g % 2)), d.n - 2 - Lw (d.at (g % 2)), gin (d.at (g % 2))) = (L, H, g) := by rw [h.head, hin, hlw, show d.n - 2 - L = H by omega]
  have hgg : gin (d.at (g % 2)) = g := by rw [h.head, hin]
  have ho : hdOK (d.at ((g + 1) % 2)) ((g + 1) % 2) d.n → gin (d.at ((g + 1) % 2)) < g := by
    intro hk
    refine h.other ?_
    rw [hk.2.2.2.2.2]
    unfold hdF
    exact isF_frm _ _ _ _ _ (gin_lt _) (by omega) (by omega)
  show hol d (1 + 1) = _
  unfold hol
  rcases Nat.mod_two_eq_zero_or_one g with e | e
  · have e2 : (g + 1) % 2 = 1 := by omega
    rw [e] at hg hv hgg
    rw [e2] at ho
    have h1 : hol d 1 = (L, H, g) := by
      show hol d (0 + 1) = _
      unfold hol
      rw [if_pos ⟨hg, by rw [hgg]; show 0 < g; omega⟩]
      exact hv
    rw [h1, if_neg]
    rintro ⟨a, b⟩
    have := ho a
    dsimp only at b
    omega
  · have e2 : (g + 1) % 2 = 0 := by omega
    rw [e] at hg hv hgg
    rw [e2] at ho
    have h1 : (hol d 1).2.2 < g := by
      show (hol d (0 + 1)).2.2 < _
      unfold hol
      by_cases hc : hdOK (d.at 0) 0 d.n ∧ (hol d 0).2.2 < gin (d.at 0)
      · rw [if_pos hc]; exact ho hc.1
      · rw [if_neg hc]; show 0 < g; omega
    rw [if_pos ⟨hg, by rw [hgg]; exact h1⟩]
    exact hv
theorem frm_mod (k : B) (g s ix : Nat) (x : Pg) : frm k (g % 18446744073709551616) s ix x = frm k g s ix x := by
  have e : beb 8 (g % 18446744073709551616) = beb 8 g := by
    have := beb_nub (beb 8 g) 8 (beb_length _ _)
    rw [nub_beb] at this
    exact this
  have e2 : hd28 k (g % 18446744073709551616) s ix = hd28 k g s ix := by unfold hd28; rw [e]
  have e3 : chk k (g % 18446744073709551616) s ix x = chk k g s ix x := by unfold chk bare; rw [e2]
  unfold frm
  simp only [e2, e3]
/-- What a page reads. -/
theorem rd_sem {d : St} {x : Lg} {k : Nat} {pg : Nat → Pg} (h : Lv d x k pg) (p : Nat) (hp : p < x.H) : rdR d x (p : Int) = (pg p, 0) := by
  unfold rdR
  rw [if_neg (by omega)]
  rw [Int.toNat_natCast]
  cases hv : ov x.ws p with
  | some y =>
    dsimp only
    rw [h.rep.over p y hv]
  | none =>
    dsimp only
    obtain ⟨g', y, h1, h2⟩ := h.rep.homes p hp
    unfold hmR hmOf
    rw [h1]
    have hg : hmF (gin (hmF g' p y)) p (pin (hmF g' p y)) = hmF g' p y := by
      unfold hmF
      rw [pin_frm, gin_frm]
      exact frm_mod _ _ _ _ _
    rw [if_pos hg.symm, ← h2 hv]
    unfold hmF
    rw [pin_frm]
/-- What an Open leaves. -/
theorem open_sem (d : St) (L H k : Nat) (pg : Nat → Pg) (h : Rs d L H k pg) (hL3 : 3 ≤ L) (hL4 : L ≤ 4000) (hH1 : 1 ≤ H) (hH2 : H ≤ 16384) :
    (hol d 2).1 = L ∧ (hol d 2).2.1 = H ∧ (hol d 2).2.2 ≤ k ∧ (hol d 2).2.2 ≠ 0 ∧ ∀ ws, Lie d.at L H (hol d 2).2.2 0 0 ws → NoR d.at L H (hol d 2).2.2 ws.length (tot ws) → Lv d ⟨L, H, (hol d 2).2.2, ws, false⟩ k pg := by
  obtain ⟨g, ws, h1, h2⟩ := h.ok
  have e := hol_rep h2 hL3 hL4 hH1 h.n
  have g1 := h2.g1
  rw [e]
  refine ⟨rfl, rfl, h1, by dsimp only; omega, fun ws' hl hn => ?_⟩
  have hu : ws' = ws := Lie.unique (by omega) hl (by rw [Nat.zero_add, Nat.zero_add]; exact hn) h2.lie (h2.noR hL4)
  subst hu
  exact ⟨h.on, h.w, h.n, rfl, h1, h2⟩
end Go.Proofs.YtndfhmlcfaaaiaaGreatDoor

/- The calls of a log, in words of pages: what they leave, wherever the power goes. -/
namespace Go.Proofs.YtndfhmlcfaaaiaaGreatDoor
open Go.RowKit

def Wk (d : St) (k : Nat) : Prop := d.writes ≤ 50000 * k ∧ d.flushes ≤ 50000 * k
theorem Wk.up {d d' : St} {k : Nat} (h : Wk d k) (h1 : d'.writes ≤ d.writes + 50000) (h2 : d'.flushes ≤ d.flushes + 50000) : Wk d' (k + 1) := by
  unfold Wk at h ⊢
  omega
theorem com_writes (d : St) (x : Lg) (W : List Im) (hH : x.H ≤ 16384) (hW : W.length ≤ 120) : (com d x W).1.writes ≤ d.writes + 50000 ∧ (com d x W).1.flushes ≤ d.flushes + 50000 := by
  have hck := ckp_writes d x hH
  have h2 : ∀ (d : St) (x : Lg), (com2 d x W).1.writes ≤ d.writes + 200 ∧ (com2 d x W).1.flushes ≤ d.flushes + 200 := by
    intro d x
    have h := runs_writes (cmS x W) d
    have hl := cmS_len x W
    unfold com2
    split
    · dsimp only; omega
    · dsimp only; omega
  unfold com
  split
  · split
    · have := h2 (ckp d x).1 (ckp d x).2.1
      omega
    · omega
  · have := h2 d x
    omega
/-- An Open. -/
theorem open_s (w : World) (r f m cap : Nat) (d : St) (L H k : Nat) (pg : Nat → Pg) (h : Lay w r f m cap d) (hT : Tabs w) (hfp : ∀ k, fp r f m k → 2 ≤ k) (hR : Rs d L H k pg) (hwk : Wk d k) (hk : k ≤ 10000) (hL3 : 3 ≤ L) (hL4 : L ≤ 4000) (hH1 : 1 ≤ H) (hH2 : H ≤ 16384) :
    Calls Tryz.prog 17 #[.pointer (some ⟨r, 0, none⟩)] w fun e w' => ∃ m' d', (m' = m ∨ w.heap.size ≤ m') ∧ Fr (fp r f m) w w' ∧ Wk d' (k + 1) ∧ Lay w' r f m' cap d' ∧ Tabs w' ∧ (∀ k, fp r f m' k → 2 ≤ k) ∧
      ((∃ q mm x, e = .returned (.tuple #[.pointer (some ⟨q, 0, none⟩), .int .i64 0]) ∧ DL w' q r mm f m' cap x d' ∧ Lv d' x (k + 1) pg ∧ x.L = L ∧ x.H = H ∧ (d.armed = 0 → d'.armed = 0) ∧ w.heap.size ≤ q ∧ w.heap.size ≤ mm) ∨
       (d.armed ≠ 0 ∧ e = .returned (.tuple #[.pointer none, .int .i64 6]) ∧ Dd d' L H (k + 1) (fun p => p = pg))) := by
  obtain ⟨o1, o2, o3, o4, o5⟩ := open_sem d L H k pg hR hL3 hL4 hH1 hH2
  unfold Wk at hwk
  refine (open_any w r f m cap d h hT hfp hR.on (by rw [hR.n]; omega) (by omega) (by omega) (by omega)).mono ?_
  rintro e w' (⟨h0, _⟩ | ⟨_, q, E, hq, ⟨ws, hl, hn, hE, mm, m', hmm, hm, hD, hF⟩, he⟩)
  · exact absurd h0 o4
  · rw [o1, o2] at hl hn hE hD
    have hlv := o5 ws hl hn
    have hcw := ckp_writes d ⟨L, H, (hol d 2).2.2, ws, false⟩ hH2
    refine ⟨m', _, hm, hF, Wk.up hwk (by omega) (by omega), hD.k, hD.t, hD.fp2, ?_⟩
    rcases ckp_sem d _ k pg hlv (by dsimp only; omega) with ⟨e1, e2, e3, e4, e5, e6, _⟩ | ⟨e1, e2, e3⟩
    · rw [e1] at hE
      subst hE
      left
      rw [if_pos rfl] at he
      exact ⟨q, mm, _, he, hD, e2, e3, e4, e6, hq, hmm⟩
    · rw [e1] at hE
      subst hE
      right
      rw [if_neg (by decide)] at he
      exact ⟨e3, he, e2⟩
/-- A Checkpoint. -/
theorem ckp_s (w : World) (q r mm f m cap : Nat) (x : Lg) (d : St) (k : Nat) (pg : Nat → Pg) (h : DL w q r mm f m cap x d) (hv : Lv d x k pg) (hwk : Wk d k) (hk : k ≤ 10000) :
    Calls Tryz.prog 37 #[.pointer (some ⟨q, 0, none⟩)] w fun e w' => ∃ mm' m' x' d', (mm' = mm ∨ w.heap.size ≤ mm') ∧ (m' = m ∨ w.heap.size ≤ m') ∧ Fr (fun k => fp r f m k ∨ lp q mm k) w w' ∧ Wk d' (k + 1) ∧ DL w' q r mm' f m' cap x' d' ∧
      ((e = .returned (.int .i64 0) ∧ Lv d' x' (k + 1) pg ∧ x'.L = x.L ∧ x'.H = x.H ∧ x'.ws = [] ∧ (d.armed = 0 → d'.armed = 0)) ∨
       (d.armed ≠ 0 ∧ e = .returned (.int .i64 6) ∧ Dd d' x.L x.H (k + 1) (fun p => p = pg))) := by
  have hgk := hv.gk
  have hcw := ckp_writes d x h.l.H2
  unfold Wk at hwk
  refine (ckp_any w q r mm f m cap x d h hv.alive (by omega) (by omega) (by omega)).mono ?_
  rintro e w' ⟨rfl, mm', m', h1, h2, hD, hF⟩
  refine ⟨mm', m', _, _, h1, h2, hF, Wk.up hwk (by omega) (by omega), hD, ?_⟩
  rcases ckp_sem d x k pg hv (by omega) with ⟨e1, e2, e3, e4, e5, e6, _⟩ | ⟨e1, e2, e3⟩
  · exact .inl ⟨by rw [e1], e2, e3, e4, e5, e6⟩
  · exact .inr ⟨e3, by rw [e1], e2⟩
/-- A Commit. -/
theorem com_s (w : World) (q r mm f m cap : Nat) (x : Lg) (d : St) (k : Nat) (pg : Nat → Pg) (ao : Option Addr) (cp : Nat) (W : List Im) (h : DL w q r mm f m cap x d) (hv : Lv d x k pg) (hwk : Wk d k) (hk : k ≤ 10000)
    (hI : Ims w ao (toI W)) (hA : Apt w ao q r mm f m) (hok : nam x.H W) (hW1 : W ≠ []) (hW2 : W.length ≤ 120) (hW3 : W.length + 2 ≤ x.L) :
    Calls Tryz.prog 18 #[.pointer (some ⟨q, 0, none⟩), .slice ao W.length cp] w fun e w' => ∃ mm' m' x' d', (mm' = mm ∨ w.heap.size ≤ mm') ∧ (m' = m ∨ w.heap.size ≤ m') ∧ Fr (fun k => fp r f m k ∨ lp q mm k) w w' ∧ Wk d' (k + 1) ∧ DL w' q r mm' f m' cap x' d' ∧
      ((e = .returned (.int .i64 0) ∧ Lv d' x' (k + 1) (on1 pg W) ∧ x'.L = x.L ∧ x'.H = x.H ∧ (d.armed = 0 → d'.armed = 0)) ∨
       (d.armed ≠ 0 ∧ e = .returned (.int .i64 6) ∧ Dd d' x.L x.H (k + 1) (fun p => p = pg ∨ p = on1 pg W))) := by
  have hgk := hv.gk
  have hcw := com_writes d x W h.l.H2 hW2
  have hp := List.length_pos_iff.2 hW1
  unfold Wk at hwk
  refine (com_any w q r mm f m cap x d ao cp W h hI hA (okP_nam.2 hok) (by omega) (by omega) hv.alive (by omega) (by omega) (by omega)).mono ?_
  rintro e w' ⟨rfl, mm', m', h1, h2, hD, hF⟩
  refine ⟨mm', m', _, _, h1, h2, hF, Wk.up hwk (by omega) (by omega), hD, ?_⟩
  rcases com_sem d x k pg W hv h.l.L4 (by omega) hW1 hW2 hW3 hok with ⟨e1, e2, e3, e4, e5⟩ | ⟨e1, e2, e3⟩
  · exact .inl ⟨by rw [e1], e2, e3, e4, e5⟩
  · exact .inr ⟨e3, by rw [e1], e2⟩
/-- A Read. -/
theorem read_s (w : World) (q r mm f m cap : Nat) (x : Lg) (d : St) (k : Nat) (pg : Nat → Pg) (h : DL w q r mm f m cap x d) (hv : Lv d x k pg) (p : Nat) (hp : p < x.H) :
    Calls Tryz.prog 15 #[.pointer (some ⟨q, 0, none⟩), .int .i64 (p : Int)] w fun e w' => e = .returned (.tuple #[.agg (pb (pg p)).toArray, .int .i64 0]) ∧ Below w.heap.size w w' := by
  have h2 := h.l.H2
  have h1 := read8_any w q r mm f m cap x d h (p : Int) (by omega) hv.on hv.alive
  rw [rd_sem hv p hp] at h1
  exact h1
/-- A Format of a new disk. -/
theorem format_s (w : World) (r f m cap L H : Nat) (d : St) (hL : Lay w r f m cap d) (hT : Tabs w) (hfp : ∀ k, fp r f m k → 2 ≤ k) (hL3 : 3 ≤ L) (hL4 : L ≤ 4000) (hH1 : 1 ≤ H) (hH : H ≤ 16384) (hn : d.n = 2 + L + H) (hon : d.off = false) (hw : d.waits = fun _ => none) (ha : d.armed = 0) (h0 : d.writes = 0) (h00 : d.flushes = 0) :
    Calls Tryz.prog 23 #[.pointer (some ⟨r, 0, none⟩), .int .i64 (L : Int)] w fun e w' => e = .returned (.int .i64 0) ∧ ∃ m' d', (m' = m ∨ w.heap.size ≤ m') ∧ Lay w' r f m' cap d' ∧ Tabs w' ∧ (∀ k, fp r f m' k → 2 ≤ k) ∧ Fr (fp r f m) w w' ∧ Rs d' L H 1 (fun _ => zp) ∧ Wk d' 1 ∧ d'.armed = 0 := by
  obtain ⟨e1, e2, e3⟩ := fmt_sem d L H hon hw ha hn
  have hrw := runs_writes (fmtS L H) d
  have hfl : (fmtS L H).length ≤ 40000 := by
    unfold fmtS zst hst
    simp
    omega
  refine (format_any w r f m cap L H d hL hT hfp hL3 hL4 hH1 hH hn (by omega) (by omega)).mono ?_
  rintro e w' ⟨rfl, m', hm, hl, hF⟩
  have h2 := hT.two
  refine ⟨by rw [e1], m', _, hm, hl, hT.fr hF hfp, ?_, hF, e2, ?_, e3⟩
  · rintro k (e | e | e)
    · exact hfp k (.inl e)
    · exact hfp k (.inr (.inl e))
    · rcases hm with e4 | e4
      · exact hfp k (.inr (.inr (e.trans e4)))
      · omega
  · unfold Wk
    omega
end Go.Proofs.YtndfhmlcfaaaiaaGreatDoor
