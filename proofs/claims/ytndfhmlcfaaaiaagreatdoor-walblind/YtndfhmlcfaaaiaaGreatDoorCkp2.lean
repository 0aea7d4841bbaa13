/- Checkpoint. -/
import Derived.Test.YtndfhmlcfaaaiaaGreatDoorCkp
namespace Go.Proofs.YtndfhmlcfaaaiaaGreatDoor
open Go.RowKit

theorem fl_n (d : St) : d.fl.1.n = d.n := by
  unfold St.fl
  split
  · rfl
  · split
    · show d.tick.op.1.n = _
      rw [op_n]; rfl
    · rw [op_n]; rfl
theorem wr_n (d : St) (i : Int) (s : Sec) : (d.wr i s).1.n = d.n := by
  unfold St.wr
  split
  · rfl
  · split
    · rfl
    · rw [op_n]; rfl
theorem go_n (d : St) (s : Stp) : (s.go d).1.n = d.n := by
  cases s with
  | wr i s => exact wr_n d i s
  | fl => exact fl_n d
theorem runs_n (ss : List Stp) : ∀ d : St, (runs d ss).1.n = d.n := by
  induction ss with
  | nil => intro d; rfl
  | cons s ss ih =>
    intro d
    simp only [runs]
    split
    · rw [ih, go_n]
    · exact go_n d s
/-- Behind a call on a log: it has turned to x on the disk d; nothing but the log's blocks and the disk's has been touched. -/
def Mv (w w' : World) (q r mm f m cap : Nat) (x : Lg) (d : St) : Prop := ∃ mm' m', (mm' = mm ∨ w.heap.size ≤ mm') ∧ (m' = m ∨ w.heap.size ≤ m') ∧ DL w' q r mm' f m' cap x d ∧ Fr (fun k => fp r f m k ∨ lp q mm k) w w'
section
variable {w w' w'' : World} {q r mm f m cap : Nat} {x x' : Lg} {d d' : St}
theorem DL.lt (h : DL w q r mm f m cap x d) : ∀ k, fp r f m k ∨ lp q mm k → k < w.heap.size := fun k hk => hk.elim (Lay.fp2 h.k k) (h.l.lt k)
/-- The disk turns. -/
theorem DL.turn (h : DL w q r mm f m cap x d) (hT : Turn w w' r f m cap d') (hn : d'.n = d.n) : Mv w w' q r mm f m cap x d' := by
  obtain ⟨m', hm, hL, hF⟩ := hT
  have hll := h.l.lt
  have h2 := h.t.two
  have hap : ∀ k, lp q mm k → ¬ fp r f m' k := fun k hk hf => by
    rcases hf with e | e | e
    · exact h.apart k hk (.inl e)
    · exact h.apart k hk (.inr (.inl e))
    · rcases hm with e2 | e2
      · exact h.apart k hk (.inr (.inr (e.trans e2)))
      · have := hll k hk; omega
  refine ⟨mm, m', .inl rfl, hm, ⟨h.l.fr hF (fun k hk hl => h.apart k hl hk), hL, by rw [hn]; exact h.n, h.t.fr hF h.fp2, hap, fun k hk => ?_, h.lp2⟩, hF.mono (fun _ _ h => .inl h)⟩
  rcases hk with e | e | e
  · exact h.fp2 k (.inl e)
  · exact h.fp2 k (.inr (.inl e))
  · rcases hm with e2 | e2
    · exact h.fp2 k (.inr (.inr (e.trans e2)))
    · omega
/-- The log turns. -/
theorem DL.relog (h : DL w q r mm f m cap x d) {mm' : Nat} (hl : LL w' q r mm' x') (hmm : mm' = mm ∨ w.heap.size ≤ mm') (hF : Fr (lp q mm) w w') (hL : x'.L = x.L) (hH : x'.H = x.H) : Mv w w' q r mm f m cap x' d := by
  have hff := Lay.fp2 h.k
  have h2 := h.t.two
  refine ⟨mm', m, hmm, .inl rfl, ⟨hl, h.k.fr hF (fun k hk hf => h.apart k hk hf), by rw [hL, hH]; exact h.n, h.t.fr hF h.lp2, fun k hk hf => ?_, h.fp2, fun k hk => ?_⟩, hF.mono (fun _ _ h => .inr h)⟩
  · rcases hk with e | e
    · exact h.apart k (.inl e) hf
    · rcases hmm with e2 | e2
      · exact h.apart k (.inr (e.trans e2)) hf
      · have := hff k hf; omega
  · rcases hk with e | e
    · exact h.lp2 k (.inl e)
    · rcases hmm with e2 | e2
      · exact h.lp2 k (.inr (e.trans e2))
      · omega
theorem Mv.still (h : DL w q r mm f m cap x d) (hb : Below w.heap.size w w') : Mv w w' q r mm f m cap x d := ⟨mm, m, .inl rfl, .inl rfl, h.next hb, Fr.of_below hb (Nat.le_refl _)⟩
theorem Mv.before (hb : Below w.heap.size w w') (h : Mv w' w'' q r mm f m cap x d) : Mv w w'' q r mm f m cap x d := by
  obtain ⟨mm', m', h1, h2, h3, h4⟩ := h
  exact ⟨mm', m', h1.imp id (Nat.le_trans hb.size), h2.imp id (Nat.le_trans hb.size), h3, (Fr.of_below (X := fun k => fp r f m k ∨ lp q mm k) hb (Nat.le_refl _)).trans h4 (fun _ _ h => h)⟩
/-- One move behind another. -/
theorem Mv.trans {m1 mm1 : Nat} (h1 : mm1 = mm ∨ w.heap.size ≤ mm1) (h2 : m1 = m ∨ w.heap.size ≤ m1) (hF : Fr (fun k => fp r f m k ∨ lp q mm k) w w') (h : Mv w' w'' q r mm1 f m1 cap x d) : Mv w w'' q r mm f m cap x d := by
  obtain ⟨mm', m', h3, h4, h5, h6⟩ := h
  refine ⟨mm', m', ?_, ?_, h5, hF.trans h6 (fun j hj hx => ?_)⟩
  · rcases h3 with e | e
    · subst e; exact h1
    · exact .inr (Nat.le_trans hF.size e)
  · rcases h4 with e | e
    · subst e; exact h2
    · exact .inr (Nat.le_trans hF.size e)
  · rcases hx with (e | e | e) | (e | e)
    · exact .inl (.inl e)
    · exact .inl (.inr (.inl e))
    · rcases h2 with e1 | e1
      · exact .inl (.inr (.inr (e.trans e1)))
      · omega
    · exact .inr (.inl e)
    · rcases h1 with e1 | e1
      · exact .inr (.inr (e.trans e1))
      · omega
end
/-- What a Checkpoint does. -/
def ckp (d : St) (x : Lg) : St × Lg × Int := if x.ws = [] then (d, x, 0) else if (runs d (ckS x)).2 = 0 then ((runs d (ckS x)).1, { x with g := x.g + 1, ws := [] }, 0) else ((runs d (ckS x)).1, x.noted (runs d (ckS x)).2, (runs d (ckS x)).2)
theorem ckp_nil (w : World) : Calls Tryz.prog 37 #[.pointer none] w fun e w' => e = .returned (.int .i64 1) ∧ w = w' := by
  go_enter Tryz.func37, Tryz.ntmps37
  go_wp2
  go_ret
  exact ⟨rfl, rfl⟩
theorem ckp_dead (w : World) (q r mm : Nat) (x : Lg) (h : LL w q r mm x) (hd : x.dead = true) : Calls Tryz.prog 37 #[.pointer (some ⟨q, 0, none⟩)] w fun e w' => e = .returned (.int .i64 6) ∧ w = w' := by
  have c7 := h.c7
  rw [hd] at c7
  go_enter Tryz.func37, Tryz.ntmps37
  go_wp2
  go_ret
  exact ⟨rfl, rfl⟩
theorem noted_zero {x : Lg} (h : x.dead = false) : x.noted 0 = x := by
  unfold Lg.noted
  rw [h]
  cases x
  subst h
  rfl
theorem LL.newgen {w : World} {q r mm : Nat} {x : Lg} (h : LL w q r mm x) (n : Nat) (hn : n < 18446744073709551615) : LL (w.setCell ⟨q, 3, none⟩ (.int .u64 (n : Int))) q r mm { x with g := n } := by
  obtain ⟨D, hD, hM⟩ := h.map
  exact ⟨h.blk.set 3 _, ⟨D, hD.setCell h.mq_ne _, hM⟩, h.low, h.L3, h.L4, h.H1, h.H2, h.used, h.recs, hn⟩
set_option maxRecDepth 100000 in
set_option maxHeartbeats 4000000 in
theorem ckp_any (w : World) (q r mm f m cap : Nat) (x : Lg) (d : St) (h : DL w q r mm f m cap x d) (hd : x.dead = false) (hg : x.g < 18446744073709551614) (hw : d.writes ≤ 900000000) (hf : d.flushes ≤ 900000000) :
    Calls Tryz.prog 37 #[.pointer (some ⟨q, 0, none⟩)] w fun e w' => e = .returned (.int .i64 (ckp d x).2.2) ∧ Mv w w' q r mm f m cap (ckp d x).2.1 (ckp d x).1 := by
  have c7 := h.l.c7
  have c5 := h.l.c5
  rw [hd] at c7
  unfold ckp
  by_cases hws : x.ws = []
  · rw [if_pos hws]
    have hlen : (x.ws.length : Int) = 0 := by rw [hws]; rfl
    rw [hlen] at c5
    clear hlen hws
    go_enter Tryz.func37, Tryz.ntmps37
    go_wp2
    go_ret
    exact ⟨rfl, .still h (Below.refl _ _)⟩
  · rw [if_neg hws]
    have hlen : ¬ (x.ws.length : Int) = 0 := by
      intro e
      exact hws (List.eq_nil_of_length_eq_zero (by omega))
    obtain ⟨nr, hnr⟩ : ∃ nr : Int, nr = (x.ws.length : Int) := ⟨_, rfl⟩
    rw [← hnr] at c5 hlen
    have hne : ckS x ≠ [] := by intro e; have := congrArg List.length e; simp [ckS] at this
    have hck : (ckS x).length ≤ 20000 := by
      have := chg_len x.H (ov x.ws)
      have := h.l.H2
      simp [ckS, bst_len]
      omega
    have hbr := bringing_any w q r mm f m cap x h.l h.t (fun k hk => ⟨h.fp2 k hk, Lay.fp2 h.k k hk⟩) h.apart
    have hrun := runs_n (ckS x) d
    obtain ⟨S, hS⟩ : ∃ S, S = ckS x := ⟨_, rfl⟩
    rw [← hS] at hne hck hbr hrun ⊢
    obtain ⟨E, hE⟩ : ∃ E, E = (runs d S).2 := ⟨_, rfl⟩
    obtain ⟨d1, hd1⟩ : ∃ d1, d1 = (runs d S).1 := ⟨_, rfl⟩
    rw [← hE, ← hd1]
    rw [← hd1] at hrun
    have hin : ∀ W v, Lay W r f m cap d → Tabs W → Rowed W w.heap.size v r f m cap S → Calls Tryz.prog 48 #[v] W fun e w' => e = .returned (.int .i64 E) ∧ Turn W w' r f m cap d1 := fun W v h1 h2 h3 => by
      rw [hE, hd1]
      exact rowed_any S hne W w.heap.size v r f m cap d h1 h2 h3 (fun k hk => ⟨h.fp2 k hk, Lay.fp2 h.k k hk⟩) (by omega) (by omega) (by omega)
    clear hS hE hd1 hnr hws
    by_cases h0 : E = 0
    · rw [if_pos h0]
      subst h0
      have hgI : (x.g : Int) + 1 = ((x.g + 1 : Nat) : Int) := by omega
      obtain ⟨n, hn⟩ : ∃ n, n = x.g + 1 := ⟨_, rfl⟩
      rw [← hn] at hgI ⊢
      have hnz : x.noted 0 = x := noted_zero hd
      have hnb : n < 18446744073709551615 := by omega
      have hnw : IntKind.u64.wrap (n : Int) = (n : Int) := by rw [IntKind.wrap_u64]; omega
      clear hn
      go_enter Tryz.func37, Tryz.ntmps37
      go_wp2_with (first
        | (go_at_call 72; refine hbr.mono ?_; rintro e w1 ⟨v, rfl, hR, kb1⟩)
        | (go_at_call 48; refine (hin w1 v (h.k.next kb1) (h.t.next kb1) hR).mono ?_; rintro e w2 ⟨rfl, hT⟩
           obtain ⟨mm2, m2, g1, g2, hDL2, hF2⟩ := ((h.next kb1).turn hT hrun).before kb1)
        | (go_at_call 52; refine (noted_any w2 q r mm2 x hDL2.l 0).mono ?_; rintro e w3 ⟨rfl, hl3, hF3, -⟩
           rw [hnz] at hl3
           have cg := hl3.c3
           have fg := hl3.fz 3
           have hl4 := hl3.newgen n hnb
           have hF4 := hF3.setCell ⟨q, 3, none⟩ (.int .u64 (n : Int)) (.inl (.inl rfl)))
        | (go_at_call 73; refine (empty_any _ q r mm2 _ hl4).mono ?_; rintro e w5 ⟨rfl, mm5, hmm5, hl5, hF5⟩))
      go_ret
      exact ⟨rfl, Mv.trans g1 g2 hF2 (hDL2.relog hl5 (.inr (Nat.le_trans hF4.size hmm5)) (hF4.trans hF5 (fun _ _ h => h)) rfl rfl)⟩
    · rw [if_neg h0]
      go_enter Tryz.func37, Tryz.ntmps37
      go_wp2_with (first
        | (go_at_call 72; refine hbr.mono ?_; rintro e w1 ⟨v, rfl, hR, kb1⟩)
        | (go_at_call 48; refine (hin w1 v (h.k.next kb1) (h.t.next kb1) hR).mono ?_; rintro e w2 ⟨rfl, hT⟩
           obtain ⟨mm2, m2, g1, g2, hDL2, hF2⟩ := ((h.next kb1).turn hT hrun).before kb1)
        | (go_at_call 52; refine (noted_any w2 q r mm2 x hDL2.l E).mono ?_; rintro e w3 ⟨rfl, hl3, hF3, -⟩))
      go_ret
      exact ⟨rfl, Mv.trans g1 g2 hF2 (hDL2.relog hl3 (.inl rfl) hF3 rfl rfl)⟩
end Go.Proofs.YtndfhmlcfaaaiaaGreatDoor
