import Derived.Test.YtndfhmlcfaaaiaaDoorTake
/- Commit: pages are written, all or none. -/
namespace Go.Proofs.YtndfhmlcfaaaiaaDoor
open Go.RowKit

theorem okP_toI {H : Nat} {W : List Im} (h : okP H (toI W)) : ∀ y ∈ W, y.1 < H := by
  intro y hy
  have := (h.1 (y.1 : Int) (List.mem_map.2 ⟨((y.1 : Int), y.2), List.mem_map.2 ⟨y, hy, rfl⟩, rfl⟩)).2
  omega
/-- Where images lie that are no one's else. -/
def Apt (w : World) (ao : Option Addr) (q r mm f m : Nat) : Prop := ∀ g, ao = some ⟨g, 0, none⟩ → g < w.heap.size ∧ ¬ fp r f m g ∧ ¬ lp q mm g
theorem Apt.mv {w w' : World} {ao : Option Addr} {q r mm f m mm' m' : Nat} (h : Apt w ao q r mm f m) (h1 : mm' = mm ∨ w.heap.size ≤ mm') (h2 : m' = m ∨ w.heap.size ≤ m') (hs : w.heap.size ≤ w'.heap.size) : Apt w' ao q r mm' f m' := by
  intro g hg
  obtain ⟨a, b, c⟩ := h g hg
  refine ⟨by omega, fun hf => ?_, fun hl => ?_⟩
  · rcases hf with e | e | e
    · exact b (.inl e)
    · exact b (.inr (.inl e))
    · rcases h2 with e2 | e2
      · exact b (.inr (.inr (e.trans e2)))
      · omega
  · rcases hl with e | e
    · exact c (.inl e)
    · rcases h1 with e2 | e2
      · exact c (.inr (e.trans e2))
      · omega
theorem Ims.mv {v v' : World} {ao : Option Addr} {l : List (Int × Pg)} {q r mm f m : Nat} (h : Ims v ao l) (ha : Apt v ao q r mm f m) (hF : Fr (fun k => fp r f m k ∨ lp q mm k) v v') : Ims v' ao l :=
  h.fr hF (fun g e hx => by obtain ⟨_, b, c⟩ := ha g e; exact hx.elim b c)
theorem ckp_zero (d : St) (x : Lg) (h : (ckp d x).2.2 = 0) : (ckp d x).2.1.ws = [] ∧ (ckp d x).2.1.L = x.L ∧ (ckp d x).2.1.H = x.H ∧ (ckp d x).2.1.dead = x.dead := by
  unfold ckp at h ⊢
  by_cases h1 : x.ws = []
  · rw [if_pos h1]; exact ⟨h1, rfl, rfl, rfl⟩
  · rw [if_neg h1] at h ⊢
    by_cases h2 : (runs d (ckS x)).2 = 0
    · rw [if_pos h2]; exact ⟨rfl, rfl, rfl, rfl⟩
    · rw [if_neg h2] at h
      exact absurd h h2
theorem ckp_writes (d : St) (x : Lg) (hH : x.H ≤ 16384) : (ckp d x).1.writes ≤ d.writes + 20000 ∧ (ckp d x).1.flushes ≤ d.flushes + 20000 := by
  have hck : (ckS x).length ≤ 20000 := by
    have := chg_len x.H (ov x.ws)
    simp [ckS, bst_len]
    omega
  obtain ⟨h1, h2⟩ := runs_writes (ckS x) d
  unfold ckp
  split
  · exact ⟨by show d.writes ≤ _; omega, by show d.flushes ≤ _; omega⟩
  · split
    · exact ⟨by show (runs d (ckS x)).1.writes ≤ _; omega, by show (runs d (ckS x)).1.flushes ≤ _; omega⟩
    · exact ⟨by show (runs d (ckS x)).1.writes ≤ _; omega, by show (runs d (ckS x)).1.flushes ≤ _; omega⟩
/-- What a record's writing does. -/
def com2 (d : St) (x : Lg) (W : List Im) : St × Lg × Int := if (runs d (cmS x W)).2 = 0 then ((runs d (cmS x W)).1, { x with ws := x.ws ++ [W] }, 0) else ((runs d (cmS x W)).1, x.noted (runs d (cmS x W)).2, (runs d (cmS x W)).2)
/-- What a Commit that is not refused does. -/
def com (d : St) (x : Lg) (W : List Im) : St × Lg × Int := if x.L - tot x.ws < W.length + 2 then (if (ckp d x).2.2 = 0 then com2 (ckp d x).1 (ckp d x).2.1 W else ckp d x) else com2 d x W
theorem cmS_len (x : Lg) (W : List Im) : (cmS x W).length = W.length + 4 := by simp [cmS, cmE_len]
/-- The frames are written, in order. -/
theorem steps_com (w1 w2 : World) (q r mm f m cap : Nat) (x : Lg) (d : St) (W : List Im) (v : Value) (hDL : DL w1 q r mm f m cap x d) (kb : Below w1.heap.size w1 w2) (hR : Rowed w2 w1.heap.size v r f m cap (cmS x W)) (hW : W.length ≤ 120) (hw : d.writes ≤ 950000000) (hf : d.flushes ≤ 950000000) :
    Calls Tryd.prog 34 #[v] w2 fun e w3 => e = .returned (.int .i64 (runs d (cmS x W)).2) ∧ Mv w1 w3 q r mm f m cap x (runs d (cmS x W)).1 := by
  have hl := cmS_len x W
  refine (rowed_any (cmS x W) (by intro e; rw [e] at hl; simp at hl) w2 w1.heap.size v r f m cap d (hDL.k.next kb) (hDL.t.next kb) hR (fun k hk => ⟨hDL.fp2 k hk, Lay.fp2 hDL.k k hk⟩) (by omega) (by omega) (by omega)).mono ?_
  rintro e w3 ⟨rfl, hT⟩
  exact ⟨rfl, ((hDL.next kb).turn hT (runs_n _ d)).before kb⟩
set_option maxRecDepth 100000 in
set_option maxHeartbeats 4000000 in
theorem com_any (w : World) (q r mm f m cap : Nat) (x : Lg) (d : St) (ao : Option Addr) (cp : Nat) (W : List Im) (h : DL w q r mm f m cap x d) (hI : Ims w ao (toI W)) (hA : Apt w ao q r mm f m) (hok : okP x.H (toI W)) (hW1 : 1 ≤ W.length) (hW2 : W.length ≤ min 120 (x.L - 2)) (hd : x.dead = false)
    (hg : x.g < 18446744073709551614) (hw : d.writes ≤ 900000000) (hf : d.flushes ≤ 900000000) :
    Calls Tryd.prog 10 #[.pointer (some ⟨q, 0, none⟩), .slice ao W.length cp] w fun e w' => e = .returned (.int .i64 (com d x W).2.2) ∧ Mv w w' q r mm f m cap (com d x W).2.1 (com d x W).1 := by
  have hL4 := h.l.L4
  have hL3 := h.l.L3
  have hH2 := h.l.H2
  have hus := h.l.used
  have c7 := h.l.c7
  rw [hd] at c7
  have hly := h.l.ly
  have hpH := okP_toI hok
  have hp32 : ∀ y ∈ W, y.1 < 4294967296 := fun y hy => by have := hpH y hy; omega
  have hnm := names_any w x.L x.H ao cp (toI W) hI (by rw [toI_length]; omega) (fun y hy => by
    obtain ⟨z, hz, rfl⟩ := List.mem_map.1 hy
    exact wf64 z.1 (by omega) (by have := hpH z hz; omega))
  rw [decide_eq_true hok, toI_length] at hnm
  have hmo := fun U => most_any x.L x.H hL4 (by omega) U
  obtain ⟨mo, hmo2⟩ : ∃ mo, mo = min 120 (x.L - 2) := ⟨_, rfl⟩
  rw [← hmo2] at hmo hW2
  have hW120 : W.length ≤ 120 := by omega
  have hWL : W.length + 2 ≤ x.L := by omega
  have n0 : ¬ (W.length : Int) = 0 := by omega
  have n1 : (W.length : Int) ≤ (mo : Int) := by omega
  obtain ⟨rm, hrm⟩ : ∃ rm, rm = x.L - tot x.ws := ⟨_, rfl⟩
  have hro := fun (U : World) (hU : LL U q r mm x) => room_any U q r mm x hU hd
  rw [← hrm] at hro
  unfold com
  rw [← hrm]
  clear hmo2
  by_cases hsp : rm < W.length + 2
  · rw [if_pos hsp]
    have nI : (rm : Int) < (W.length : Int) + 2 := by omega
    have hkw := ckp_writes d x hH2
    have hkz := ckp_zero d x
    have hck := fun (U : World) (hU : DL U q r mm f m cap x d) => ckp_any U q r mm f m cap x d hU hd hg hw hf
    obtain ⟨K, hK⟩ : ∃ K, K = ckp d x := ⟨_, rfl⟩
    rw [← hK] at hkw hkz hck ⊢
    obtain ⟨dk, xk, Ek⟩ := K
    dsimp only at hkw hkz hck ⊢
    clear hK
    by_cases hE0 : Ek = 0
    · obtain ⟨z1, z2, z3, z4⟩ := hkz hE0
      rw [if_pos hE0]
      subst hE0
      clear hkz
      rw [hd] at z4
      have hpHk : ∀ y ∈ W, y.1 < xk.H := by rw [z3]; exact hpH
      have z5 : tot xk.ws + (W.length + 2) ≤ xk.L := by rw [z1, z2]; simp only [tot]; omega
      unfold com2
      have hst := fun (w1 w2 : World) (mm8 m8 : Nat) (v : Value) hDL kb hR => steps_com w1 w2 q r mm8 f m8 cap xk dk W v hDL kb hR hW120 (by omega) (by omega)
      obtain ⟨E, hE⟩ : ∃ E, E = (runs dk (cmS xk W)).2 := ⟨_, rfl⟩
      obtain ⟨d1, hd1⟩ : ∃ d1, d1 = (runs dk (cmS xk W)).1 := ⟨_, rfl⟩
      rw [← hE, ← hd1] at hst ⊢
      clear hE hd1 z1 z2 z3
      by_cases h0 : E = 0
      · rw [if_pos h0]
        subst h0
        have hnz : xk.noted 0 = xk := noted_zero z4
        clear z4
        go_enter Tryd.func10, Tryd.ntmps10
        go_wp2_with (first
          | (refine wpList_load_mid rfl 79 _ rfl q 1 rfl (ly x.L x.H) _ hly Tryd.underlying79 rfl (by kernel_rfl) ?_)
          | (go_at_call 40; refine hnm.mono ?_; rintro e w1 ⟨rfl, kb1⟩
             have hD1 := h.next kb1
             have hly := hD1.l.ly)
          | (go_at_call 41; refine (hmo _).mono ?_; rintro e w2 ⟨rfl, kb2⟩
             have hD2 := hD1.next kb2
             have c7 := hD2.l.c7
             rw [hd] at c7)
          | (go_at_call 14; refine (hro _ hD2.l).mono ?_; rintro e w3 ⟨rfl, kb3⟩
             have hD3 := hD2.next kb3
             have k13 := (kb1.trans (kb2.mono kb1.size)).trans (kb3.mono (Nat.le_trans kb1.size kb2.size))
             have hI3 := hI.next k13)
          | (go_at_call 12; refine (hck w3 hD3).mono ?_; rintro e w8 ⟨rfl, mm8, m8, g8, g9, hD8, hF8⟩
             have hA3 := hA.mv (.inl rfl) (.inl rfl) k13.size
             have hI8 := hI3.mv hA3 hF8
             have hA8 := hA3.mv g8 g9 hF8.size)
          | (go_at_call 43; refine (committing_any _ q r mm8 f m8 cap xk ao cp W hD8.l hI8 hD8.t hW120 hp32 (fun k hk => ⟨hD8.fp2 k hk, Lay.fp2 hD8.k k hk⟩) hD8.apart).mono ?_; rintro e w4 ⟨v, rfl, hR, kb4⟩)
          | (go_at_call 34; refine (hst w8 w4 mm8 m8 v hD8 kb4 hR).mono ?_; rintro e w5 ⟨rfl, mm5, m5, g5, g6, hD5, hF5⟩)
          | (go_at_call 42; refine (noted_any w5 q r mm5 xk hD5.l 0).mono ?_; rintro e w6 ⟨rfl, hl6, hF6, hs6⟩
             rw [hnz] at hl6
             have hI5 := hI8.mv hA8 hF5
             have hA5 := hA8.mv g5 g6 hF5.size
             have hI6 := hI5.fr hF6 (fun g e hx => (hA5 g e).2.2 hx))
          | (go_at_call 44; refine (take_any w6 q r mm5 xk ao cp W hl6 hI6 hW120 hpHk (fun g e => (hA5 g e).2.2) z5).mono ?_; rintro e w7 ⟨rfl, hl7, hF7⟩))
        go_ret
        exact ⟨rfl, Mv.before k13 (Mv.trans g8 g9 hF8 (Mv.trans g5 g6 hF5 (hD5.relog hl7 (.inl rfl) (hF6.trans hF7 (fun _ _ h => h)) rfl rfl)))⟩
      · rw [if_neg h0]
        go_enter Tryd.func10, Tryd.ntmps10
        go_wp2_with (first
          | (refine wpList_load_mid rfl 79 _ rfl q 1 rfl (ly x.L x.H) _ hly Tryd.underlying79 rfl (by kernel_rfl) ?_)
          | (go_at_call 40; refine hnm.mono ?_; rintro e w1 ⟨rfl, kb1⟩
             have hD1 := h.next kb1
             have hly := hD1.l.ly)
          | (go_at_call 41; refine (hmo _).mono ?_; rintro e w2 ⟨rfl, kb2⟩
             have hD2 := hD1.next kb2
             have c7 := hD2.l.c7
             rw [hd] at c7)
          | (go_at_call 14; refine (hro _ hD2.l).mono ?_; rintro e w3 ⟨rfl, kb3⟩
             have hD3 := hD2.next kb3
             have k13 := (kb1.trans (kb2.mono kb1.size)).trans (kb3.mono (Nat.le_trans kb1.size kb2.size))
             have hI3 := hI.next k13)
          | (go_at_call 12; refine (hck w3 hD3).mono ?_; rintro e w8 ⟨rfl, mm8, m8, g8, g9, hD8, hF8⟩
             have hA3 := hA.mv (.inl rfl) (.inl rfl) k13.size
             have hI8 := hI3.mv hA3 hF8
             have hA8 := hA3.mv g8 g9 hF8.size)
          | (go_at_call 43; refine (committing_any _ q r mm8 f m8 cap xk ao cp W hD8.l hI8 hD8.t hW120 hp32 (fun k hk => ⟨hD8.fp2 k hk, Lay.fp2 hD8.k k hk⟩) hD8.apart).mono ?_; rintro e w4 ⟨v, rfl, hR, kb4⟩)
          | (go_at_call 34; refine (hst w8 w4 mm8 m8 v hD8 kb4 hR).mono ?_; rintro e w5 ⟨rfl, mm5, m5, g5, g6, hD5, hF5⟩)
          | (go_at_call 42; refine (noted_any w5 q r mm5 xk hD5.l E).mono ?_; rintro e w6 ⟨rfl, hl6, hF6, -⟩))
        go_ret
        exact ⟨rfl, Mv.before k13 (Mv.trans g8 g9 hF8 (Mv.trans g5 g6 hF5 (hD5.relog hl6 (.inl rfl) hF6 rfl rfl)))⟩
    · rw [if_neg hE0]
      go_enter Tryd.func10, Tryd.ntmps10
      go_wp2_with (first
        | (refine wpList_load_mid rfl 79 _ rfl q 1 rfl (ly x.L x.H) _ hly Tryd.underlying79 rfl (by kernel_rfl) ?_)
        | (go_at_call 40; refine hnm.mono ?_; rintro e w1 ⟨rfl, kb1⟩
           have hD1 := h.next kb1
           have hly := hD1.l.ly)
        | (go_at_call 41; refine (hmo _).mono ?_; rintro e w2 ⟨rfl, kb2⟩
           have hD2 := hD1.next kb2
           have c7 := hD2.l.c7
           rw [hd] at c7)
        | (go_at_call 14; refine (hro _ hD2.l).mono ?_; rintro e w3 ⟨rfl, kb3⟩
           have hD3 := hD2.next kb3
           have k13 := (kb1.trans (kb2.mono kb1.size)).trans (kb3.mono (Nat.le_trans kb1.size kb2.size))
           have hI3 := hI.next k13)
        | (go_at_call 12; refine (hck w3 hD3).mono ?_; rintro e w8 ⟨rfl, hM8⟩))
      go_ret
      exact ⟨rfl, Mv.before k13 hM8⟩
  · rw [if_neg hsp]
    have nI : (W.length : Int) + 2 ≤ (rm : Int) := by omega
    unfold com2
    have hst := fun (w1 w2 : World) (v : Value) hDL kb hR => steps_com w1 w2 q r mm f m cap x d W v hDL kb hR hW120 (by omega) (by omega)
    obtain ⟨E, hE⟩ : ∃ E, E = (runs d (cmS x W)).2 := ⟨_, rfl⟩
    obtain ⟨d1, hd1⟩ : ∃ d1, d1 = (runs d (cmS x W)).1 := ⟨_, rfl⟩
    rw [← hE, ← hd1] at hst ⊢
    clear hE hd1
    by_cases h0 : E = 0
    · rw [if_pos h0]
      subst h0
      have hnz : x.noted 0 = x := noted_zero hd
      go_enter Tryd.func10, Tryd.ntmps10
      go_wp2_with (first
        | (refine wpList_load_mid rfl 79 _ rfl q 1 rfl (ly x.L x.H) _ hly Tryd.underlying79 rfl (by kernel_rfl) ?_)
        | (go_at_call 40; refine hnm.mono ?_; rintro e w1 ⟨rfl, kb1⟩
           have hD1 := h.next kb1
           have hly := hD1.l.ly)
        | (go_at_call 41; refine (hmo _).mono ?_; rintro e w2 ⟨rfl, kb2⟩
           have hD2 := hD1.next kb2
           have c7 := hD2.l.c7
           rw [hd] at c7)
        | (go_at_call 14; refine (hro _ hD2.l).mono ?_; rintro e w3 ⟨rfl, kb3⟩
           have hD3 := hD2.next kb3
           have k13 := (kb1.trans (kb2.mono kb1.size)).trans (kb3.mono (Nat.le_trans kb1.size kb2.size))
           have hI3 := hI.next k13)
        | (go_at_call 43; refine (committing_any _ q r mm f m cap x ao cp W hD3.l hI3 hD3.t hW120 hp32 (fun k hk => ⟨hD3.fp2 k hk, Lay.fp2 hD3.k k hk⟩) hD3.apart).mono ?_; rintro e w4 ⟨v, rfl, hR, kb4⟩)
        | (go_at_call 34; refine (hst w3 w4 v hD3 kb4 hR).mono ?_; rintro e w5 ⟨rfl, mm5, m5, g5, g6, hD5, hF5⟩)
        | (go_at_call 42; refine (noted_any w5 q r mm5 x hD5.l 0).mono ?_; rintro e w6 ⟨rfl, hl6, hF6, hs6⟩
           rw [hnz] at hl6
           have hA3 := hA.mv (.inl rfl) (.inl rfl) k13.size
           have hI5 := hI3.mv hA3 hF5
           have hA5 := hA3.mv g5 g6 hF5.size
           have hI6 := hI5.fr hF6 (fun g e hx => (hA5 g e).2.2 hx))
        | (go_at_call 44; refine (take_any w6 q r mm5 x ao cp W hl6 hI6 hW120 hpH (fun g e => (hA5 g e).2.2) (by omega)).mono ?_; rintro e w7 ⟨rfl, hl7, hF7⟩))
      go_ret
      exact ⟨rfl, Mv.before k13 (Mv.trans g5 g6 hF5 (hD5.relog hl7 (.inl rfl) (hF6.trans hF7 (fun _ _ h => h)) rfl rfl))⟩
    · rw [if_neg h0]
      go_enter Tryd.func10, Tryd.ntmps10
      go_wp2_with (first
        | (refine wpList_load_mid rfl 79 _ rfl q 1 rfl (ly x.L x.H) _ hly Tryd.underlying79 rfl (by kernel_rfl) ?_)
        | (go_at_call 40; refine hnm.mono ?_; rintro e w1 ⟨rfl, kb1⟩
           have hD1 := h.next kb1
           have hly := hD1.l.ly)
        | (go_at_call 41; refine (hmo _).mono ?_; rintro e w2 ⟨rfl, kb2⟩
           have hD2 := hD1.next kb2
           have c7 := hD2.l.c7
           rw [hd] at c7)
        | (go_at_call 14; refine (hro _ hD2.l).mono ?_; rintro e w3 ⟨rfl, kb3⟩
           have hD3 := hD2.next kb3
           have k13 := (kb1.trans (kb2.mono kb1.size)).trans (kb3.mono (Nat.le_trans kb1.size kb2.size))
           have hI3 := hI.next k13)
        | (go_at_call 43; refine (committing_any _ q r mm f m cap x ao cp W hD3.l hI3 hD3.t hW120 hp32 (fun k hk => ⟨hD3.fp2 k hk, Lay.fp2 hD3.k k hk⟩) hD3.apart).mono ?_; rintro e w4 ⟨v, rfl, hR, kb4⟩)
        | (go_at_call 34; refine (hst w3 w4 v hD3 kb4 hR).mono ?_; rintro e w5 ⟨rfl, mm5, m5, g5, g6, hD5, hF5⟩)
        | (go_at_call 42; refine (noted_any w5 q r mm5 x hD5.l E).mono ?_; rintro e w6 ⟨rfl, hl6, hF6, -⟩))
      go_ret
      exact ⟨rfl, Mv.before k13 (Mv.trans g5 g6 hF5 (hD5.relog hl6 (.inl rfl) hF6 rfl rfl))⟩
end Go.Proofs.YtndfhmlcfaaaiaaDoor

/- Commits that are refused, or have nothing to do. -/
namespace Go.Proofs.YtndfhmlcfaaaiaaDoor
open Go.RowKit

theorem com_nil (w : World) (v : Value) : Calls Tryd.prog 10 #[.pointer none, v] w fun e w' => e = .returned (.int .i64 1) ∧ w = w' := by
  go_enter Tryd.func10, Tryd.ntmps10
  go_wp2
  go_ret
  exact ⟨rfl, rfl⟩
/-- What a Commit of these images answers, if it does not write. -/
def comR (x : Lg) (l : List (Int × Pg)) : Int := if ¬ okP x.H l then 2 else if l = [] then 0 else if min 120 (x.L - 2) < l.length then 82 else 6
set_option maxRecDepth 100000 in
set_option maxHeartbeats 800000 in
theorem com_ref (w : World) (q r mm : Nat) (x : Lg) (ao : Option Addr) (cp : Nat) (l : List (Int × Pg)) (h : LL w q r mm x) (hI : Ims w ao l) (hl : l.length ≤ 100000) (hwf : ∀ y ∈ l, (Lit.int .i64 y.1).wf = true)
    (hno : ¬ okP x.H l ∨ l = [] ∨ min 120 (x.L - 2) < l.length ∨ x.dead = true) :
    Calls Tryd.prog 10 #[.pointer (some ⟨q, 0, none⟩), .slice ao l.length cp] w fun e w' => e = .returned (.int .i64 (comR x l)) ∧ Below w.heap.size w w' := by
  have hL4 := h.L4
  have hL3 := h.L3
  have hly := h.ly
  have hnm := names_any w x.L x.H ao cp l hI hl hwf
  have hmo := fun U => most_any x.L x.H hL4 (by omega) U
  unfold comR
  obtain ⟨mo, hmo2⟩ : ∃ mo, mo = min 120 (x.L - 2) := ⟨_, rfl⟩
  rw [← hmo2] at hmo hno ⊢
  clear hmo2
  by_cases hok : okP x.H l
  · rw [decide_eq_true hok] at hnm
    rw [if_neg (fun h => h hok)]
    by_cases hz : l = []
    · rw [if_pos hz]
      have n0 : (l.length : Int) = 0 := by rw [hz]; rfl
      clear hno hz
      go_enter Tryd.func10, Tryd.ntmps10
      go_wp2_with (first
        | (refine wpList_load_mid rfl 79 _ rfl q 1 rfl (ly x.L x.H) _ hly Tryd.underlying79 rfl (by kernel_rfl) ?_)
        | (go_at_call 40; refine hnm.mono ?_; rintro e w1 ⟨rfl, kb1⟩))
      go_ret
      exact ⟨rfl, kb1⟩
    · rw [if_neg hz]
      have hpos : 0 < l.length := List.length_pos_iff.2 hz
      have n0 : ¬ (l.length : Int) = 0 := by omega
      by_cases hb : mo < l.length
      · rw [if_pos hb]
        have n1 : (mo : Int) < (l.length : Int) := by omega
        clear hno
        go_enter Tryd.func10, Tryd.ntmps10
        go_wp2_with (first
          | (refine wpList_load_mid rfl 79 _ rfl q 1 rfl (ly x.L x.H) _ hly Tryd.underlying79 rfl (by kernel_rfl) ?_)
          | (go_at_call 40; refine hnm.mono ?_; rintro e w1 ⟨rfl, kb1⟩
             have hD1 := h.next kb1
             have hly := hD1.ly)
          | (go_at_call 41; refine (hmo _).mono ?_; rintro e w2 ⟨rfl, kb2⟩))
        go_ret
        exact ⟨rfl, kb1.trans (kb2.mono kb1.size)⟩
      · rw [if_neg hb]
        have n1 : (l.length : Int) ≤ (mo : Int) := by omega
        have hd : x.dead = true := by
          rcases hno with h | h | h | h
          · exact absurd hok h
          · exact absurd h hz
          · exact absurd h hb
          · exact h
        clear hno
        go_enter Tryd.func10, Tryd.ntmps10
        go_wp2_with (first
          | (refine wpList_load_mid rfl 79 _ rfl q 1 rfl (ly x.L x.H) _ hly Tryd.underlying79 rfl (by kernel_rfl) ?_)
          | (go_at_call 40; refine hnm.mono ?_; rintro e w1 ⟨rfl, kb1⟩
             have hD1 := h.next kb1
             have hly := hD1.ly)
          | (go_at_call 41; refine (hmo _).mono ?_; rintro e w2 ⟨rfl, kb2⟩
             have hD2 := hD1.next kb2
             have c7 := hD2.c7
             rw [hd] at c7))
        go_ret
        exact ⟨rfl, kb1.trans (kb2.mono kb1.size)⟩
  · rw [decide_eq_false hok] at hnm
    rw [if_pos hok]
    clear hno
    go_enter Tryd.func10, Tryd.ntmps10
    go_wp2_with (first
      | (refine wpList_load_mid rfl 79 _ rfl q 1 rfl (ly x.L x.H) _ hly Tryd.underlying79 rfl (by kernel_rfl) ?_)
      | (go_at_call 40; refine hnm.mono ?_; rintro e w1 ⟨rfl, kb1⟩))
    go_ret
    exact ⟨rfl, kb1⟩
end Go.Proofs.YtndfhmlcfaaaiaaDoor
