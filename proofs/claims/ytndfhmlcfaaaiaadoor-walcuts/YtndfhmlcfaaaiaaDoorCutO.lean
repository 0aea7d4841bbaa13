import Derived.Test.YtndfhmlcfaaaiaaDoorMod
import Derived.Test.YtndfhmlcfaaaiaaDoorBst
import Derived.Test.YtndfhmlcfaaaiaaDoorFits
/- A sector of the log rots: what lies there still, as mathematics. -/
namespace Go.Proofs.YtndfhmlcfaaaiaaDoor

/-- What an Open wants of what lies there. -/
structure RepW (F : Nat → Sec) (L H g : Nat) (ws : List (List Im)) (pg : Nat → Pg) : Prop where
  g1 : 1 ≤ g
  g2 : g < 18446744073709551000
  head : F (g % 2) = hdF L H g
  other : isF (F ((g + 1) % 2)) → gin (F ((g + 1) % 2)) < g
  lie : Lie F L H g 0 0 ws
  nor : NoR F L H g (0 + ws.length) (0 + tot ws)
  homes : ∀ p, p < H → ∃ g' x, F (2 + L + p) = hmF g' p x ∧ (ov ws p = none → x = pg p)
  over : ∀ p x, ov ws p = some x → x = pg p
/-- Pages behind records. -/
def onL (pg : Nat → Pg) (ws : List (List Im)) : Nat → Pg := ws.foldl on1 pg
theorem onL_snoc (pg : Nat → Pg) (ws : List (List Im)) (w : List Im) : onL pg (ws ++ [w]) = on1 (onL pg ws) w := by simp [onL]
theorem onL_cases (pg : Nat → Pg) (p : Nat) : ∀ (ws : List (List Im)) (W : Nat → Option Pg) (P : Nat → Pg), ((W p = none ∧ P p = pg p) ∨ W p = some (P p)) → ((ws.foldl ov1 W) p = none ∧ (ws.foldl on1 P) p = pg p) ∨ (ws.foldl ov1 W) p = some ((ws.foldl on1 P) p) := by
  intro ws
  induction ws with
  | nil => intro W P h; exact h
  | cons w ws ih =>
    intro W P h
    refine ih (ov1 W w) (on1 P w) ?_
    rcases ov1_cases W P p w with ⟨a, b, c⟩ | a | ⟨a, b⟩
    · rcases h with ⟨h1, h2⟩ | h1
      · exact .inl ⟨b, c.trans h2⟩
      · rw [a] at h1; cases h1
    · exact .inr a
    · rcases h with ⟨h1, h2⟩ | h1
      · exact .inl ⟨a.trans h1, b.trans h2⟩
      · exact .inr (by rw [a, b]; exact h1)
theorem ov_onL (pg : Nat → Pg) (ws : List (List Im)) (p : Nat) : (ov ws p = none ∧ onL pg ws p = pg p) ∨ ov ws p = some (onL pg ws p) := onL_cases pg p ws (fun _ => none) pg (.inl ⟨rfl, rfl⟩)
theorem Lie.take {F : Nat → Sec} {L H g : Nat} : ∀ {ws : List (List Im)} {s u : Nat} (r : Nat), Lie F L H g s u ws → Lie F L H g s u (ws.take r)
  | [], _, _, r, _ => by simp [Lie]
  | w :: ws, s, u, 0, _ => trivial
  | w :: ws, s, u, r + 1, h => ⟨h.1, h.2.1, Lie.take r h.2.2⟩
theorem Lie.nth {F : Nat → Sec} {L H g : Nat} : ∀ {ws : List (List Im)} {s u : Nat} (r : Nat) (w : List Im), ws[r]? = some w → Lie F L H g s u ws → okR L H (u + tot (ws.take r)) w ∧ isR F g (s + r) (u + tot (ws.take r)) w
  | [], _, _, r, w, h, _ => by simp at h
  | a :: ws, s, u, 0, w, h, hl => by
    simp only [List.getElem?_cons_zero, Option.some.injEq] at h
    subst h
    exact ⟨by simpa [tot] using hl.1, by simpa [tot] using hl.2.1⟩
  | a :: ws, s, u, r + 1, w, h, hl => by
    have h1 := Lie.nth r w (by simpa using h) hl.2.2
    simp only [List.take_succ_cons, tot]
    refine ⟨?_, ?_⟩
    · have := h1.1; rwa [show u + (a.length + 2) + tot (ws.take r) = u + (a.length + 2 + tot (ws.take r)) by omega] at this
    · have := h1.2; rwa [show s + 1 + r = s + (r + 1) by omega, show u + (a.length + 2) + tot (ws.take r) = u + (a.length + 2 + tot (ws.take r)) by omega] at this
theorem tot_take_succ {ws : List (List Im)} {r : Nat} {w : List Im} (h : ws[r]? = some w) : tot (ws.take (r + 1)) = tot (ws.take r) + (w.length + 2) := by
  rw [List.take_add_one, h]
  exact tot_snoc _ _
/-- Each frame of a record is a frame. -/
theorem isF_rf (g s : Nat) (w : List Im) (i : Nat) (hg : g < 18446744073709551616) (hs : s < 18446744073709551616) (hw : w.length ≤ 120) (hi : i < w.length + 2) : isF (rf g s w i) := by
  unfold rf
  split
  · exact isF_frm _ _ _ _ _ hg hs (by omega)
  · split
    · exact isF_frm _ _ _ _ _ hg hs (by omega)
    · exact isF_frm _ _ _ _ _ hg hs (by omega)
/-- A rotten sector within record number r: no record is there any more. -/
theorem nor_in {F : Nat → Sec} {L H g : Nat} {ws : List (List Im)} (hL : L ≤ 4000) (hg : g < 18446744073709551616) (hl : Lie F L H g 0 0 ws) (r : Nat) (w : List Im) (hw : ws[r]? = some w) (i : Nat) (h1 : tot (ws.take r) ≤ i) (h2 : i < tot (ws.take r) + (w.length + 2)) (t : Sec) (ht : BurstD (F (2 + i)) t) :
    NoR (upd F (2 + i) t) L H g (0 + r) (0 + tot (ws.take r)) := by
  obtain ⟨o1, o2⟩ := hl.nth r w hw
  simp only [Nat.zero_add] at o1 o2 ⊢
  have hrl : r < ws.length := (List.getElem?_eq_some_iff.1 hw).1
  have hroom := Lie.room (Nat.zero_le _) hl
  have hlen := hl.len
  obtain ⟨u, hu⟩ : ∃ u, u = tot (ws.take r) := ⟨_, rfl⟩
  rw [← hu] at o1 o2 h1 h2 ⊢
  obtain ⟨j, hj⟩ : ∃ j, i = u + j := ⟨i - u, by omega⟩
  have hFi : F (2 + i) = rf g r w j := by
    have := o2 j (by omega)
    rwa [show 2 + u + j = 2 + i by omega] at this
  have hnF : ¬ isF t := burst_notF (by rw [hFi]; exact isF_rf _ _ _ _ hg (by omega) o1.2.1 (by omega)) ht
  intro w' ho' hi'
  have hn : w'.length = w.length ∨ j = 0 := by
    by_cases h0 : j = 0
    · exact .inr h0
    · left
      have e1 := hi' 0 (by omega)
      have e2 := o2 0 (by omega)
      rw [Nat.add_zero] at e1 e2
      rw [upd_ne _ _ _ _ (by omega), e2, rf, if_pos rfl, rf, if_pos rfl] at e1
      have e3 := congrArg xin e1
      rw [xin_frm, xin_frm, Nat.mod_eq_of_lt (by have := o1.2.1; omega), Nat.mod_eq_of_lt (by have := ho'.2.1; omega)] at e3
      exact e3.symm
  have hjl : j < w'.length + 2 := by
    rcases hn with e | e
    · omega
    · omega
  have e1 := hi' j hjl
  rw [show 2 + u + j = 2 + i by omega, upd_same] at e1
  exact hnF (by rw [e1]; exact isF_rf _ _ _ _ hg (by omega) ho'.2.1 hjl)
/-- A rotten sector behind all records: none comes up. -/
theorem nor_out {F : Nat → Sec} {L H g : Nat} {u s : Nat} (hg : g < 18446744073709551616) (hs : s < 18446744073709551616) (hz : ∀ i, u ≤ i → i < L → F (2 + i) = zs) (i : Nat) (t : Sec) : NoR (upd F (2 + i) t) L H g s u := by
  intro w ho hi
  obtain ⟨h1, h2, h3, _⟩ := ho
  have hp : 0 < w.length := List.length_pos_iff.2 h1
  have h0 := hi 0 (by omega)
  have h9 := hi 1 (by omega)
  rw [Nat.add_zero] at h0
  by_cases e : i = u
  · rw [upd_ne _ _ _ _ (by omega), show 2 + u + 1 = 2 + (u + 1) by omega, hz (u + 1) (by omega) (by omega)] at h9
    exact zs_notF (by rw [h9]; exact isF_rf _ _ _ _ hg hs h2 (by omega))
  · rw [upd_ne _ _ _ _ (by omega), hz u (by omega) (by omega)] at h0
    exact zs_notF (by rw [h0]; exact isF_rf _ _ _ _ hg hs h2 (by omega))
/-- A sector of the log rots: what was committed ahead of its record is there, nothing of that record or behind it. -/
theorem cut_rep {F : Nat → Sec} {L H g : Nat} {ws : List (List Im)} {pg : Nat → Pg} (hL : L ≤ 4000) (h : Rep F L H g ws (onL pg ws)) (hhome : ∀ p, p < H → ∃ g', F (2 + L + p) = hmF g' p (pg p)) (hz : ∀ i, tot ws ≤ i → i < L → F (2 + i) = zs) (i : Nat) (hi : i < L) (t : Sec) (ht : BurstD (F (2 + i)) t)
    (r : Nat) (hr : r ≤ ws.length) (h1 : tot (ws.take r) ≤ i) (h2 : ∀ w, ws[r]? = some w → i < tot (ws.take r) + (w.length + 2)) :
    RepW (upd F (2 + i) t) L H g (ws.take r) (onL pg (ws.take r)) := by
  have hg2 := h.g2
  have hlen := h.lie.len
  have hlt := h.len
  refine ⟨h.g1, h.g2, by rw [upd_ne _ _ _ _ (by omega)]; exact h.head, by rw [upd_ne _ _ _ _ (by omega)]; exact h.other, (h.lie.take r).congr (fun k k1 k2 => upd_ne _ _ _ _ (by omega)), ?_, fun p hp => ?_, fun p x hx => ?_⟩
  · rw [List.length_take, Nat.min_eq_left hr]
    cases hw : ws[r]? with
    | some w => exact nor_in hL (by omega) h.lie r w hw i h1 (h2 w hw) t ht
    | none =>
      have e : r = ws.length := by have := List.getElem?_eq_none_iff.1 hw; omega
      have e2 : ws.take r = ws := by rw [e]; exact List.take_length
      rw [e2] at h1 ⊢
      exact nor_out (by omega) (by omega) (fun k k1 k2 => hz k (by omega) k2) i t
  · obtain ⟨g', e⟩ := hhome p hp
    refine ⟨g', pg p, by rw [upd_ne _ _ _ _ (by omega)]; exact e, fun hn => ?_⟩
    rcases ov_onL pg (ws.take r) p with ⟨_, b⟩ | a
    · exact b.symm
    · rw [a] at hn; cases hn
  · rcases ov_onL pg (ws.take r) p with ⟨a, _⟩ | a
    · rw [a] at hx; cases hx
    · rw [a] at hx; exact (Option.some.inj hx).symm
end Go.Proofs.YtndfhmlcfaaaiaaDoor

/- A log is opened over a log that rots: what is read. -/
namespace Go.Proofs.YtndfhmlcfaaaiaaDoor
open Go.RowKit

/-- The head that holds is the one of what lies there. -/
theorem hol_repW {d : St} {L H g : Nat} {ws : List (List Im)} {pg : Nat → Pg} (h : RepW d.at L H g ws pg) (hL3 : 3 ≤ L) (hL4 : L ≤ 4000) (hH1 : 1 ≤ H) (hn : d.n = 2 + L + H) : hol d 2 = (L, H, g) := by
  have g1 := h.g1
  have g2 := h.g2
  have hin : gin (hdF L H g) = g := by unfold hdF; rw [gin_frm]; exact Nat.mod_eq_of_lt (by omega)
  have hlw : Lw (hdF L H g) = L := Lw_hdF L H g (by omega)
  have hg : hdOK (d.at (g % 2)) (g % 2) d.n := by
    rw [h.head]
    unfold hdOK
    rw [hin, hlw]
    exact ⟨hL3, hL4, by omega, by omega, rfl, by rw [show d.n - 2 - L = H by omega]⟩
  have hv : (Lw (d.at (g % 2)), d.n - 2 - Lw (d.at (g % 2)), gin (d.at (g % 2))) = (L, H, g) := by rw [h.head, hin, hlw, show d.n - 2 - L = H by omega]
  have hgg : gin (d.at (g % 2)) = g := by rw [h.head, hin]
  have ho : hdOK (d.at ((g + 1) % 2)) ((g + 1) % 2) d.n → gin (d.at ((g + 1) % 2)) < g := by
    intro hk
    refine h.other ?_
    rw [hk.2.2.2.2.2]
    unfold hdF
    exact isF_frm _ _ _ _ _ (gin_lt _) (by omega) (by omega)
  show hol d (1 + 1) = _
  unfold hol
  rcases Nat.mod_two_eq_zero_or_one g with e | e
  · have e2 : (g + 1) % 2 = 1 := by omega
    rw [e] at hg hv hgg
    rw [e2] at ho
    have h1 : hol d 1 = (L, H, g) := by
      show hol d (0 + 1) = _
      unfold hol
      rw [if_pos ⟨hg, by rw [hgg]; show 0 < g; omega⟩]
      exact hv
    rw [h1, if_neg]
    rintro ⟨a, b⟩
    have := ho a
    dsimp only at b
    omega
  · have e2 : (g + 1) % 2 = 0 := by omega
    rw [e] at hg hv hgg
    rw [e2] at ho
    have h1 : (hol d 1).2.2 < g := by
      show (hol d (0 + 1)).2.2 < _
      unfold hol
      by_cases hc : hdOK (d.at 0) 0 d.n ∧ (hol d 0).2.2 < gin (d.at 0)
      · rw [if_pos hc]; exact ho hc.1
      · rw [if_neg hc]; show 0 < g; omega
    rw [if_pos ⟨hg, by rw [hgg]; exact h1⟩]
    exact hv
/-- Each page reads so. -/
structure RdOk (d : St) (x : Lg) (pg : Nat → Pg) : Prop where
  on : d.off = false
  alive : x.dead = false
  rd : ∀ p, p < x.H → rdR d x (p : Int) = (pg p, 0)
theorem RdOk.of {d : St} {x : Lg} {k : Nat} {pg : Nat → Pg} (h : Lv d x k pg) : RdOk d x pg := ⟨h.on, h.alive, fun p hp => rd_sem h p hp⟩
theorem rd_home {d : St} {x : Lg} {p g' : Nat} {y : Pg} (hp : p < x.H) (hws : x.ws = []) (h : d.at (2 + x.L + p) = hmF g' p y) : rdR d x (p : Int) = (y, 0) := by
  unfold rdR
  rw [if_neg (by omega), Int.toNat_natCast, hws]
  show hmR d x p = _
  unfold hmR hmOf
  rw [h]
  have hg : hmF (gin (hmF g' p y)) p (pin (hmF g' p y)) = hmF g' p y := by
    unfold hmF
    rw [pin_frm, gin_frm]
    exact frm_mod _ _ _ _ _
  rw [if_pos hg.symm]
  unfold hmF
  rw [pin_frm]
theorem ckp_semW (d : St) (x : Lg) (pg : Nat → Pg) (hon : d.off = false) (hw : d.waits = fun _ => none) (ha : d.armed = 0) (hn : d.n = 2 + x.L + x.H) (hal : x.dead = false) (h : RepW d.at x.L x.H x.g x.ws pg) :
    (ckp d x).2.2 = 0 ∧ RdOk (ckp d x).1 (ckp d x).2.1 pg ∧ (ckp d x).2.1.L = x.L ∧ (ckp d x).2.1.H = x.H := by
  unfold ckp
  by_cases hws : x.ws = []
  · rw [if_pos hws]
    refine ⟨rfl, ⟨hon, hal, fun p hp => ?_⟩, rfl, rfl⟩
    obtain ⟨g', y, h1, h2⟩ := h.homes p hp
    rw [rd_home hp hws h1, h2 (by rw [hws]; rfl)]
  · rw [if_neg hws]
    have hat := at_flushed hw
    obtain ⟨F, hF⟩ : ∃ F, F = d.at := ⟨_, rfl⟩
    rw [← hF] at h
    obtain ⟨G, hG⟩ : ∃ G, G = (eff F F (bst x.L x.g (ov x.ws) (chg x.H (ov x.ws)))).2 := ⟨_, rfl⟩
    have hBk : Bk F x.L x.H x.g (ov x.ws) G := by rw [hG]; exact eff_inv _ _ _ (fun i => .inl rfl) bk_step
    have heff : eff F F (ckS x) = (upd G ((x.g + 1) % 2) (hdF x.L x.H (x.g + 1)), upd G ((x.g + 1) % 2) (hdF x.L x.H (x.g + 1))) := by
      unfold ckS
      rw [eff_append, ← hG]
      rfl
    have hin : ∀ s ∈ ckS x, inN d.n s := by
      intro s hs
      unfold ckS at hs
      rcases List.mem_append.1 hs with h1 | h1
      · exact inN_bst hn s h1
      · simp only [List.mem_cons, List.not_mem_nil, or_false] at h1
        rcases h1 with rfl | rfl | rfl
        · trivial
        · show (x.g + 1) % 2 < d.n
          omega
        · trivial
    rcases runs_sem (fun _ _ => True) (ckS x) d F F hon (by rw [hF, hat]) hF.symm hin (safe_true _ _ _) with ⟨e1, e2, e3, e4, e5, e6⟩ | ⟨e1, e2, e3, e4, e5, e6⟩
    · rw [if_pos e1]
      refine ⟨rfl, ⟨e2, hal, fun p hp => ?_⟩, rfl, rfl⟩
      have hp' : p < x.H := hp
      have hv : (runs d (ckS x)).1.at (2 + x.L + p) = G (2 + x.L + p) := by
        rw [e4, heff]
        exact upd_ne _ _ _ _ (by omega)
      cases hov : ov x.ws p with
      | some y =>
        have h1 : G (2 + x.L + p) = hmF x.g p y := by rw [hG]; exact bst_at hp' hov
        have h2 := h.over p y hov
        rw [← h2]
        exact rd_home (d := (runs d (ckS x)).1) (x := { x with g := x.g + 1, ws := [] }) hp rfl (hv.trans h1)
      | none =>
        obtain ⟨g', y, h1, h2⟩ := h.homes p hp'
        rw [← h2 hov]
        refine rd_home (g' := g') (d := (runs d (ckS x)).1) (x := { x with g := x.g + 1, ws := [] }) hp rfl (hv.trans ?_)
        rcases hBk (2 + x.L + p) with e | ⟨p', z, _, e, hz, _⟩
        · exact e.trans h1
        · have : p' = p := by omega
          subst this
          rw [hov] at hz
          cases hz
    · exact absurd ha e5
/-- An Open over what lies there. -/
theorem openW_b (B : Nat) (w v : World) (r f m cap : Nat) (d : St) (L H g k : Nat) (ws : List (List Im)) (pg : Nat → Pg) (h : DB B w v r f m cap d) (hon : d.off = false) (hw : d.waits = fun _ => none) (ha : d.armed = 0) (hn : d.n = 2 + L + H) (hR : RepW d.at L H g ws pg) (hwk : Wk d k) (hk : k ≤ 10000) (hL3 : 3 ≤ L) (hL4 : L ≤ 4000) (hH1 : 1 ≤ H) (hH2 : H ≤ 16384) :
    Calls Tryd.prog 7 #[.pointer (some ⟨r, 0, none⟩)] v fun e v' => ∃ q mm m' x d', e = .returned (.tuple #[.pointer (some ⟨q, 0, none⟩), .int .i64 0]) ∧ (m' = m ∨ v.heap.size ≤ m') ∧ Fr (fp r f m) v v' ∧ LB B w v' q r mm f m' cap x d' ∧ RdOk d' x pg ∧ x.L = L ∧ x.H = H := by
  have hh := hol_repW hR hL3 hL4 hH1 hn
  have g1 := hR.g1
  have g2 := hR.g2
  unfold Wk at hwk
  refine (open_any v r f m cap d h.k h.t h.fp2 hon (by omega) (by rw [hh]; dsimp only; omega) (by omega) (by omega)).mono ?_
  rintro e v' (⟨h0, _⟩ | ⟨_, q, E, hq, ⟨ws', hl, hnr, hE, mm, m', hmm, hm, hD, hF⟩, he⟩)
  · rw [hh] at h0
    dsimp only at h0
    omega
  · rw [hh] at hl hnr hE hD
    dsimp only at hl hnr hE hD
    have hu : ws' = ws := Lie.unique (by omega) hl (by rw [Nat.zero_add, Nat.zero_add]; exact hnr) hR.lie hR.nor
    subst hu
    obtain ⟨c1, c2, c3, c4⟩ := ckp_semW d ⟨L, H, g, ws', false⟩ pg hon hw ha hn rfl hR
    rw [c1] at hE
    subst hE
    rw [if_pos rfl] at he
    exact ⟨q, mm, m', _, _, he, hm, hF, h.open hD hq hmm hm hF, c2, c3, c4⟩
end Go.Proofs.YtndfhmlcfaaaiaaDoor
