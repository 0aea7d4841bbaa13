import Derived.Test.YtndfhmlcfaaaiaaDoorCutO
import Derived.Test.YtndfhmlcfaaaiaaDoorAgain
/- An empty log, and what lies there exactly. -/
namespace Go.Proofs.YtndfhmlcfaaaiaaDoor
open Go.RowKit

/-- A disk with an empty log of generation 1, pages that are all zero, and zeros in the log. -/
structure Zd (d : St) (L H : Nat) : Prop where
  on : d.off = false
  w : d.waits = fun _ => none
  armed : d.armed = 0
  n : d.n = 2 + L + H
  rep : Rep d.at L H 1 [] (fun _ => zp)
  zero : ∀ i, i < L → d.at (2 + i) = zs
/-- A log whose records lie one behind the other, all of them in the log, over pages that are zero at home; zeros behind them. -/
structure Zl (d : St) (x : Lg) (pg : Nat → Pg) : Prop where
  on : d.off = false
  w : d.waits = fun _ => none
  armed : d.armed = 0
  n : d.n = 2 + x.L + x.H
  alive : x.dead = false
  g : x.g = 1
  rep : Rep d.at x.L x.H x.g x.ws (onL (fun _ => zp) x.ws)
  homes : ∀ p, p < x.H → ∃ g', d.at (2 + x.L + p) = hmF g' p zp
  zero : ∀ i, tot x.ws ≤ i → i < x.L → d.at (2 + i) = zs
  pg : pg = onL (fun _ => zp) x.ws
theorem Zl.lv {d : St} {x : Lg} {pg : Nat → Pg} (h : Zl d x pg) : Lv d x 1 pg := ⟨h.on, h.w, h.n, h.alive, by rw [h.g]; exact Nat.le_refl _, by rw [h.pg]; exact h.rep⟩
/-- A fresh one. -/
structure Zt (d : St) (x : Lg) : Prop where
  z : Zl d x (fun _ => zp)
  ws : x.ws = []
theorem Zt.alive {d : St} {x : Lg} (h : Zt d x) : x.dead = false := h.z.alive
theorem fmt_semZ (d : St) (L H : Nat) (hon : d.off = false) (hw : d.waits = fun _ => none) (ha : d.armed = 0) (hn : d.n = 2 + L + H) : Zd (runs d (fmtS L H)).1 L H := by
  obtain ⟨G, h1, h2, h3, h4⟩ := fmt_eff d.at L H
  rcases runs_sem (fun _ _ => True) (fmtS L H) d d.at d.at hon (by rw [at_flushed hw]) rfl (fmt_in L H d.n hn) (safe_true _ _ _) with ⟨e1, e2, e3, e4, e5, e6⟩ | ⟨e1, e2, e3, e4, e5, e6⟩
  · refine ⟨e2, ?_, by omega, by rw [runs_n]; exact hn, ?_, fun i hi => ?_⟩
    · have hf : fmtS L H = (zst (2 + L) ++ [.fl] ++ hst L H ++ [.fl, .wr 1 (hdF L H 1)]) ++ [.fl] := by unfold fmtS; simp
      rw [hf] at e1 ⊢
      exact runs_waits _ _ hon e1
    · rw [e4, h1]
      dsimp only
      refine ⟨by omega, by omega, by rw [show 1 % 2 = 1 by omega]; exact h3, ?_, trivial, ?_, ?_, fun p x hx => by cases hx⟩
      · intro hf
        rw [show (1 + 1) % 2 = 0 by omega, h2 0 (by omega) (by omega)] at hf
        exact absurd hf zs_notF
      · intro i hi hf
        rw [h2 _ (by omega) (by omega)] at hf
        exact absurd hf zs_notF
      · intro p hp
        exact ⟨1, zp, h4 p hp, fun _ => rfl⟩
    · rw [e4, h1]
      exact h2 _ (by omega) (by omega)
  · exact absurd ha e5
theorem format_z (B : Nat) (w v : World) (r f m cap L H : Nat) (d : St) (h : DB B w v r f m cap d) (hL3 : 3 ≤ L) (hL4 : L ≤ 4000) (hH1 : 1 ≤ H) (hH : H ≤ 16384) (hd : d = St.start (2 + L + H) fun _ => zs) :
    Calls Tryd.prog 9 #[.pointer (some ⟨r, 0, none⟩), .int .i64 (L : Int)] v fun e v' => e = .returned (.int .i64 0) ∧ ∃ m' d', (m' = m ∨ v.heap.size ≤ m') ∧ Fr (fp r f m) v v' ∧ DB B w v' r f m' cap d' ∧ Zd d' L H ∧ Wk d' 1 := by
  have hon : d.off = false := by rw [hd]; rfl
  have hw : d.waits = fun _ => none := by rw [hd]; rfl
  have ha : d.armed = 0 := by rw [hd]; rfl
  have hn : d.n = 2 + L + H := by rw [hd]; rfl
  have h0 : d.writes = 0 := by rw [hd]; rfl
  have h00 : d.flushes = 0 := by rw [hd]; rfl
  obtain ⟨e1, _, _⟩ := fmt_sem d L H hon hw ha hn
  have hz := fmt_semZ d L H hon hw ha hn
  have hrw := runs_writes (fmtS L H) d
  have hfl : (fmtS L H).length ≤ 40000 := by
    unfold fmtS zst hst
    simp
    omega
  refine (format_any v r f m cap L H d h.k h.t h.fp2 hL3 hL4 hH1 hH hn (by omega) (by omega)).mono ?_
  rintro e v' ⟨rfl, m', hm, hl, hF⟩
  refine ⟨by rw [e1], m', _, hm, hF, h.turn hl hm hF, hz, ?_⟩
  unfold Wk
  omega
theorem open_z (B : Nat) (w v : World) (r f m cap : Nat) (d : St) (L H k : Nat) (h : DB B w v r f m cap d) (hR : Zd d L H) (hwk : Wk d k) (hk : k ≤ 10000) (hL3 : 3 ≤ L) (hL4 : L ≤ 4000) (hH1 : 1 ≤ H) (hH2 : H ≤ 16384) :
    Calls Tryd.prog 7 #[.pointer (some ⟨r, 0, none⟩)] v fun e v' => ∃ q mm m' x d', e = .returned (.tuple #[.pointer (some ⟨q, 0, none⟩), .int .i64 0]) ∧ (m' = m ∨ v.heap.size ≤ m') ∧ Fr (fp r f m) v v' ∧ Wk d' (k + 1) ∧ LB B w v' q r mm f m' cap x d' ∧ Zt d' x ∧ x.L = L ∧ x.H = H ∧ v.heap.size ≤ q ∧ v.heap.size ≤ mm := by
  have hh := hol_rep hR.rep hL3 hL4 hH1 hR.n
  unfold Wk at hwk
  refine (open_any v r f m cap d h.k h.t h.fp2 hR.on (by rw [hR.n]; omega) (by rw [hh]; dsimp only; omega) (by omega) (by omega)).mono ?_
  rintro e v' (⟨h0, _⟩ | ⟨_, q, E, hq, ⟨ws', hl, hnr, hE, mm, m', hmm, hm, hD, hF⟩, he⟩)
  · rw [hh] at h0
    dsimp only at h0
    omega
  · rw [hh] at hl hnr hE hD
    dsimp only at hl hnr hE hD
    have hu : ws' = [] := Lie.unique (by omega) hl (by rw [Nat.zero_add, Nat.zero_add]; exact hnr) hR.rep.lie (hR.rep.noR hL4)
    subst hu
    have hck : ckp d ⟨L, H, 1, [], false⟩ = (d, ⟨L, H, 1, [], false⟩, 0) := by unfold ckp; rw [if_pos rfl]
    rw [hck] at hE hD
    dsimp only at hE hD
    subst hE
    rw [if_pos rfl] at he
    refine ⟨q, mm, m', _, d, he, hm, hF, ?_, h.open hD hq hmm hm hF, ⟨⟨hR.on, hR.w, hR.armed, hR.n, rfl, rfl, hR.rep, fun p hp => ?_, fun i _ hi => hR.zero i hi, rfl⟩, rfl⟩, rfl, rfl, hq, hmm⟩
    · unfold Wk
      omega
    · obtain ⟨g', y, h1, h2⟩ := hR.rep.homes p hp
      rw [h2 rfl] at h1
      exact ⟨g', h1⟩
set_option maxRecDepth 100000 in
set_option maxHeartbeats 600000 in
theorem begunZ_any (B : Nat) (w v : World) (s l : Int) (hB : B ≤ v.heap.size) (h2 : 2 ≤ B) (hT : Tabs v) (hbl : Below B w v) :
    Calls Tryd.prog 18 #[.agg #[.int .i64 s, .int .i64 l]] v fun e v' => ∃ q r mm f m cap x d, e = .returned (.tuple #[.pointer (some ⟨r, 0, none⟩), .pointer (some ⟨q, 0, none⟩)]) ∧ LB B w v' q r mm f m cap x d ∧ Zt d x ∧ Wk d 2 ∧ x.L = tL l ∧ x.H = td s + 1 ∧ Below v.heap.size v v' ∧ (∀ k, fp r f m k → v.heap.size ≤ k) ∧ (∀ k, lp q mm k → v.heap.size ≤ k) := by
  have hO := Blk.new v 45 [.int .i64 s, .int .i64 l]
  have kb : Below v.heap.size v (v.alloc (.cells ([.int .i64 s, .int .i64 l] : List Value).toArray 45)) := (Below.refl v.heap.size v).alloc (Nat.le_refl _) _
  have hT1 := hT.next kb
  have hl1 := td_lt l
  have hl2 := td_lt s
  have hl3 := tL_def l
  have hl4 := tN_def s l
  have htd := fun W => tidy_any W s l
  obtain ⟨L, hL⟩ : ∃ L, L = tL l := ⟨_, rfl⟩
  obtain ⟨M, hM⟩ : ∃ M, M = tN s l := ⟨_, rfl⟩
  rw [← hL, ← hM] at htd
  rw [← hL, ← hM] at hl4
  rw [← hL] at hl3
  obtain ⟨H, hH⟩ : ∃ H, H = td s + 1 := ⟨_, rfl⟩
  have hMe : M = 2 + L + H := by omega
  have HME : Hid (M = 2 + L + H) := hMe
  rw [← hL, ← hH]
  have b1 : 3 ≤ L := by omega
  have b2 : L ≤ 4000 := by omega
  have b3 : 1 ≤ H := by omega
  have b4 : H ≤ 16384 := by omega
  have hb1 := hbl.trans (kb.mono hB)
  obtain ⟨C, hC⟩ : ∃ C, C = v.heap.size := ⟨_, rfl⟩
  have hCB : B ≤ C := by omega
  have hnew := fun (u : World) (hu : C ≤ u.heap.size) (hTu : Tabs u) (hb : Below C v u) => new_b M v u C hu (by omega) hTu hb (by omega) (by omega)
  have hfmt := fun (u : World) (r f m cap : Nat) (h : DB C v u r f m cap (St.start M fun _ => zs)) => format_z C v u r f m cap L H _ h b1 b2 b3 b4 (by rw [hMe])
  have hop := fun (u : World) (r f m cap : Nat) (d : St) (h : DB C v u r f m cap d) (hR : Zd d L H) (hW : Wk d 1) => open_z C v u r f m cap d L H 1 h hR hW (by omega) b1 b2 b3 b4
  have hM2 : (M : Int) - 2 = ((L + H : Nat) : Int) := by omega
  have hM3 : ((L + H : Nat) : Int) - (L : Int) = (H : Int) := by omega
  have w1 : IntKind.i64.wrap ((L + H : Nat) : Int) = ((L + H : Nat) : Int) := by rw [IntKind.wrap_i64]; omega
  have w2 : IntKind.i64.wrap (H : Int) = (H : Int) := by rw [IntKind.wrap_i64]; omega
  have w0 : IntKind.i64.wrap ((M : Int) - 2) = (M : Int) - 2 := by rw [IntKind.wrap_i64]; omega
  have w3 : IntKind.i64.wrap ((M : Int) - 2 - (L : Int)) = (H : Int) := by rw [IntKind.wrap_i64]; omega
  rw [← hC] at kb hO ⊢
  have hs1 : C ≤ (v.alloc (.cells ([.int .i64 s, .int .i64 l] : List Value).toArray 45)).heap.size := by rw [hC]; exact kb.size
  have HC : Hid (C = v.heap.size) := hC
  clear hC hl1 hl2 hl3 hl4 hL hM hH hM2 hM3 hT hMe
  go_enter Tryd.func18, Tryd.ntmps18
  go_upto_region 1 with fail
  rw [← HC.out]
  obtain ⟨u0, hu0⟩ : ∃ u, u = v.alloc (.cells ([.int .i64 s, .int .i64 l] : List Value).toArray 45) := ⟨_, rfl⟩
  rw [← hu0] at hO hT1 kb hb1 hs1 ⊢
  clear hu0
  go_wp2_with (first
    | (refine wpList_load_mid rfl 45 _ rfl C 0 rfl [.int .i64 s, .int .i64 l] _ hO.whole Tryd.underlying45 rfl (by kernel_rfl) ?_)
    | (go_at_call 17; refine (htd _).mono ?_; rintro e u1 ⟨rfl, k1⟩
       have hb2 := kb.trans (k1.mono hs1)
       have hs2 := Nat.le_trans hs1 k1.size)
    | (go_at_call 47; refine (hnew u1 hs2 (hT1.next k1) hb2).mono ?_; rintro e u2 ⟨r, f, m, cap, rfl, k2, hr, hD2⟩)
    | (go_at_call 9; refine (hfmt u2 r f m cap hD2).mono ?_; rintro e u3 ⟨rfl, m3, d3, hm3, hF3, hD3, hR3, hW3⟩)
    | (go_at_call 7; refine (hop u3 r f m3 cap d3 hD3 hR3 hW3).mono ?_; rintro e u4 ⟨q, mm, m4, x4, d4, rfl, hm4, hF4, hW4, hL4, hV4, hxL, hxH, hq4, hmm4⟩)
    | (go_at_call 13; refine (pages_any u4 q r mm x4 hL4.dl.l hV4.alive).mono ?_; rintro e u5 ⟨rfl, rfl⟩; rw [hxH]))
  go_ret2
  exact ⟨q, r, mm, f, m4, cap, x4, d4, rfl, ⟨hL4.dl, fun j hj => Nat.le_trans hCB (hL4.fpB j hj), fun j hj => Nat.le_trans hCB (hL4.lpB j hj), hbl.trans (hL4.below.mono hCB), h2⟩, hV4, hW4, hxL, hxH, hL4.below, hL4.fpB, hL4.lpB⟩
end Go.Proofs.YtndfhmlcfaaaiaaDoor

/- A Commit for which there is room. -/
namespace Go.Proofs.YtndfhmlcfaaaiaaDoor
open Go.RowKit

theorem com2_at (d : St) (x : Lg) (W : List Im) (hon : d.off = false) (hw : d.waits = fun _ => none) (ha : d.armed = 0) (hn : d.n = 2 + x.L + x.H) (hr : tot x.ws + W.length + 2 ≤ x.L) :
    (runs d (cmS x W)).2 = 0 ∧ (runs d (cmS x W)).1.armed = 0 ∧ (runs d (cmS x W)).1.off = false ∧ (runs d (cmS x W)).1.waits = (fun _ => none) ∧ ∀ i, (i < 2 + tot x.ws ∨ 2 + tot x.ws + W.length + 2 ≤ i) → (runs d (cmS x W)).1.at i = d.at i := by
  have hat := at_flushed hw
  obtain ⟨F, hF⟩ : ∃ F, F = d.at := ⟨_, rfl⟩
  obtain ⟨G, hG⟩ : ∃ G, G = (eff F F (cw x W (W.length + 1))).2 := ⟨_, rfl⟩
  have hPt : Pt F x.g x.ws.length (tot x.ws) W G := by rw [hG]; exact eff_inv _ _ _ (fun i => .inl rfl) pt_step
  have heff : (eff F F (cmS x W)).2 = upd G (2 + tot x.ws + (W.length + 1)) (rf x.g x.ws.length W (W.length + 1)) := by
    unfold cmS cmE
    rw [List.append_assoc, eff_append, ← hG]
    rfl
  have hin : ∀ s ∈ cmS x W, inN d.n s := by
    intro s hs
    unfold cmS cmE at hs
    rw [List.append_assoc] at hs
    rcases List.mem_append.1 hs with h1 | h1
    · obtain ⟨j, hj, rfl⟩ := cw_wr s h1
      show 2 + tot x.ws + j < d.n
      omega
    · simp only [List.cons_append, List.nil_append, List.mem_cons, List.not_mem_nil, or_false] at h1
      rcases h1 with rfl | rfl | rfl
      · trivial
      · show 2 + tot x.ws + (W.length + 1) < d.n
        omega
      · trivial
  rcases runs_sem (fun _ _ => True) (cmS x W) d F F hon (by rw [hF, hat]) hF.symm hin (safe_true _ _ _) with ⟨e1, e2, e3, e4, e5, e6⟩ | ⟨e1, e2, e3, e4, e5, e6⟩
  · refine ⟨e1, by omega, e2, runs_waits _ _ hon e1, fun i hi => ?_⟩
    rw [e4, heff, upd_ne _ _ _ _ (by omega), ← hF]
    rcases hPt i with e | ⟨j, hj, e, _⟩
    · exact e
    · omega
  · exact absurd ha e5
theorem zl_com (d : St) (x : Lg) (pg : Nat → Pg) (W : List Im) (h : Zl d x pg) (hL : x.L ≤ 4000) (ho : okR x.L x.H (tot x.ws) W) :
    com d x W = ((runs d (cmS x W)).1, { x with ws := x.ws ++ [W] }, 0) ∧ Zl (runs d (cmS x W)).1 { x with ws := x.ws ++ [W] } (on1 pg W) := by
  have hr : tot x.ws + W.length + 2 ≤ x.L := ho.2.2.1
  obtain ⟨c1, c2, c3, c4, c5⟩ := com2_at d x W h.on h.w h.armed h.n hr
  have hc : com d x W = ((runs d (cmS x W)).1, { x with ws := x.ws ++ [W] }, 0) := by
    unfold com
    rw [if_neg (by omega)]
    unfold com2
    rw [if_pos c1]
  have hc2 : com2 d x W = ((runs d (cmS x W)).1, { x with ws := x.ws ++ [W] }, 0) := by
    unfold com2
    rw [if_pos c1]
  refine ⟨hc, ?_⟩
  rcases com2_sem d x 1 pg W h.lv hL ho with ⟨_, f2, _, _⟩ | ⟨f1, _, _⟩
  · rw [hc2] at f2
    dsimp only at f2
    have hpg : on1 pg W = onL (fun _ => zp) (x.ws ++ [W]) := by rw [onL_snoc, h.pg]
    refine ⟨c3, c4, c2, f2.n, h.alive, h.g, by dsimp only; rw [← hpg]; exact f2.rep, fun p hp => ?_, fun i h1 h2 => ?_, hpg⟩
    · obtain ⟨g', e⟩ := h.homes p hp
      have e2 : (runs d (cmS x W)).1.at (2 + x.L + p) = d.at (2 + x.L + p) := c5 _ (.inr (by omega))
      exact ⟨g', e2.trans e⟩
    · have h1' : tot (x.ws ++ [W]) ≤ i := h1
      rw [tot_snoc] at h1'
      rw [c5 (2 + i) (.inr (by omega))]
      exact h.zero i (by omega) h2
  · rw [hc2] at f1
    exact absurd f1 (by show ¬ (0 : Int) = 6; decide)
/-- A Commit for which there is room. -/
theorem com_z (B : Nat) (w v : World) (q r mm f m cap : Nat) (x : Lg) (d : St) (k : Nat) (pg : Nat → Pg) (g cp : Nat) (W : List Im) (h : LB B w v q r mm f m cap x d) (hz : Zl d x pg) (hwk : Wk d k) (hk : k ≤ 10000)
    (hI : ImR v g (toI W)) (hA : ¬ fp r f m g ∧ ¬ lp q mm g) (ho : okR x.L x.H (tot x.ws) W) :
    Calls Tryd.prog 10 #[.pointer (some ⟨q, 0, none⟩), .slice (some ⟨g, 0, none⟩) W.length cp] v fun e v' => e = .returned (.int .i64 0) ∧ ∃ mm' m' d', (mm' = mm ∨ v.heap.size ≤ mm') ∧ (m' = m ∨ v.heap.size ≤ m') ∧ Fr (fun k => fp r f m k ∨ lp q mm k) v v' ∧ Wk d' (k + 1) ∧ LB B w v' q r mm' f m' cap { x with ws := x.ws ++ [W] } d' ∧ Zl d' { x with ws := x.ws ++ [W] } (on1 pg W) := by
  have hgk := hz.g
  have hcw := com_writes d x W h.dl.l.H2 ho.2.1
  have hp := List.length_pos_iff.2 ho.1
  obtain ⟨z1, z2⟩ := zl_com d x pg W hz h.dl.l.L4 ho
  obtain ⟨o1, o2, o3, o4⟩ := ho
  rw [z1] at hcw
  dsimp only at hcw
  have hwk2 := hwk
  unfold Wk at hwk2
  have hc := com_any v q r mm f m cap x d (some ⟨g, 0, none⟩) cp W h.dl (.inr ⟨g, rfl, hI⟩) (fun j hj => by cases hj; exact ⟨hI.lt, hA.1, hA.2⟩) (okP_nam.2 o4) (by omega) (by omega) hz.alive (by omega) (by omega) (by omega)
  rw [z1] at hc
  refine hc.mono ?_
  rintro e v' ⟨rfl, mm', m', h1, h2, hD, hF⟩
  exact ⟨rfl, mm', m', (runs d (cmS x W)).1, h1, h2, hF, hwk.up (by omega) (by omega), h.turn hD h1 h2 hF, z2⟩
end Go.Proofs.YtndfhmlcfaaaiaaDoor
