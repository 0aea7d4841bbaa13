/- A small run of a log: it works. -/
import Derived.Test.YtndfhmlcfaaaiaaGreatDoorBun
namespace Go.Proofs.YtndfhmlcfaaaiaaGreatDoor
open Go.RowKit

theorem start_waits (n : Nat) (F : Nat → Sec) : (St.start n F).waits = fun _ => none := rfl
/-- 'disk.New', 'wal.Format', 'wal.Open' of so many sectors. -/
theorem new_b (n : Nat) (w v : World) (B : Nat) (hB : B ≤ v.heap.size) (h2 : 2 ≤ B) (hT : Tabs v) (hbl : Below B w v) (h1 : 1 ≤ n) (hn : n ≤ 16384) :
    Calls Tryz.prog 22 #[.int .i64 n] v fun e v' => ∃ r f m cap, e = .returned (.tuple #[.pointer (some ⟨r, 0, none⟩), .int .i64 0]) ∧ Below v.heap.size v v' ∧ v.heap.size ≤ r ∧ DB B w v' r f m cap (St.start n fun _ => zs) := by
  refine (new_any n v h1 hn).mono ?_
  rintro e v' ⟨r, f, m, cap, rfl, hr, hf, hm, hL, hb⟩
  refine ⟨r, f, m, cap, rfl, hb, hr, hL, hT.next hb, ?_, hbl.trans (hb.mono hB), h2⟩
  rintro j (e | e | e) <;> omega
theorem format_b (B : Nat) (w v : World) (r f m cap L H : Nat) (d : St) (h : DB B w v r f m cap d) (hL3 : 3 ≤ L) (hL4 : L ≤ 4000) (hH1 : 1 ≤ H) (hH : H ≤ 16384) (hd : d = St.start (2 + L + H) fun _ => zs) :
    Calls Tryz.prog 23 #[.pointer (some ⟨r, 0, none⟩), .int .i64 (L : Int)] v fun e v' => e = .returned (.int .i64 0) ∧ ∃ m' d', (m' = m ∨ v.heap.size ≤ m') ∧ Fr (fp r f m) v v' ∧ DB B w v' r f m' cap d' ∧ Rs d' L H 1 (fun _ => zp) ∧ Wk d' 1 ∧ d'.armed = 0 := by
  refine (format_s v r f m cap L H d h.k h.t h.fp2 hL3 hL4 hH1 hH (by rw [hd]; rfl) (by rw [hd]; rfl) (by rw [hd]; rfl) (by rw [hd]; rfl) (by rw [hd]; rfl) (by rw [hd]; rfl)).mono ?_
  rintro e v' ⟨rfl, m', d', hm, hl, _, _, hF, hR, hW, ha⟩
  exact ⟨rfl, m', d', hm, hF, h.turn hl hm hF, hR, hW, ha⟩
theorem open_b (B : Nat) (w v : World) (r f m cap : Nat) (d : St) (L H k : Nat) (pg : Nat → Pg) (h : DB B w v r f m cap d) (hR : Rs d L H k pg) (hwk : Wk d k) (hk : k ≤ 10000) (hL3 : 3 ≤ L) (hL4 : L ≤ 4000) (hH1 : 1 ≤ H) (hH2 : H ≤ 16384) :
    Calls Tryz.prog 17 #[.pointer (some ⟨r, 0, none⟩)] v fun e v' => ∃ m' d', (m' = m ∨ v.heap.size ≤ m') ∧ Fr (fp r f m) v v' ∧ Wk d' (k + 1) ∧ DB B w v' r f m' cap d' ∧
      ((∃ q mm x, e = .returned (.tuple #[.pointer (some ⟨q, 0, none⟩), .int .i64 0]) ∧ LB B w v' q r mm f m' cap x d' ∧ Lv d' x (k + 1) pg ∧ x.L = L ∧ x.H = H ∧ (d.armed = 0 → d'.armed = 0) ∧ v.heap.size ≤ q ∧ v.heap.size ≤ mm) ∨
       (d.armed ≠ 0 ∧ e = .returned (.tuple #[.pointer none, .int .i64 6]) ∧ Dd d' L H (k + 1) (fun p => p = pg))) := by
  refine (open_s v r f m cap d L H k pg h.k h.t h.fp2 hR hwk hk hL3 hL4 hH1 hH2).mono ?_
  rintro e v' ⟨m', d', hm, hF, hW, hl, _, _, hh⟩
  refine ⟨m', d', hm, hF, hW, h.turn hl hm hF, ?_⟩
  rcases hh with ⟨q, mm, x, rfl, hD, hv, e1, e2, e3, e4, e5⟩ | ⟨h1, h2, h3⟩
  · exact .inl ⟨q, mm, x, rfl, h.open hD e4 e5 hm hF, hv, e1, e2, e3, e4, e5⟩
  · exact .inr ⟨h1, h2, h3⟩
/-- An Open of a disk that is not armed. -/
theorem open_sure (B : Nat) (w v : World) (r f m cap : Nat) (d : St) (L H k : Nat) (pg : Nat → Pg) (h : DB B w v r f m cap d) (hR : Rs d L H k pg) (hwk : Wk d k) (hk : k ≤ 10000) (hL3 : 3 ≤ L) (hL4 : L ≤ 4000) (hH1 : 1 ≤ H) (hH2 : H ≤ 16384) (ha : d.armed = 0) :
    Calls Tryz.prog 17 #[.pointer (some ⟨r, 0, none⟩)] v fun e v' => ∃ q mm m' x d', e = .returned (.tuple #[.pointer (some ⟨q, 0, none⟩), .int .i64 0]) ∧ (m' = m ∨ v.heap.size ≤ m') ∧ Fr (fp r f m) v v' ∧ Wk d' (k + 1) ∧ LB B w v' q r mm f m' cap x d' ∧ Lv d' x (k + 1) pg ∧ x.L = L ∧ x.H = H ∧ d'.armed = 0 ∧ v.heap.size ≤ q ∧ v.heap.size ≤ mm := by
  refine (open_b B w v r f m cap d L H k pg h hR hwk hk hL3 hL4 hH1 hH2).mono ?_
  rintro e v' ⟨m', d', hm, hF, hW, _, ⟨q, mm, x, rfl, hD, hv, e1, e2, e3, e4, e5⟩ | ⟨h1, _⟩⟩
  · exact ⟨q, mm, m', x, d', rfl, hm, hF, hW, hD, hv, e1, e2, e3 ha, e4, e5⟩
  · exact absurd ha h1
theorem read_b (B : Nat) (w v : World) (q r mm f m cap : Nat) (x : Lg) (d : St) (k : Nat) (pg : Nat → Pg) (h : LB B w v q r mm f m cap x d) (hv : Lv d x k pg) (p : Nat) (hp : p < x.H) :
    Calls Tryz.prog 15 #[.pointer (some ⟨q, 0, none⟩), .int .i64 (p : Int)] v fun e v' => e = .returned (.tuple #[.agg (pb (pg p)).toArray, .int .i64 0]) ∧ Below v.heap.size v v' ∧ LB B w v' q r mm f m cap x d := by
  refine (read_s v q r mm f m cap x d k pg h.dl hv p hp).mono ?_
  rintro e v' ⟨rfl, hb⟩
  exact ⟨rfl, hb, h.next hb⟩
theorem com_b (B : Nat) (w v : World) (q r mm f m cap : Nat) (x : Lg) (d : St) (k : Nat) (pg : Nat → Pg) (g cp : Nat) (W : List Im) (h : LB B w v q r mm f m cap x d) (hv : Lv d x k pg) (hwk : Wk d k) (hk : k ≤ 10000)
    (hI : ImR v g (toI W)) (hA : ¬ fp r f m g ∧ ¬ lp q mm g) (hok : nam x.H W) (hW1 : W ≠ []) (hW2 : W.length ≤ 120) (hW3 : W.length + 2 ≤ x.L) :
    Calls Tryz.prog 18 #[.pointer (some ⟨q, 0, none⟩), .slice (some ⟨g, 0, none⟩) W.length cp] v fun e v' => ∃ mm' m' x' d', (mm' = mm ∨ v.heap.size ≤ mm') ∧ (m' = m ∨ v.heap.size ≤ m') ∧ Fr (fun k => fp r f m k ∨ lp q mm k) v v' ∧ Wk d' (k + 1) ∧ LB B w v' q r mm' f m' cap x' d' ∧
      ((e = .returned (.int .i64 0) ∧ Lv d' x' (k + 1) (on1 pg W) ∧ x'.L = x.L ∧ x'.H = x.H ∧ (d.armed = 0 → d'.armed = 0)) ∨
       (d.armed ≠ 0 ∧ e = .returned (.int .i64 6) ∧ Dd d' x.L x.H (k + 1) (fun p => p = pg ∨ p = on1 pg W))) := by
  refine (com_s v q r mm f m cap x d k pg (some ⟨g, 0, none⟩) cp W h.dl hv hwk hk (.inr ⟨g, rfl, hI⟩) (fun j hj => by cases hj; exact ⟨hI.lt, hA.1, hA.2⟩) hok hW1 hW2 hW3).mono ?_
  rintro e v' ⟨mm', m', x', d', h1, h2, hF, hW, hD, hh⟩
  exact ⟨mm', m', x', d', h1, h2, hF, hW, h.turn hD h1 h2 hF, hh⟩
theorem ckp_b (B : Nat) (w v : World) (q r mm f m cap : Nat) (x : Lg) (d : St) (k : Nat) (pg : Nat → Pg) (h : LB B w v q r mm f m cap x d) (hv : Lv d x k pg) (hwk : Wk d k) (hk : k ≤ 10000) :
    Calls Tryz.prog 37 #[.pointer (some ⟨q, 0, none⟩)] v fun e v' => ∃ mm' m' x' d', (mm' = mm ∨ v.heap.size ≤ mm') ∧ (m' = m ∨ v.heap.size ≤ m') ∧ Fr (fun k => fp r f m k ∨ lp q mm k) v v' ∧ Wk d' (k + 1) ∧ LB B w v' q r mm' f m' cap x' d' ∧
      ((e = .returned (.int .i64 0) ∧ Lv d' x' (k + 1) pg ∧ x'.L = x.L ∧ x'.H = x.H ∧ x'.ws = [] ∧ (d.armed = 0 → d'.armed = 0)) ∨
       (d.armed ≠ 0 ∧ e = .returned (.int .i64 6) ∧ Dd d' x.L x.H (k + 1) (fun p => p = pg))) := by
  refine (ckp_s v q r mm f m cap x d k pg h.dl hv hwk hk).mono ?_
  rintro e v' ⟨mm', m', x', d', h1, h2, hF, hW, hD, hh⟩
  exact ⟨mm', m', x', d', h1, h2, hF, hW, h.turn hD h1 h2 hF, hh⟩
theorem on1_other (pg : Nat → Pg) (W : List Im) (p : Nat) (h : ∀ y ∈ W, y.1 ≠ p) : on1 pg W p = pg p := by
  induction W generalizing pg with
  | nil => rfl
  | cons y W ih =>
    show on1 (upd pg y.1 y.2) W p = _
    rw [ih _ (fun z hz => h z (by simp [hz])), upd_ne]
    exact fun e => h y (by simp) e.symm
/-- A Commit in which the power goes at once: the pages are as before. -/
theorem com2_early (d : St) (x : Lg) (k : Nat) (pg : Nat → Pg) (W : List Im) (h : Lv d x k pg) (ho : okR x.L x.H (tot x.ws) W) (h0 : d.armed ≠ 0) (h1 : d.armed ≤ W.length + 1) :
    (com2 d x W).2.2 = 6 ∧ Dd (com2 d x W).1 x.L x.H k (fun p => p = pg) := by
  have hat := at_flushed h.w
  obtain ⟨F, hF⟩ : ∃ F, F = d.at := ⟨_, rfl⟩
  have hrep := h.rep
  rw [← hF] at hrep
  have hgk := h.gk
  have hr : tot x.ws + W.length + 2 ≤ x.L := ho.2.2.1
  have hsafe : Safe (Cr fun K => Oks K x.L x.H k (fun p => p = pg)) F F (cw x W (W.length + 1)) := by
    have h2 := safe_wrs (Q := Cr fun K => Oks K x.L x.H k (fun p => p = pg)) (F := F) (rest := []) (Pt F x.g x.ws.length (tot x.ws) W) (fun G' hG' K hK => ⟨pg, rfl, x.g, x.ws, hgk, hrep.parts W hr (hG'.mix hK)⟩) (cw x W (W.length + 1)) F (fun i => .inl rfl) pt_step (fun _ => trivial)
    rwa [List.append_nil] at h2
  have hin : ∀ s ∈ cw x W (W.length + 1), inN d.n s := by
    intro s hs
    have hn := h.n
    obtain ⟨j, hj, rfl⟩ := cw_wr s hs
    show 2 + tot x.ws + j < d.n
    omega
  have hcs : cmS x W = cw x W (W.length + 1) ++ ([.fl, .wr (2 + tot x.ws + (W.length + 1)) (rf x.g x.ws.length W (W.length + 1))] ++ [.fl]) := by unfold cmS cmE; rw [List.append_assoc]
  rcases runs_sem (Cr fun K => Oks K x.L x.H k (fun p => p = pg)) (cw x W (W.length + 1)) d F F h.on (by rw [hF, hat]) hF.symm hin hsafe with ⟨e1, e2, e3, e4, e5, e6⟩ | ⟨e1, e2, e3, e4, e5, e6⟩
  · rw [cw_len] at e5
    omega
  · have hru : runs d (cmS x W) = runs d (cw x W (W.length + 1)) := by rw [hcs, runs_append, if_neg (by rw [e1]; decide)]
    unfold com2
    rw [hru, if_neg (by rw [e1]; decide)]
    exact ⟨e1, e2, e3, by dsimp only; rw [runs_n]; exact h.n, e4⟩
theorem com_early (d : St) (x : Lg) (k : Nat) (pg : Nat → Pg) (W : List Im) (h : Lv d x k pg) (hg : x.g + 1 < 18446744073709551000) (h0 : W ≠ []) (h1 : W.length ≤ 120) (h2 : W.length + 2 ≤ x.L) (h3 : nam x.H W) (ha : d.armed ≠ 0) (ha2 : d.armed ≤ 2) :
    (com d x W).2.2 = 6 ∧ Dd (com d x W).1 x.L x.H (k + 1) (fun p => p = pg) := by
  have hp := List.length_pos_iff.2 h0
  unfold com
  by_cases hsp : x.L - tot x.ws < W.length + 2
  · rw [if_pos hsp]
    rcases ckp_sem d x k pg h hg with ⟨e1, e2, e3, e4, e5, e6, e7⟩ | ⟨e1, e2, e3⟩
    · exfalso
      have hl : 3 ≤ (ckS x).length := by unfold ckS; simp
      rcases e7 with e7 | e7 | e7
      · rw [e7] at hsp
        simp only [tot] at hsp
        omega
      · exact ha e7
      · omega
    · rw [if_neg (by rw [e1]; decide)]
      exact ⟨e1, e2⟩
  · rw [if_neg hsp]
    have hus := h.rep.len
    obtain ⟨f1, f2⟩ := com2_early d x k pg W h ⟨h0, h1, by omega, h3⟩ ha (by omega)
    exact ⟨f1, f2.mono (by omega) (fun p hp => hp)⟩
theorem com_fails (B : Nat) (w v : World) (q r mm f m cap : Nat) (x : Lg) (d : St) (k : Nat) (pg : Nat → Pg) (g cp : Nat) (W : List Im) (h : LB B w v q r mm f m cap x d) (hv : Lv d x k pg) (hwk : Wk d k) (hk : k ≤ 10000)
    (hI : ImR v g (toI W)) (hA : ¬ fp r f m g ∧ ¬ lp q mm g) (hok : nam x.H W) (hW1 : W ≠ []) (hW2 : W.length ≤ 120) (hW3 : W.length + 2 ≤ x.L) (ha : d.armed ≠ 0) (ha2 : d.armed ≤ 2) :
    Calls Tryz.prog 18 #[.pointer (some ⟨q, 0, none⟩), .slice (some ⟨g, 0, none⟩) W.length cp] v fun e v' => ∃ mm' m' x' d', (mm' = mm ∨ v.heap.size ≤ mm') ∧ (m' = m ∨ v.heap.size ≤ m') ∧ Fr (fun k => fp r f m k ∨ lp q mm k) v v' ∧ Wk d' (k + 1) ∧ LB B w v' q r mm' f m' cap x' d' ∧ e = .returned (.int .i64 6) ∧ Dd d' x.L x.H (k + 1) (fun p => p = pg) := by
  have hgk := hv.gk
  have hcw := com_writes d x W h.dl.l.H2 hW2
  have hp := List.length_pos_iff.2 hW1
  have hwk2 := hwk
  unfold Wk at hwk2
  obtain ⟨e1, e2⟩ := com_early d x k pg W hv (by omega) hW1 hW2 hW3 hok ha ha2
  refine (com_any v q r mm f m cap x d (some ⟨g, 0, none⟩) cp W h.dl (.inr ⟨g, rfl, hI⟩) (fun j hj => by cases hj; exact ⟨hI.lt, hA.1, hA.2⟩) (okP_nam.2 hok) (by omega) (by omega) hv.alive (by omega) (by omega) (by omega)).mono ?_
  rintro e v' ⟨rfl, mm', m', h1, h2, hD, hF⟩
  exact ⟨mm', m', _, _, h1, h2, hF, hwk.up (by omega) (by omega), h.turn hD h1 h2 hF, by rw [e1], e2⟩
theorem com_sure (B : Nat) (w v : World) (q r mm f m cap : Nat) (x : Lg) (d : St) (k : Nat) (pg : Nat → Pg) (g cp : Nat) (W : List Im) (h : LB B w v q r mm f m cap x d) (hv : Lv d x k pg) (hwk : Wk d k) (hk : k ≤ 10000)
    (hI : ImR v g (toI W)) (hA : ¬ fp r f m g ∧ ¬ lp q mm g) (hok : nam x.H W) (hW1 : W ≠ []) (hW2 : W.length ≤ 120) (hW3 : W.length + 2 ≤ x.L) (ha : d.armed = 0) :
    Calls Tryz.prog 18 #[.pointer (some ⟨q, 0, none⟩), .slice (some ⟨g, 0, none⟩) W.length cp] v fun e v' => e = .returned (.int .i64 0) ∧ ∃ mm' m' x' d', (mm' = mm ∨ v.heap.size ≤ mm') ∧ (m' = m ∨ v.heap.size ≤ m') ∧ Fr (fun k => fp r f m k ∨ lp q mm k) v v' ∧ Wk d' (k + 1) ∧ LB B w v' q r mm' f m' cap x' d' ∧ Lv d' x' (k + 1) (on1 pg W) ∧ x'.L = x.L ∧ x'.H = x.H ∧ d'.armed = 0 := by
  refine (com_b B w v q r mm f m cap x d k pg g cp W h hv hwk hk hI hA hok hW1 hW2 hW3).mono ?_
  rintro e v' ⟨mm', m', x', d', h1, h2, hF, hW, hD, ⟨rfl, e2, e3, e4, e5⟩ | ⟨h3, _⟩⟩
  · exact ⟨rfl, mm', m', x', d', h1, h2, hF, hW, hD, e2, e3, e4, e5 ha⟩
  · exact absurd ha h3
/-- The disk under a log is armed. -/
theorem arm_b (B : Nat) (w v : World) (q r mm f m cap : Nat) (x : Lg) (d : St) (k : Nat) (pg : Nat → Pg) (h : LB B w v q r mm f m cap x d) (hv : Lv d x k pg) (hwk : Wk d k) (n : Nat) (hn : n < 9223372036854775808) :
    Calls Tryz.prog 26 #[.pointer (some ⟨r, 0, none⟩), .int .i64 (n : Int)] v fun e v' => e = .returned (.int .i64 0) ∧ ∃ mm' m', (mm' = mm ∨ v.heap.size ≤ mm') ∧ (m' = m ∨ v.heap.size ≤ m') ∧ Fr (fun k => fp r f m k ∨ lp q mm k) v v' ∧ Wk { d with armed := n } k ∧ LB B w v' q r mm' f m' cap x { d with armed := n } ∧ Lv { d with armed := n } x k pg := by
  have hr := ar_any v r f m cap d h.dl.k (n : Int) (by omega)
  have e : d.ar (n : Int) = ({ d with armed := n }, 0) := by
    unfold St.ar
    rw [if_neg (by omega), Int.toNat_natCast]
  rw [e] at hr
  refine hr.mono ?_
  rintro e v' ⟨rfl, hT⟩
  obtain ⟨mm', m', h1, h2, hD, hF⟩ := h.dl.turn hT rfl
  exact ⟨rfl, mm', m', h1, h2, hF, hwk, h.turn hD h1 h2 hF, ⟨hv.on, hv.w, hv.n, hv.alive, hv.gk, hv.rep⟩⟩
/-- The power comes back to a disk. -/
theorem on_b (B : Nat) (w v : World) (r f m cap : Nat) (d : St) (L H k : Nat) (P : (Nat → Pg) → Prop) (h : DB B w v r f m cap d) (hd : Dd d L H k P) (ao : Option Addr) (n c : Nat) (xs : List Int) (hx : Ints v ao n xs) (hap : ∀ ad, ao = some ad → 0 < n → ¬ fp r f m ad.block) (hn : n ≤ 9223372036854775807) :
    Calls Tryz.prog 27 #[.pointer (some ⟨r, 0, none⟩), .slice ao n c] v fun e v' => e = .returned (.int .i64 0) ∧ ∃ m' pg, (m' = m ∨ v.heap.size ≤ m') ∧ Fr (fp r f m) v v' ∧ DB B w v' r f m' cap (d.on xs) ∧ P pg ∧ Rs (d.on xs) L H k pg ∧ (d.on xs).armed = 0 := by
  refine (po_any v r f m cap d h.k ao n c xs hx hap hn).mono ?_
  have e : d.po xs = (d.on xs, 0) := by unfold St.po; rw [if_pos hd.off]
  rw [e]
  rintro e v' ⟨rfl, m', hm, hl, hF⟩
  obtain ⟨pg, h1, h2⟩ := hd.back xs
  exact ⟨rfl, m', pg, hm, hF, h.turn hl hm hF, h1, h2, hd.armed⟩
theorem boxed_pg (v : World) (s : Pg) : Below v.heap.size v ((v.alloc (.cells (pb zp).toArray 66)).setRow v.heap.size (pb s).toArray) :=
  Fr.below (X := fun k => v.heap.size ≤ k) (((Fr.refl _ v).alloc _).setRow _ _ (.inl (Nat.le_refl _))) (fun _ h => h) (Nat.le_refl _)
theorem apart_move {v : World} {q r mm mm' f m m' g : Nat} (h1 : ¬ fp r f m g) (h2 : ¬ lp q mm g) (hlt : g < v.heap.size) (hm : m' = m ∨ v.heap.size ≤ m') (hmm : mm' = mm ∨ v.heap.size ≤ mm') : ¬ fp r f m' g ∧ ¬ lp q mm' g := by
  refine ⟨?_, ?_⟩
  · rintro (e | e | e)
    · exact h1 (.inl e)
    · exact h1 (.inr (.inl e))
    · rcases hm with e2 | e2
      · exact h1 (.inr (.inr (e.trans e2)))
      · omega
  · rintro (e | e)
    · exact h2 (.inl e)
    · rcases hmm with e2 | e2
      · exact h2 (.inr (e.trans e2))
      · omega
set_option maxRecDepth 100000 in
set_option maxHeartbeats 600000 in
theorem works_any (w : World) (hT : Tabs w) : Calls Tryz.prog 5 #[] w fun e w' => e = .returned (.bool true) ∧ Below w.heap.size w w' := by
  have hz31 := zero31
  have ht2 := hT.two
  obtain ⟨B, hB⟩ : ∃ B, B = w.heap.size := ⟨_, rfl⟩
  rw [← hB] at ht2 ⊢
  have HB : Hid (B = w.heap.size) := hB
  have hnew : Calls Tryz.prog 22 #[.int .i64 12] w fun e v' => ∃ r f m cap, e = .returned (.tuple #[.pointer (some ⟨r, 0, none⟩), .int .i64 0]) ∧ Below w.heap.size w v' ∧ w.heap.size ≤ r ∧ DB B w v' r f m cap (St.start 12 fun _ => zs) := new_b 12 w w B (by omega) ht2 hT (Below.refl _ _) (by omega) (by omega)
  have hfmt := fun (v : World) (r f m cap : Nat) (h : DB B w v r f m cap (St.start 12 fun _ => zs)) => format_b B w v r f m cap 5 5 _ h (by omega) (by omega) (by omega) (by omega) rfl
  obtain ⟨a, ha⟩ : ∃ a, a = textPg ⟨#[97]⟩ := ⟨_, rfl⟩
  have htx := fun v => text_any ⟨#[97]⟩ (by decide) v
  rw [← ha] at htx
  clear hB ha
  go_enter Tryz.func5, Tryz.ntmps5
  go_upto_region 8 with (first
    | (go_at_call 22; refine hnew.mono ?_; rintro e v1 ⟨r, f, m, cap, rfl, kb1, hr1, hD1⟩)
    | (go_at_call 23; refine (hfmt v1 r f m cap hD1).mono ?_; rintro e v2 ⟨rfl, m2, d2, hm2, hF2, hD2, hR2, hW2, ha2⟩)
    | (go_at_call 17; refine (open_sure B w v2 r f m2 cap d2 5 5 1 _ hD2 hR2 hW2 (by omega) (by omega) (by omega) (by omega) (by omega) ha2).mono ?_; rintro e v3 ⟨q, mm, m3, x3, d3, rfl, hm3, hF3, hW3, hL3, hV3, hxL, hxH, ha3, hq3, hmm3⟩)
    | (go_at_call 24; refine (pages_any v3 q r mm x3 hL3.dl.l hV3.alive).mono ?_; rintro e v3b ⟨rfl, rfl⟩; rw [hxH])
    | (go_at_call 25; refine (htx _).mono ?_; rintro e v4 ⟨rfl, kb4⟩
       have hN := Blk.new v4 66 (pb zp))
    | (refine store_pg rfl _ _ rfl v4.heap.size zp a hN rfl rfl ?_; intro hP))
  have hLa := (hL3.next kb4).next (boxed_pg v4 a)
  obtain ⟨PA, hPA⟩ : ∃ P, P = v4.heap.size := ⟨_, rfl⟩
  have hap : ¬ fp r f m3 PA ∧ ¬ lp q mm PA := (hL3.next kb4).apart_new (by omega)
  obtain ⟨v5, hv5⟩ : ∃ u, u = (v4.alloc (.cells (pb zp).toArray 66)).setRow v4.heap.size (pb a).toArray := ⟨_, rfl⟩
  rw [← hv5] at hP hLa ⊢
  rw [← hPA] at hP ⊢
  clear hPA hv5 kb4 hL3 hN hnew hfmt hD1 hD2 hR2 hW2 kb1 hF3 hF2 hm3 hm2 htx
  have hc1 := fun (v : World) (h : LB B w v q r mm f m3 cap x3 d3) (hI : ImR v v5.heap.size (toI [(1, a), (4, a)])) (hA : ¬ fp r f m3 v5.heap.size ∧ ¬ lp q mm v5.heap.size) => com_sure B w v q r mm f m3 cap x3 d3 2 _ v5.heap.size 2 [(1, a), (4, a)] h hV3 hW3 (by omega) hI hA (by rw [hxH]; exact ⟨by simp, by simp⟩) (by simp) (by simp) (by rw [hxL]; simp) ha3
  go_upto_region 9 with (first
    | (refine wpList_load_mid rfl 66 _ rfl PA 0 rfl (pb a) _ hP.whole Tryz.underlying66 rfl (by rw [pb_length]; kernel_rfl) ?_)
    | (refine make74 rfl rfl 1 a rfl rfl ?_)
    | (refine make74 rfl rfl 4 a rfl rfl ?_)
    | (refine build_im2 rfl (1, a) (4, a) rfl rfl rfl ?_; intro hIm
       have hL6 := hLa.next ((Below.refl _ v5).alloc (Nat.le_refl _) (.cells (ic (1, a) ++ ic (4, a)).toArray 82))
       have hP6 := hP.alloc (.cells (ic (1, a) ++ ic (4, a)).toArray 82)
       have hA6 := hLa.apart_new (Nat.le_refl v5.heap.size))
    | (go_at_call 18; refine (hc1 _ hL6 hIm hA6).mono ?_; rintro e v7 ⟨rfl, mm7, m7, x7, d7, i1, i2, hF7, hW7, hL7, hV7, hx7L, hx7H, ha7⟩))
  have hP7 := hP6.fr hF7 (fun h => h.elim hap.1 hap.2)
  have hap7 := apart_move hap.1 hap.2 hP6.lt i2 i1
  rw [hxL] at hx7L
  rw [hxH] at hx7H
  clear hc1 hP hP6 hap hF7 hL6 hLa hV3 hW3 hxL hxH ha3 hIm hA6 i1 i2 hq3 hmm3
  obtain ⟨pg, hpg⟩ : ∃ pg, pg = on1 (fun _ => zp) [(1, a), (4, a)] := ⟨_, rfl⟩
  rw [← hpg] at hV7
  have p1 : pg 1 = a := by rw [hpg]; rfl
  have p2 : pg 2 = zp := by rw [hpg]; rfl
  have p4 : pg 4 = a := by rw [hpg]; rfl
  clear hpg
  have har : ∀ v, LB B w v q r mm7 f m7 cap x7 d7 → Calls Tryz.prog 26 #[.pointer (some ⟨r, 0, none⟩), .int .i64 2] v fun e v' => e = .returned (.int .i64 0) ∧ ∃ mm' m', (mm' = mm7 ∨ v.heap.size ≤ mm') ∧ (m' = m7 ∨ v.heap.size ≤ m') ∧ Fr (fun k => fp r f m7 k ∨ lp q mm7 k) v v' ∧ Wk { d7 with armed := 2 } 3 ∧ LB B w v' q r mm' f m' cap x7 { d7 with armed := 2 } ∧ Lv { d7 with armed := 2 } x7 3 pg := fun v h => arm_b B w v q r mm7 f m7 cap x7 d7 3 pg h hV7 hW7 2 (by omega)
  go_upto_region 10 with (go_at_call 26; refine (har v7 hL7).mono ?_; rintro e v8 ⟨rfl, mm8, m8, i1, i2, hF8, hW8, hL8, hV8⟩)
  have hP8 := hP7.fr hF8 (fun h => h.elim hap7.1 hap7.2)
  have hap8 := apart_move hap7.1 hap7.2 hP7.lt i2 i1
  clear har hP7 hap7 hF8 hL7 hV7 hW7 ha7 i1 i2
  obtain ⟨d8, hd8⟩ : ∃ d8, d8 = { d7 with armed := 2 } := ⟨_, rfl⟩
  have ha8 : d8.armed = 2 := by rw [hd8]
  rw [← hd8] at hW8 hL8 hV8
  clear hd8
  have hc2 := fun (v : World) (h : LB B w v q r mm8 f m8 cap x7 d8) (hI : ImR v v8.heap.size (toI [(2, a)])) (hA : ¬ fp r f m8 v8.heap.size ∧ ¬ lp q mm8 v8.heap.size) => com_fails B w v q r mm8 f m8 cap x7 d8 3 pg v8.heap.size 1 [(2, a)] h hV8 hW8 (by omega) hI hA (by rw [hx7H]; exact ⟨by simp, by simp⟩) (by simp) (by simp) (by rw [hx7L]; simp) (by omega) (by omega)
  go_upto_region 11 with (first
    | (refine wpList_load_mid rfl 66 _ rfl PA 0 rfl (pb a) _ hP8.whole Tryz.underlying66 rfl (by rw [pb_length]; kernel_rfl) ?_)
    | (refine make74 rfl rfl 2 a rfl rfl ?_)
    | (refine build_im1 rfl (2, a) rfl rfl ?_; intro hIm
       have hL9 := hL8.next ((Below.refl _ v8).alloc (Nat.le_refl _) (.cells (ic (2, a)).toArray 82))
       have hP9 := hP8.alloc (.cells (ic (2, a)).toArray 82)
       have hA9 := hL8.apart_new (Nat.le_refl v8.heap.size))
    | (go_at_call 18; refine (hc2 _ hL9 hIm hA9).mono ?_; rintro e v10 ⟨mm10, m10, x10, d10, i1, i2, hF10, hW10, hL10, rfl, hDd⟩))
  have hP10 := hP9.fr hF10 (fun h => h.elim hap8.1 hap8.2)
  have hap10 := (apart_move hap8.1 hap8.2 hP9.lt i2 i1).1
  rw [hx7L, hx7H] at hDd
  have hD10 := hL10.db
  clear hc2 hP8 hP9 hap8 hF10 hL9 hL8 hV8 hW8 hIm hA9 i1 i2 hL10 hx7L hx7H
  have hon := fun (v : World) (h : DB B w v r f m10 cap d10) => on_b B w v r f m10 cap d10 5 5 4 _ h hDd none 0 0 [] ⟨rfl, fun _ => rfl, fun ad h => (by cases h), fun x hx => (by cases hx)⟩ (fun ad h => by cases h) (by omega)
  go_upto_region 13 with (go_at_call 27; refine (hon v10 hD10).mono ?_; rintro e v11 ⟨rfl, m11, pg2, i2, hF11, hD11, rfl, hR11, ha11⟩)
  have hP11 : Asd v11 PA 66 (pb a) r f m11 := (Asd.mk hP10 hap10).turn i2 hF11
  clear hon hP10 hap10 hF11 hD10 hDd i2
  have hop := open_sure B w v11 r f m11 cap _ 5 5 4 _ hD11 hR11 hW10 (by omega) (by omega) (by omega) (by omega) (by omega) ha11
  go_upto_region 16 with (go_at_call 17; refine hop.mono ?_; rintro e v12 ⟨q2, mm12, m12, x12, d12, rfl, i2, hF12, hW12, hL12, hV12, hx12L, hx12H, ha12, hq12, hmm12⟩)
  have hP12 := (hP11.turn i2 hF12).b
  have hr1 := read_b B w v12 q2 r mm12 f m12 cap x12 d12 _ _ hL12 hV12 1 (by omega)
  rw [p1] at hr1
  have hr4 := fun (v : World) (h : LB B w v q2 r mm12 f m12 cap x12 d12) => read_b B w v q2 r mm12 f m12 cap x12 d12 _ _ h hV12 4 (by omega)
  rw [p4] at hr4
  have hr2 := fun (v : World) (h : LB B w v q2 r mm12 f m12 cap x12 d12) => read_b B w v q2 r mm12 f m12 cap x12 d12 _ _ h hV12 2 (by omega)
  rw [p2] at hr2
  clear hop hD11 hR11 ha11 hP11 hF12 i2 hq12 hmm12
  have hr1' : Calls Tryz.prog 15 #[.pointer (some ⟨q2, 0, none⟩), .int .i64 1] v12 fun e v' => e = .returned (.tuple #[.agg (pb a).toArray, .int .i64 0]) ∧ Below v12.heap.size v12 v' ∧ LB B w v' q2 r mm12 f m12 cap x12 d12 := hr1
  have hr4' : ∀ v, LB B w v q2 r mm12 f m12 cap x12 d12 → Calls Tryz.prog 15 #[.pointer (some ⟨q2, 0, none⟩), .int .i64 4] v fun e v' => e = .returned (.tuple #[.agg (pb a).toArray, .int .i64 0]) ∧ Below v.heap.size v v' ∧ LB B w v' q2 r mm12 f m12 cap x12 d12 := hr4
  have hr2' : ∀ v, LB B w v q2 r mm12 f m12 cap x12 d12 → Calls Tryz.prog 15 #[.pointer (some ⟨q2, 0, none⟩), .int .i64 2] v fun e v' => e = .returned (.tuple #[.agg (pb zp).toArray, .int .i64 0]) ∧ Below v.heap.size v v' ∧ LB B w v' q2 r mm12 f m12 cap x12 d12 := hr2
  clear hr1 hr4 hr2
  go_upto_region 17 with (first
    | (go_at_call 15; refine hr1'.mono ?_; rintro e v13 ⟨rfl, kb13, hL13⟩
       have hN13 := Blk.new v13 66 (pb zp))
    | (refine store_pg rfl _ _ rfl v13.heap.size zp a hN13 rfl rfl ?_; intro hQ1))
  have kc13 := boxed_pg v13 a
  have hL14 := hL13.next kc13
  have hP14 := (hP12.next kb13).next kc13
  obtain ⟨Q1, hQ1e⟩ : ∃ P, P = v13.heap.size := ⟨_, rfl⟩
  obtain ⟨v14, hv14⟩ : ∃ u, u = (v13.alloc (.cells (pb zp).toArray 66)).setRow v13.heap.size (pb a).toArray := ⟨_, rfl⟩
  rw [← hv14] at hQ1 hL14 hP14 ⊢
  rw [← hQ1e] at hQ1 ⊢
  clear hv14 hQ1e hL13 hN13 kc13 hr1' hP12 hL12
  go_upto_region 18 with (first
    | (go_at_call 15; refine (hr4' v14 hL14).mono ?_; rintro e v15 ⟨rfl, kb15, hL15⟩
       have hN15 := Blk.new v15 66 (pb zp))
    | (refine store_pg rfl _ _ rfl v15.heap.size zp a hN15 rfl rfl ?_; intro hQ4))
  have kc15 := boxed_pg v15 a
  have hL16 := hL15.next kc15
  have hP16 := (hP14.next kb15).next kc15
  have hQ16 := (hQ1.next kb15).next kc15
  obtain ⟨Q4, hQ4e⟩ : ∃ P, P = v15.heap.size := ⟨_, rfl⟩
  obtain ⟨v16, hv16⟩ : ∃ u, u = (v15.alloc (.cells (pb zp).toArray 66)).setRow v15.heap.size (pb a).toArray := ⟨_, rfl⟩
  rw [← hv16] at hQ4 hL16 hP16 hQ16 ⊢
  rw [← hQ4e] at hQ4 ⊢
  clear hv16 hQ4e hL15 hN15 kc15 hr4' hL14 hP14 hQ1
  go_upto_region 19 with (first
    | (go_at_call 15; refine (hr2' v16 hL16).mono ?_; rintro e v17 ⟨rfl, kb17, hL17⟩
       have hN17 := Blk.new v17 66 (pb zp))
    | (refine store_pg rfl _ _ rfl v17.heap.size zp zp hN17 rfl rfl ?_; intro hQ2))
  have kc17 := boxed_pg v17 zp
  have hL18 := hL17.next kc17
  have hP18 := (hP16.next kb17).next kc17
  have hQ18 := (hQ16.next kb17).next kc17
  have hR18 := (hQ4.next kb17).next kc17
  obtain ⟨Q2, hQ2e⟩ : ∃ P, P = v17.heap.size := ⟨_, rfl⟩
  obtain ⟨v18, hv18⟩ : ∃ u, u = (v17.alloc (.cells (pb zp).toArray 66)).setRow v17.heap.size (pb zp).toArray := ⟨_, rfl⟩
  rw [← hv18] at hQ2 hL18 hP18 hQ18 hR18 ⊢
  rw [← hQ2e] at hQ2 ⊢
  clear hv18 hQ2e hL17 hN17 kc17 hr2' hL16 hP16 hQ16 hQ4
  have hqa := fun W => eq31 a a W
  have hqz := fun W => eq31 zp zp W
  rw [decide_eq_true rfl] at hqa hqz
  have hgu := guard31
  go_wp2_with (first
    | (refine load_want (by rfl) 66 _ rfl PA 0 rfl (pb a) _ hP18.whole Tryz.underlying66 rfl (by rw [pb_length]; kernel_rfl) ?_)
    | (refine load_want (by rfl) 66 _ rfl Q1 0 rfl (pb a) _ hQ18.whole Tryz.underlying66 rfl (by rw [pb_length]; kernel_rfl) ?_)
    | (refine load_want (by rfl) 66 _ rfl Q4 0 rfl (pb a) _ hR18.whole Tryz.underlying66 rfl (by rw [pb_length]; kernel_rfl) ?_)
    | (refine load_want (by rfl) 66 _ rfl Q2 0 rfl (pb zp) _ hQ2.whole Tryz.underlying66 rfl (by rw [pb_length]; kernel_rfl) ?_))
  go_ret
  exact ⟨rfl, hL18.below⟩
end Go.Proofs.YtndfhmlcfaaaiaaGreatDoor
