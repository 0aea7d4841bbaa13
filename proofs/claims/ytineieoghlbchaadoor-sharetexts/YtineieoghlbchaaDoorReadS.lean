/- A text as a share, by the program and by the document's answer. -/
import Derived.Test.YtineieoghlbchaaDoorWorks
import Derived.Test.YtineieoghlbchaaDoorApartB
import Derived.Laws.ResultCell
namespace Go.Proofs.YtineieoghlbchaaDoor
open Go.RowKit

def rdE (l : List Int) : Int := if uhE l = 0 then (match uhL l with | [] => 10 | x :: ys => if x = 0 then 40 else if 1024 < ys.length then 3 else 0) else uhE l
def rdX (l : List Int) : Int := if rdE l = 0 then (uhL l).headD 0 else 0
def rdY (l : List Int) : List Int := if rdE l = 0 then (uhL l).tail else []

/-- What a text is read as. -/
def ReadAs (l : List Int) (w : World) (e : Ending) (w' : World) : Prop := ∃ ro rn rc, e = .returned (.tuple #[.agg #[.int .u8 (rdX l), .slice ro rn rc], .int .i64 (rdE l)]) ∧ Shows w' ro rn (rdY l) ∧ (ro = none → rc = 0) ∧ rn ≤ rc ∧ Below w.heap.size w w'
theorem ReadAs.bad {l : List Int} {w w' : World} {e : Ending} {E : Int} (hE : rdE l = E) (h0 : E ≠ 0) (he : e = .returned (.tuple #[.agg #[.int .u8 0, .slice none 0 0], .int .i64 E])) (hb : Below w.heap.size w w') : ReadAs l w e w' := by
  refine ⟨none, 0, 0, ?_, ?_, fun _ => rfl, Nat.le_refl _, hb⟩
  · rw [he, hE, rdX, if_neg (by rw [hE]; exact h0)]
  · rw [rdY, if_neg (by rw [hE]; exact h0)]
    exact ⟨rfl, fun _ => rfl, fun ad h => (by cases h), fun x hx => (by simp at hx)⟩

/-- A share that lies in a block of its own: what a store into it wants. -/
structure Slot (w : World) (g : Nat) (a b : Value) : Prop where
  blk : Blk w g 44 [a, b]
theorem Slot.facts {w : World} {g : Nat} {a b : Value} (h : Slot w g a b) (x : Value) : w.cell? ⟨g, 0, none⟩ = some a ∧ w.cell? ⟨g, 1, none⟩ = some b ∧ w.frozen? ⟨g, 0, none⟩ = false ∧ w.frozen? ⟨g, 1, none⟩ = false ∧ (w.setCell ⟨g, 0, none⟩ x).cell? ⟨g, 1, none⟩ = some b ∧ (w.setCell ⟨g, 0, none⟩ x).frozen? ⟨g, 1, none⟩ = false := by
  have h1 := h.blk.set 0 x
  exact ⟨h.blk.cell 0 _ rfl, h.blk.cell 1 _ rfl, h.blk.fz 0, h.blk.fz 1, h1.cell 1 _ rfl, h1.fz 1⟩
theorem Slot.store {w : World} {g : Nat} {a b : Value} (h : Slot w g a b) (x y : Value) : Slot ((w.setCell ⟨g, 0, none⟩ x).setCell ⟨g, 1, none⟩ y) g x y := ⟨(h.blk.set 0 x).set 1 y⟩
theorem Slot.later {w w' : World} {g : Nat} {a b : Value} (h : Slot w g a b) (hb : Below w.heap.size w w') : Slot w' g a b := ⟨h.blk.next hb⟩

/-- A share and an error's number are handed back. -/
theorem ret_share {fn : Func} {u : Tmp} (h : fn.results = #[.cell 2 44, .tmp u]) (tmps : Array Value) (w : World) (g : Nat) (x y : Value) (h2 : tmps.getD 2 undef = .pointer (some ⟨g, 0, none⟩)) (k0 : w.cell? ⟨g, 0, none⟩ = some x) (k1 : w.cell? ⟨g, 1, none⟩ = some y) :
    (results fn tmps).run Tryd.prog w = .ok (.tuple #[.agg #[x, y], tmps.getD u undef]) w := by
  rw [results_cell_tmp h, h2]
  go_simp

theorem uhl_le (l : List Int) : (uhl l).length ≤ l.length := by
  induction l using uhl.induct with
  | case1 a b r ih => simp only [uhl, List.length_cons]; omega
  | case2 l h => simp [uhl]
theorem uhL_le (l : List Int) : (uhL l).length ≤ l.length := by
  unfold uhL
  split
  · exact uhl_le l
  · simp
theorem shows_of_row {w : World} {base g n c : Nat} {xs : List Int} (h : w.ownsRow base 5 1 (.slice (some ⟨g, 0, none⟩) n c) n (u8s xs)) (hr : ∀ x ∈ xs, 0 ≤ x ∧ x ≤ 255) : Shows w (some ⟨g, 0, none⟩) n xs := by
  obtain ⟨ao, c', e, hs, _⟩ := shows_of_own h hr
  cases e
  exact hs

set_option maxRecDepth 100000 in
set_option maxHeartbeats 2000000 in
theorem read_any (t : ByteArray) (w : World) (hbig : t.size ≤ 1000000) : Calls Tryd.prog 26 #[.string t] w fun e w' => ReadAs (nums t) w e w' := by
  have hbA : Below w.heap.size w (w.alloc (.cells #[.int .u8 0, .slice none 0 0] 44)) := (Below.refl _ w).alloc (Nat.le_refl _) _
  have hsl : Slot (w.alloc (.cells #[.int .u8 0, .slice none 0 0] 44)) w.heap.size (.int .u8 0) (.slice none 0 0) := ⟨Blk.new w 44 [_, _]⟩
  have hu := unhex_any t (w.alloc (.cells #[.int .u8 0, .slice none 0 0] 44)) (by omega)
  have hrg : ∀ x ∈ uhL (nums t), 0 ≤ x ∧ x ≤ 255 := uhL_rng (nums t)
  have hlen : (uhL (nums t)).length ≤ 1000000 := by have := uhL_le (nums t); rw [nums_length] at this; omega
  by_cases hE : uhE (nums t) = 0
  · rw [hE] at hu
    cases hL : uhL (nums t) with
    | nil =>
      rw [hL] at hu
      have HR : Hid (rdE (nums t) = 10) := by show _ = _; unfold rdE; rw [if_pos hE, hL]
      go_enter Tryd.func26, Tryd.ntmps26
      go_wp2_with (go_at_call 46; refine hu.mono ?_; rintro e w1 ⟨u, rfl, hv, hb1⟩; obtain ⟨uo, uc, rfl, hsu, -⟩ := own_shape hv (by simp); have hbW := hbA.trans (hb1.mono hbA.size); have hs1 := hsl.later hb1; obtain ⟨k0, k1, f0, f1, k2, f2⟩ := hs1.facts (.int .u8 0); obtain ⟨k3, k4, -⟩ := (hs1.store (.int .u8 0) (.slice none 0 0)).facts (.int .u8 0))
      refine bodyPost_ret (ret_share rfl _ _ w.heap.size _ _ rfl k3 k4) rfl ?_
      exact ReadAs.bad HR.out (by decide) rfl ((hbW.setCell (Nat.le_refl _) _).setCell (Nat.le_refl _) _)
    | cons x ys =>
      rw [hL] at hu hrg hlen
      have hx := hrg x (by simp)
      have hx0 := hx.1
      have hx1 := hx.2
      have HE : Hid (rdE (nums t) = if x = 0 then 40 else if 1024 < ys.length then 3 else 0) := by show _ = _; unfold rdE; rw [if_pos hE, hL]
      have HX : Hid (uhL (nums t) = x :: ys) := hL
      have HRG : Hid (∀ y ∈ x :: ys, 0 ≤ y ∧ y ≤ 255) := hrg
      obtain ⟨m, hm⟩ : ∃ m, m = ys.length := ⟨_, rfl⟩
      have hm2 : (m : Int) ≤ 1000000 := by rw [hm]; simp at hlen; omega
      rw [List.length_cons, ← hm] at hu
      have HM : Hid (m = ys.length) := hm
      clear hE hL hrg hlen hm hx
      go_enter Tryd.func26, Tryd.ntmps26
      go_wp2_with (go_at_call 46; refine hu.mono ?_; rintro e w1 ⟨u, rfl, hv, hb1⟩; obtain ⟨g, c, rfl, hg0, hg1⟩ := hv.form (by omega); have hbW := hbA.trans (hb1.mono hbA.size); have hs1 := hsl.later hb1; obtain ⟨k0, k1, f0, f1, k2, f2⟩ := hs1.facts (.int .u8 x))
      have kx : w1.cell? ⟨g, 0, none⟩ = some (.int .u8 x) := hv.cellAt 0 (by omega)
      have hgne : g ≠ w.heap.size := by simp at hg0; omega
      have hb1' : (1 : Int) ≤ (m : Int) + 1 := by omega
      have hcm : m + 1 ≤ c := by
        rcases hv.2 with ⟨h3, _⟩ | ⟨g', cap', cur, h3, _, _, hn, _⟩
        · cases h3
        · cases h3; exact hn
      have hsh := (shows_of_row hv HRG.out).drop (c := c) (k := 1) (by omega) hcm
      obtain ⟨ro, hro⟩ : ∃ ro, ro = fromAt (some ⟨g, 0, none⟩) c 1 := ⟨_, rfl⟩
      rw [← hro, List.drop_one, List.tail_cons, Nat.add_sub_cancel] at hsh
      have hro2 : c = 1 ∧ ro = some ⟨g, 0, none⟩ ∨ ¬ c = 1 ∧ ro = some ⟨g, 1, none⟩ := by
        rw [hro]
        unfold fromAt
        by_cases e : c = 1
        · exact .inl ⟨e, by rw [if_pos e]⟩
        · exact .inr ⟨e, by rw [if_neg e]; rfl⟩
      have hrn : ro ≠ none := by rcases hro2 with ⟨_, h⟩ | ⟨_, h⟩ <;> rw [h] <;> simp
      have kx2 : ∀ v, ((w1.setCell ⟨w.heap.size, 0, none⟩ (.int .u8 x)).setCell ⟨w.heap.size, 1, none⟩ v).drew.cell? ⟨g, 0, none⟩ = some (.int .u8 x) := fun v => (cell?_of_other (w := w1.setCell ⟨w.heap.size, 0, none⟩ (.int .u8 x)) hgne).trans ((cell?_of_other (w := w1) hgne).trans kx)
      obtain ⟨cc, hcc⟩ : ∃ cc, c - 1 = cc := ⟨_, rfl⟩
      have hcc2 : m ≤ cc := by omega
      have hs2 := hs1.store (.int .u8 x) (.slice ro m cc)
      have hbW2 : Below w.heap.size w ((w1.setCell ⟨w.heap.size, 0, none⟩ (.int .u8 x)).setCell ⟨w.heap.size, 1, none⟩ (.slice ro m cc)) := (hbW.setCell (Nat.le_refl _) _).setCell (Nat.le_refl _) _
      have hsh2 : Shows ((w1.setCell ⟨w.heap.size, 0, none⟩ (.int .u8 x)).setCell ⟨w.heap.size, 1, none⟩ (.slice ro m cc)) ro m ys := by
        have hne : ∀ ad, ro = some ad → ad.block ≠ w.heap.size := fun ad e => by
          rcases hro2 with ⟨_, h⟩ | ⟨_, h⟩ <;> (rw [h] at e; cases e; exact hgne)
        exact (hsh.beside (a := ⟨w.heap.size, 0, none⟩) hne _).beside (a := ⟨w.heap.size, 1, none⟩) hne _
      obtain ⟨W2, HW2⟩ : ∃ W2, Hid (W2 = ((w1.setCell ⟨w.heap.size, 0, none⟩ (.int .u8 x)).setCell ⟨w.heap.size, 1, none⟩ (.slice ro m cc)).drew) := ⟨_, rfl⟩
      have hs3 : Slot W2 w.heap.size (.int .u8 x) (.slice ro m cc) := by rw [HW2.out]; exact ⟨hs2.blk⟩
      have hbW3 : Below w.heap.size w W2 := by rw [HW2.out]; exact hbW2.drew
      have hsh3 : Shows W2 ro m ys := by rw [HW2.out]; exact shows_heap hsh2 rfl
      obtain ⟨q0, q1, g0, g1, q2, g2⟩ := hs3.facts (.int .u8 0)
      obtain ⟨-, -, -, -, q3, g3⟩ := hs3.facts (.int .u8 x)
      obtain ⟨z0, z1, -⟩ := (hs3.store (.int .u8 0) (.slice none 0 0)).facts (.int .u8 0)
      have hlg := isLong_any x ro m cc W2
      have hst : ∀ w5, Below W2.heap.size W2 w5 → Slot w5 w.heap.size (.int .u8 x) (.slice ro m cc) ∧ Below w.heap.size w w5 ∧ Shows w5 ro m ys := fun w5 hb => ⟨hs3.later hb, hbW3.trans (hb.mono hbW3.size), hsh3.later hb⟩
      clear hro hsh hv hg0 hg1 hb1 hs2 hbW2 hsh2
      rcases hro2 with ⟨rfl, rfl⟩ | ⟨hc1, rfl⟩
      · obtain rfl : cc = 0 := by omega
        clear hcc
        obtain rfl : m = 0 := by omega
        go_region_held3 (fun w' => w'.cell? ⟨g, 0, none⟩ = some (.int .u8 x)) (first | go_keep | exact kx2 _) ((fail))
        rw [← HW2.out]
        clear kx kx2 k0 k1 f0 f1 k2 f2 hs1 hbW
        by_cases hx : x = 0
        · subst hx
          go_wp2
          refine bodyPost_ret (ret_share rfl _ _ w.heap.size _ _ rfl z0 z1) rfl ?_
          exact ReadAs.bad (E := 40) (by rw [HE.out]; simp) (by decide) rfl ((hbW3.setCell (Nat.le_refl _) _).setCell (Nat.le_refl _) _)
        · have hx' : (x == 0) = false := by simp [hx]
          by_cases hm : (1024 : Int) < ((0 : Nat) : Int)
          · exact absurd hm (by decide)
          · rw [decide_eq_false hm] at hlg
            go_wp2_with (go_at_call 38; refine hlg.mono ?_; rintro e w5 ⟨rfl, hb5⟩; obtain ⟨s5, b5, h5⟩ := hst w5 hb5; obtain ⟨p0, p1, r0, r1, p2, r2⟩ := s5.facts (.int .u8 x))
            have hE0 : rdE (nums t) = 0 := by rw [HE.out, if_neg hx, if_neg (by have := HM.out; omega)]
            obtain ⟨y0, y1, -⟩ := (s5.store (.int .u8 x) (.slice (some ⟨g, 0, none⟩) 0 0)).facts (.int .u8 0)
            refine bodyPost_ret (ret_share rfl _ _ w.heap.size _ _ rfl y0 y1) rfl ?_
            refine ⟨(some ⟨g, 0, none⟩), 0, 0, ?_, ?_, fun e => (by cases e), hcc2, (b5.setCell (Nat.le_refl _) _).setCell (Nat.le_refl _) _⟩
            · rw [rdX, if_pos hE0, hE0, HX.out]; rfl
            · rw [rdY, if_pos hE0, HX.out]
              exact (h5.beside (a := ⟨w.heap.size, 0, none⟩) (fun ad e => by cases e; exact hgne) _).beside (a := ⟨w.heap.size, 1, none⟩) (fun ad e => by cases e; exact hgne) _
      · go_region_held3 (fun w' => w'.cell? ⟨g, 0, none⟩ = some (.int .u8 x)) (first | go_keep | exact kx2 _) ((fail))
        rw [← HW2.out]
        clear kx kx2 k0 k1 f0 f1 k2 f2 hs1 hbW
        by_cases hx : x = 0
        · subst hx
          go_wp2
          refine bodyPost_ret (ret_share rfl _ _ w.heap.size _ _ rfl z0 z1) rfl ?_
          exact ReadAs.bad (E := 40) (by rw [HE.out]; simp) (by decide) rfl ((hbW3.setCell (Nat.le_refl _) _).setCell (Nat.le_refl _) _)
        · have hx' : (x == 0) = false := by simp [hx]
          by_cases hm : (1024 : Int) < m
          · rw [decide_eq_true hm] at hlg
            go_wp2_with (go_at_call 38; refine hlg.mono ?_; rintro e w5 ⟨rfl, hb5⟩; obtain ⟨s5, b5, h5⟩ := hst w5 hb5; obtain ⟨p0, p1, r0, r1, p2, r2⟩ := s5.facts (.int .u8 0); obtain ⟨y0, y1, -⟩ := (s5.store (.int .u8 0) (.slice none 0 0)).facts (.int .u8 0))
            refine bodyPost_ret (ret_share rfl _ _ w.heap.size _ _ rfl y0 y1) rfl ?_
            exact ReadAs.bad (E := 3) (by rw [HE.out, if_neg hx, if_pos (by have := HM.out; omega)]) (by decide) rfl ((b5.setCell (Nat.le_refl _) _).setCell (Nat.le_refl _) _)
          · rw [decide_eq_false hm] at hlg
            go_wp2_with (go_at_call 38; refine hlg.mono ?_; rintro e w5 ⟨rfl, hb5⟩; obtain ⟨s5, b5, h5⟩ := hst w5 hb5; obtain ⟨p0, p1, r0, r1, p2, r2⟩ := s5.facts (.int .u8 x))
            have hE0 : rdE (nums t) = 0 := by rw [HE.out, if_neg hx, if_neg (by have := HM.out; omega)]
            obtain ⟨y0, y1, -⟩ := (s5.store (.int .u8 x) (.slice (some ⟨g, 1, none⟩) m cc)).facts (.int .u8 0)
            refine bodyPost_ret (ret_share rfl _ _ w.heap.size _ _ rfl y0 y1) rfl ?_
            refine ⟨(some ⟨g, 1, none⟩), m, cc, ?_, ?_, fun e => (by cases e), hcc2, (b5.setCell (Nat.le_refl _) _).setCell (Nat.le_refl _) _⟩
            · rw [rdX, if_pos hE0, hE0, HX.out]; rfl
            · rw [rdY, if_pos hE0, HX.out]
              exact (h5.beside (a := ⟨w.heap.size, 0, none⟩) (fun ad e => by cases e; exact hgne) _).beside (a := ⟨w.heap.size, 1, none⟩) (fun ad e => by cases e; exact hgne) _
  · have hE' : (uhE (nums t) == 0) = false := by simp [hE]
    have HR : Hid (rdE (nums t) = uhE (nums t)) := by show _ = _; unfold rdE; rw [if_neg hE]
    have hl0 : uhL (nums t) = [] := by unfold uhL; rw [if_neg hE]
    rw [hl0] at hu
    obtain ⟨E, eE⟩ : ∃ E, E = uhE (nums t) := ⟨_, rfl⟩
    rw [← eE] at hu hE hE' HR
    clear eE hl0 hrg hlen
    go_enter Tryd.func26, Tryd.ntmps26
    go_wp2_with (go_at_call 46; refine hu.mono ?_; rintro e w1 ⟨u, rfl, hv, hb1⟩; obtain ⟨uo, uc, rfl, hsu, -⟩ := own_shape hv (by simp); have hbW := hbA.trans (hb1.mono hbA.size); have hs1 := hsl.later hb1; obtain ⟨k0, k1, f0, f1, k2, f2⟩ := hs1.facts (.int .u8 0); obtain ⟨k3, k4, -⟩ := (hs1.store (.int .u8 0) (.slice none 0 0)).facts (.int .u8 0))
    refine bodyPost_ret (ret_share rfl _ _ w.heap.size _ _ rfl k3 k4) rfl ?_
    exact ReadAs.bad HR.out hE rfl ((hbW.setCell (Nat.le_refl _) _).setCell (Nat.le_refl _) _)
end Go.Proofs.YtineieoghlbchaaDoor
