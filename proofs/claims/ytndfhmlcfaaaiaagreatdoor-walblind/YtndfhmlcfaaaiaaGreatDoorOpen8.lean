/- A log is opened. -/
import Derived.Test.YtndfhmlcfaaaiaaGreatDoorHold
namespace Go.Proofs.YtndfhmlcfaaaiaaGreatDoor
open Go.RowKit

/-- What an Open leaves: the log at q, with what the records wrote brought home. -/
def Opd (w v : World) (q r f m cap : Nat) (d : St) (L H g : Nat) (E : Int) : Prop :=
  ∃ ws, Lie d.at L H g 0 0 ws ∧ NoR d.at L H g ws.length (tot ws) ∧ (ckp d ⟨L, H, g, ws, false⟩).2.2 = E ∧
    ∃ mm m', w.heap.size ≤ mm ∧ (m' = m ∨ w.heap.size ≤ m') ∧ DL v q r mm f m' cap (ckp d ⟨L, H, g, ws, false⟩).2.1 (ckp d ⟨L, H, g, ws, false⟩).1 ∧ Fr (fp r f m) w v
def oP (w : World) (q r f m cap G t : Nat) (cs : List Value) (d : St) (L H g : Nat) : Nat → World → Prop
  | 0, v => Blk v G t cs ∧ ∃ mm, w.heap.size ≤ mm ∧ mm < G ∧ DL v q r mm f m cap ⟨L, H, g, [], false⟩ d ∧ Below w.heap.size w v
  | 1, v => Blk v G t cs ∧ ∃ mm, w.heap.size ≤ mm ∧ ∃ ws, Lie d.at L H g 0 0 ws ∧ NoR d.at L H g ws.length (tot ws) ∧ DL v q r mm f m cap ⟨L, H, g, ws, false⟩ d ∧ Below w.heap.size w v
  | _, v => Opd w v q r f m cap d L H g 0
theorem Mv.opd {w v v' : World} {q r mm f m cap : Nat} {y : Lg} {d' : St} (h : Mv v v' q r mm f m cap y d') (hb : Below w.heap.size w v) (hq : w.heap.size ≤ q) (hmm : w.heap.size ≤ mm) :
    ∃ mm m', w.heap.size ≤ mm ∧ (m' = m ∨ w.heap.size ≤ m') ∧ DL v' q r mm f m' cap y d' ∧ Fr (fp r f m) w v' := by
  obtain ⟨mm', m', h1, h2, h3, h4⟩ := h
  have hs := hb.size
  refine ⟨mm', m', ?_, h2.imp id (Nat.le_trans hs), h3, ?_⟩
  · rcases h1 with e | e
    · omega
    · omega
  · refine (Fr.of_below (X := fp r f m) hb (Nat.le_refl _)).trans h4 (fun j hj hx => ?_)
    rcases hx with hx | (e | e)
    · exact hx
    · omega
    · omega
def F35 (q : Nat) : Value := .func (.func 49) #[.pointer (some ⟨q, 0, none⟩)] #[]
def F12 (q : Nat) : Value := .func (.func 37) #[.pointer (some ⟨q, 0, none⟩)] #[]
theorem open_steps (w w1 : World) (q r mm f m cap : Nat) (d : St) (L H g : Nat) (hD1 : DL w1 q r mm f m cap ⟨L, H, g, [], false⟩ d) (kb1 : Below w.heap.size w w1) (hq : w.heap.size ≤ q) (hmm : w.heap.size < mm) (hoff : d.off = false) (hg : g < 18446744073709551614) (hw : d.writes ≤ 900000000) (hf : d.flushes ≤ 900000000) :
    Calls Tryz.prog 48 #[.slice (some ⟨w1.heap.size, 0, none⟩) 2 2] (w1.alloc (.cells #[.func (.func 49) #[.pointer (some ⟨q, 0, none⟩)] #[], .func (.func 37) #[.pointer (some ⟨q, 0, none⟩)] #[]] 139)) fun e w' => ∃ E, e = .returned (.int .i64 E) ∧ ((E = 0 ∧ Opd w w' q r f m cap d L H g 0) ∨ (E ≠ 0 ∧ Opd w w' q r f m cap d L H g E)) := by
  have hkb := kb1.alloc kb1.size (.cells #[.func (.func 49) #[.pointer (some ⟨q, 0, none⟩)] #[], .func (.func 37) #[.pointer (some ⟨q, 0, none⟩)] #[]] 139)
  have hB := Blk.new w1 139 [F35 q, F12 q]
  have hll := hD1.l.lt
  refine inOrder_any (oP w q r f m cap w1.heap.size 139 [F35 q, F12 q] d L H g) (fun E v => (E = 0 ∧ Opd w v q r f m cap d L H g 0) ∨ (E ≠ 0 ∧ Opd w v q r f m cap d L H g E)) w1.heap.size 2 2 _ (by omega) ⟨hB, mm, by omega, hll mm (.inr rfl), hD1.next ((Below.refl _ w1).alloc (Nat.le_refl _) _), hkb⟩ (fun v h => .inl ⟨rfl, h⟩) ?_
  intro j hj v hP
  rcases j with _ | _ | j
  · obtain ⟨hBv, mm1, h1, h2, hD, hb⟩ := hP
    refine ⟨49, #[.pointer (some ⟨q, 0, none⟩)], #[], hBv.cell 0 _ rfl, entr35, (replay_any v q r mm1 f m cap _ d hD hoff trivial).mono ?_⟩
    rintro e v' ⟨rfl, ws, hl, hn, hD2, hF⟩
    refine ⟨0, rfl, .inl ⟨rfl, hBv.fr hF ?_, mm1, h1, ws, hl, hn, hD2, hb.trans (hF.below ?_ hb.size)⟩⟩
    · rintro (e | e)
      · have := hll q (.inl rfl); omega
      · omega
    · rintro k (e | e) <;> omega
  · obtain ⟨hBv, mm1, h1, ws, hl, hn, hD, hb⟩ := hP
    refine ⟨37, #[.pointer (some ⟨q, 0, none⟩)], #[], hBv.cell 1 _ rfl, entr12, (ckp_any v q r mm1 f m cap _ d hD rfl hg hw hf).mono ?_⟩
    rintro e v' ⟨rfl, hM⟩
    refine ⟨_, rfl, ?_⟩
    by_cases hE : (ckp d ⟨L, H, g, ws, false⟩).2.2 = 0
    · exact .inl ⟨hE, ws, hl, hn, hE, hM.opd hb hq h1⟩
    · exact .inr ⟨hE, .inr ⟨hE, ws, hl, hn, rfl, hM.opd hb hq h1⟩⟩
  · omega
set_option maxRecDepth 100000 in
set_option maxHeartbeats 600000 in
theorem open_any (w : World) (r f m cap : Nat) (d : St) (h : Lay w r f m cap d) (hT : Tabs w) (hfp : ∀ k, fp r f m k → 2 ≤ k) (hoff : d.off = false) (hn : 2 ≤ d.n) (hg : (hol d 2).2.2 < 18446744073709551614) (hw : d.writes ≤ 900000000) (hf : d.flushes ≤ 900000000) :
    Calls Tryz.prog 17 #[.pointer (some ⟨r, 0, none⟩)] w fun e w' => ((hol d 2).2.2 = 0 ∧ e = .returned (.tuple #[.pointer none, .int .i64 80]) ∧ Below w.heap.size w w') ∨
      ((hol d 2).2.2 ≠ 0 ∧ ∃ q E, w.heap.size ≤ q ∧ Opd w w' q r f m cap d (hol d 2).1 (hol d 2).2.1 (hol d 2).2.2 E ∧ e = .returned (.tuple #[if E = 0 then .pointer (some ⟨q, 0, none⟩) else .pointer none, .int .i64 E])) := by
  have hho := holding_any w r f m cap d h hT hfp hoff hn (by omega)
  obtain ⟨Y, hY⟩ : ∃ Y, Y = hol d 2 := ⟨_, rfl⟩
  rw [← hY] at hho hg ⊢
  clear hY
  obtain ⟨L, H, g⟩ := Y
  dsimp only at hho hg ⊢
  by_cases hg0 : g = 0
  · have hc : Calls Tryz.prog 47 #[.pointer (some ⟨r, 0, none⟩)] w fun e w' => e = .returned (.tuple #[.pointer none, .int .i64 80]) ∧ Below w.heap.size w w' := hho.mono (by
      rintro e w' ⟨hb, ⟨_, rfl⟩ | ⟨h0, _⟩⟩
      · exact ⟨rfl, hb⟩
      · exact absurd hg0 h0)
    clear hho
    go_enter Tryz.func17, Tryz.ntmps17
    go_wp2_with (go_at_call 47; refine hc.mono ?_; rintro e w1 ⟨rfl, kb1⟩)
    go_ret2
    exact .inl ⟨hg0, rfl, kb1⟩
  · obtain ⟨q, hq⟩ : ∃ q, q = w.heap.size := ⟨_, rfl⟩
    have hc : Calls Tryz.prog 47 #[.pointer (some ⟨r, 0, none⟩)] w fun e w' => e = .returned (.tuple #[.pointer (some ⟨q, 0, none⟩), .int .i64 0]) ∧ Below w.heap.size w w' ∧ ∃ mm, w.heap.size < mm ∧ DL w' q r mm f m cap ⟨L, H, g, [], false⟩ d := hho.mono (by
      rintro e w' ⟨hb, ⟨h0, _⟩ | ⟨_, rfl, hd⟩⟩
      · exact absurd h0 hg0
      · rw [hq]; exact ⟨rfl, hb, hd⟩)
    clear hho
    have hqs : w.heap.size ≤ q := by omega
    have HQ : Hid (q = w.heap.size) := hq
    clear hq
    go_enter Tryz.func17, Tryz.ntmps17
    have hin := fun (w1 : World) (mm : Nat) (hD1 : DL w1 q r mm f m cap ⟨L, H, g, [], false⟩ d) (kb1 : Below w.heap.size w w1) (hmm : w.heap.size < mm) => open_steps w w1 q r mm f m cap d L H g hD1 kb1 hqs hmm hoff hg hw hf
    go_wp2_with (first
      | (go_at_call 47; refine hc.mono ?_; rintro e w1 ⟨rfl, kb1, mm, hmm, hD1⟩)
      | (go_at_call 48; refine (hin w1 mm hD1 kb1 hmm).mono ?_; rintro e w2 ⟨E, rfl, hR⟩
         rcases hR with ⟨hE0, hR⟩ | ⟨hE0, hR⟩))
    · go_ret2
      exact .inr ⟨hg0, q, 0, hqs, hR, by rw [if_pos rfl]; rfl⟩
    · go_ret2
      exact .inr ⟨hg0, q, E, hqs, hR, by rw [if_neg hE0]; rfl⟩
end Go.Proofs.YtndfhmlcfaaaiaaGreatDoor
