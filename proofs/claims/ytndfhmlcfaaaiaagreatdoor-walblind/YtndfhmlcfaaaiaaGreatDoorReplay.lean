/- The records that lie in the log are taken up, one behind the other. -/
import Derived.Test.YtndfhmlcfaaaiaaGreatDoorNext
import Derived.Test.YtndfhmlcfaaaiaaGreatDoorComR
namespace Go.Proofs.YtndfhmlcfaaaiaaGreatDoor
open Go.RowKit

theorem pgs_toI (W : List Im) : pgs (toI W) = W.map fun x => (x.1 : Int) := by simp [pgs, toI]
theorem okP_nam {H : Nat} {W : List Im} : okP H (toI W) ↔ nam H W := by
  unfold okP nam
  rw [pgs_toI]
  constructor
  · rintro ⟨h1, h2⟩
    refine ⟨fun x hx => ?_, ?_⟩
    · have := (h1 (x.1 : Int) (List.mem_map.2 ⟨x, hx, rfl⟩)).2
      omega
    · have e : W.map (fun x => (x.1 : Int)) = (W.map (·.1)).map (fun n : Nat => (n : Int)) := by rw [List.map_map]; rfl
      rw [e] at h2
      exact List.Pairwise.of_map _ (fun a b hab e => hab (by rw [e])) h2
  · rintro ⟨h1, h2⟩
    refine ⟨fun z hz => ?_, ?_⟩
    · obtain ⟨x, hx, rfl⟩ := List.mem_map.1 hz
      have := h1 x hx
      omega
    · have e : W.map (fun x => (x.1 : Int)) = (W.map (·.1)).map (fun n : Nat => (n : Int)) := by rw [List.map_map]; rfl
      rw [e]
      exact List.Pairwise.map _ (fun a b hab => by omega) h2
theorem nxW_len (d : St) (x : Lg) : (nxW d x).length = nxN d x := cand_length _ _ _
theorem nx_ok {d : St} {x : Lg} (h : nxOK d x) : okR x.L x.H (tot x.ws) (nxW d x) ∧ isR d.at x.g x.ws.length (tot x.ws) (nxW d x) := by
  obtain ⟨h1, h2, h3, h4, h5, h6⟩ := h
  have hl := nxW_len d x
  refine ⟨⟨fun e => h2 (by rw [← hl, e]; rfl), by omega, by omega, okP_nam.1 h5⟩, fun i hi => ?_⟩
  exact h6 i (by omega)
theorem nx_no {d : St} {x : Lg} (hH : x.H ≤ 4294967296) (h : ¬ nxOK d x) : NoR d.at x.L x.H x.g x.ws.length (tot x.ws) := by
  intro W ho hi
  obtain ⟨e1, e2⟩ := cand_of hH ho hi
  have eN : nxN d x = W.length := e1
  have eW : nxW d x = W := by unfold nxW; rw [eN]; exact e2
  obtain ⟨h1, h2, h3, h4⟩ := ho
  have hp : 0 < W.length := List.length_pos_iff.2 h1
  exact h ⟨by omega, by omega, by omega, by omega, by rw [eW]; exact okP_nam.2 h4, fun i hi2 => by rw [eW]; exact hi i (by omega)⟩
theorem DL.fr {w w' : World} {q r mm f m cap : Nat} {x y : Lg} {d : St} (h : DL w q r mm f m cap x d) (hl : LL w' q r mm y) (hf : Fr (lp q mm) w w') (e1 : y.L = x.L) (e2 : y.H = x.H) : DL w' q r mm f m cap y d :=
  ⟨hl, h.k.fr hf (fun k e hk => h.apart k e hk), by rw [e1, e2]; exact h.n, h.t.fr hf (fun k e => h.lp2 k e), h.apart, h.fp2, h.lp2⟩
/-- The sectors of the log that are free, as they lie there. -/
def lft (q L : Nat) (w : World) : Nat := L - (intOf ((w.cell? ⟨q, 6, none⟩).getD undef)).toNat
theorem lft_of {w : World} {q r mm : Nat} {x : Lg} (h : LL w q r mm x) : lft q x.L w = x.L - tot x.ws := by unfold lft; rw [h.c6]; simp [intOf]
set_option maxRecDepth 100000 in
set_option maxHeartbeats 600000 in
theorem replay_any (w : World) (q r mm f m cap : Nat) (x : Lg) (d : St) (h : DL w q r mm f m cap x d) (hoff : d.off = false) (hx : Lie d.at x.L x.H x.g 0 0 x.ws) :
    Calls Tryz.prog 49 #[.pointer (some ⟨q, 0, none⟩)] w fun e w' => e = .returned (.int .i64 0) ∧ ∃ ws, Lie d.at x.L x.H x.g 0 0 ws ∧ NoR d.at x.L x.H x.g ws.length (tot ws) ∧ DL w' q r mm f m cap { x with ws := ws } d ∧ Fr (lp q mm) w w' := by
  go_enter Tryz.func49, Tryz.ntmps49
  go_wp2_with fail
  go_loopw [] (fun wr => ∃ ws, Lie d.at x.L x.H x.g 0 0 ws ∧ DL wr q r mm f m cap { x with ws := ws } d ∧ Fr (lp q mm) w wr) (fun wr => lft q x.L wr)
  case atStart => exact ⟨x.ws, hx, h, Fr.refl _ _⟩
  case round =>
    obtain ⟨ws, hlie, hD, hfr⟩ := hrel
    clear h hx
    obtain ⟨y, hy⟩ : ∃ y : Lg, y = { x with ws := ws } := ⟨_, rfl⟩
    have y1 : y.L = x.L := by rw [hy]
    have y2 : y.H = x.H := by rw [hy]
    have y3 : y.g = x.g := by rw [hy]
    have y4 : y.ws = ws := by rw [hy]
    have HY : Hid (∀ vs, { x with ws := vs } = { y with ws := vs }) := fun vs => by rw [hy]
    rw [← hy] at hD
    clear hy
    have hlt := hD.l.used
    have hnx := next_any wr q r mm f m cap y d hD hoff
    have hlf := lft_of hD.l
    by_cases hok : nxOK d y
    · obtain ⟨o1, o2⟩ := nx_ok hok
      rw [nxt_yes hok] at hnx
      obtain ⟨W, hW⟩ : ∃ W, W = nxW d y := ⟨_, rfl⟩
      rw [← hW] at hnx o1 o2
      clear hW hok
      obtain ⟨o3, o4, o5, o6⟩ := id o1
      have hWp : 0 < W.length := List.length_pos_iff.2 o3
      have hW0 : ¬ (W.length : Int) = 0 := by omega
      have hc : Calls Tryz.prog 80 #[.pointer (some ⟨q, 0, none⟩)] wr fun e w' => ∃ G cp, e = .returned (.tuple #[.slice (some ⟨G, 0, none⟩) W.length cp, .int .i64 0]) ∧ wr.heap.size ≤ G ∧ ImR w' G (toI W) ∧ Below wr.heap.size wr w' := hnx.mono (by
        rintro e w' ⟨v, rfl, hN, hb⟩
        rcases hN with ⟨h0, _⟩ | ⟨_, G, cp, rfl, hG, hI⟩
        · exact absurd h0 o3
        · exact ⟨G, cp, rfl, hG, hI, hb⟩)
      clear hnx
      have hll := hD.l.lt
      go_wp2_with (first
        | (go_at_call 80; refine hc.mono ?_; rintro e w1 ⟨G, cp, rfl, hG, hI, kb1⟩
           have hD1 := hD.next kb1)
        | (go_at_call 54; refine (take_any _ q r mm y (some ⟨G, 0, none⟩) cp W hD1.l (.inr ⟨G, rfl, hI⟩) o4 o6.1 (fun g hg hl => by
              cases hg
              have := hll _ hl
              omega) (by omega)).mono ?_; rintro e w2 ⟨rfl, hL2, hF2⟩))
      have hD2 := hD1.fr hL2 hF2 rfl rfl
      have hfr1 : Fr (lp q mm) wr w1 := Fr.of_below kb1 (Nat.le_refl _)
      refine ⟨⟨ws ++ [W], ?_, ?_, (hfr.trans hfr1 (fun _ _ h => h)).trans hF2 (fun _ _ h => h)⟩, ?_⟩
      · refine hlie.snoc ?_ ?_
        · rw [Nat.zero_add, ← y1, ← y2, ← y4]; exact o1
        · rw [Nat.zero_add, Nat.zero_add, ← y3, ← y4]; exact o2
      · rw [HY.out, ← y4]; exact hD2
      · have hlf2 := lft_of hD2.l
        rw [tot_snoc] at hlf2
        rw [← y1, hlf]
        have hlf3 : lft q y.L w2 = y.L - (tot y.ws + (W.length + 2)) := hlf2
        rw [hlf3]
        omega
    · rw [nxt_no hok] at hnx
      have hno := nx_no (by have := hD.l.H2; omega) hok
      have hc : Calls Tryz.prog 80 #[.pointer (some ⟨q, 0, none⟩)] wr fun e w' => e = .returned (.tuple #[.slice none 0 0, .int .i64 0]) ∧ Below wr.heap.size wr w' := hnx.mono (by
        rintro e w' ⟨v, rfl, hN, hb⟩
        rcases hN with ⟨_, rfl⟩ | ⟨h0, _⟩
        · exact ⟨rfl, hb⟩
        · exact absurd rfl h0)
      clear hnx
      go_wp2_with (first
        | (go_at_call 80; refine hc.mono ?_; rintro e w1 ⟨rfl, kb1⟩))
      go_ret
      refine ⟨rfl, ws, hlie, ?_, ?_, hfr.trans (Fr.of_below kb1 (Nat.le_refl _)) (fun _ _ h => h)⟩
      · rw [← y1, ← y2, ← y3, ← y4]; exact hno
      · have := hD.next kb1
        rw [HY.out, ← y4]; exact this
end Go.Proofs.YtndfhmlcfaaaiaaGreatDoor
