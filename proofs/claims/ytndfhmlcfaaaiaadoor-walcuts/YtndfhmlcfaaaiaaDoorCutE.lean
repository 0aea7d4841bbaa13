/- The ends of a log that rots: what is read, as mathematics. -/
import Derived.Test.YtndfhmlcfaaaiaaDoorCuW
namespace Go.Proofs.YtndfhmlcfaaaiaaDoor
open Go.RowKit

theorem cut_zl {d dA : St} {x : Lg} {pg : Nat → Pg} (h : Zl d x pg) (hL : x.L ≤ 4000) {K : Nat} (hK1 : 2 ≤ K) (hK2 : K < 2 + x.L) {t : Sec} (ht : BurstD (d.at K) t) (ha : dA.at = upd d.at K t) (r : Nat) (hr : r ≤ x.ws.length) (h1 : tot (x.ws.take r) ≤ K - 2) (h2 : r < x.ws.length → K - 2 < tot (x.ws.take (r + 1))) : RepW dA.at x.L x.H x.g (x.ws.take r) (onL (fun _ => zp) (x.ws.take r)) := by
  obtain ⟨i, rfl⟩ : ∃ i, K = 2 + i := ⟨K - 2, by omega⟩
  rw [ha]
  refine cut_rep hL h.rep h.homes h.zero i (by omega) t ht r hr (by omega) (fun w hw => ?_)
  have hlt := (List.getElem?_eq_some_iff.1 hw).1
  have := h2 hlt
  rw [tot_take_succ hw] at this
  omega
/-- Nothing was turned. -/
theorem rd_still {d dA : St} {x : Lg} {pg : Nat → Pg} (h : Zl d x pg) (ha : dA.at = d.at) (p : Nat) (hp : p < x.H) : rdR dA x (p : Int) = (pg p, 0) := by
  rw [← rd_sem h.lv p hp]
  unfold rdR hmR
  rw [ha]
/-- A home rots. -/
theorem rd_rot {d dA : St} {x : Lg} {pg : Nat → Pg} (h : Zl d x pg) {p : Nat} (hp : p < x.H) (hp2 : p < 4294967296) {t : Sec} (ht : BurstD (d.at (2 + x.L + p)) t) (ha : dA.at = upd d.at (2 + x.L + p) t) : (ov x.ws p = none ∧ rdR dA x (p : Int) = (zp, 81)) ∨ ((ov x.ws p).isSome = true ∧ rdR dA x (p : Int) = (pg p, 0)) := by
  cases hv : ov x.ws p with
  | none =>
    left
    refine ⟨rfl, ?_⟩
    unfold rdR
    rw [if_neg (by omega), Int.toNat_natCast, hv]
    dsimp only
    unfold hmR
    rw [ha, upd_same]
    obtain ⟨g', e⟩ := h.homes p hp
    exact hm_rot t p hp2 (burst_notF (by rw [e]; exact isF_hm _ _ _ hp2) ht)
  | some y =>
    right
    refine ⟨rfl, ?_⟩
    unfold rdR
    rw [if_neg (by omega), Int.toNat_natCast, hv]
    dsimp only
    rw [h.pg, ← h.rep.over p y hv]
theorem CV.opened {B : Nat} {w u u' : World} {r f cap L H q mm m k g1 n1 c1 : Nat} {x : Lg} {d : St} {sl el : List (List Im)} {ve : Value} {Nf cf : Nat → Nat} (h : CV B w u r f cap L H q mm m x d k sl el (.slice (some ⟨g1, 0, none⟩) n1 c1) ve Nf cf) (hn : n1 = sl.length + 1) (hF : Fr (fp r f m) u u') (i : Nat) (hi : i ≤ sl.length) : u'.cell? ⟨g1, i, none⟩ = some (.slice (some ⟨Nf i, 0, none⟩) H (cf i)) ∧ PRw u' (Nf i) H (onL (fun _ => zp) (sl.take i)) := by
  have hnn : ∀ {b : Nat} {C : Array Value} {t : TypeId}, u.heap[b]? = some (.cells C t (0, 0)) → t ≠ 99 → t ≠ 64 → t ≠ 82 → ¬ fp r f m b := fun h0 h1 h2 h3 => (h.lb.apart_ty h0 h1 h2 h3).1
  obtain ⟨g1', cp1, C1, e1, _, hC1, _⟩ := cell_shape h.st (Nat.succ_pos _)
  subst hn
  have ho : u'.ownsRow B 52 1 (.slice (some ⟨g1, 0, none⟩) (sl.length + 1) c1) (sl.length + 1) (stC H Nf cf (sl.length + 1)) := own_fr h.st hF (fun b hb => by
    rw [e1] at hb
    have : g1' = b := by simpa [Value.ownBlock] using hb
    subst this
    exact hnn hC1 (by decide) (by decide) (by decide))
  refine ⟨cell_own ho (stC_at H Nf cf _ _ (by omega)), ?_⟩
  obtain ⟨C, hC, hh⟩ := h.rows i hi
  exact PRw.fr ⟨C, hC, hh⟩ hF (hnn hC (by decide) (by decide) (by decide))
end Go.Proofs.YtndfhmlcfaaaiaaDoor
