/- The anchor of all statements of this layer. -/
import Derived.Test.YtjhkicfndbceoaaOpenA
namespace Go.Proofs.Ytjhkicfndbceoaa
open Go.RowKit

theorem wpList_wanted {P : Program} {ops : Array Oper} {Q : Exit → Act → World → Prop} {o : Oper} {rest : List Oper} {a : Act} {w : World} (hw : Region.wanted o (yielded ops a.tmps) = true)
    (h : ∀ K : Act → World → Prop, (∀ a w, wpList P ops Q rest a w → K a w) → o.wp P a w K Q) : wpList P ops Q (o :: rest) a w :=
  wpList_step fun K hK => by rw [if_pos hw]; exact h K hK
/-- A zero value is built. -/
theorem law_zero {w : World} {ops : Array Oper} {rest : List Oper} {o : Oper} {a : Act} {Q : Exit → Act → World → Prop} (hw : Region.wanted o (yielded ops a.tmps) = true) (ty : TypeId) (ho : o.op = .build ty #[]) (vs : Array Value) (hb : Try.prog.built ty [] = some vs)
    (h : wpList Try.prog ops Q rest (a.put o.dst (.agg vs)) w) : wpList Try.prog ops Q (o :: rest) a w := by
  have hb' : Try.prog.built ty ((#[] : Array (Nat × Operand)).map fun (i, x) => (i, a.eval x)).toList = some vs := by simpa using hb
  exact wpList_wanted hw fun _ hK => wp_build ty #[] ho (by rw [hb']; rfl) (by rw [hb']; exact hK _ _ h)
theorem built22 : Try.prog.built 22 [] = some (bys (List.replicate 32 0#8)).toArray := by kernel_rfl
theorem built23 : Try.prog.built 23 [] = some (bys (List.replicate 12 0#8)).toArray := by kernel_rfl

def zk : List B := List.replicate 32 0#8
def zn : List B := List.replicate 12 0#8
theorem zk_hash : hkey zk = 0xdc95c078a2408989ad48a21492842087#128 := by decide +kernel
theorem zk_strm : qb (strm zk zn 1) = 0x530f8afbc74536b9a963b4f1c4cb738b#128 := by decide +kernel
theorem hash_none (h : Q) : hashM h [] [] = 0#128 := by
  have : sizesQ 0 0 = 0#128 := by decide
  show gm (0#128 ^^^ sizesQ 0 0) h = 0#128
  rw [this, BitVec.xor_self, gm_zero_left]
theorem tag_none : tagM zk zn [] [] = 0x530f8afbc74536b9a963b4f1c4cb738b#128 := by
  unfold tagM
  rw [hash_none, zk_strm]
  rfl
/-- Nothing sealed. -/
def wkS : List B := bq 0x530f8afbc74536b9a963b4f1c4cb738b#128
theorem wkS_eq : sealM zk zn [] [] = wkS := by
  have e : cov zk zn [] = [] := rfl
  unfold sealM wkS
  rw [e, tag_none]
  rfl
theorem wkS_length : wkS.length = 16 := bq_length _
theorem wkS_0 : v8 (wkS.getD 0 0#8) = 83 := by decide +kernel
theorem wkS_15 : v8 (wkS.getD 15 0#8) = 139 := by decide +kernel
theorem wkS_right : rightM zk zn [] wkS 0 = true := by rw [← wkS_eq]; exact right_seal zk zn [] []
theorem hash_one : hashM (hkey zk) [1#8] [] ≠ 0#128 := by
  have e : hashM (hkey zk) [1#8] [] = gm (gm (0#128 ^^^ qb (chunk [1#8] 0)) (hkey zk) ^^^ sizesQ 1 0) (hkey zk) := rfl
  rw [e, zk_hash, gm_go, gm_go]
  decide +kernel
theorem wkS_wrong : rightM zk zn [1#8] wkS 0 = false := by
  unfold rightM
  apply decide_eq_false
  intro h
  have e1 : qb (wkS.drop 0) = tagM zk zn [] [] := by
    rw [tag_none, List.drop_zero, wkS, qb_bq]
  rw [e1, List.take_zero] at h
  unfold tagM at h
  rw [hash_none, BitVec.zero_xor] at h
  have h2 : qb (strm zk zn 1) ^^^ qb (strm zk zn 1) = hashM (hkey zk) [1#8] [] ^^^ qb (strm zk zn 1) ^^^ qb (strm zk zn 1) := by rw [← h]
  rw [BitVec.xor_assoc, BitVec.xor_self, BitVec.xor_zero] at h2
  exact hash_one h2.symm

theorem shows_none (w : World) : Shows w none 0 (v8s []) := ⟨rfl, fun _ => rfl, fun ad h => (by cases h), by simp [v8s]⟩

set_option maxHeartbeats 1000000 in
set_option maxRecDepth 100000 in
theorem works_walk (zk zn wk : List B) (b22 : Try.prog.built 22 [] = some (bys zk).toArray) (b23 : Try.prog.built 23 [] = some (bys zn).toArray) (k0 : v8 (wk.getD 0 0#8) = 83) (k15 : v8 (wk.getD 15 0#8) = 139) (w : World)
    (H10 : Hid (∀ W : World, Calls Try.prog 10 #[.agg (bys zk).toArray, .agg (bys zn).toArray, .slice none 0 0, .slice none 0 0] W fun e w' => ∃ v, e = .returned v ∧ w'.ownsRow W.heap.size 5 1 v 16 (u8s (v8s wk)) ∧ Below W.heap.size W w'))
    (H15 : Hid (∀ (W : World) (g c : Nat), 16 ≤ c → Shows W (some ⟨g, 0, none⟩) 16 (v8s wk) → Calls Try.prog 15 #[.agg (bys zk).toArray, .agg (bys zn).toArray, .slice none 0 0, .slice (some ⟨g, 0, none⟩) 16 c] W fun e w' => ∃ g, e = .returned (.tuple #[.slice (some ⟨g, 0, none⟩) 0 0, .int .i64 0]) ∧ Below W.heap.size W w'))
    (G15 : Hid (∀ (W : World) (g h c : Nat), 16 ≤ c → Shows W (some ⟨g, 0, none⟩) 16 (v8s wk) → Shows W (some ⟨h, 0, none⟩) 1 [1] → Calls Try.prog 15 #[.agg (bys zk).toArray, .agg (bys zn).toArray, .slice (some ⟨h, 0, none⟩) 1 1, .slice (some ⟨g, 0, none⟩) 16 c] W fun e w' => e = .returned (.tuple #[.slice none 0 0, .int .i64 60]) ∧ Below W.heap.size W w')) :
    Calls Try.prog 8 #[] w fun e w' => e = .returned (.bool true) ∧ Below w.heap.size w w' := by
  go_enter Try.func8, Try.ntmps8
  go_wp2_with (first | (refine law_zero rfl 22 rfl _ b22 ?_) | (refine law_zero rfl 23 rfl _ b23 ?_))
  go_at_call 10; refine (H10.out _).mono ?_; rintro e v1 ⟨v, rfl, hown, k1⟩
  obtain ⟨g, c, rfl, -, -⟩ := hown.form (by omega)
  obtain ⟨ao, c', ev, hs, hc, -⟩ := own_shape hown (v8s_rng wk)
  cases ev
  clear hown
  have c0 := hs.byteAt 0 (by omega)
  have c15 := hs.byteAt 15 (by omega)
  rw [addz] at c0 c15
  rw [k0] at c0
  rw [k15] at c15
  clear k0 k15
  have b1 : Below w.heap.size w v1 := k1
  go_wp2_with (first | (refine law_zero rfl 22 rfl _ b22 ?_) | (refine law_zero rfl 23 rfl _ b23 ?_))
  go_at_call 15; refine (H15.out _ g c hc hs).mono ?_; rintro e v2 ⟨g2, rfl, k2⟩
  have b2 : Below w.heap.size w v2 := b1.trans (k2.mono b1.size)
  have hs2 := (hs.later k2).alloc (.cells #[.int .u8 1] 5)
  have hn1 := shows_new v2 [1] (by simp)
  clear hs c0 c15 k1 k2
  go_wp2_with (first | (refine law_zero rfl 22 rfl _ b22 ?_) | (refine law_zero rfl 23 rfl _ b23 ?_))
  go_at_call 15; refine (G15.out _ g v2.heap.size c hc hs2 hn1).mono ?_; rintro e v3 ⟨rfl, k3⟩
  go_wp2
  go_ret
  have b3 := b2.alloc b2.size (.cells #[.int .u8 1] 5)
  exact ⟨rfl, b3.trans (k3.mono b3.size)⟩

theorem works_any (w : World) : Calls Try.prog 8 #[] w fun e w' => e = .returned (.bool true) ∧ Below w.heap.size w w' := by
  have l32 : zk.length = 32 := List.length_replicate
  have l12 : zn.length = 12 := List.length_replicate
  refine works_walk zk zn wkS built22 built23 wkS_0 wkS_15 w ?_ ?_ ?_
  · intro W
    have h := seal_any zk zn [] [] l32 l12 none none 0 0 0 0 W (shows_none W) (shows_none W) (fun _ => rfl) (Nat.le_refl _) (by omega) (by omega)
    rw [wkS_eq] at h
    exact h
  · intro W g c hc hs
    refine (open_good zk zn [] wkS l32 l12 none (some ⟨g, 0, none⟩) 0 0 16 0 c W (by omega) (shows_none W) hs (fun _ => rfl) (Nat.le_refl _) hc (by omega) (by omega) wkS_right).mono (fun e w' h => ?_)
    obtain ⟨g', he, _, hb⟩ := h
    exact ⟨g', he, hb⟩
  · intro W g h c hc hs h1
    have h1' : Shows W (some ⟨h, 0, none⟩) 1 (v8s [1#8]) := h1
    exact open_bad zk zn [1#8] wkS l32 l12 (some ⟨h, 0, none⟩) (some ⟨g, 0, none⟩) 1 0 16 1 c W (by omega) h1' hs (fun e => (by cases e)) (Nat.le_refl _) hc (by omega) (by omega) wkS_wrong
end Go.Proofs.Ytjhkicfndbceoaa
