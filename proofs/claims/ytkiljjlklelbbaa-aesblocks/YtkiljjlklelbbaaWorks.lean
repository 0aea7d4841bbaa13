/- The anchor of all statements of this layer. -/
import Derived.Test.YtkiljjlklelbbaaEqu
namespace Go.Proofs.Ytkiljjlklelbbaa
open Go.RowKit

theorem wpList_wanted {P : Program} {ops : Array Oper} {Q : Exit → Act → World → Prop} {o : Oper} {rest : List Oper} {a : Act} {w : World} (hw : Region.wanted o (yielded ops a.tmps) = true)
    (h : ∀ K : Act → World → Prop, (∀ a w, wpList P ops Q rest a w → K a w) → o.wp P a w K Q) : wpList P ops Q (o :: rest) a w :=
  wpList_step fun K hK => by rw [if_pos hw]; exact h K hK
section
variable {w : World} {ops : Array Oper} {rest : List Oper} {o : Oper} {a : Act} {Q : Exit → Act → World → Prop}
/-- A whole block is loaded, behind a guard that is met. -/
theorem law_loadW (hw : Region.wanted o (yielded ops a.tmps) = true) (ty : TypeId) (x : Operand) (ho : o.op = .load ty x) (g : Nat) (hx : a.eval x = .pointer (some ⟨g, 0, none⟩)) (t : TypeId) (vs : List Value) (hA : Blk w g t vs)
    (d : TypeDesc) (hu : Try.prog.underlying ty = some d) (hd : d.isRow = true) (hi : (Try.prog.info? ty).map (·.size) = some vs.length)
    (h : wpList Try.prog ops Q rest (a.put o.dst (.agg vs.toArray)) w) : wpList Try.prog ops Q (o :: rest) a w :=
  wpList_wanted hw fun _ hK => wp_load_mid ty x ho g 0 hx vs d hA.whole hu hd hi (hK _ _ h)
/-- A zero value is built. -/
theorem law_zero (hw : Region.wanted o (yielded ops a.tmps) = true) (ty : TypeId) (ho : o.op = .build ty #[]) (vs : Array Value) (hb : Try.prog.built ty [] = some vs)
    (h : wpList Try.prog ops Q rest (a.put o.dst (.agg vs)) w) : wpList Try.prog ops Q (o :: rest) a w := by
  have hb' : Try.prog.built ty ((#[] : Array (Nat × Operand)).map fun (i, x) => (i, a.eval x)).toList = some vs := by simpa using hb
  exact wpList_wanted hw fun _ hK => wp_build ty #[] ho (by rw [hb']; rfl) (by rw [hb']; exact hK _ _ h)
end
theorem built22 : Try.prog.built 22 [] = some (bys (List.replicate 32 0#8)).toArray := by kernel_rfl
theorem built23 : Try.prog.built 23 [] = some (bys (List.replicate 16 0#8)).toArray := by kernel_rfl

/-- The block 0 under the key 0. -/
def zeroC : List B := enc (ready (List.replicate 32 0#8)) (List.replicate 16 0#8) 14
theorem zeroC_0 : zeroC.getD 0 0#8 = 220#8 := by decide +kernel
theorem zeroC_15 : zeroC.getD 15 0#8 = 135#8 := by decide +kernel

set_option maxHeartbeats 1000000 in
set_option maxRecDepth 100000 in
theorem works_walk (zk zb RK C Z8 : List B) (hzb : zb.length = 16) (hRK : RK.length = 240) (hC : C.length = 16) (hZ8 : Z8.length = 240) (b22 : Try.prog.built 22 [] = some (bys zk).toArray) (b23 : Try.prog.built 23 [] = some (bys zb).toArray)
    (z28 : ∀ W : World, (zeroValue 28).run Try.prog W = .ok (.agg (bys Z8).toArray) W) (z23 : ∀ W : World, (zeroValue 23).run Try.prog W = .ok (.agg (bys zb).toArray) W)
    (c0 : C.getD 0 0#8 = 220#8) (c15 : C.getD 15 0#8 = 135#8) (w : World)
    (h8 : ∀ W : World, Calls Try.prog 8 #[.agg (bys zk).toArray] W fun e w' => e = .returned (.agg (bys RK).toArray) ∧ Below W.heap.size W w')
    (h10 : ∀ W : World, Calls Try.prog 10 #[.agg (bys RK).toArray, .agg (bys zb).toArray] W fun e w' => e = .returned (.agg (bys C).toArray) ∧ Below W.heap.size W w')
    (h12 : ∀ W : World, Calls Try.prog 12 #[.agg (bys RK).toArray, .agg (bys C).toArray] W fun e w' => e = .returned (.agg (bys zb).toArray) ∧ Below W.heap.size W w') :
    Calls Try.prog 14 #[] w fun e w' => e = .returned (.bool true) ∧ Below w.heap.size w w' := by
  have hq := eq23 zb zb hzb hzb
  rw [decide_eq_true rfl] at hq
  have hgd := guard23
  have hv0 : v8 220#8 = 220 := by decide
  have hv15 : v8 135#8 = 135 := by decide
  go_enter Try.func14, Try.ntmps14
  go_wp2_with (first
    | (refine law_zero rfl 22 rfl _ b22 ?_)
    | (go_at_call 8; refine (h8 _).mono ?_; rintro e w1 ⟨rfl, k1⟩)
    | (refine law_store rfl 28 _ _ rfl _ (bys RK) rfl rfl 28 _ (Blk.new w1 28 (bys Z8)) (by rw [bys_length, bys_length, hRK, hZ8]) (by rw [bys_length, hRK]; kernel_rfl) (bys_one _) ?_; intro w2 ho2 hK2)
    | (refine law_loadW rfl 28 (.tmp 1) rfl _ rfl 28 _ hK2 _ Try.underlying28 rfl (by rw [bys_length, hRK]; kernel_rfl) ?_)
    | (refine law_zero rfl 23 rfl _ b23 ?_)
    | (go_at_call 10; refine (h10 _).mono ?_; rintro e w3 ⟨rfl, k3⟩)
    | (refine law_store rfl 23 _ _ rfl _ (bys C) rfl rfl 23 _ (Blk.new w3 23 (bys zb)) (by rw [bys_length, bys_length, hC, hzb]) (by rw [bys_length, hC]; kernel_rfl) (bys_one _) ?_; intro w4 ho4 hC4; have d0 := hC4.byte 0 (by omega); have d15 := hC4.byte 15 (by omega); rw [c0, hv0] at d0; rw [c15, hv15] at d15; have hlt3 := (hK2.next k3).lt; have hK4 := ((hK2.next k3).alloc (.cells (bys zb).toArray 23)).on ho4 (by omega); clear c0 c15 h8 h10)
    | (refine law_loadW rfl 28 (.tmp 1) rfl _ rfl 28 _ hK4 _ Try.underlying28 rfl (by rw [bys_length, hRK]; kernel_rfl) ?_)
    | (refine law_loadW rfl 23 (.tmp 2) rfl _ rfl 23 _ hC4 _ Try.underlying23 rfl (by rw [bys_length, hC]; kernel_rfl) ?_)
    | (go_at_call 12; refine (h12 _).mono ?_; rintro e w5 ⟨rfl, k5⟩))
  go_ret
  refine ⟨rfl, ?_⟩
  have m2 : Below w.heap.size w w2 := ho2.below (k1.alloc k1.size _) k1.size
  have m3 : Below w.heap.size w w3 := m2.trans (k3.mono m2.size)
  have m4 : Below w.heap.size w w4 := ho4.below (m3.alloc m3.size _) m3.size
  exact m4.trans (k5.mono m4.size)

theorem works_any (w : World) : Calls Try.prog 14 #[] w fun e w' => e = .returned (.bool true) ∧ Below w.heap.size w w' := by
  have l32 : (List.replicate 32 0#8).length = 32 := List.length_replicate
  have l16 : (List.replicate 16 0#8).length = 16 := List.length_replicate
  have hR := ready_length _ l32
  have hC := enc_length _ _ hR l16 14 (by omega)
  refine works_walk (List.replicate 32 0#8) (List.replicate 16 0#8) (ready (List.replicate 32 0#8)) zeroC (List.replicate 240 0#8) l16 hR hC List.length_replicate built22 built23 zero28 zero23 zeroC_0 zeroC_15 w
    (fun W => expand_any _ l32 W) (fun W => block_any _ _ hR l16 W) (fun W => ?_)
  have := back_any _ _ hR hC W
  rw [dec_of_enc _ _ hR l16 14 (by omega)] at this
  exact this
end Go.Proofs.Ytkiljjlklelbbaa
