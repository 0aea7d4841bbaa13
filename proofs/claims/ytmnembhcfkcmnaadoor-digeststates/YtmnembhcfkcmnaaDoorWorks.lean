/- The anchor of all statements of this layer answers true: the sums of nothing and of abc. -/
import Derived.Test.YtmnembhcfkcmnaaDoorSum
import Derived.Lib.SlBytesConst
namespace Go.Proofs.YtmnembhcfkcmnaaDoor
open Go.RowKit
theorem sumOf_length (xs : List Int) : (sumOf xs).length = 32 := by unfold sumOf; exact bytesOf_length _
theorem sumOf_rng (xs : List Int) : ∀ x ∈ sumOf xs, 0 ≤ x ∧ x ≤ 255 := by unfold sumOf; exact bytesOf_rng _
theorem s0a : (sumOf []).getD 0 0 = 227 := by decide +kernel
theorem s0b : (sumOf []).getD 31 0 = 85 := by decide +kernel
theorem s1a : (sumOf [97, 98, 99]).getD 0 0 = 186 := by decide +kernel
theorem s1b : (sumOf [97, 98, 99]).getD 31 0 = 173 := by decide +kernel

theorem shows_nil (w : World) : Shows w none 0 [] := ⟨rfl, fun _ => rfl, fun ad h => (by cases h), fun x hx => (by simp at hx)⟩

theorem shows_abc (w : World) : Shows (w.alloc (.cells #[.int .u8 97, .int .u8 98, .int .u8 99] 5 (3, 4))) (some ⟨w.heap.size, 0, none⟩) 3 [97, 98, 99] := by
  refine ⟨rfl, fun h => (by cases h), fun ad had j hj => ?_, by decide⟩
  cases had
  rw [addz, Nat.zero_add, cell_of_row _ _ j _ 5 _ (heap_alloc_new w _)]
  have : j = 0 ∨ j = 1 ∨ j = 2 := by omega
  rcases this with rfl | rfl | rfl <;> rfl

set_option maxHeartbeats 1000000 in
set_option maxRecDepth 100000 in
theorem works_walk (R Z : List Int) (rl : R.length = 32) (zl : Z.length = 32) (r0 : R.getD 0 0 = 227) (r31 : R.getD 31 0 = 85) (z0 : Z.getD 0 0 = 186) (z31 : Z.getD 31 0 = 173) (w : World) (hT : Tabs w)
    (hcall1 : Calls Tryd.prog 10 #[.slice none 0 0] w fun e w' => e = .returned (.agg (nums .u8 R)) ∧ Below w.heap.size w w')
    (hcallZ : ∀ w2 : World, Tabs (w2.alloc (.cells #[.int .u8 97, .int .u8 98, .int .u8 99] 5 (3, 4))) → Calls Tryd.prog 10 #[.slice (some ⟨w2.heap.size, 0, none⟩) 3 3] (w2.alloc (.cells #[.int .u8 97, .int .u8 98, .int .u8 99] 5 (3, 4))) fun e w' => e = .returned (.agg (nums .u8 Z)) ∧ Below (w2.alloc (.cells #[.int .u8 97, .int .u8 98, .int .u8 99] 5 (3, 4))).heap.size (w2.alloc (.cells #[.int .u8 97, .int .u8 98, .int .u8 99] 5 (3, 4))) w') :
    Calls Tryd.prog 8 #[] w fun e w' => e = .returned (.bool true) ∧ Below w.heap.size w w' := by
  go_enter Tryd.func8, Tryd.ntmps8
  go_wp2_with (first
    | (go_at_call 10; go_must (refine hcall1.mono ?_; rintro e w1 ⟨rfl, hb1⟩))
    | (refine law_store rfl 25 _ _ rfl w1.heap.size .u8 R rfl rfl 25 _ (Arr.new w1 .u8 25 (List.replicate 32 0)) (by simp [rl]) (by rw [rl]; kernel_rfl) ?_; intro w2 ho2 hA2))
  have hcv := Lib.run_convert_bytes_const w2 22 5 #[.int .u8 97, .int .u8 98, .int .u8 99] 3 3 Tryd.underlying22 Tryd.underlying5
  have hb2 : Below w.heap.size w w2 := ho2.below (hb1.alloc hb1.size _) hb1.size
  have hb3 : Below w.heap.size w (w2.alloc (.cells #[.int .u8 97, .int .u8 98, .int .u8 99] 5 (3, 4))) := hb2.alloc hb2.size _
  have hA3 := hA2.alloc (.cells #[.int .u8 97, .int .u8 98, .int .u8 99] 5 (3, 4))
  have hcall2 := hcallZ w2 (hT.later hb3 hT.sz)
  clear hcallZ
  clear hcall1
  rw [hcv]
  go_wp2_with fail
  go_at_call 10
  refine hcall2.mono ?_
  rintro e w4 ⟨rfl, hb4⟩
  have hA4 := hA3.next hb4
  have hb4' : Below w.heap.size w w4 := hb3.trans (hb4.mono hb3.size)
  clear hcall2
  go_wp2_with (refine law_store rfl 25 _ _ rfl w4.heap.size .u8 Z rfl rfl 25 _ (Arr.new w4 .u8 25 (List.replicate 32 0)) (by simp [zl]) (by rw [zl]; kernel_rfl) ?_; intro w5 ho5 hA5; have hlt4 := hA4.lt; have hA6 := (hA4.alloc (.cells (nums .u8 (List.replicate 32 0)) 25)).on ho5 (by omega); have k0 := hA6.cell 0 (by omega); have k31 := hA6.cell 31 (by omega); have j0 := hA5.cell 0 (by omega); have j31 := hA5.cell 31 (by omega); rw [r0] at k0; rw [r31] at k31; rw [z0] at j0; rw [z31] at j31; clear r0 r31 z0 z31)
  go_ret
  exact ⟨rfl, ho5.below (hb4'.alloc hb4'.size _) hb4'.size⟩

theorem works_any (w : World) (hT : Tabs w) : Calls Tryd.prog 8 #[] w fun e w' => e = .returned (.bool true) ∧ Below w.heap.size w w' :=
  works_walk (sumOf []) (sumOf [97, 98, 99]) (sumOf_length _) (sumOf_length _) s0a s0b s1a s1b w hT
    (digestSum_any none 0 0 [] w (shows_nil w) (Nat.le_refl _) (Nat.zero_le _) (by decide) hT)
    (fun w2 h2 => digestSum_any (some ⟨w2.heap.size, 0, none⟩) 3 3 [97, 98, 99] _ (shows_abc w2) (Nat.le_refl _) (by decide) (by decide) h2)
end Go.Proofs.YtmnembhcfkcmnaaDoor
