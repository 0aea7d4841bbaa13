/- The anchor of all statements of this layer answers true. -/
import Derived.Test.YtokjlgafidcahaaElem
namespace Go.Proofs.Ytokjlgafidcahaa
open Go.RowKit

set_option maxRecDepth 100000 in
set_option maxHeartbeats 1000000 in
theorem works_any (w : World) : Calls Try.prog 18 #[] w fun e w' => e = .returned (.bool true) ∧ Below w.heap.size w w' := by
  have c1 := mul_any 0x57#8 0x83#8 87 131 w (by decide) (by decide)
  rw [show v8 (mul 0x57#8 0x83#8) = 193 by decide +kernel] at c1
  have c2 := inv_any 0x53#8 83 w (by decide)
  rw [show v8 (inv 0x53#8) = 202 by decide +kernel] at c2
  have c3 := fun w1 => add_any 0x57#8 0x83#8 87 131 w1 (by decide) (by decide)
  rw [show v8 (0x57#8 ^^^ 0x83#8) = 212 by decide +kernel] at c3
  go_enter Try.func18, Try.ntmps18
  go_wp2_with (first
    | (go_at_call 12; refine c1.mono ?_; rintro e w1 ⟨rfl, rfl⟩)
    | (go_at_call 14; refine c2.mono ?_; rintro e w1 ⟨rfl, hb⟩)
    | (go_at_call 11; refine (c3 _).mono ?_; rintro e w2 ⟨rfl, rfl⟩))
  go_ret
  exact ⟨rfl, hb⟩
end Go.Proofs.Ytokjlgafidcahaa
