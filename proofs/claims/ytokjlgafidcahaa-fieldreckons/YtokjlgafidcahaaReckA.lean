/- FieldReckons: sums, products, inverses, quotients and powers of all elements are the document's. -/
import Derived.Test.YtokjlgafidcahaaElemR
import Derived.Test.YtokjlgafidcahaaWorks
namespace Go.Proofs.Ytokjlgafidcahaa
open Go.RowKit

set_option maxRecDepth 100000 in
set_option maxHeartbeats 1000000 in
theorem reckons_walk (x y : B) (n : Int) (w : World) :
    Calls Try.prog 3 #[.int .u8 (v8 x), .int .u8 (v8 y), .int .i64 n] w fun e w' => e = .returned (.bool true) ∧ Below w.heap.size w w' := by
  have c9 := div_any x y (v8 x) (v8 y) w rfl rfl
  have c10 := fun w1 => refDiv_any x y (v8 x) (v8 y) w1 rfl rfl
  obtain ⟨ec, hec⟩ : ∃ ec : Int, ec = if y = 0#8 then 30 else 0 := ⟨_, rfl⟩
  rw [← hec] at c9 c10
  clear hec
  have hxor := v8_xor x y
  go_enter Try.func3, Try.ntmps3
  go_wp2_with (first
    | (go_at_call 9; refine c9.mono ?_; rintro e w1 ⟨rfl, hb1⟩)
    | (go_at_call 10; refine (c10 _).mono ?_; rintro e w2 ⟨rfl, rfl⟩)
    | (go_at_call 11; refine (add_any x y _ _ _ rfl rfl).mono ?_; rintro e w2 ⟨rfl, rfl⟩)
    | (go_at_call 12; refine (mul_any x y _ _ _ rfl rfl).mono ?_; rintro e w2 ⟨rfl, rfl⟩)
    | (go_at_call 13; refine (refMul_any x y _ _ _ rfl rfl).mono ?_; rintro e w2 ⟨rfl, rfl⟩)
    | (go_at_call 14; refine (inv_any x _ _ rfl).mono ?_; rintro e w2 ⟨rfl, hb2⟩)
    | (go_at_call 15; refine (refInv_any x _ _ rfl).mono ?_; rintro e w3 ⟨rfl, rfl⟩)
    | (go_at_call 16; refine (pow_any x _ n _ rfl).mono ?_; rintro e w3 ⟨rfl, hb3⟩)
    | (go_at_call 17; refine (refPow_any x _ n _ rfl).mono ?_; rintro e w4 ⟨rfl, rfl⟩)
    | (go_at_call 18; refine (works_any _).mono ?_; rintro e w4 ⟨rfl, hb4⟩))
  go_ret
  refine ⟨rfl, ?_⟩
  have h2 := hb1.trans (hb2.mono hb1.size)
  have h3 := h2.trans (hb3.mono h2.size)
  exact h3.trans (hb4.mono h3.size)
end Go.Proofs.Ytokjlgafidcahaa
