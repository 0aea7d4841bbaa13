/- OctetNumbers: the call. -/
import Derived.Test.YtmnkbbfpdohpkaaDoorParseRef
namespace Go.Proofs.YtmnkbbfpdohpkaaDoor
open Go.RowKit

def Pow (w : World) : Prop := Lib.TabIs Tryd.prog w "internal/strconv.uint64pow10" .u64 Lib.pow10Tab

theorem Pow.later {w w' : World} (h : Pow w) (hb : Below w.heap.size w w') : Pow w' := by
  unfold Pow Lib.TabIs World.var? at *
  cases hg : Tryd.prog.globalNamed "internal/strconv.uint64pow10" with
  | none => simp [hg] at h
  | some g =>
    simp only [hg, Option.bind_some] at h ⊢
    have hlt : g < w.heap.size := by
      rcases Nat.lt_or_ge g w.heap.size with h' | h'
      · exact h'
      · rw [Array.getElem?_eq_none h'] at h; simp at h
    rw [hb.block g hlt]
    exact h

set_option maxHeartbeats 1000000 in
theorem numbers_walk (u : Nat) (hu : u < 18446744073709551616) (s : ByteArray) (w : World) (ht : Tab w) (h0 : 0 < w.heap.size) (hp : Pow w) (te : TypeId) (pe : Value) (hv : w.cell? ⟨2, 0, none⟩ = some (.iface te pe)) (hm : (s.size : Int) ≤ 131072) :
    Calls Tryd.prog 5 #[.int .u64 u, .string s] w fun e w' => e = .returned (.bool true) ∧ Below w.heap.size w w' := by
  go_enter Tryd.func5, Tryd.ntmps5
  go_wp2_with (first
    | (go_at_call 26; go_must (refine (number_any s w (by omega) te pe hv).mono ?_; rintro e w1 ⟨rfl, hb1⟩; have hz1 := hb1.size))
    | (go_at_call 27; go_must (refine (refNumber_any s w1 (by omega)).mono ?_; rintro e w' ⟨rfl, rfl⟩))
    | (go_at_call 28; go_must (refine (digits_any u hu w1 (hp.later hb1)).mono ?_; rintro e w2 ⟨rfl, hb2⟩; have hz2 := hb2.size; have hb12 := hb1.trans (hb2.mono hz1)))
    | (go_at_call 29; go_must (refine (refDigits_any u hu w2).mono ?_; rintro e w3 ⟨rfl, hb3⟩; have hz3 := hb3.size; have hb13 := hb12.trans (hb3.mono (by omega))))
    | (go_at_call 9; go_must (refine (works_any w3 (ht.later hb13) (by omega)).mono ?_; rintro e w4 ⟨rfl, hb4⟩)))
  go_ret
  exact ⟨by simp, hb13.trans (hb4.mono (by omega))⟩

set_option maxHeartbeats 400000 in
theorem numbers_big (v : Int) (s : ByteArray) (w : World) (ht : Tab w) (h0 : 0 < w.heap.size) (hm : (131072 : Int) < s.size) :
    Calls Tryd.prog 5 #[.int .u64 v, .string s] w fun e w' => e = .returned (.bool true) ∧ Below w.heap.size w w' := by
  go_enter Tryd.func5, Tryd.ntmps5
  go_wp2_with (go_at_call 9; refine (works_any w ht h0).mono ?_; rintro e w' ⟨rfl, hb⟩)
  go_ret
  exact ⟨rfl, hb⟩
end Go.Proofs.YtmnkbbfpdohpkaaDoor
