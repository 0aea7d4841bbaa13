/- The anchor of all statements of this layer answers true. -/
import Derived.Test.YtineieoghlbchaaDoorText
namespace Go.Proofs.YtineieoghlbchaaDoor
open Go.RowKit

theorem shows_row {w : World} {g n : Nat} {xs : List Int} (h : RowIs w g xs) (hl : xs.length = n) (hr : ∀ x ∈ xs, 0 ≤ x ∧ x ≤ 255) : Shows w (some ⟨g, 0, none⟩) n xs := by
  refine ⟨hl, fun e => (by cases e), fun ad had j hj => ?_, hr⟩
  cases had
  rw [lit_add, cell_of_row w g j _ 5 _ h]
  simp [u8s, List.getD, List.getElem?_eq_getElem (show j < xs.length by omega)]

theorem yRow_length (S D : List B) (k m i : Nat) : (yRow S D k m i).length = m := by simp [yRow]
/-- The shares of a Split are shown. -/
theorem shs_split {w : World} {G m n k : Nat} {S D : List B} (hm : (m : Int) ≤ 1024) (hB : Blk w G 44 (shv (mkL G m (yRow S D k m) n))) (hR : ∀ i, i < n → RowIs w (G + 1 + i) ((yRow S D k m i).map v8)) : Shs w (some ⟨G, 0, none⟩) n (mkL G m (yRow S D k m) n) := by
  refine shs_of_cells (mkL_length _ _ _ _) (fun i v hv => hB.cell i v hv) (fun s hs => ?_)
  unfold mkL at hs
  obtain ⟨i, hi, rfl⟩ := List.mem_map.1 hs
  rw [List.mem_range] at hi
  exact ⟨shows_row (hR i hi) (by rw [List.length_map]; exact yRow_length S D k m i) (v8s_rng _), fun e => (by cases e), Nat.le_refl _, by show m ≤ maxLen; unfold maxLen; omega⟩

theorem w1' : (yRow [0x42#8] [1#8] 2 1 2).map v8 = [65] := by decide +kernel
theorem w2' : (yRow [0x42#8] [1#8] 2 1 0).map v8 = [67] := by decide +kernel
theorem w3' : strOfNums (hexl [3, 65]) = { data := #[48, 51, 52, 49] } := by decide

/-- The two shares that are put together. -/
def two (p2 p0 : Nat) : List Sh := [⟨3#8, some ⟨p2, 0, none⟩, 1, 1, [0x41#8]⟩, ⟨1#8, some ⟨p0, 0, none⟩, 1, 1, [0x43#8]⟩]
theorem two_cells (p2 p0 : Nat) : shv (two p2 p0) = [.int .u8 3, .slice (some ⟨p2, 0, none⟩) 1 1, .int .u8 1, .slice (some ⟨p0, 0, none⟩) 1 1] := rfl
theorem two_comes (p2 p0 : Nat) : ((List.range 1).map (atJ (two p2 p0))).map v8 = [66] := by
  have e : (List.range 1).map (atJ (two p2 p0)) = [atZ [3#8, 1#8] [0x41#8, 0x43#8]] := rfl
  rw [e]
  decide +kernel
theorem comb_two (p2 p0 g : Nat) (w : World) (hg : w.heap[g]? = some (.cells #[.int .u8 3, .slice (some ⟨p2, 0, none⟩) 1 1, .int .u8 1, .slice (some ⟨p0, 0, none⟩) 1 1] 44 (0, 0))) (r2 : RowIs w p2 [65]) (r0 : RowIs w p0 [67]) :
    Calls Tryd.prog 18 #[.slice (some ⟨g, 0, none⟩) 2 2] w fun e w' => ∃ v, e = .returned (.tuple #[v, .int .i64 0]) ∧ Own5 w.heap.size w' v 1 [66] ∧ Below w.heap.size w w' := by
  have hB : Blk w g 44 (shv (two p2 p0)) := by rw [two_cells]; exact hg
  have hs : Shs w (some ⟨g, 0, none⟩) 2 (two p2 p0) := shs_of_cells rfl (fun i v hv => hB.cell i v hv) (fun s hs => by
    have : s = ⟨3#8, some ⟨p2, 0, none⟩, 1, 1, [0x41#8]⟩ ∨ s = ⟨1#8, some ⟨p0, 0, none⟩, 1, 1, [0x43#8]⟩ := by simpa [two] using hs
    rcases this with rfl | rfl
    · exact ⟨shows_row (xs := [65]) r2 rfl (by decide), fun e => (by cases e), Nat.le_refl _, by show 1 ≤ maxLen; unfold maxLen; omega⟩
    · exact ⟨shows_row (xs := [67]) r0 rfl (by decide), fun e => (by cases e), Nat.le_refl _, by show 1 ≤ maxLen; unfold maxLen; omega⟩)
  have h := comb_good ⟨g, 0, none⟩ 2 2 (two p2 p0) ⟨3#8, some ⟨p2, 0, none⟩, 1, 1, [0x41#8]⟩ w hs rfl (by omega) rfl ⟨by show [3#8, 1#8].Nodup; decide, by show 0#8 ∉ [3#8, 1#8]; decide⟩ rfl
  dsimp only at h
  rw [two_comes] at h
  exact h

set_option maxRecDepth 100000 in
set_option maxHeartbeats 2000000 in
theorem works_any (w : World) (ht : Tab w) (h0 : 0 < w.heap.size) :
    Calls Tryd.prog 8 #[] w fun e w' => e = .returned (.bool true) ∧ Below w.heap.size w w' := by
  have hbA : Below w.heap.size w ((w.alloc (.cells #[.int .u8 66] 5)).alloc (.cells #[.int .u8 1] 5)) := ((Below.refl _ w).alloc (Nat.le_refl _) _).alloc (by simp) _
  have hS : Shows ((w.alloc (.cells #[.int .u8 66] 5)).alloc (.cells #[.int .u8 1] 5)) (some ⟨w.heap.size, 0, none⟩) 1 ([0x42#8].map v8) := shows_row (xs := [66]) (old_at (new_at rfl)) rfl (by decide)
  have hD : Shows ((w.alloc (.cells #[.int .u8 66] 5)).alloc (.cells #[.int .u8 1] 5)) (some ⟨w.heap.size + 1, 0, none⟩) ((2 - 1) * 1) ([1#8].map v8) := shows_row (xs := [1]) (new_at (by simp)) rfl (by decide)
  have hsp := split_good _ _ 1 1 1 3 2 [0x42#8] [1#8] _ hS hD (by omega) (by omega) (by omega) (by omega) (by omega)
  obtain ⟨A, hA⟩ : ∃ A, A = ((w.alloc (.cells #[.int .u8 66] 5)).alloc (.cells #[.int .u8 1] 5)) := ⟨_, rfl⟩
  have hsz : A.heap.size = w.heap.size + 1 + 1 := by rw [hA]; simp
  obtain ⟨G, hG⟩ : ∃ G, G = A.heap.size := ⟨_, rfl⟩
  rw [← hA] at hsp hbA
  rw [← hG] at hsp
  rw [show (2 - 1) * 1 = 1 from rfl, show ((3 : Nat) : Int) = 3 from rfl, show ((2 : Nat) : Int) = 2 from rfl] at hsp
  have hGw : w.heap.size ≤ G := by omega
  have HA : Hid (A = ((w.alloc (.cells #[.int .u8 66] 5)).alloc (.cells #[.int .u8 1] 5))) := hA
  have HG : Hid (G = A.heap.size) := hG
  obtain ⟨p2, hp2⟩ : ∃ p, p = G + 1 + 2 := ⟨_, rfl⟩
  obtain ⟨p0, hp0⟩ : ∃ p, p = G + 1 + 0 := ⟨_, rfl⟩
  have facts : ∀ w1, Blk w1 G 44 (shv (mkL G 1 (yRow [0x42#8] [1#8] 2 1) 3)) → (∀ i, i < 3 → RowIs w1 (G + 1 + i) ((yRow [0x42#8] [1#8] 2 1 i).map v8)) →
      (w1.cell? ⟨G, 4, none⟩ = some (.int .u8 3) ∧ w1.cell? ⟨G, 5, none⟩ = some (.slice (some ⟨p2, 0, none⟩) 1 1) ∧ w1.cell? ⟨G, 0, none⟩ = some (.int .u8 1) ∧ w1.cell? ⟨G, 1, none⟩ = some (.slice (some ⟨p0, 0, none⟩) 1 1)) ∧ RowIs w1 p2 [65] ∧ RowIs w1 p0 [67] := by
    intro w1 hB hR
    rw [hp2, hp0]
    refine ⟨⟨hB.cell 4 _ rfl, hB.cell 5 _ rfl, hB.cell 0 _ rfl, hB.cell 1 _ rfl⟩, ?_, ?_⟩
    · have := hR 2 (by omega)
      rwa [w1'] at this
    · have := hR 0 (by omega)
      rwa [w2'] at this
  have hp2' : G < p2 := by omega
  have hp0' : G < p0 := by omega
  clear hS hD hsz hA hG hp2 hp0
  go_enter Tryd.func8, Tryd.ntmps8
  go_wp2_with (go_at_call 10; rw [← HA.out]; refine hsp.mono ?_; rintro e w1 ⟨rfl, hB1, hR1, hb1⟩; obtain ⟨⟨k4, k5, k0, k1⟩, r2, r0⟩ := facts w1 hB1 hR1; have y2 : w1.cell? ⟨p2, 0, none⟩ = some (.int .u8 65) := cell_of_row w1 p2 0 _ 5 (0, 0) r2; clear facts hB1 hR1)
  have hbB : Below w1.heap.size w1 (w1.alloc (.cells #[.int .u8 3, .slice (some ⟨p2, 0, none⟩) 1 1, .int .u8 1, .slice (some ⟨p0, 0, none⟩) 1 1] 44)).drew := ((Below.refl _ w1).alloc (Nat.le_refl _) _).drew
  have hcb := comb_two p2 p0 w1.heap.size _ (drew_at (w := w1.alloc (.cells #[.int .u8 3, .slice (some ⟨p2, 0, none⟩) 1 1, .int .u8 1, .slice (some ⟨p0, 0, none⟩) 1 1] 44)) (new_at rfl)) (r2.later hbB) (r0.later hbB)
  go_region_held3 (fun w' => w'.cell? ⟨G, 4, none⟩ = some (.int .u8 3) ∧ w'.cell? ⟨G, 5, none⟩ = some (.slice (some ⟨p2, 0, none⟩) 1 1) ∧ w'.cell? ⟨G, 0, none⟩ = some (.int .u8 1) ∧ w'.cell? ⟨G, 1, none⟩ = some (.slice (some ⟨p0, 0, none⟩) 1 1)) (first | (go_split_ands; exact ⟨cellAD (by assumption) _, cellAD (by assumption) _, cellAD (by assumption) _, cellAD (by assumption) _⟩) | (go_split_ands; exact ⟨cell_later hb2 (by assumption), cell_later hb2 (by assumption), cell_later hb2 (by assumption), cell_later hb2 (by assumption)⟩) | go_keep) ((go_at_call 18; refine hcb.mono ?_; rintro e w2 ⟨v, rfl, hv, hb2⟩))
  have hb2' : Below w1.heap.size w1 w2 := hbB.trans (hb2.mono (by simp))
  have hBw1 : Below w.heap.size w w1 := hbA.trans (hb1.mono hGw)
  have hBw2 : Below w.heap.size w w2 := hBw1.trans (hb2'.mono hBw1.size)
  obtain ⟨vg, vc, rfl, -, -⟩ := hv.own.form (by omega)
  have kv := hv.own.cellAt 0 (by omega)
  have hz2 := hBw2.size
  have htx := text_any 3 (some ⟨p2, 0, none⟩) 1 1 [65] w2 (by omega) (by omega) (shows_row (r2.later hb2') rfl (by decide)) (fun e => (by cases e)) (by omega) (ht.later hBw2) (by omega)
  rw [w3'] at htx
  have k4' := cell_later hb2' k4
  have k5' := cell_later hb2' k5
  have kv' : w2.cell? ⟨vg, 0, none⟩ = some (.int .u8 66) := kv
  clear hcb hsp k4 k5 k0 k1 kv
  go_wp2_with (go_at_call 24; refine htx.mono ?_; rintro e w3 ⟨rfl, hb3⟩)
  go_ret
  exact ⟨rfl, hBw2.trans (hb3.mono hz2)⟩
end Go.Proofs.YtineieoghlbchaaDoor
