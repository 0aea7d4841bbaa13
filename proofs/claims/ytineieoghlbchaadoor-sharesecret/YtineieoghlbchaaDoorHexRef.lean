/- The document's digits of bytes. -/
import Derived.Test.YtineieoghlbchaaDoorHexTwo
namespace Go.Proofs.YtineieoghlbchaaDoor
open Go.RowKit

theorem rem16 (x : Int) (h0 : 0 ≤ x) : x.tmod 16 = x % 16 := Int.tmod_eq_emod_of_nonneg h0
theorem quo16 (x : Int) (h0 : 0 ≤ x) : x.tdiv 16 = x / 16 := Int.tdiv_eq_ediv_of_nonneg h0

set_option maxHeartbeats 1000000 in
set_option maxRecDepth 100000 in
theorem hexRef_any (ao : Option Addr) (n c : Nat) (xs : List Int) (w : World) (hs : Shows w ao n xs) (hbig : n ≤ 70368744177600) :
    Calls Tryd.prog 45 #[.slice ao n c] w fun e w' => e = .returned (.string (strOfNums (hexl xs))) ∧ Below w.heap.size w w' := by
  have HL : Hid (xs.length = n) := hs.len
  obtain ⟨i0, hi, hz0, hz1, hz2⟩ := info_parts Tryd.info5
  go_enter Tryd.func45, Tryd.ntmps45
  go_wp2
  go_loopw [3, 4] (fun v i wr => ∃ k : Nat, k ≤ n ∧ i = .int .i64 k ∧ wr.ownsRow w.heap.size 5 1 v (2 * k) (u8s (hexl (xs.take k))) ∧ Below w.heap.size w wr) (fun _ i _ => n - (intOf i).toNat)
  case atStart => exact ⟨0, by omega, rfl, by simpa [hexl, u8s] using World.ownsRow_nil _ _ _ _, Below.refl _ _⟩
  case round =>
    obtain ⟨k, hk, rfl, hown, hbr⟩ := hrel
    by_cases hlt : k < n
    · obtain ⟨ad, had⟩ : ∃ ad, ao = some ad := by
        cases ao with
        | none => have := hs.bare rfl; omega
        | some ad => exact ⟨ad, rfl⟩
      subst had
      have hcx : wr.cell? (ad.add k) = some (.int .u8 (xs.getD k 0)) := cell_later hbr (hs.cell ad rfl k hlt)
      have hcb : (ad.add k).block < wr.heap.size := block_lt_of_cell hcx
      have hadb : (ad.add k).block = ad.block := by unfold Addr.add; split <;> rfl
      have hadw : ad.block < w.heap.size := by have := block_lt_of_cell (hs.cell ad rfl k hlt); rw [hadb] at this; exact this
      obtain ⟨x, HX⟩ : ∃ x, Hid (x = xs.getD k 0) := ⟨xs.getD k 0, (rfl : _ = _)⟩
      rw [← HX.out] at hcx
      have hx : 0 ≤ x ∧ x ≤ 255 := by
        have := HL.out
        have e : xs.getD k 0 = xs[k]'(by omega) := by simp [List.getD, List.getElem?_eq_getElem (show k < xs.length by omega)]
        rw [HX.out, e]
        exact hs.rng _ (List.getElem_mem _)
      obtain ⟨hx0, hx1⟩ := hx
      have hne0 : some (ad.add k).block ≠ u3.ownBlock := by
        intro e
        have := (hown.lt _ e.symm).1
        rw [hadb] at this
        omega
      have hq1 : IntKind.u8.wrap (x.tdiv 16) = x / 16 := by rw [quo16 x hx0, IntKind.wrap_u8', Int.emod_eq_of_lt (by omega) (by omega)]
      have hq2 : x.tmod 16 = x % 16 := rem16 x hx0
      go_wp2
      go_region_held3 (fun w' => w'.cell? (ad.add k) = some (.int .u8 x)) (first | go_keep | (rw [hgrow.cell_far _ (by simp; omega) hne0]; assumption)) ((first | (go_at_call 57; refine (half_any _ _ (by omega) (by omega)).mono ?_; rintro e w' ⟨rfl, rfl⟩) | (refine step_append_lies _ (by rfl) _ _ 22 (by rfl) w.heap.size 5 i0 (.int .u8 0) 1 1 Tryd.underlying22 hi hz0 hz1 hz2 rfl (by decide) _ (2 * k) _ (by rfl) ((hown.drew).alloc _) ⟨wr.heap.size, 0, none⟩ 2 2 [.int .u8 (dig (x / 16)), .int .u8 (dig (x % 16))] (by rfl) rfl (World.news_of_block (heap_alloc_new _ _)) (by simp [Value.oneCell']) (by omega) (by unfold maxLen; omega) (by omega) (by have := hbr.size; simp; omega) _ rfl ?_; intro g cap w1 hown1 hgrow hat hlt1)))
      go_wp2
      go_roundw
      case rel =>
        refine ⟨k + 1, by omega, by go_num, ?_, ?_⟩
        · have hxl := HL.out
          have e1 : xs.take (k + 1) = xs.take k ++ [x] := by
            rw [List.take_succ_eq_append_getElem (by omega), HX.out]
            simp [List.getD, List.getElem?_eq_getElem (show k < xs.length by omega)]
          have e2 : u8s (hexl (xs.take (k + 1))) = u8s (hexl (xs.take k)) ++ [Value.int .u8 (dig (x / 16)), Value.int .u8 (dig (x % 16))] := by
            rw [e1, hexl_append, u8s_append]
            simp [hexl, u8s]
          rw [e2]
          exact hown1
        · exact ((hbr.alloc (by have := hbr.size; omega) _).drew).grown hgrow (by have := hbr.size; simp; omega) (fun b hb => (hown.lt b hb).1)
      case measure => simp [intOf]; omega
    · have hkn : k = n := by omega
      subst hkn
      have hxl := HL.out
      rw [List.take_of_length_le (by omega)] at hown
      obtain ⟨ao', c', hv, hsh, _⟩ := shows_of_own hown (hexl_rng xs)
      subst hv
      have k1 := run_string_of ao' (2 * k) c' (hexl xs) wr hsh
      clear hxl
      go_wp2
      go_ret
      exact ⟨rfl, hbr⟩

end Go.Proofs.YtineieoghlbchaaDoor
