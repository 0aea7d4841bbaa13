/- How many unlike places shares have. -/
import Derived.Test.YtineieoghlbchaaDoorSh
import Derived.Test.YtineieoghlbchaaDoorPlaces
import Derived.Test.YtineieoghlbchaaDoorDed
namespace Go.Proofs.YtineieoghlbchaaDoor
open Go.RowKit

set_option maxRecDepth 100000 in
set_option maxHeartbeats 1000000 in
theorem placesN_any (ao : Option Addr) (n c : Nat) (L : List Sh) (w : World) (hs : Shs w ao n L) (hn : (n : Int) ≤ 140737488355328) :
    Calls Tryd.prog 39 #[.slice ao n c] w fun e w' => e = .returned (.int .i64 ((ded (L.map Sh.x)).length : Int)) ∧ Below w.heap.size w w' := by
  have HL : Hid (L.length = n) := hs.len
  have hz := zero73
  have hz0 := Blk.new w 73 (List.replicate 256 (Value.bool false))
  have hz1 := seenV_nil
  obtain ⟨zs, hzs⟩ : ∃ zs, zs = List.replicate 256 (Value.bool false) := ⟨_, rfl⟩
  rw [← hzs] at hz hz0 hz1
  have hzl : zs.length = 256 := by rw [hzs]; simp
  have hzn : ¬ zs = [] := by intro e; rw [e] at hzl; simp at hzl
  have hA1 := seenV_length []
  have hA2 := seenV_one []
  clear hzs
  go_enter Tryd.func39, Tryd.ntmps39
  go_wp2_with (refine law_store rfl 73 _ _ rfl w.heap.size (seenV []) rfl (by rw [← hz1]; rfl) 73 zs hz0 (by rw [hzl, hA1]) (by rw [hA1]; exact size73) hA2 ?_; intro w2 ho2 hB2)
  have hb2 : Below w.heap.size w w2 := ho2.below ((Below.refl _ w).alloc (Nat.le_refl _) _) (Nat.le_refl _)
  clear hz hz0 hz1 hzl hzn hA1 hA2 ho2
  go_loopw [4, 10] (fun q i wr => ∃ (j : Nat) (ps : List B), j ≤ n ∧ i = .int .i64 j ∧ q = .int .i64 (ps.length : Int) ∧ Hid (ps = ded ((L.map Sh.x).take j)) ∧ Blk wr w.heap.size 73 (seenV ps) ∧ Below w.heap.size w wr) (fun _ i _ => n - (intOf i).toNat)
  case atStart => exact ⟨0, [], Nat.zero_le _, rfl, rfl, rfl, hB2, hb2⟩
  case round =>
    obtain ⟨k, ps, hk, rfl, rfl, HP, hB, hb⟩ := hrel
    have hpl : ps.length ≤ n := by
      have h1 := HP.out
      have h2 := ded_le ((L.map Sh.x).take k)
      rw [← h1, List.length_take] at h2
      omega
    by_cases hlt : k < n
    · obtain ⟨ad, rfl⟩ := hs.adr (by omega)
      obtain ⟨s, hsk⟩ := hs.get k hlt
      have cx := (hs.later hb).cx ad rfl k s hsk
      have cy := (hs.later hb).cy ad rfl k s hsk
      have HT : Hid ((L.map Sh.x).take (k + 1) = (L.map Sh.x).take k ++ [s.x]) := take_map_next Sh.x L k s hsk
      have hbig : (ps.length : Int) < 140737488355329 := by omega
      have hkn : (k : Int) < (n : Int) := by omega
      obtain ⟨sx, sao, sn, sc, sys⟩ := s
      dsimp only at cx cy HT
      have hd0 := v8_nn sx
      have hd1 := v8_le sx
      have hsn := seenB_iff ps sx
      have hBa := hB.alloc (Obj.cells #[Value.int .u8 (v8 sx), Value.slice sao sn sc] 44)
      have hcl := hBa.cell sx.toNat _ (seenV_at ps sx.toNat sx.isLt)
      have hfz := hBa.fz sx.toNat
      have hst := hBa.set sx.toNat (.bool true)
      rw [seenV_snoc] at hst
      have hv : (v8 sx).toNat = sx.toNat := by unfold v8; omega
      rw [← hv] at hcl hfz hst hsn
      have HST : Hid (Blk _ _ _ _) := hst
      have HBA : Hid (Blk _ _ _ _) := hBa
      have hsz := hb.size
      clear hst hB hBa hv hsk
      cases hsb : seenB ps (v8 sx).toNat
      · rw [hsb] at hcl hsn
        have HSN : Hid (false = true ↔ sx = 0#8 ∨ sx ∈ ps) := hsn
        clear hsn hsb
        go_wp2
        go_roundw
        case rel =>
          refine ⟨k + 1, ps ++ [sx], by omega, by go_num, by rw [List.length_append]; rfl, ?_, HST.out, (hb.alloc hsz _).setCell (by simp) _⟩
          show _ = _
          rw [HT.out, ded_snoc, ← HP.out]
          unfold dstep
          rw [if_neg]
          intro h
          have := HSN.out.2 h
          simp at this
        case measure => simp [intOf]; omega
      · rw [hsb] at hcl hsn
        have HSN : Hid (true = true ↔ sx = 0#8 ∨ sx ∈ ps) := hsn
        clear hsn hsb
        go_wp2
        go_roundw
        case rel =>
          refine ⟨k + 1, ps, by omega, by go_num, rfl, ?_, HBA.out, hb.alloc hsz _⟩
          show _ = _
          rw [HT.out, ded_snoc, ← HP.out]
          unfold dstep
          rw [if_pos (HSN.out.1 rfl)]
        case measure => simp [intOf]; omega
    · have hkn : k = n := by omega
      subst hkn
      go_wp2
      go_ret
      have h1 := HP.out
      rw [List.take_of_length_le (by rw [List.length_map, HL.out]; exact Nat.le_refl _)] at h1
      exact ⟨by rw [h1]; rfl, hb⟩
end Go.Proofs.YtineieoghlbchaaDoor
