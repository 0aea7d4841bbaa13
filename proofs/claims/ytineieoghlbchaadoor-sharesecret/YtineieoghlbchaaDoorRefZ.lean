/- The value at 0, by the document's answer. -/
import Derived.Test.YtineieoghlbchaaDoorPoints
import Derived.Test.YtineieoghlbchaaDoorEvalA
import Derived.Test.YtineieoghlbchaaDoorElemR
namespace Go.Proofs.YtineieoghlbchaaDoor
open Go.RowKit

def goodB (cs : List B) : Bool := decide (cs.Nodup ∧ 0#8 ∉ cs)
theorem goodB_iff (cs : List B) : goodB cs = true ↔ Good cs := by unfold goodB Good; rw [decide_eq_true_iff]
def zOf (cs ds : List B) : B := if goodB cs then atZ cs ds else 0#8
def eOf (cs : List B) : Int := if goodB cs then 0 else 31
theorem zOf_good (cs ds : List B) (h : Good cs) : zOf cs ds = atZ cs ds := by unfold zOf; rw [if_pos ((goodB_iff cs).2 h)]
theorem eOf_good (cs : List B) (h : Good cs) : eOf cs = 0 := by unfold eOf; rw [if_pos ((goodB_iff cs).2 h)]
theorem zOf_bad (cs ds : List B) (h : ¬ Good cs) : zOf cs ds = 0#8 := by unfold zOf; rw [if_neg (fun e => h ((goodB_iff cs).1 e))]
theorem eOf_bad (cs : List B) (h : ¬ Good cs) : eOf cs = 31 := by unfold eOf; rw [if_neg (fun e => h ((goodB_iff cs).1 e))]

theorem getD_take (cs : List B) (k i : Nat) (h : k < i) : (cs.take i).getD k 0#8 = cs.getD k 0#8 := by
  simp only [List.getD, List.getElem?_take, if_pos h]
theorem mem_take_iff (cs : List B) (i : Nat) (hi : i ≤ cs.length) (x : B) : x ∈ cs.take i ↔ ∃ k, k < i ∧ cs.getD k 0#8 = x := by
  constructor
  · intro h
    obtain ⟨k, hk, e⟩ := List.mem_iff_getElem.1 h
    rw [List.length_take] at hk
    refine ⟨k, by omega, ?_⟩
    rw [← e]
    simp [List.getD, List.getElem?_eq_getElem (show k < cs.length by omega)]
  · rintro ⟨k, hk, e⟩
    rw [← getD_take cs k i hk] at e
    rw [← e]
    have : k < (cs.take i).length := by rw [List.length_take]; omega
    simp only [List.getD, List.getElem?_eq_getElem this]
    exact List.getElem_mem _
theorem bad_of (cs : List B) (i : Nat) (hi : i < cs.length) (h : cs.getD i 0#8 = 0#8 ∨ cs.getD i 0#8 ∈ cs.take i) : ¬ Good cs := by
  intro hg
  have h1 := good_take cs hg (i + 1)
  rw [take_next cs i hi, good_snoc] at h1
  rcases h with e | e
  · exact h1.2.2 e
  · exact h1.2.1 e
theorem nodup_getD (cs : List B) (h : Good cs) (i k : Nat) (hi : i < cs.length) (hk : k < cs.length) (hne : k ≠ i) : cs.getD k 0#8 ≠ cs.getD i 0#8 := by
  simp only [List.getD, List.getElem?_eq_getElem hi, List.getElem?_eq_getElem hk, Option.getD_some]
  have hp := List.pairwise_iff_getElem.1 h.1
  rcases Nat.lt_or_gt_of_ne hne with hlt | hlt
  · exact hp k i hk hi hlt
  · exact fun e => hp i k hi hk hlt e.symm

set_option maxRecDepth 100000 in
set_option maxHeartbeats 2000000 in
theorem refz_walk (ad bd : Addr) (n c d : Nat) (cs ds : List B) (w : World) (hs : Shows w (some ad) n (cs.map v8)) (ht : Shows w (some bd) n (ds.map v8)) (hn : (n : Int) ≤ 255) (h0 : 0 < n) :
    Calls Tryd.prog 43 #[.slice (some ad) n c, .slice (some bd) n d] w fun e w' => e = .returned (.tuple #[.int .u8 (v8 (zOf cs ds)), .int .i64 (eOf cs)]) ∧ Below w.heap.size w w' := by
  have h0' : ((n : Int) == 0) = false := by simp; omega
  have hl : cs.length = n := by have := hs.len; rwa [List.length_map] at this
  have HL : Hid (cs.length = n) := hl
  clear hl
  have hgt : decide ((255 : Int) < (n : Int)) = false := by simp; omega
  go_enter Tryd.func43, Tryd.ntmps43
  go_wp2_with fail
  go_loopw [6] (fun i wr => ∃ j : Nat, j ≤ n ∧ i = .int .i64 j ∧ Good (cs.take j) ∧ Below w.heap.size w wr) (fun i _ => n - (intOf i).toNat)
  case atStart => exact ⟨0, Nat.zero_le _, rfl, ⟨List.nodup_nil, by simp⟩, Below.refl _ _⟩
  case round =>
    obtain ⟨i, hi, rfl, hG, hb⟩ := hrel
    have HG : Hid (Good (cs.take i)) := hG
    clear hG
    obtain ⟨wA, h⟩ : ∃ x, x = wr := ⟨_, rfl⟩; subst h
    by_cases hlt : i < n
    · have HT : Hid (cs.take (i + 1) = cs.take i ++ [cs.getD i 0#8]) := take_next cs i (by rw [HL.out]; omega)
      have HM : Hid (cs.getD i 0#8 ∈ cs.take i ↔ ∃ k, k < i ∧ cs.getD k 0#8 = cs.getD i 0#8) := mem_take_iff cs i (by rw [HL.out]; omega) _
      have HB : Hid (cs.getD i 0#8 = 0#8 ∨ cs.getD i 0#8 ∈ cs.take i → ¬ Good cs) := bad_of cs i (by rw [HL.out]; omega)
      have hxi : ∀ W, Below w.heap.size w W → W.cell? (ad.add i) = some (.int .u8 (v8 (cs.getD i 0#8))) := fun W hW => (hs.later hW).elem i hlt
      obtain ⟨x, ex⟩ : ∃ x, x = cs.getD i 0#8 := ⟨_, rfl⟩
      rw [← ex] at HT HM HB hxi
      clear ex
      have hin : (i : Int) < (n : Int) := by omega
      go_wp2_with fail
      go_loopw [7] (fun k wr => ∃ j : Nat, j ≤ i ∧ k = .int .i64 j ∧ (∀ l, l < j → cs.getD l 0#8 ≠ x) ∧ Below w.heap.size w wr) (fun k _ => i - (intOf k).toNat)
      case atStart => exact ⟨0, Nat.zero_le _, rfl, fun l h => by omega, hb⟩
      case round =>
        obtain ⟨k, hk, rfl, hno, hb2⟩ := hrel
        have HN : Hid (∀ l, l < k → cs.getD l 0#8 ≠ x) := hno
        clear hno
        have hx := hxi wr hb2
        clear hxi
        by_cases hlk : k < i
        · have hy := (hs.later hb2).elem k (by omega)
          have HY : Hid (cs.getD k 0#8 = cs.getD k 0#8) := rfl
          obtain ⟨y, ey⟩ : ∃ x, x = cs.getD k 0#8 := ⟨_, rfl⟩
          rw [← ey] at hy
          have EY : Hid (cs.getD k 0#8 = y) := ey.symm
          clear ey HY
          have hki : (k : Int) < (i : Int) := by omega
          have hkn : (k : Int) < (n : Int) := by omega
          by_cases hxy : y = x
          · have hbad := HB.out (Or.inr (HM.out.2 ⟨k, hlk, EY.out.trans hxy⟩))
            have HZ : Hid (v8 (zOf cs ds) = 0) := by rw [zOf_bad cs ds hbad]; exact v8_zero
            have HE : Hid (eOf cs = 31) := eOf_bad cs hbad
            subst hxy
            clear hbad HM HB HT
            go_wp2_with fail
            go_quiet (fail)
            go_wp2
            go_ret2
            exact ⟨by rw [HZ.out, HE.out]; rfl, ⟨hb2.os, hb2.tape, hb2.output, hb2.size, hb2.block⟩⟩
          · have hv := v8_ne hxy
            have hv' : (v8 y == v8 x) = false := by simp [hv]
            go_wp2_with fail
            go_quiet (fail)
            go_wp2
            refine ⟨⟨k + 1, by omega, by go_num, fun l hl => ?_, ⟨hb2.os, hb2.tape, hb2.output, hb2.size, hb2.block⟩⟩, by simp [intOf]; omega⟩
            by_cases e : l = k
            · subst e; rw [EY.out]; exact hxy
            · exact HN.out l (by omega)
        · have hki : k = i := by omega
          subst hki
          by_cases hx0 : x = 0#8
          · have hbad := HB.out (Or.inl hx0)
            have HZ : Hid (v8 (zOf cs ds) = 0) := by rw [zOf_bad cs ds hbad]; exact v8_zero
            have HE : Hid (eOf cs = 31) := eOf_bad cs hbad
            rw [hx0, v8_zero] at hx
            clear hbad HM HB HT HN
            go_wp2
            go_ret2
            exact ⟨by rw [HZ.out, HE.out]; rfl, hb2⟩
          · have hv : (v8 x == 0) = false := by have := v8_pos hx0; simp; omega
            have HGN : Hid (Good (cs.take (k + 1))) := by
              rw [HT.out]
              refine (good_snoc _ _).2 ⟨HG.out, fun hm => ?_, hx0⟩
              obtain ⟨l, hl, e⟩ := HM.out.1 hm
              exact HN.out l hl e
            clear HM HB HT HN HG
            go_wp2
            exact ⟨⟨k + 1, by omega, by go_num, HGN.out, hb2⟩, by simp [intOf]; omega⟩
    · have hin : i = n := by omega
      subst hin
      have hG : Good cs := by
        have h1 := HG.out
        rwa [List.take_of_length_le (by rw [HL.out]; exact Nat.le_refl _)] at h1
      have HZ : Hid (zOf cs ds = atZ cs ds) := zOf_good cs ds hG
      have HE : Hid (eOf cs = 0) := eOf_good cs hG
      have HA : Hid (atZ cs ds = azT cs ds i) := by unfold atZ; rw [HL.out]; exact rfl
      have HD : Hid (∀ a b, a < i → b < i → b ≠ a → cs.getD b 0#8 ≠ cs.getD a 0#8) := fun a b ha hb h => nodup_getD cs hG a b (by rw [HL.out]; exact ha) (by rw [HL.out]; exact hb) h
      clear HG hG hlt hi
      go_wp2_with fail
      go_loopw [8, 9] (fun s k wr => ∃ j : Nat, j ≤ i ∧ k = .int .i64 j ∧ s = .int .u8 (v8 (azT cs ds j)) ∧ Below w.heap.size w wr) (fun _ k _ => i - (intOf k).toNat)
      case atStart => exact ⟨0, Nat.zero_le _, rfl, rfl, hb⟩
      case round =>
        obtain ⟨j, hj, rfl, rfl, hb2⟩ := hrel
        clear hb
        obtain ⟨wB, h⟩ : ∃ x, x = wr := ⟨_, rfl⟩; subst h
        by_cases hlt : j < i
        · have HS : Hid (azT cs ds (j + 1) = azT cs ds j ^^^ mul (ds.getD j 0#8) (wtT cs (cs.getD j 0#8) cs.length)) := rfl
          rw [HL.out] at HS
          have hy := (ht.later hb2).elem j hlt
          have hxj : ∀ W, Below w.heap.size w W → W.cell? (ad.add j) = some (.int .u8 (v8 (cs.getD j 0#8))) := fun W hW => (hs.later hW).elem j hlt
          have HDj : Hid (∀ b, b < i → b ≠ j → cs.getD b 0#8 ≠ cs.getD j 0#8) := fun b hb h => HD.out j b hlt hb h
          obtain ⟨x, ex⟩ : ∃ x, x = cs.getD j 0#8 := ⟨_, rfl⟩
          obtain ⟨y, ey⟩ : ∃ x, x = ds.getD j 0#8 := ⟨_, rfl⟩
          obtain ⟨s, es⟩ : ∃ x, x = azT cs ds j := ⟨_, rfl⟩
          rw [← ex] at HS hxj HDj
          rw [← ey] at HS hy
          rw [← es] at HS ⊢
          have EX : Hid (cs.getD j 0#8 = x) := ex.symm
          clear ex ey es
          have hjn : (j : Int) < (i : Int) := by omega
          go_wp2_with fail
          go_loopw [10, 11] (fun p k wr => ∃ m : Nat, m ≤ i ∧ k = .int .i64 m ∧ p = .int .u8 (v8 (mul y (wtT cs x m))) ∧ Below w.heap.size w wr) (fun _ k _ => i - (intOf k).toNat)
          case atStart => exact ⟨0, Nat.zero_le _, rfl, by rw [show wtT cs x 0 = 1#8 from rfl, mul_one], hb2⟩
          case round =>
            obtain ⟨k, hk, rfl, rfl, hb3⟩ := hrel
            clear hb2 hy
            have hx := hxj wr hb3
            clear hxj
            by_cases hlk : k < i
            · have HW : Hid (wtT cs x (k + 1) = mul (wtT cs x k) (part x (cs.getD k 0#8))) := rfl
              have hki : (k : Int) < (i : Int) := by omega
              have hz := (hs.later hb3).elem k hlk
              by_cases hkj : k = j
              · subst hkj
                have HP : Hid (mul y (wtT cs x (k + 1)) = mul y (wtT cs x k)) := by
                  rw [HW.out, EX.out, part, if_pos rfl, mul_one]
                  exact rfl
                clear hz
                go_wp2
                exact ⟨⟨k + 1, by omega, by go_num, by rw [HP.out], hb3⟩, by simp [intOf]; omega⟩
              · have hzx := HDj.out k hlk hkj
                have hne : ¬ (k : Int) = (j : Int) := by omega
                have hne' : ((k : Int) == (j : Int)) = false := by simp; omega
                obtain ⟨z, ez⟩ : ∃ z, z = cs.getD k 0#8 := ⟨_, rfl⟩
                rw [← ez] at hz HW hzx
                clear ez
                have HP : Hid (mul y (wtT cs x (k + 1)) = mul (mul y (wtT cs x k)) (quo z (z ^^^ x))) := by
                  rw [HW.out, part, if_neg hzx, mul_assoc]
                  exact rfl
                have cD : ∀ N, _ := fun N => refDiv_any z (z ^^^ x) (v8 z) (v8 (z ^^^ x)) (wr.drewN N) rfl rfl
                rw [if_neg (xor_ne hzx)] at cD
                have hxor := v8_xor z x
                obtain ⟨q, eq⟩ : ∃ q, q = quo z (z ^^^ x) := ⟨_, rfl⟩
                rw [← eq] at HP cD
                obtain ⟨p, ep⟩ : ∃ p, p = mul y (wtT cs x k) := ⟨_, rfl⟩
                rw [← ep] at HP ⊢
                clear eq ep HW
                go_wp2_with fail
                go_quiet ((go_at_call 48; exact Calls.quiet_of_same ((cD _).mono (fun e w' h => ⟨h.1, h.2.symm⟩))))
                go_wp2_with (go_at_call 49; refine (refMul_any _ _ _ _ _ rfl rfl).mono ?_; rintro e w' ⟨rfl, rfl⟩)
                exact ⟨⟨k + 1, by omega, by go_num, by rw [HP.out], ⟨hb3.os, hb3.tape, hb3.output, hb3.size, hb3.block⟩⟩, by simp [intOf]; omega⟩
            · have hki : k = i := by omega
              subst hki
              have hxs := v8_xor s (mul y (wtT cs x k))
              have HXS : Hid (bits .xor .u8 (v8 s) (v8 (mul y (wtT cs x k))) = v8 (azT cs ds (j + 1))) := by rw [HS.out]; exact hxs
              clear hxs HS
              go_wp2
              exact ⟨⟨j + 1, by omega, by go_num, by rw [HXS.out], hb3⟩, by simp [intOf]; omega⟩
        · have hji : j = i := by omega
          subst hji
          go_wp2
          go_ret2
          exact ⟨by rw [HZ.out, HA.out, HE.out]; rfl, hb2⟩
end Go.Proofs.YtineieoghlbchaaDoor
