/- Whether shares have too many bytes; how many are needed, by the document's answer. -/
import Derived.Test.YtineieoghlbchaaDoorBackM
import Derived.Test.YtineieoghlbchaaDoorRefZ
namespace Go.Proofs.YtineieoghlbchaaDoor
open Go.RowKit

/-- What vast answers. -/
def Vast (n : Nat) (L : List Sh) (w : World) (e : Ending) (w' : World) : Prop := ∃ b : Bool, e = .returned (.bool b) ∧ (b = false → (n ≤ 65536 ∧ ∀ s ∈ L, s.n ≤ 65536)) ∧ w = w'
theorem vast_mk {n : Nat} {L : List Sh} {w w' : World} {e : Ending} (b : Bool) (he : e = .returned (.bool b)) (h : b = false → (n ≤ 65536 ∧ ∀ s ∈ L, s.n ≤ 65536)) (hw : w = w') : Vast n L w e w' := ⟨b, he, h, hw⟩

set_option maxRecDepth 100000 in
set_option maxHeartbeats 1000000 in
theorem vast_any (ao : Option Addr) (n c : Nat) (L : List Sh) (w : World) (hs : Shs w ao n L) (hn : (n : Int) ≤ 9223372036854775807) :
    Calls Tryd.prog 16 #[.slice ao n c] w fun e w' => Vast n L w e w' := by
  have HL : Hid (L.length = n) := hs.len
  go_enter Tryd.func16, Tryd.ntmps16
  go_wp2
  go_loop [3, 4] (fun t i => ∃ (j q : Nat), j ≤ n ∧ i = .int .i64 j ∧ t = .int .i64 q ∧ n ≤ q ∧ ((q : Int) ≤ n ∨ (q : Int) ≤ 200000) ∧ (∀ s ∈ L.take j, min s.n 131072 ≤ q)) (fun _ i => n - (intOf i).toNat)
  case atStart => exact ⟨0, n, Nat.zero_le _, rfl, rfl, Nat.le_refl _, by omega, by simp⟩
  case round =>
    obtain ⟨j, q, hj, rfl, rfl, hq, hq2, hall⟩ := hrel
    have HA : Hid (∀ s ∈ L.take j, min s.n 131072 ≤ q) := hall
    clear hall
    by_cases hlt : j < n
    · have hjn : (j : Int) < (n : Int) := by omega
      by_cases hq6 : (q : Int) ≤ 65536
      · obtain ⟨ad, rfl⟩ := hs.adr (by omega)
        obtain ⟨s, hsk⟩ := hs.get j hlt
        have cy := hs.cy ad rfl j s hsk
        have HT : Hid (L.take (j + 1) = L.take j ++ [s]) := take_next' hsk
        obtain ⟨sn, hsn⟩ : ∃ sn, sn = s.n := ⟨_, rfl⟩
        rw [← hsn] at cy
        have HSN : Hid (sn = s.n) := hsn
        clear hsk hsn
        have hmx := (hs.ok s (by rw [← List.take_append_drop (j + 1) L, HT.out]; simp)).max
        have hml := (hs.ok s (by rw [← List.take_append_drop (j + 1) L, HT.out]; simp)).le
        unfold maxLen at hmx
        go_wp2
        go_round
        case rel =>
          refine ⟨j + 1, q + min sn 131072, by omega, by go_num, ?_, by omega, by omega, ?_⟩
          · congr 1
            omega
          · intro t ht
            rw [HT.out] at ht
            rcases List.mem_append.1 ht with ht | ht
            · have := HA.out t ht; omega
            · rw [List.mem_singleton] at ht
              subst ht
              have := HSN.out
              omega
        case measure => simp [intOf]; omega
      · go_wp2
        go_ret
        exact vast_mk true (by simp) (fun h => by cases h) rfl
    · have hjn : n = j := by omega
      subst hjn
      have HA2 : Hid (∀ s ∈ L, min s.n 131072 ≤ q) := by have := HA.out; rwa [List.take_of_length_le (by rw [HL.out]; exact Nat.le_refl _)] at this
      go_wp2
      go_ret
      refine vast_mk (decide ((65536 : Int) < q)) rfl (fun h => ?_) rfl
      have h1 : ¬ (65536 : Int) < q := of_decide_eq_false h
      refine ⟨by omega, fun s hs => ?_⟩
      have := HA2.out s hs
      omega

theorem mem_takeX {L : List Sh} {i j : Nat} {s : Sh} (h : L[j]? = some s) (hj : j < i) : s.x ∈ (L.map Sh.x).take i := by
  have : ((L.map Sh.x).take i)[j]? = some s.x := by rw [List.getElem?_take, if_pos hj, List.getElem?_map, h]; rfl
  exact List.mem_of_getElem? this

set_option maxRecDepth 100000 in
set_option maxHeartbeats 2000000 in
theorem rneed_any (ao : Option Addr) (n c : Nat) (k : Int) (L : List Sh) (w : World) (hs : Shs w ao n L) (hn : (n : Int) ≤ 140737488355328) (hk : k ≤ 9223372036854775807) :
    Calls Tryd.prog 23 #[.slice ao n c, .int .i64 k] w fun e w' => e = .returned (.int .i64 (nd (ded (L.map Sh.x)).length k)) ∧ Below w.heap.size w w' := by
  have HL : Hid (L.length = n) := hs.len
  go_enter Tryd.func23, Tryd.ntmps23
  go_wp2
  go_loopw [5, 6] (fun q i wr => ∃ (j d : Nat), j ≤ n ∧ i = .int .i64 j ∧ q = .int .i64 d ∧ d ≤ j ∧ Hid (d = (ded ((L.map Sh.x).take j)).length) ∧ Below w.heap.size w wr) (fun _ i _ => n - (intOf i).toNat)
  case atStart => exact ⟨0, 0, Nat.zero_le _, rfl, rfl, Nat.le_refl _, rfl, Below.refl _ _⟩
  case round =>
    obtain ⟨i, d, hi, rfl, rfl, hdi, HD, hb⟩ := hrel
    by_cases hlt : i < n
    · have hin : (i : Int) < (n : Int) := by omega
      obtain ⟨ad, rfl⟩ := hs.adr (by omega)
      obtain ⟨s, hsk⟩ := hs.get i hlt
      have cxi := fun W (hW : Below w.heap.size w W) => (hs.later hW).cx ad rfl i s hsk
      have HT : Hid ((L.map Sh.x).take (i + 1) = (L.map Sh.x).take i ++ [s.x]) := take_map_next Sh.x L i s hsk
      obtain ⟨x, hx⟩ : ∃ x, x = s.x := ⟨_, rfl⟩
      rw [← hx] at cxi HT
      clear hsk hx
      have cx0 := cxi wr hb
      obtain ⟨wB, h⟩ : ∃ x, x = wr := ⟨_, rfl⟩; subst h
      obtain ⟨b0, hb0⟩ : ∃ b0, b0 = (v8 x != 0) := ⟨_, rfl⟩
      have hb0' : (v8 x != 0) = b0 := hb0.symm
      have HB0 : Hid (b0 = true ↔ x ≠ 0#8) := by
        show _ ↔ _
        rw [hb0]
        have := v8_eq x 0#8
        rw [v8_zero] at this
        simp only [bne, this]
        simp
      clear hb0
      go_wp2
      go_loopw [7, 8] (fun f q wr => ∃ (j : Nat) (b : Bool), j ≤ i ∧ q = .int .i64 j ∧ f = .bool b ∧ (b = true → x ≠ 0#8 ∧ x ∉ (L.map Sh.x).take j) ∧ (b = false → x = 0#8 ∨ x ∈ (L.map Sh.x).take i) ∧ Below w.heap.size w wr) (fun _ q _ => i - (intOf q).toNat)
      case atStart =>
        refine ⟨0, b0, Nat.zero_le _, rfl, rfl, fun h => ⟨HB0.out.1 h, by simp⟩, fun h => ?_, hb⟩
        left
        by_cases e : x = 0#8
        · exact e
        · have := HB0.out.2 e
          rw [h] at this
          cases this
      case round =>
        obtain ⟨j, b, hj, rfl, rfl, h1, h2, hb2⟩ := hrel
        have H1 : Hid (b = true → x ≠ 0#8 ∧ x ∉ (L.map Sh.x).take j) := h1
        have H2 : Hid (b = false → x = 0#8 ∨ x ∈ (L.map Sh.x).take i) := h2
        clear h1 h2
        have fin : Hid (b = false → (ded ((L.map Sh.x).take (i + 1))).length = d) := by
          intro h
          rw [HT.out, ded_same (H2.out h), HD.out]
        cases b
        · clear H1 H2
          by_cases hji : j < i
          · have hji' : (j : Int) < (i : Int) := by omega
            go_wp2
            go_roundw
            case rel => exact ⟨i + 1, d, by omega, by go_num, rfl, by omega, (fin.out rfl).symm, hb2⟩
            case measure => simp [intOf]; omega
          · have hji' : ¬ (j : Int) < (i : Int) := by omega
            go_wp2
            go_roundw
            case rel => exact ⟨i + 1, d, by omega, by go_num, rfl, by omega, (fin.out rfl).symm, hb2⟩
            case measure => simp [intOf]; omega
        · have H1a : Hid (x ≠ 0#8) := (H1.out rfl).1
          have H1b : Hid (x ∉ (L.map Sh.x).take j) := (H1.out rfl).2
          clear H1 H2
          by_cases hji : j < i
          · have hji' : (j : Int) < (i : Int) := by omega
            have hjn : (j : Int) < (n : Int) := by omega
            obtain ⟨t, htk⟩ := hs.get j (by omega)
            have cxj := (hs.later hb2).cx ad rfl j t htk
            have cxi2 := cxi wr hb2
            have HTJ : Hid ((L.map Sh.x).take (j + 1) = (L.map Sh.x).take j ++ [t.x]) := take_map_next Sh.x L j t htk
            have HMJ : Hid (t.x ∈ (L.map Sh.x).take i) := mem_takeX htk hji
            obtain ⟨y, hy⟩ : ∃ y, y = t.x := ⟨_, rfl⟩
            rw [← hy] at cxj HTJ HMJ
            clear htk hy
            by_cases hyx : y = x
            · subst hyx
              clear fin cxi
              go_wp2_with fail
              go_quiet (fail)
              go_wp2
              refine ⟨⟨j + 1, false, by omega, by go_num, rfl, fun h => (by cases h), fun _ => .inr HMJ.out, below_drewN hb2 _⟩, by simp [intOf]; omega⟩
            · have hv := v8_ne hyx
              have hv' : (v8 y == v8 x) = false := by simp [hv]
              clear fin cxi
              go_wp2_with fail
              go_quiet (fail)
              go_wp2
              refine ⟨⟨j + 1, true, by omega, by go_num, congrArg Value.bool (show (v8 y != v8 x) = true by simp [hv]), fun _ => ⟨H1a.out, ?_⟩, fun h => (by cases h), below_drewN hb2 _⟩, by simp [intOf]; omega⟩
              rw [HTJ.out]
              intro hm
              rcases List.mem_append.1 hm with hm | hm
              · exact H1b.out hm
              · rw [List.mem_singleton] at hm; exact hyx hm.symm
          · have hji' : ¬ (j : Int) < (i : Int) := by omega
            have hij : j = i := by omega
            subst hij
            have hded : Hid ((ded ((L.map Sh.x).take (j + 1))).length = d + 1) := by
              show _ = _
              rw [HT.out, ded_new H1a.out H1b.out, List.length_append, HD.out]
              rfl
            go_wp2
            go_roundw
            case rel => exact ⟨j + 1, d + 1, by omega, by go_num, by go_num, by omega, hded.out.symm, hb2⟩
            case measure => simp [intOf]; omega
    · have hin : n = i := by omega
      subst hin
      have HF : Hid (d = (ded (L.map Sh.x)).length) := by have := HD.out; rwa [List.take_of_length_le (by rw [List.length_map, HL.out]; exact Nat.le_refl _)] at this
      by_cases h : k ≤ d
      · have HN : Hid (nd d k = 0) := if_pos h
        go_wp2
        go_ret
        exact ⟨by rw [← HF.out, HN.out]; rfl, hb⟩
      · have HN : Hid (nd d k = k - d) := if_neg h
        go_wp2
        go_ret
        exact ⟨by rw [← HF.out, HN.out]; rfl, hb⟩
end Go.Proofs.YtineieoghlbchaaDoor
