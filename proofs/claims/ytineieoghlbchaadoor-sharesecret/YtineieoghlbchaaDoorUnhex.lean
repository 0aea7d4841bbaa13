/- Digits to the base 16 as bytes, or refused: the program's way and the document's. -/
import Derived.Test.YtineieoghlbchaaDoorHexRef
namespace Go.Proofs.YtineieoghlbchaaDoor
open Go.RowKit

/-- The bytes of a text, as numbers. -/
def nums (s : ByteArray) : List Int := s.data.toList.map fun b => (b.toNat : Int)
theorem nums_length (s : ByteArray) : (nums s).length = s.size := by rw [nums, List.length_map]; rfl
theorem nums_rng (s : ByteArray) : ∀ x ∈ nums s, 0 ≤ x ∧ x ≤ 255 := by
  intro x hx
  obtain ⟨b, _, rfl⟩ := List.mem_map.1 hx
  have := b.toNat_lt
  omega
theorem nums_at (s : ByteArray) (j : Nat) (h : j < s.size) : (nums s)[j]'(by rw [nums_length]; exact h) = (s[j].toNat : Int) := by
  simp [nums]; rfl

def uhl : List Int → List Int
  | a :: b :: r => (16 * hvN a + hvN b) :: uhl r
  | _ => []
def allHex (xs : List Int) : Bool := xs.all hvB
def uhE (xs : List Int) : Int := if allHex xs then (if xs.length % 2 = 0 then 0 else 10) else 11
def uhL (xs : List Int) : List Int := if uhE xs = 0 then uhl xs else []

theorem uhl_rng (xs : List Int) : ∀ x ∈ uhl xs, 0 ≤ x ∧ x ≤ 255 := by
  induction xs using uhl.induct with
  | case1 a b r ih =>
    intro x hx
    simp only [uhl, List.mem_cons] at hx
    rcases hx with rfl | hx
    · have := hvN_rng a; have := hvN_rng b; omega
    · exact ih x hx
  | case2 => intro x hx; simp [uhl] at hx

theorem uhL_rng (xs : List Int) : ∀ x ∈ uhL xs, 0 ≤ x ∧ x ≤ 255 := by
  unfold uhL; split
  · exact uhl_rng xs
  · intro x hx; simp at hx

theorem uhl_snoc2 (m : Nat) : ∀ (xs : List Int) (a b : Int), xs.length = 2 * m → uhl (xs ++ [a, b]) = uhl xs ++ [16 * hvN a + hvN b] := by
  induction m with
  | zero => intro xs a b h; have : xs = [] := List.eq_nil_of_length_eq_zero (by omega); subst this; simp [uhl]
  | succ m ih =>
    intro xs a b h
    match xs, h with
    | x :: y :: r, h =>
      have hr : r.length = 2 * m := by simp at h; omega
      simp [uhl, ih r a b hr]

theorem uhl_length (m : Nat) : ∀ xs : List Int, xs.length = 2 * m → (uhl xs).length = m := by
  induction m with
  | zero => intro xs h; have : xs = [] := List.eq_nil_of_length_eq_zero (by omega); subst this; simp [uhl]
  | succ m ih =>
    intro xs h
    match xs, h with
    | x :: y :: r, h =>
      have hr : r.length = 2 * m := by simp at h; omega
      simp [uhl, ih r hr]

theorem allHex_take_succ (xs : List Int) (j : Nat) (h : j < xs.length) : allHex (xs.take (j + 1)) = (allHex (xs.take j) && hvB xs[j]) := by
  rw [List.take_succ_eq_append_getElem h]
  unfold allHex
  rw [List.all_append]
  simp only [List.all_cons, List.all_nil, Bool.and_true]

theorem allHex_false (xs : List Int) (j : Nat) (h : j < xs.length) (hb : hvB xs[j] = false) : allHex xs = false := by
  unfold allHex
  rw [List.all_eq_false]
  exact ⟨xs[j], List.getElem_mem _, by simp [hb]⟩

theorem or16 (a b : Int) (ha0 : 0 ≤ a) (ha1 : a ≤ 15) (hb0 : 0 ≤ b) (hb1 : b ≤ 15) : bits .or .u8 (a * 16 % 256) b = 16 * a + b := by
  rw [Int.emod_eq_of_lt (by omega) (by omega), u8_or _ _ (by omega) (by omega) (by omega) (by omega)]
  have e : (a * 16).toNat = 2 ^ 4 * a.toNat := by omega
  rw [e, ← Nat.two_pow_add_eq_or_of_lt (by omega)]
  omega

theorem hexValue_byte (b : UInt8) (w : World) : Calls Tryd.prog 58 #[.int .u8 (b.toNat : Int)] w fun e w' => e = .returned (.tuple #[.int .u8 (hvN b.toNat), .bool (hvB b.toNat)]) ∧ w = w' :=
  hexValue_any _ w (by omega) (by have := b.toNat_lt; omega)
theorem value_byte (b : UInt8) (w : World) : Calls Tryd.prog 59 #[.int .u8 (b.toNat : Int)] w fun e w' => e = .returned (.tuple #[.int .u8 (hvN b.toNat), .bool (hvB b.toNat)]) ∧ w = w' :=
  value_any _ w (by omega) (by have := b.toNat_lt; omega)

theorem set_head (done zs : List Int) (y : Int) (m : Nat) (hz : zs.length = m + 1) : ∃ zs' : List Int, zs'.length = m ∧ (done ++ zs).set done.length y = done ++ [y] ++ zs' := by
  match zs, hz with
  | z :: r, hz => exact ⟨r, by simpa using hz, by simp⟩

/-- A number written at the first free place of a row. -/
theorem row_put {w : World} {g k m : Nat} {done zs : List Int} {y : Int} (hd : done.length = k) (hz : zs.length = m + 1) (h : RowIs w g (done ++ zs)) :
    ∃ zs' : List Int, zs'.length = m ∧ RowIs (w.setCell ⟨g, k, none⟩ (.int .u8 y)) g (done ++ [y] ++ zs') := by
  obtain ⟨zs', h1, h2⟩ := set_head done zs y m hz
  refine ⟨zs', h1, ?_⟩
  unfold RowIs at h ⊢
  rw [heap_setCell_same w g k _ 5 _ h]
  congr 2
  have := congrArg u8s h2
  simp only [u8s, List.map_set] at this
  rw [hd] at this
  simp only [u8s]
  rw [← this]
  simp

set_option maxHeartbeats 1000000 in
set_option maxRecDepth 100000 in
theorem unhex_any (s : ByteArray) (w : World) (hbig : s.size ≤ 140737488355328) :
    Calls Tryd.prog 46 #[.string s] w fun e w' => ∃ u, e = .returned (.tuple #[u, .int .i64 (uhE (nums s))]) ∧ w'.ownsRow w.heap.size 5 1 u (uhL (nums s)).length (u8s (uhL (nums s))) ∧ Below w.heap.size w w' := by
  go_enter Tryd.func46, Tryd.ntmps46
  go_wp2
  go_loop [14] (fun i => ∃ j : Nat, j ≤ s.size ∧ i = .int .i64 j ∧ Hid (allHex ((nums s).take j) = true)) (fun i => s.size - (intOf i).toNat)
  case atStart => exact ⟨0, by omega, rfl, by show _ = _; simp [allHex]⟩
  case round =>
    obtain ⟨j, hj, rfl, HA⟩ := hrel
    by_cases hlt : j < s.size
    · have hjs : (j : Int) < s.size := by omega
      have hb := s[j].toNat_lt
      cases hvb : hvB (s[j].toNat : Int) with
      | true =>
        go_wp2_with (go_at_call 58; refine (hexValue_byte _ _).mono ?_; rintro e w' ⟨rfl, rfl⟩)
        go_round
        case rel =>
          refine ⟨j + 1, by omega, by go_num, ?_⟩
          show _ = _
          rw [allHex_take_succ _ _ (by rw [nums_length]; exact hlt), HA.out, nums_at s j hlt, hvb]
          rfl
        case measure => simp [intOf]; omega
      | false =>
        go_wp2_with (go_at_call 58; refine (hexValue_byte _ _).mono ?_; rintro e w' ⟨rfl, rfl⟩)
        go_ret2
        have hE : uhE (nums s) = 11 := by
          unfold uhE
          rw [allHex_false (nums s) j (by rw [nums_length]; exact hlt) (by rw [nums_at s j hlt]; exact hvb)]
          rfl
        have hN : uhL (nums s) = [] := by unfold uhL; rw [hE]; rfl
        rw [hE, hN]
        exact ⟨_, rfl, World.ownsRow_nil _ _ _ _, Below.refl _ _⟩
    · have hjn : j = s.size := by omega
      subst hjn
      have HA2 : Hid (allHex (nums s) = true) := by
        have := HA.out
        rw [List.take_of_length_le (by rw [nums_length]; omega)] at this
        exact this
      clear HA
      rcases Nat.mod_two_eq_zero_or_one s.size with h2 | h2
      · obtain ⟨m, HM⟩ : ∃ m, Hid (s.size = 2 * m) := ⟨s.size / 2, by show _ = _; omega⟩
        have r1 : (s.size : Int) % 2 = 0 := by omega
        have r2 : (s.size : Int) / 2 = m := by have := HM.out; omega
        have r3 : (s.size : Int).tmod 2 = 0 := by rw [Int.tmod_eq_emod_of_nonneg (by omega)]; exact r1
        have r4 : (s.size : Int).tdiv 2 = m := by rw [Int.tdiv_eq_ediv_of_nonneg (by omega)]; exact r2
        have hm : m ≤ 140737488355328 := by have := HM.out; omega
        obtain ⟨zs0, HZ0⟩ : ∃ zs : List Int, Hid (zs = List.replicate m 0) := ⟨List.replicate m 0, (rfl : _ = _)⟩
        have HE : Hid (uhE (nums s) = 0) := by show _ = _; unfold uhE; rw [HA2.out, nums_length, h2]; rfl
        have HN : Hid (uhL (nums s) = uhl (nums s)) := by show _ = _; unfold uhL; rw [HE.out]; rfl
        clear h2
        go_wp2_with (at_make; go_must (refine law_make rfl _ _ rfl _ _ m rfl rfl rfl rfl (by omega) zs0 HZ0 ?_))
        intro w1 HR hb1 hz1
        go_wp2
        go_loopw [37] (fun i wr => ∃ (k : Nat) (zs : List Int), k ≤ m ∧ i = .int .i64 k ∧ Hid (zs.length = m - k) ∧ RowIs wr w.heap.size (uhl ((nums s).take (2 * k)) ++ zs) ∧ Below w.heap.size w wr) (fun i _ => m - (intOf i).toNat)
        case atStart => exact ⟨0, zs0, by omega, rfl, by show _ = _; rw [HZ0.out]; simp, by simpa [uhl] using HR, hb1⟩
        case round =>
          obtain ⟨k, zs, hk, rfl, HZ, HR2, hbr⟩ := hrel
          by_cases hkm : k < m
          · have h2k : 2 * k < s.size := by have := HM.out; omega
            have h2k1 : 2 * k + 1 < s.size := by have := HM.out; omega
            have i1 : (2 * (k : Int)) < s.size := by omega
            have i2 : (2 * (k : Int)) + 1 < s.size := by omega
            have hfz : wr.frozen? ⟨w.heap.size, k, none⟩ = false := frozen_of_row _ _ _ _ _ HR2
            have HT : Hid (((nums s).take (2 * k)).length = 2 * k) := by show _ = _; rw [List.length_take, nums_length]; omega
            have HU : Hid ((uhl ((nums s).take (2 * k))).length = k) := uhl_length k _ HT.out
            obtain ⟨cv, hcv⟩ : ∃ cv, wr.cell? ⟨w.heap.size, k, none⟩ = some cv := by
              have h1 := cell_of_row wr w.heap.size k _ 5 (0, 0) HR2
              have h3 : k < (u8s (uhl ((nums s).take (2 * k)) ++ zs)).toArray.size := by
                have := HU.out; have := HZ.out
                simp [u8s_length]; omega
              exact ⟨_, h1.trans (Array.getElem?_eq_getElem h3)⟩
            go_wp2_with (go_at_call 58; refine (hexValue_byte _ _).mono ?_; rintro e w' ⟨rfl, rfl⟩)
            go_roundw
            case rel =>
              obtain ⟨zs', h1, h2⟩ := row_put (y := 16 * hvN (s[2 * k].toNat : Int) + hvN (s[2 * k + 1].toNat : Int)) HU.out (show zs.length = (m - k - 1) + 1 by have := HZ.out; omega) HR2
              refine ⟨k + 1, zs', by omega, by go_num, by show _ = _; omega, ?_, hbr.setCell (Nat.le_refl _) _⟩
              have hn1 := hvN_rng (s[2 * k].toNat : Int)
              have hn2 := hvN_rng (s[2 * k + 1].toNat : Int)
              rw [or16 _ _ hn1.1 hn1.2 hn2.1 hn2.2]
              have e : uhl ((nums s).take (2 * (k + 1))) = uhl ((nums s).take (2 * k)) ++ [16 * hvN (s[2 * k].toNat : Int) + hvN (s[2 * k + 1].toNat : Int)] := by
                have hl := nums_length s
                rw [show 2 * (k + 1) = 2 * k + 1 + 1 from by omega, List.take_succ_eq_append_getElem (by omega), List.take_succ_eq_append_getElem (by omega), nums_at s _ h2k, nums_at s _ h2k1, List.append_assoc]
                exact uhl_snoc2 k _ _ _ HT.out
              rw [e]
              exact h2
            case measure => simp [intOf]; omega
          · have hkm2 : k = m := by omega
            subst hkm2
            have hzz : zs = [] := List.eq_nil_of_length_eq_zero (by have := HZ.out; omega)
            subst hzz
            go_wp2
            go_ret2
            rw [HE.out, HN.out]
            have hl : (nums s).length = 2 * k := by rw [nums_length]; exact HM.out
            rw [List.append_nil, List.take_of_length_le (by omega)] at HR2
            have hu := uhl_length k _ hl
            rw [hu]
            exact ⟨_, rfl, own_of_heap HR2 hu (by unfold maxLen; omega) (Nat.le_refl _), hbr⟩
      · have r1 : (s.size : Int) % 2 = 1 := by omega
        have r3 : (s.size : Int).tmod 2 = 1 := by rw [Int.tmod_eq_emod_of_nonneg (by omega)]; exact r1
        have HE : Hid (uhE (nums s) = 10) := by show _ = _; unfold uhE; rw [HA2.out, nums_length, h2]; rfl
        have HN : Hid (uhL (nums s) = []) := by show _ = _; unfold uhL; rw [HE.out]; rfl
        clear h2
        go_wp2
        go_ret2
        rw [HE.out, HN.out]
        exact ⟨_, rfl, World.ownsRow_nil _ _ _ _, Below.refl _ _⟩

set_option maxHeartbeats 1000000 in
set_option maxRecDepth 100000 in
theorem unhexRef_any (s : ByteArray) (w : World) (hbig : s.size ≤ 140737488355328) :
    Calls Tryd.prog 47 #[.string s] w fun e w' => ∃ u, e = .returned (.tuple #[u, .int .i64 (uhE (nums s))]) ∧ w'.ownsRow w.heap.size 5 1 u (uhL (nums s)).length (u8s (uhL (nums s))) ∧ Below w.heap.size w w' := by
  go_enter Tryd.func47, Tryd.ntmps47
  go_wp2
  go_loop [4] (fun i => ∃ j : Nat, j ≤ s.size ∧ i = .int .i64 j ∧ Hid (allHex ((nums s).take j) = true)) (fun i => s.size - (intOf i).toNat)
  case atStart => exact ⟨0, by omega, rfl, by show _ = _; simp [allHex]⟩
  case round =>
    obtain ⟨j, hj, rfl, HA⟩ := hrel
    by_cases hlt : j < s.size
    · have hjs : (j : Int) < s.size := by omega
      cases hvb : hvB (s[j].toNat : Int) with
      | true =>
        go_wp2_with (go_at_call 59; refine (value_byte _ _).mono ?_; rintro e w' ⟨rfl, rfl⟩)
        go_round
        case rel =>
          refine ⟨j + 1, by omega, by go_num, ?_⟩
          show _ = _
          rw [allHex_take_succ _ _ (by rw [nums_length]; exact hlt), HA.out, nums_at s j hlt, hvb]
          rfl
        case measure => simp [intOf]; omega
      | false =>
        go_wp2_with (go_at_call 59; refine (value_byte _ _).mono ?_; rintro e w' ⟨rfl, rfl⟩)
        go_ret2
        have hE : uhE (nums s) = 11 := by
          unfold uhE
          rw [allHex_false (nums s) j (by rw [nums_length]; exact hlt) (by rw [nums_at s j hlt]; exact hvb)]
          rfl
        have hN : uhL (nums s) = [] := by unfold uhL; rw [hE]; rfl
        rw [hE, hN]
        exact ⟨_, rfl, World.ownsRow_nil _ _ _ _, Below.refl _ _⟩
    · have hjn : j = s.size := by omega
      subst hjn
      have HA2 : Hid (allHex (nums s) = true) := by
        have := HA.out
        rw [List.take_of_length_le (by rw [nums_length]; omega)] at this
        exact this
      clear HA
      rcases Nat.mod_two_eq_zero_or_one s.size with h2 | h2
      · obtain ⟨m, HM⟩ : ∃ m, Hid (s.size = 2 * m) := ⟨s.size / 2, by show _ = _; omega⟩
        have r1 : (s.size : Int) % 2 = 0 := by omega
        have r3 : (s.size : Int).tmod 2 = 0 := by rw [Int.tmod_eq_emod_of_nonneg (by omega)]; exact r1
        have hm : m ≤ 140737488355328 := by have := HM.out; omega
        have HE : Hid (uhE (nums s) = 0) := by show _ = _; unfold uhE; rw [HA2.out, nums_length, h2]; rfl
        have HN : Hid (uhL (nums s) = uhl (nums s)) := by show _ = _; unfold uhL; rw [HE.out]; rfl
        clear h2
        go_wp2
        go_loopw [7, 8] (fun v i wr => ∃ k : Nat, k ≤ m ∧ i = .int .i64 (2 * (k : Int)) ∧ wr.ownsRow w.heap.size 5 1 v k (u8s (uhl ((nums s).take (2 * k)))) ∧ Below w.heap.size w wr) (fun _ i _ => 2 * m - (intOf i).toNat)
        case atStart => exact ⟨0, by omega, rfl, by simpa [uhl, u8s] using World.ownsRow_nil _ _ _ _, Below.refl _ _⟩
        case round =>
          obtain ⟨k, hk, rfl, hown, hbr⟩ := hrel
          by_cases hkm : k < m
          · have h2k : 2 * k < s.size := by have := HM.out; omega
            have h2k1 : 2 * k + 1 < s.size := by have := HM.out; omega
            have i1 : (2 * (k : Int)) < s.size := by omega
            have i2 : (2 * (k : Int)) + 1 < s.size := by omega
            have HT : Hid (((nums s).take (2 * k)).length = 2 * k) := by show _ = _; rw [List.length_take, nums_length]; omega
            have hn1 := hvN_rng (s[2 * k].toNat : Int)
            have hn2 := hvN_rng (s[2 * k + 1].toNat : Int)
            have hsz := hbr.size
            have hsrc := shows_new wr [16 * hvN (s[2 * k].toNat : Int) + hvN (s[2 * k + 1].toNat : Int)] (by intro x hx; simp at hx; omega)
            go_wp2_with (first | (go_at_call 59; refine (value_byte _ _).mono ?_; rintro e w' ⟨rfl, rfl⟩) | (at_builtin; go_must (refine law_append rfl _ _ rfl w.heap.size _ _ _ rfl (hown.alloc _) _ 1 1 _ rfl hsrc (by intro h; cases h) (by omega) (by simp; omega) ?_)))
            intro v' w2 hown2 hgrow _
            go_wp2
            go_roundw
            case rel =>
              refine ⟨k + 1, by omega, by go_num, ?_, ?_⟩
              · have e : uhl ((nums s).take (2 * (k + 1))) = uhl ((nums s).take (2 * k)) ++ [16 * hvN (s[2 * k].toNat : Int) + hvN (s[2 * k + 1].toNat : Int)] := by
                  have hl := nums_length s
                  rw [show 2 * (k + 1) = 2 * k + 1 + 1 from by omega, List.take_succ_eq_append_getElem (by omega), List.take_succ_eq_append_getElem (by omega), nums_at s _ h2k, nums_at s _ h2k1, List.append_assoc]
                  exact uhl_snoc2 k _ _ _ HT.out
                rw [e]
                exact hown2
              · exact (hbr.alloc hsz _).grown hgrow (by simp; omega) (fun b hb => (hown.lt b hb).1)
            case measure => simp [intOf]; omega
          · have hkm2 : k = m := by omega
            subst hkm2
            have i3 : ¬ (2 * (k : Int)) < s.size := by have := HM.out; omega
            go_wp2
            go_ret2
            rw [HE.out, HN.out]
            have hl : (nums s).length = 2 * k := by rw [nums_length]; exact HM.out
            rw [List.take_of_length_le (by omega)] at hown
            rw [uhl_length k _ hl]
            exact ⟨_, rfl, hown, hbr⟩
      · have r1 : (s.size : Int) % 2 = 1 := by omega
        have r3 : (s.size : Int).tmod 2 = 1 := by rw [Int.tmod_eq_emod_of_nonneg (by omega)]; exact r1
        have HE : Hid (uhE (nums s) = 10) := by show _ = _; unfold uhE; rw [HA2.out, nums_length, h2]; rfl
        have HN : Hid (uhL (nums s) = []) := by show _ = _; unfold uhL; rw [HE.out]; rfl
        clear h2
        go_wp2
        go_ret2
        rw [HE.out, HN.out]
        exact ⟨_, rfl, World.ownsRow_nil _ _ _ _, Below.refl _ _⟩

end Go.Proofs.YtineieoghlbchaaDoor
