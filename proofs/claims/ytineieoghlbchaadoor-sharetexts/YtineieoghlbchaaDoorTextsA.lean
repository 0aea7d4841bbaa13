/- ShareTexts: the call, where the arguments are not too long. -/
import Derived.Test.YtineieoghlbchaaDoorReadR
import Derived.Test.YtineieoghlbchaaDoorHexMath
namespace Go.Proofs.YtineieoghlbchaaDoor
open Go.RowKit

theorem cons_rng {x : Int} {xs : List Int} (h0 : 0 ≤ x) (h1 : x ≤ 255) (h : ∀ y ∈ xs, 0 ≤ y ∧ y ≤ 255) : ∀ y ∈ x :: xs, 0 ≤ y ∧ y ≤ 255 := by
  intro y hy
  rcases List.mem_cons.1 hy with rfl | hy
  · exact ⟨h0, h1⟩
  · exact h y hy
/-- What is read tells its text again. -/
theorem rd_text (t : ByteArray) (h : rdE (nums t) = 0) : strOfNums (hexl (rdX (nums t) :: rdY (nums t))) = t := by
  have hE : uhE (nums t) = 0 := by
    by_cases e : uhE (nums t) = 0
    · exact e
    · unfold rdE at h
      rw [if_neg e] at h
      exact absurd h e
  have hL : rdX (nums t) :: rdY (nums t) = uhL (nums t) := by
    unfold rdX rdY
    rw [if_pos h, if_pos h]
    cases hL : uhL (nums t) with
    | nil =>
      unfold rdE at h
      rw [if_pos hE, hL] at h
      simp at h
    | cons x ys => rfl
  rw [hL, hexl_uh _ hE, str_nums]
theorem rdY_rng (l : List Int) : ∀ x ∈ rdY l, 0 ≤ x ∧ x ≤ 255 := by
  unfold rdY
  split
  · intro x hx
    exact uhL_rng l x (List.mem_of_mem_tail hx)
  · intro x hx; simp at hx
theorem rdX_rng (l : List Int) : 0 ≤ rdX l ∧ rdX l ≤ 255 := by
  unfold rdX
  split
  · cases h : uhL l with
    | nil => simp
    | cons x ys => exact uhL_rng l x (by rw [h]; simp)
  · omega
theorem rdY_len (l : List Int) : (rdY l).length ≤ l.length := by
  unfold rdY
  split
  · have := uhL_le l
    rw [List.length_tail]
    omega
  · simp
/-- A share's text is read as what it was, if it may be. -/
theorem rd_back (x : Int) (xs : List Int) (h0 : 0 ≤ x) (h1 : x ≤ 255) (h : ∀ y ∈ xs, 0 ≤ y ∧ y ≤ 255) :
    rdE (hexl (x :: xs)) = (if x = 0 then 40 else if 1024 < xs.length then 3 else 0) := by
  obtain ⟨e1, e2⟩ := uh_hexl (x :: xs) (cons_rng h0 h1 h)
  unfold rdE
  rw [if_pos e1, e2]
theorem rd_same (x : Int) (xs : List Int) (h0 : 0 ≤ x) (h1 : x ≤ 255) (h : ∀ y ∈ xs, 0 ≤ y ∧ y ≤ 255) (hE : rdE (hexl (x :: xs)) = 0) : rdX (hexl (x :: xs)) = x ∧ rdY (hexl (x :: xs)) = xs := by
  obtain ⟨e1, e2⟩ := uh_hexl (x :: xs) (cons_rng h0 h1 h)
  unfold rdX rdY
  rw [if_pos hE, if_pos hE, e2]
  exact ⟨rfl, rfl⟩
theorem nums_hex (x : Int) (xs : List Int) : nums (strOfNums (hexl (x :: xs))) = hexl (x :: xs) := nums_str _ (hexl_rng _)
theorem size_hex (x : Int) (xs : List Int) : (strOfNums (hexl (x :: xs))).size = 2 * (xs.length + 1) := by
  rw [← nums_length, nums_hex, hexl_length, List.length_cons]

set_option maxHeartbeats 1000000 in
theorem texts_big1 (x : Int) (ao : Option Addr) (n c : Nat) (t : ByteArray) (w : World) (ht : Tab w) (hn : (8192 : Int) < n ∨ (16384 : Int) < t.size) :
    Calls Tryd.prog 5 #[.agg #[.int .u8 x, .slice ao n c], .string t] w fun e w' => e = .returned (.bool true) ∧ Below w.heap.size w w' := by
  have hbA : Below w.heap.size w (w.alloc (.cells #[.int .u8 x, .slice ao n c] 44)) := (Below.refl _ w).alloc (Nat.le_refl _) _
  have hw := works_any (w.alloc (.cells #[.int .u8 x, .slice ao n c] 44)) (ht.later hbA) (by simp)
  by_cases h1 : (8192 : Int) < n
  · go_enter Tryd.func5, Tryd.ntmps5
    go_wp2_with (go_at_call 8; refine hw.mono ?_; rintro e w1 ⟨rfl, hb⟩)
    go_ret
    exact ⟨rfl, hbA.trans (hb.mono (by simp))⟩
  · have h2 : (16384 : Int) < t.size := by omega
    go_enter Tryd.func5, Tryd.ntmps5
    go_wp2_with (go_at_call 8; refine hw.mono ?_; rintro e w1 ⟨rfl, hb⟩)
    go_ret
    exact ⟨rfl, hbA.trans (hb.mono (by simp))⟩

set_option maxRecDepth 100000 in
set_option maxHeartbeats 2000000 in
theorem texts_walk (x : Int) (ao : Option Addr) (n c : Nat) (xs : List Int) (t : ByteArray) (w : World) (hx0 : 0 ≤ x) (hx1 : x ≤ 255) (hs : Shows w ao n xs) (hc : ao = none → c = 0) (ht : Tab w) (h0 : 0 < w.heap.size) (hn : (n : Int) ≤ 8192) (hm : (t.size : Int) ≤ 16384) :
    Calls Tryd.prog 5 #[.agg #[.int .u8 x, .slice ao n c], .string t] w fun e w' => e = .returned (.bool true) ∧ Below w.heap.size w w' := by
  have hbA : Below w.heap.size w (w.alloc (.cells #[.int .u8 x, .slice ao n c] 44)) := (Below.refl _ w).alloc (Nat.le_refl _) _
  have hS : Slot (w.alloc (.cells #[.int .u8 x, .slice ao n c] 44)) w.heap.size (.int .u8 x) (.slice ao n c) := ⟨Blk.new w 44 [_, _]⟩
  have hsA := hs.later hbA
  have hro := roomy_any ao n c xs _ hsA hc (by omega)
  obtain ⟨A, HA⟩ : ∃ A, Hid (A = w.alloc (.cells #[.int .u8 x, .slice ao n c] 44)) := ⟨_, rfl⟩
  rw [← HA.out] at hbA hS hsA hro
  obtain ⟨T, HT⟩ : ∃ T, Hid (T = strOfNums (hexl (x :: xs))) := ⟨_, rfl⟩
  go_enter Tryd.func5, Tryd.ntmps5
  go_wp2_with fail
  rw [← HA.out]
  refine hro.mono ?_
  rintro e w1 ⟨g, cap, rfl, hown, hb1⟩
  have B1 : Below w.heap.size w w1 := hbA.trans (hb1.mono hbA.size)
  have S1 := hS.later hb1
  have s1 := hsA.later hb1
  obtain ⟨k0, k1, -⟩ := S1.facts (.int .u8 0)
  have r1 := shows_first hown hs.len (by omega) hs.rng
  have z1 := B1.size
  have htx := text_any x (some ⟨g, 0, none⟩) n cap xs w1 hx0 hx1 r1 (fun e => (by cases e)) (by omega) (ht.later B1) (by omega)
  rw [← HT.out] at htx
  go_wp2_with fail
  refine htx.mono ?_
  rintro e w2 ⟨rfl, hb2⟩
  have B2 : Below w.heap.size w w2 := B1.trans (hb2.mono B1.size)
  have S2 := S1.later hb2
  have s2 := s1.later hb2
  obtain ⟨l0, l1, -⟩ := S2.facts (.int .u8 0)
  have hrt := refText_any x ao n c xs w2 hx0 hx1 s2 hc (by omega)
  rw [← HT.out] at hrt
  go_wp2_with fail
  refine hrt.mono ?_
  rintro e w3 ⟨rfl, hb3⟩
  have B3 : Below w.heap.size w w3 := B2.trans (hb3.mono B2.size)
  have S3 := S2.later hb3
  have s3 := s2.later hb3
  have o3 := own_below (own_below hown hb2) hb3
  obtain ⟨m0, m1, -⟩ := S3.facts (.int .u8 0)
  have hkp := kept_any g n cap _ c ao xs w3 o3 s3 (by omega)
  go_wp2_with fail
  refine hkp.mono ?_
  rintro e w' ⟨rfl, rfl⟩
  have hrd := read_any t w3 (by omega)
  have hXr := rdX_rng (nums t)
  have hYr := rdY_rng (nums t)
  have hYl := rdY_len (nums t)
  rw [nums_length] at hYl
  have htxt := rd_text t
  obtain ⟨E, hE⟩ : ∃ E, E = rdE (nums t) := ⟨_, rfl⟩
  obtain ⟨X, hX⟩ : ∃ X, X = rdX (nums t) := ⟨_, rfl⟩
  obtain ⟨Y, hY⟩ : ∃ Y, Y = rdY (nums t) := ⟨_, rfl⟩
  rw [← hX] at hXr htxt
  rw [← hY] at hYr hYl htxt
  rw [← hE] at htxt
  obtain ⟨hX0, hX1⟩ := hXr
  have HTX : Hid (E = 0 → strOfNums (hexl (X :: Y)) = t) := htxt
  have RA : ∀ wa e wb, ReadAs (nums t) wa e wb → ∃ ro rn rc, e = .returned (.tuple #[.agg #[.int .u8 X, .slice ro rn rc], .int .i64 E]) ∧ Shows wb ro rn Y ∧ (ro = none → rc = 0) ∧ rn ≤ rc ∧ Below wa.heap.size wa wb := by
    intro wa e wb h
    rw [hE, hX, hY]
    exact h
  clear hE hX hY htxt hro htx hrt hkp
  go_wp2_with fail
  refine hrd.mono ?_
  intro e w4 hra
  obtain ⟨ro, rn, rc, rfl, sr, hrn, hrc, hb4⟩ := RA _ _ _ hra
  have B4 : Below w.heap.size w w4 := B3.trans (hb4.mono B3.size)
  have hbX : Below w4.heap.size w4 (w4.alloc (.cells #[.int .u8 X, .slice ro rn rc] 44)) := (Below.refl _ w4).alloc (Nat.le_refl _) _
  have SX : Slot (w4.alloc (.cells #[.int .u8 X, .slice ro rn rc] 44)) w4.heap.size (.int .u8 X) (.slice ro rn rc) := ⟨Blk.new w4 44 [_, _]⟩
  have S4 := (S3.later hb4).later hbX
  have s4 := (s3.later hb4).later hbX
  have r4 := sr.later hbX
  have B4' := B4.trans (hbX.mono B4.size)
  have hrr := refRead_any t (w4.alloc (.cells #[.int .u8 X, .slice ro rn rc] 44)) (by omega)
  obtain ⟨A4, HA4⟩ : ∃ A, Hid (A = w4.alloc (.cells #[.int .u8 X, .slice ro rn rc] 44)) := ⟨_, rfl⟩
  rw [← HA4.out] at SX S4 s4 r4 B4' hrr
  clear hra hrd
  go_wp2_with fail
  rw [← HA4.out]
  refine hrr.mono ?_
  intro e w5 hra
  obtain ⟨qo, qn, qc, rfl, sq, hqn, hqc, hb5⟩ := RA _ _ _ hra
  have B5 : Below w.heap.size w w5 := B4'.trans (hb5.mono B4'.size)
  have hbY : Below w5.heap.size w5 (w5.alloc (.cells #[.int .u8 X, .slice qo qn qc] 44)) := (Below.refl _ w5).alloc (Nat.le_refl _) _
  have SY : Slot (w5.alloc (.cells #[.int .u8 X, .slice qo qn qc] 44)) w5.heap.size (.int .u8 X) (.slice qo qn qc) := ⟨Blk.new w5 44 [_, _]⟩
  have SX5 := (SX.later hb5).later hbY
  have S5 := (S4.later hb5).later hbY
  have s5 := (s4.later hb5).later hbY
  have r5 := (r4.later hb5).later hbY
  have q5 := sq.later hbY
  have B5' := B5.trans (hbY.mono B5.size)
  obtain ⟨A5, HA5⟩ : ∃ A, Hid (A = w5.alloc (.cells #[.int .u8 X, .slice qo qn qc] 44)) := ⟨_, rfl⟩
  rw [← HA5.out] at SY SX5 S5 s5 r5 q5 B5'
  obtain ⟨a0, a1, -⟩ := SX5.facts (.int .u8 0)
  obtain ⟨b0, b1, -⟩ := SY.facts (.int .u8 0)
  rw [HA5.out] at a0 a1 b0 b1
  have heq := eqBytes_any ro qo rn qn rc qc Y Y A5 r5 q5
  rw [decide_eq_true rfl] at heq
  have hz5 := B5'.size
  have hlr : Y.length = rn := r5.len
  clear hra hrr RA
  have hsz : T.size = 2 * (n + 1) := by rw [HT.out, size_hex, hs.len]
  have hnT : nums T = hexl (x :: xs) := by rw [HT.out, nums_hex]
  have hbk := rd_back x xs hx0 hx1 hs.rng
  have hsm := rd_same x xs hx0 hx1 hs.rng
  rw [← hnT] at hbk hsm
  rw [hs.len] at hbk
  obtain ⟨E2, hE2⟩ : ∃ E, E = rdE (nums T) := ⟨_, rfl⟩
  obtain ⟨X2, hX2⟩ : ∃ X, X = rdX (nums T) := ⟨_, rfl⟩
  obtain ⟨Y2, hY2⟩ : ∃ Y, Y = rdY (nums T) := ⟨_, rfl⟩
  rw [← hE2] at hbk hsm
  rw [← hX2, ← hY2] at hsm
  have RB : ∀ wa e wb, ReadAs (nums T) wa e wb → ∃ ro rn rc, e = .returned (.tuple #[.agg #[.int .u8 X2, .slice ro rn rc], .int .i64 E2]) ∧ Shows wb ro rn Y2 ∧ (ro = none → rc = 0) ∧ rn ≤ rc ∧ Below wa.heap.size wa wb := by
    intro wa e wb h
    rw [hE2, hX2, hY2]
    exact h
  have HB : Hid (E2 = if x = 0 then 40 else if 1024 < n then 3 else 0) := hbk
  have HM : Hid (E2 = 0 → X2 = x ∧ Y2 = xs) := hsm
  clear hE2 hX2 hY2 hnT hbk hsm
  by_cases hE0 : E = 0
  · subst hE0
    have htt := text_any X ro rn rc Y A5 hX0 hX1 r5 hrn (by omega) (ht.later B5') (by omega)
    rw [HTX.out rfl] at htt
    go_wp2_with fail
    rw [← HA5.out]
    refine heq.mono ?_
    rintro e w' ⟨rfl, rfl⟩
    rw [← HA5.out] at a0 a1
    go_wp2_with fail
    refine htt.mono ?_
    rintro e w6 ⟨rfl, hb6⟩
    have B6 : Below w.heap.size w w6 := B5'.trans (hb6.mono B5'.size)
    have S6 := S5.later hb6
    have s6 := s5.later hb6
    have hrd2 := read_any T w6 (by omega)
    go_wp2_with fail
    refine hrd2.mono ?_
    intro e w7 hra
    obtain ⟨po, pn, pc, rfl, sp, hpn, hpc, hb7⟩ := RB _ _ _ hra
    have B7 : Below w.heap.size w w7 := B6.trans (hb7.mono B6.size)
    have hbZ : Below w7.heap.size w7 (w7.alloc (.cells #[.int .u8 X2, .slice po pn pc] 44)) := (Below.refl _ w7).alloc (Nat.le_refl _) _
    have SZ : Slot (w7.alloc (.cells #[.int .u8 X2, .slice po pn pc] 44)) w7.heap.size (.int .u8 X2) (.slice po pn pc) := ⟨Blk.new w7 44 [_, _]⟩
    have S7 := (S6.later hb7).later hbZ
    have s7 := (s6.later hb7).later hbZ
    have p7 := sp.later hbZ
    have B7' := B7.trans (hbZ.mono B7.size)
    obtain ⟨c0, c1, -⟩ := S7.facts (.int .u8 0)
    obtain ⟨d0, d1, -⟩ := SZ.facts (.int .u8 0)
    have hwk := works_any (w7.alloc (.cells #[.int .u8 X2, .slice po pn pc] 44)) (ht.later B7') (by simp)
    have hz7 := B7'.size
    clear hra hrd2
    by_cases hx : x = 0
    · subst hx
      have hE2 : ¬ E2 = 0 := by rw [HB.out]; simp
      have hE2' : (E2 == 0) = false := by simp [hE2]
      go_wp2_with (go_at_call 8; refine hwk.mono ?_; rintro e w8 ⟨rfl, hb8⟩)
      go_ret
      exact ⟨congrArg (fun b => Ending.returned (Value.bool b)) (show (E2 != 0) = true by simp [hE2]), B7'.trans (hb8.mono hz7)⟩
    · have hx' : (x == 0) = false := by simp [hx]
      by_cases hl : (1024 : Int) < n
      · have hE2 : ¬ E2 = 0 := by rw [HB.out, if_neg hx, if_pos (by omega)]; decide
        have hE2' : (E2 == 0) = false := by simp [hE2]
        go_wp2_with (go_at_call 8; refine hwk.mono ?_; rintro e w8 ⟨rfl, hb8⟩)
        go_ret
        exact ⟨congrArg (fun b => Ending.returned (Value.bool b)) (show (E2 != 0) = true by simp [hE2]), B7'.trans (hb8.mono hz7)⟩
      · have hE2 : E2 = 0 := by rw [HB.out, if_neg hx, if_neg (by omega)]
        obtain ⟨e1, e2⟩ := HM.out hE2
        subst hE2 e1 e2
        have heq2 := eqBytes_any po ao pn n pc c Y2 Y2 _ p7 s7
        rw [decide_eq_true rfl] at heq2
        go_wp2_with (first
          | (go_at_call 20; refine heq2.mono ?_; rintro e w' ⟨rfl, rfl⟩)
          | (go_at_call 8; refine hwk.mono ?_; rintro e w8 ⟨rfl, hb8⟩))
        go_ret
        exact ⟨rfl, B7'.trans (hb8.mono hz7)⟩
  · have hE0' : (E == 0) = false := by simp [hE0]
    have S6 := S5
    have s6 := s5
    have B6 := B5'
    go_wp2_with fail
    rw [← HA5.out]
    refine heq.mono ?_
    rintro e w' ⟨rfl, rfl⟩
    have hrd2 := read_any T A5 (by omega)
    go_wp2_with fail
    refine hrd2.mono ?_
    intro e w7 hra
    obtain ⟨po, pn, pc, rfl, sp, hpn, hpc, hb7⟩ := RB _ _ _ hra
    have B7 : Below w.heap.size w w7 := B6.trans (hb7.mono B6.size)
    have hbZ : Below w7.heap.size w7 (w7.alloc (.cells #[.int .u8 X2, .slice po pn pc] 44)) := (Below.refl _ w7).alloc (Nat.le_refl _) _
    have SZ : Slot (w7.alloc (.cells #[.int .u8 X2, .slice po pn pc] 44)) w7.heap.size (.int .u8 X2) (.slice po pn pc) := ⟨Blk.new w7 44 [_, _]⟩
    have S7 := (S6.later hb7).later hbZ
    have s7 := (s6.later hb7).later hbZ
    have p7 := sp.later hbZ
    have B7' := B7.trans (hbZ.mono B7.size)
    obtain ⟨c0, c1, -⟩ := S7.facts (.int .u8 0)
    obtain ⟨d0, d1, -⟩ := SZ.facts (.int .u8 0)
    have hwk := works_any (w7.alloc (.cells #[.int .u8 X2, .slice po pn pc] 44)) (ht.later B7') (by simp)
    have hz7 := B7'.size
    clear hra hrd2
    by_cases hx : x = 0
    · subst hx
      have hE2 : ¬ E2 = 0 := by rw [HB.out]; simp
      have hE2' : (E2 == 0) = false := by simp [hE2]
      go_wp2_with (go_at_call 8; refine hwk.mono ?_; rintro e w8 ⟨rfl, hb8⟩)
      go_ret
      exact ⟨congrArg (fun b => Ending.returned (Value.bool b)) (show (E2 != 0) = true by simp [hE2]), B7'.trans (hb8.mono hz7)⟩
    · have hx' : (x == 0) = false := by simp [hx]
      by_cases hl : (1024 : Int) < n
      · have hE2 : ¬ E2 = 0 := by rw [HB.out, if_neg hx, if_pos (by omega)]; decide
        have hE2' : (E2 == 0) = false := by simp [hE2]
        go_wp2_with (go_at_call 8; refine hwk.mono ?_; rintro e w8 ⟨rfl, hb8⟩)
        go_ret
        exact ⟨congrArg (fun b => Ending.returned (Value.bool b)) (show (E2 != 0) = true by simp [hE2]), B7'.trans (hb8.mono hz7)⟩
      · have hE2 : E2 = 0 := by rw [HB.out, if_neg hx, if_neg (by omega)]
        obtain ⟨e1, e2⟩ := HM.out hE2
        subst hE2 e1 e2
        have heq2 := eqBytes_any po ao pn n pc c Y2 Y2 _ p7 s7
        rw [decide_eq_true rfl] at heq2
        go_wp2_with (first
          | (go_at_call 20; refine heq2.mono ?_; rintro e w' ⟨rfl, rfl⟩)
          | (go_at_call 8; refine hwk.mono ?_; rintro e w8 ⟨rfl, hb8⟩))
        go_ret
        exact ⟨rfl, B7'.trans (hb8.mono hz7)⟩
end Go.Proofs.YtineieoghlbchaaDoor
