/- Bits turned in a sector. -/
import Derived.Test.YtndfhmlcfaaaiaaDoorBst
import Derived.Test.YtndfhmlcfaaaiaaDoorTidy
namespace Go.Proofs.YtndfhmlcfaaaiaaDoor
open Go.RowKit

theorem tmn_bounds (l : Int) (n : Int) (hn : 0 < n) : -n < l.tmod n ∧ l.tmod n < n := by
  refine ⟨?_, Int.tmod_lt_of_pos l hn⟩
  rcases Int.le_total 0 l with h | h
  · have := Int.tmod_nonneg n h; omega
  · have h1 := Int.tmod_lt_of_pos (-l) hn
    rw [Int.neg_tmod] at h1
    omega
/-- What lies there behind k bits. -/
structure BRel (A : Nat) (c : Bool) (s : Sec) (k : Nat) (S : Sec) (b : Bool) : Prop where
  d : ∀ j, bt s.l j ≠ bt S.l j → A ≤ j ∧ j < A + k ∧ decide (224 ≤ j ∧ j < 256) = c
  no : b = false → S = s
  yes : b = true → ∃ j, bt s.l j ≠ bt S.l j
theorem BRel.start {A : Nat} {c : Bool} {s : Sec} : BRel A c s 0 s false := ⟨fun j h => absurd rfl h, fun _ => rfl, fun h => by cases h⟩
theorem BRel.up {A k : Nat} {c : Bool} {s S : Sec} {b : Bool} (h : BRel A c s k S b) : BRel A c s (k + 1) S b := ⟨fun j hj => by obtain ⟨a1, a2, a3⟩ := h.d j hj; exact ⟨a1, by omega, a3⟩, h.no, h.yes⟩
def flip (S : Sec) (j : Nat) : Sec := ⟨S.l.set (j / 8) (S.l.getD (j / 8) 0#8 ^^^ (1#8 <<< (j % 8))), by rw [List.length_set, S.h]⟩
theorem bt_flip (S : Sec) (j i : Nat) (hj : j < 4096) : bt (flip S j).l i = (bt S.l i ^^ decide (i = j)) := by
  unfold bt flip
  dsimp only
  have hl := S.h
  by_cases h : i / 8 = j / 8
  · rw [h, List.getD_eq_getElem?_getD, List.getElem?_set_self (by omega)]
    simp only [Option.getD_some, BitVec.getLsbD_xor]
    congr 1
    have hi : i % 8 < 8 := by omega
    have hj8 : j % 8 < 8 := by omega
    rw [BitVec.getLsbD_shiftLeft]
    by_cases e : i = j
    · subst e
      simp [hi]
    · have : i % 8 ≠ j % 8 := by omega
      simp only [e, decide_false, hi, decide_true, Bool.true_and]
      by_cases h2 : i % 8 < j % 8
      · simp [h2]
      · have h3 : i % 8 - j % 8 ≠ 0 := by omega
        simp [h2, BitVec.getLsbD_one, h3]
  · have e : i ≠ j := fun e => h (by rw [e])
    rw [List.getD_eq_getElem?_getD, List.getElem?_set_ne (fun e => h e.symm)]
    simp [e, List.getD_eq_getElem?_getD]
theorem BRel.hit {A k : Nat} {c : Bool} {s S : Sec} {b : Bool} (h : BRel A c s k S b) (hk : A + k < 4096) (hc : decide (224 ≤ A + k ∧ A + k < 256) = c) : BRel A c s (k + 1) (flip S (A + k)) true := by
  have hs : bt s.l (A + k) = bt S.l (A + k) := by
    by_cases e : bt s.l (A + k) = bt S.l (A + k)
    · exact e
    · have := h.d _ e; omega
  refine ⟨fun j hj => ?_, fun e => (by cases e), fun _ => ⟨A + k, ?_⟩⟩
  · rw [bt_flip S _ _ hk] at hj
    by_cases e : j = A + k
    · subst e; exact ⟨by omega, by omega, hc⟩
    · simp only [e, decide_false, Bool.xor_false] at hj
      obtain ⟨a1, a2, a3⟩ := h.d j hj
      exact ⟨a1, by omega, a3⟩
  · rw [bt_flip S _ _ hk, hs]
    simp
theorem v8_one (r : Nat) : v8 (1#8 <<< r) = (2 : Int) ^ r % 256 := by
  unfold v8
  rw [BitVec.toNat_shiftLeft]
  simp [Nat.shiftLeft_eq]
theorem sec_cell {w : World} {g q : Nat} {S : Sec} (h : Blk w g 64 (sb S)) (hq : q < 512) : w.cell? ⟨g, q, none⟩ = some (.int .u8 (v8 (S.l.getD q 0#8))) := h.cell q _ (bys_get S.l q (by rw [S.h]; exact hq))
/-- What it answers. -/
def OverR (w : World) (B : Nat) (s : Sec) (e : Ending) (w' : World) : Prop := ∃ (t : Sec) (b : Bool), e = .returned (.tuple #[.agg (sb t).toArray, .bool b]) ∧ Below B w w' ∧ (b = false → t = s) ∧ (b = true → BurstD s t)
set_option maxRecDepth 100000 in
set_option maxHeartbeats 800000 in
theorem over_burst (w : World) (ba tu : Int) (bc : Bool) (s : Sec) :
    Calls Tryd.prog 27 #[.agg #[.int .i64 ba, .int .u32 tu, .bool bc], .agg (sb s).toArray] w (OverR w w.heap.size s) := by
  have hz := zero39
  obtain ⟨us, hus⟩ : ∃ us : List Value, us = [.int .i64 ba, .int .u32 tu, .bool bc] := ⟨_, rfl⟩
  have u0 : us[0]? = some (.int .i64 ba) := by rw [hus]; rfl
  have u1 : us[1]? = some (.int .u32 tu) := by rw [hus]; rfl
  have u2 : us[2]? = some (.bool bc) := by rw [hus]; rfl
  have hU0 := ((Blk.new w 61 us).alloc (.cells (sb s).toArray 64)).alloc (.cells (sb zs).toArray 64)
  have hS0 := (Blk.new (w.alloc (.cells us.toArray 61)) 64 (sb s)).alloc (.cells (sb zs).toArray 64)
  have hR0 := Blk.new ((w.alloc (.cells us.toArray 61)).alloc (.cells (sb s).toArray 64)) 64 (sb zs)
  have hb0 := (((Below.refl w.heap.size w).alloc (Nat.le_refl _) (.cells us.toArray 61)).alloc (by simp) (.cells (sb s).toArray 64)).alloc (by simp; omega) (.cells (sb zs).toArray 64)
  have harg : (.agg #[.int .i64 ba, .int .u32 tu, .bool bc] : Value) = .agg us.toArray := by rw [hus]
  rw [harg]
  clear hus harg
  have hsz1 : (w.alloc (.cells us.toArray 61)).heap.size = w.heap.size + 1 := by simp
  have hsz2 : ((w.alloc (.cells us.toArray 61)).alloc (.cells (sb s).toArray 64)).heap.size = w.heap.size + 1 + 1 := by simp
  rw [hsz1] at hS0
  rw [hsz2] at hR0
  obtain ⟨B, hB⟩ : ∃ B, B = w.heap.size := ⟨_, rfl⟩
  obtain ⟨BU, hBU⟩ : ∃ BU, BU = w.heap.size := ⟨_, rfl⟩
  obtain ⟨BS, hBS⟩ : ∃ BS, BS = w.heap.size + 1 := ⟨_, rfl⟩
  obtain ⟨BR, hBR⟩ : ∃ BR, BR = w.heap.size + 1 + 1 := ⟨_, rfl⟩
  rw [← hBU] at hU0
  rw [← hBS] at hS0
  rw [← hBR] at hR0
  rw [← hB] at hb0 ⊢
  have HB : Hid (BU = w.heap.size ∧ BS = w.heap.size + 1 ∧ BR = w.heap.size + 1 + 1 ∧ B = w.heap.size) := ⟨hBU, hBS, hBR, hB⟩
  go_enter Tryd.func27, Tryd.ntmps27
  go_upto_region 1 with fail
  try simp only [hsz1, hsz2]
  rw [← hBR, ← hBS, ← hBU]
  obtain ⟨w0, hw0⟩ : ∃ u, u = ((w.alloc (.cells us.toArray 61)).alloc (.cells (sb s).toArray 64)).alloc (.cells (sb zs).toArray 64) := ⟨_, rfl⟩
  rw [← hw0] at hU0 hS0 hR0 hb0 ⊢
  clear hw0 hsz1 hsz2 hBU hBS hBR hB
  have d0 := hU0.cell 0 _ u0
  have d2 := hU0.cell 2 _ u2
  cases bc
  · obtain ⟨a, ha⟩ : ∃ a, a = ba.tmod 4096 := ⟨_, rfl⟩
    have ha1 := tmn_bounds ba 4096 (by decide)
    rw [← ha] at ha1
    have hm0 := Int.tmod_nonneg 4096 (show 0 ≤ a + 4096 by omega)
    have hm1 := Int.tmod_lt_of_pos (a + 4096) (show (0 : Int) < 4096 by decide)
    obtain ⟨A, hm⟩ := Int.eq_ofNat_of_zero_le hm0
    rw [hm] at hm1
    
    have hlt1 : 0 ≤ A ∧ A < 4096 := by omega
    have f1 : ba.tmod 4096 = a := ha.symm
    have f2 : IntKind.i64.wrap a = a := by rw [IntKind.wrap_i64]; omega
    have f3 : IntKind.i64.wrap (a + 4096) = a + 4096 := by rw [IntKind.wrap_i64]; omega
    have f4 : (a + 4096).tmod 4096 = (A : Int) := hm
    
    
    have f7 : IntKind.i64.wrap (A : Int) = (A : Int) := by rw [IntKind.wrap_i64]; omega
    clear ha ha1 hm0 hm1 hm
    go_wp2_with fail

    obtain ⟨hlo, hhi⟩ := hlt1
    go_loopw [9, 10] (fun u i wr => ∃ (k : Nat) (S : Sec) (b : Bool), k ≤ 32 ∧ i = .int .i64 (k : Int) ∧ u = .bool b ∧ Blk wr BS 64 (sb S) ∧ Blk wr BU 61 us ∧ Blk wr BR 64 (sb zs) ∧ Below B w wr ∧ BRel A false s k S b) (fun _ i _ => 32 - (intOf i).toNat)
    case atStart => exact ⟨0, s, false, by omega, rfl, rfl, hS0, hU0, hR0, hb0, BRel.start⟩
    case round =>
      obtain ⟨k, S, b, hk, rfl, rfl, hS, hU, hR, hb, hrel2⟩ := hrel
      clear hS0 hU0 hR0 hb0
      have c1 := hU.cell 1 _ u1
      have c2 := hU.cell 2 _ u2
      by_cases hlt : k < 32
      · have hkI : (k : Int) < 32 := by omega
        obtain ⟨kk, hkk⟩ : ∃ kk, kk = A + k := ⟨_, rfl⟩
        have hkA : (A : Int) + (k : Int) = (kk : Int) := by omega
        have hkw : IntKind.i64.wrap (kk : Int) = (kk : Int) := by rw [IntKind.wrap_i64]; omega
        have HKK : Hid (kk = A + k) := hkk
        have hkb : kk < 4096 + 32 := by omega
        clear hkk
        obtain ⟨z, hz⟩ : ∃ z, z = bits .and .u32 (tu / 2 ^ k) 1 := ⟨_, rfl⟩
        have hz1 : bits .and .u32 (tu / 2 ^ k) 1 = z := hz.symm
        have hku : IntKind.u64.wrap (k : Int) = (k : Int) := by rw [IntKind.wrap_u64]; omega
        clear hz
        have SK : Hid (BRel A false s (k + 1) S b) := hrel2.up
        by_cases hc1 : kk < 224
        · have hI1 : ¬ (224 : Int) ≤ (kk : Int) := by omega
          have hI2 : ¬ (4096 : Int) ≤ (kk : Int) := by omega
          by_cases hz0 : z = 0
          · subst hz0
            go_wp2_with fail
            exact ⟨⟨k + 1, S, b, by omega, by go_num, rfl, hS, hU, hR, hb, SK.out⟩, by simp only [intOf]; omega⟩
          · have hz2 : (z == 0) = false := by rw [beq_eq_false_iff_ne]; exact hz0
            go_upto_region 12 with fail
            obtain ⟨q, hq⟩ : ∃ q, q = kk / 8 := ⟨_, rfl⟩
            obtain ⟨r, hr⟩ : ∃ r, r = kk % 8 := ⟨_, rfl⟩
            have q1 : ((kk : Nat) : Int).tdiv 8 = (q : Int) := by rw [hq, Int.ofNat_tdiv]; rfl
            have q2 : (kk : Int) / 8 = (q : Int) := by omega
            have q3 : ((kk : Nat) : Int).tmod 8 = (r : Int) := by rw [hr, Int.ofNat_tmod]; rfl
            have q4 : (kk : Int) % 8 = (r : Int) := by omega
            have q5 : IntKind.i64.wrap (q : Int) = (q : Int) := by rw [IntKind.wrap_i64]; omega
            have q6 : IntKind.i64.wrap (r : Int) = (r : Int) := by rw [IntKind.wrap_i64]; omega
            have q7 : IntKind.u64.wrap (r : Int) = (r : Int) := by rw [IntKind.wrap_u64]; omega
            have q8 : q < 512 := by omega
            have q9 : r < 8 := by omega
            have q10 : (q : Int) < 512 := by omega
            have q11 : (0 : Int) ≤ (q : Int) := by omega
            obtain ⟨x, hx⟩ : ∃ x, x = S.l.getD q 0#8 := ⟨_, rfl⟩
            have hxc : wr.cell? ⟨BS, q, none⟩ = some (.int .u8 (v8 x)) := by rw [hx]; exact sec_cell hS q8
            have hxf := hS.fz q
            obtain ⟨y, hy⟩ : ∃ y, y = 1#8 <<< r := ⟨_, rfl⟩
            have e1 : (2 : Int) ^ r % 256 = v8 y := by rw [hy]; exact (v8_one r).symm
            have e2 := v8_xor x y
            have HFL : Hid (Blk (wr.setCell ⟨BS, q, none⟩ (.int .u8 (v8 (x ^^^ y)))) BS 64 (sb (flip S kk))) := by
              have := Blk.put (l := S.l) hS q (x ^^^ y)
              rw [hx, hy, hq, hr] at this ⊢
              exact this
            have hap := HB.out
            have hf : Fr (fun j => j = BS) wr (wr.setCell ⟨BS, q, none⟩ (.int .u8 (v8 (x ^^^ y)))) := (Fr.refl _ wr).setCell ⟨BS, q, none⟩ _ (.inl rfl)
            have HU2 : Hid (Blk (wr.setCell ⟨BS, q, none⟩ (.int .u8 (v8 (x ^^^ y)))) BU 61 us) := hU.fr hf (by omega)
            have HR2 : Hid (Blk (wr.setCell ⟨BS, q, none⟩ (.int .u8 (v8 (x ^^^ y)))) BR 64 (sb zs)) := hR.fr hf (by omega)
            have HB2 : Hid (Below B w (wr.setCell ⟨BS, q, none⟩ (.int .u8 (v8 (x ^^^ y))))) := hb.trans (hf.below (fun j e => by omega) (by have := hS.lt; omega))
            have HR3 : Hid (BRel A false s (k + 1) (flip S kk) true) := by rw [HKK.out]; exact hrel2.hit (by rw [← HKK.out]; omega) (by rw [← HKK.out]; exact decide_eq_false (by omega))
            clear hf hap hx hy hq hr
            go_wp2_with fail
            exact ⟨⟨k + 1, flip S kk, true, by omega, by go_num, rfl, HFL.out, HU2.out, HR2.out, HB2.out, HR3.out⟩, by simp only [intOf]; omega⟩
        · have hI1 : (224 : Int) ≤ (kk : Int) := by omega
          by_cases hc2 : kk < 256
          · have hI2 : (kk : Int) < 256 := by omega
            have hI3 : ¬ (4096 : Int) ≤ (kk : Int) := by omega
            by_cases hz0 : z = 0
            · subst hz0
              go_wp2_with fail
              exact ⟨⟨k + 1, S, b, by omega, by go_num, rfl, hS, hU, hR, hb, SK.out⟩, by simp only [intOf]; omega⟩
            · have hz2 : (z == 0) = false := by rw [beq_eq_false_iff_ne]; exact hz0
              go_wp2_with fail
              exact ⟨⟨k + 1, S, b, by omega, by go_num, rfl, hS, hU, hR, hb, SK.out⟩, by simp only [intOf]; omega⟩
          · have hI2 : ¬ (kk : Int) < 256 := by omega
            by_cases hc3 : kk < 4096
            · have hI3 : ¬ (4096 : Int) ≤ (kk : Int) := by omega
              by_cases hz0 : z = 0
              · subst hz0
                go_wp2_with fail
                exact ⟨⟨k + 1, S, b, by omega, by go_num, rfl, hS, hU, hR, hb, SK.out⟩, by simp only [intOf]; omega⟩
              · have hz2 : (z == 0) = false := by rw [beq_eq_false_iff_ne]; exact hz0
                go_upto_region 12 with fail
                obtain ⟨q, hq⟩ : ∃ q, q = kk / 8 := ⟨_, rfl⟩
                obtain ⟨r, hr⟩ : ∃ r, r = kk % 8 := ⟨_, rfl⟩
                have q1 : ((kk : Nat) : Int).tdiv 8 = (q : Int) := by rw [hq, Int.ofNat_tdiv]; rfl
                have q2 : (kk : Int) / 8 = (q : Int) := by omega
                have q3 : ((kk : Nat) : Int).tmod 8 = (r : Int) := by rw [hr, Int.ofNat_tmod]; rfl
                have q4 : (kk : Int) % 8 = (r : Int) := by omega
                have q5 : IntKind.i64.wrap (q : Int) = (q : Int) := by rw [IntKind.wrap_i64]; omega
                have q6 : IntKind.i64.wrap (r : Int) = (r : Int) := by rw [IntKind.wrap_i64]; omega
                have q7 : IntKind.u64.wrap (r : Int) = (r : Int) := by rw [IntKind.wrap_u64]; omega
                have q8 : q < 512 := by omega
                have q9 : r < 8 := by omega
                have q10 : (q : Int) < 512 := by omega
                have q11 : (0 : Int) ≤ (q : Int) := by omega
                obtain ⟨x, hx⟩ : ∃ x, x = S.l.getD q 0#8 := ⟨_, rfl⟩
                have hxc : wr.cell? ⟨BS, q, none⟩ = some (.int .u8 (v8 x)) := by rw [hx]; exact sec_cell hS q8
                have hxf := hS.fz q
                obtain ⟨y, hy⟩ : ∃ y, y = 1#8 <<< r := ⟨_, rfl⟩
                have e1 : (2 : Int) ^ r % 256 = v8 y := by rw [hy]; exact (v8_one r).symm
                have e2 := v8_xor x y
                have HFL : Hid (Blk (wr.setCell ⟨BS, q, none⟩ (.int .u8 (v8 (x ^^^ y)))) BS 64 (sb (flip S kk))) := by
                  have := Blk.put (l := S.l) hS q (x ^^^ y)
                  rw [hx, hy, hq, hr] at this ⊢
                  exact this
                have hap := HB.out
                have hf : Fr (fun j => j = BS) wr (wr.setCell ⟨BS, q, none⟩ (.int .u8 (v8 (x ^^^ y)))) := (Fr.refl _ wr).setCell ⟨BS, q, none⟩ _ (.inl rfl)
                have HU2 : Hid (Blk (wr.setCell ⟨BS, q, none⟩ (.int .u8 (v8 (x ^^^ y)))) BU 61 us) := hU.fr hf (by omega)
                have HR2 : Hid (Blk (wr.setCell ⟨BS, q, none⟩ (.int .u8 (v8 (x ^^^ y)))) BR 64 (sb zs)) := hR.fr hf (by omega)
                have HB2 : Hid (Below B w (wr.setCell ⟨BS, q, none⟩ (.int .u8 (v8 (x ^^^ y))))) := hb.trans (hf.below (fun j e => by omega) (by have := hS.lt; omega))
                have HR3 : Hid (BRel A false s (k + 1) (flip S kk) true) := by rw [HKK.out]; exact hrel2.hit (by rw [← HKK.out]; omega) (by rw [← HKK.out]; exact decide_eq_false (by omega))
                clear hf hap hx hy hq hr
                go_wp2_with fail
                exact ⟨⟨k + 1, flip S kk, true, by omega, by go_num, rfl, HFL.out, HU2.out, HR2.out, HB2.out, HR3.out⟩, by simp only [intOf]; omega⟩
            · have hI3 : (4096 : Int) ≤ (kk : Int) := by omega
              by_cases hz0 : z = 0
              · subst hz0
                go_wp2_with fail
                exact ⟨⟨k + 1, S, b, by omega, by go_num, rfl, hS, hU, hR, hb, SK.out⟩, by simp only [intOf]; omega⟩
              · have hz2 : (z == 0) = false := by rw [beq_eq_false_iff_ne]; exact hz0
                go_wp2_with fail
                exact ⟨⟨k + 1, S, b, by omega, by go_num, rfl, hS, hU, hR, hb, SK.out⟩, by simp only [intOf]; omega⟩
      · have hkI : ¬ (k : Int) < 32 := by omega
        have ek : k = 32 := by omega
        rw [ek] at hrel2
        clear ek
        go_wp2_with (first
          | (refine load_sec rfl _ rfl BS S hS rfl ?_)
          | (refine store_sec rfl _ _ rfl BR zs S hR rfl rfl ?_; intro hA2))
        have hap := HB.out
        have hf : Fr (fun j => j = BR) wr (wr.setRow BR (sb S).toArray) := (Fr.refl _ wr).setRow BR _ (.inl rfl)
        refine bodyPost_ret (ret_sec rfl _ _ BR S rfl hA2) rfl ⟨S, b, rfl, hb.trans (hf.below (fun j e => by omega) (by have := hS.lt; omega)), hrel2.no, fun hb1 => ⟨A, false, hrel2.yes hb1, fun j hj => ?_⟩⟩
        exact hrel2.d j hj
  · obtain ⟨a, ha⟩ : ∃ a, a = ba.tmod 32 := ⟨_, rfl⟩
    have ha1 := tmn_bounds ba 32 (by decide)
    rw [← ha] at ha1
    have hm0 := Int.tmod_nonneg 32 (show 0 ≤ a + 32 by omega)
    have hm1 := Int.tmod_lt_of_pos (a + 32) (show (0 : Int) < 32 by decide)
    obtain ⟨m, hm⟩ := Int.eq_ofNat_of_zero_le hm0
    rw [hm] at hm1
    obtain ⟨A, hA⟩ : ∃ A, A = 224 + m := ⟨_, rfl⟩
    have hlt1 : 224 ≤ A ∧ A < 256 := by omega
    have f1 : ba.tmod 32 = a := ha.symm
    have f2 : IntKind.i64.wrap a = a := by rw [IntKind.wrap_i64]; omega
    have f3 : IntKind.i64.wrap (a + 32) = a + 32 := by rw [IntKind.wrap_i64]; omega
    have f4 : (a + 32).tmod 32 = (m : Int) := hm
    have f5 : IntKind.i64.wrap (m : Int) = (m : Int) := by rw [IntKind.wrap_i64]; omega
    have f6 : 224 + (m : Int) = (A : Int) := by omega
    have f7 : IntKind.i64.wrap (A : Int) = (A : Int) := by rw [IntKind.wrap_i64]; omega
    clear ha ha1 hm0 hm1 hm hA
    go_wp2_with fail

    obtain ⟨hlo, hhi⟩ := hlt1
    go_loopw [9, 10] (fun u i wr => ∃ (k : Nat) (S : Sec) (b : Bool), k ≤ 32 ∧ i = .int .i64 (k : Int) ∧ u = .bool b ∧ Blk wr BS 64 (sb S) ∧ Blk wr BU 61 us ∧ Blk wr BR 64 (sb zs) ∧ Below B w wr ∧ BRel A true s k S b) (fun _ i _ => 32 - (intOf i).toNat)
    case atStart => exact ⟨0, s, false, by omega, rfl, rfl, hS0, hU0, hR0, hb0, BRel.start⟩
    case round =>
      obtain ⟨k, S, b, hk, rfl, rfl, hS, hU, hR, hb, hrel2⟩ := hrel
      clear hS0 hU0 hR0 hb0
      have c1 := hU.cell 1 _ u1
      have c2 := hU.cell 2 _ u2
      by_cases hlt : k < 32
      · have hkI : (k : Int) < 32 := by omega
        obtain ⟨kk, hkk⟩ : ∃ kk, kk = A + k := ⟨_, rfl⟩
        have hkA : (A : Int) + (k : Int) = (kk : Int) := by omega
        have hkw : IntKind.i64.wrap (kk : Int) = (kk : Int) := by rw [IntKind.wrap_i64]; omega
        have HKK : Hid (kk = A + k) := hkk
        have hkb : kk < 4096 + 32 := by omega
        clear hkk
        obtain ⟨z, hz⟩ : ∃ z, z = bits .and .u32 (tu / 2 ^ k) 1 := ⟨_, rfl⟩
        have hz1 : bits .and .u32 (tu / 2 ^ k) 1 = z := hz.symm
        have hku : IntKind.u64.wrap (k : Int) = (k : Int) := by rw [IntKind.wrap_u64]; omega
        clear hz
        have SK : Hid (BRel A true s (k + 1) S b) := hrel2.up
        have hI1 : (224 : Int) ≤ (kk : Int) := by omega
        by_cases hc2 : kk < 256
        · have hI2 : (kk : Int) < 256 := by omega
          have hI3 : ¬ (256 : Int) ≤ (kk : Int) := by omega
          by_cases hz0 : z = 0
          · subst hz0
            go_wp2_with fail
            exact ⟨⟨k + 1, S, b, by omega, by go_num, rfl, hS, hU, hR, hb, SK.out⟩, by simp only [intOf]; omega⟩
          · have hz2 : (z == 0) = false := by rw [beq_eq_false_iff_ne]; exact hz0
            go_upto_region 12 with fail
            obtain ⟨q, hq⟩ : ∃ q, q = kk / 8 := ⟨_, rfl⟩
            obtain ⟨r, hr⟩ : ∃ r, r = kk % 8 := ⟨_, rfl⟩
            have q1 : ((kk : Nat) : Int).tdiv 8 = (q : Int) := by rw [hq, Int.ofNat_tdiv]; rfl
            have q2 : (kk : Int) / 8 = (q : Int) := by omega
            have q3 : ((kk : Nat) : Int).tmod 8 = (r : Int) := by rw [hr, Int.ofNat_tmod]; rfl
            have q4 : (kk : Int) % 8 = (r : Int) := by omega
            have q5 : IntKind.i64.wrap (q : Int) = (q : Int) := by rw [IntKind.wrap_i64]; omega
            have q6 : IntKind.i64.wrap (r : Int) = (r : Int) := by rw [IntKind.wrap_i64]; omega
            have q7 : IntKind.u64.wrap (r : Int) = (r : Int) := by rw [IntKind.wrap_u64]; omega
            have q8 : q < 512 := by omega
            have q9 : r < 8 := by omega
            have q10 : (q : Int) < 512 := by omega
            have q11 : (0 : Int) ≤ (q : Int) := by omega
            obtain ⟨x, hx⟩ : ∃ x, x = S.l.getD q 0#8 := ⟨_, rfl⟩
            have hxc : wr.cell? ⟨BS, q, none⟩ = some (.int .u8 (v8 x)) := by rw [hx]; exact sec_cell hS q8
            have hxf := hS.fz q
            obtain ⟨y, hy⟩ : ∃ y, y = 1#8 <<< r := ⟨_, rfl⟩
            have e1 : (2 : Int) ^ r % 256 = v8 y := by rw [hy]; exact (v8_one r).symm
            have e2 := v8_xor x y
            have HFL : Hid (Blk (wr.setCell ⟨BS, q, none⟩ (.int .u8 (v8 (x ^^^ y)))) BS 64 (sb (flip S kk))) := by
              have := Blk.put (l := S.l) hS q (x ^^^ y)
              rw [hx, hy, hq, hr] at this ⊢
              exact this
            have hap := HB.out
            have hf : Fr (fun j => j = BS) wr (wr.setCell ⟨BS, q, none⟩ (.int .u8 (v8 (x ^^^ y)))) := (Fr.refl _ wr).setCell ⟨BS, q, none⟩ _ (.inl rfl)
            have HU2 : Hid (Blk (wr.setCell ⟨BS, q, none⟩ (.int .u8 (v8 (x ^^^ y)))) BU 61 us) := hU.fr hf (by omega)
            have HR2 : Hid (Blk (wr.setCell ⟨BS, q, none⟩ (.int .u8 (v8 (x ^^^ y)))) BR 64 (sb zs)) := hR.fr hf (by omega)
            have HB2 : Hid (Below B w (wr.setCell ⟨BS, q, none⟩ (.int .u8 (v8 (x ^^^ y))))) := hb.trans (hf.below (fun j e => by omega) (by have := hS.lt; omega))
            have HR3 : Hid (BRel A true s (k + 1) (flip S kk) true) := by rw [HKK.out]; exact hrel2.hit (by rw [← HKK.out]; omega) (by rw [← HKK.out]; exact decide_eq_true (by omega))
            clear hf hap hx hy hq hr
            go_wp2_with fail
            exact ⟨⟨k + 1, flip S kk, true, by omega, by go_num, rfl, HFL.out, HU2.out, HR2.out, HB2.out, HR3.out⟩, by simp only [intOf]; omega⟩
        · have hI2 : ¬ (kk : Int) < 256 := by omega
          have hI3 : (256 : Int) ≤ (kk : Int) := by omega
          by_cases hz0 : z = 0
          · subst hz0
            go_wp2_with fail
            exact ⟨⟨k + 1, S, b, by omega, by go_num, rfl, hS, hU, hR, hb, SK.out⟩, by simp only [intOf]; omega⟩
          · have hz2 : (z == 0) = false := by rw [beq_eq_false_iff_ne]; exact hz0
            go_wp2_with fail
            exact ⟨⟨k + 1, S, b, by omega, by go_num, rfl, hS, hU, hR, hb, SK.out⟩, by simp only [intOf]; omega⟩
      · have hkI : ¬ (k : Int) < 32 := by omega
        have ek : k = 32 := by omega
        rw [ek] at hrel2
        clear ek
        go_wp2_with (first
          | (refine load_sec rfl _ rfl BS S hS rfl ?_)
          | (refine store_sec rfl _ _ rfl BR zs S hR rfl rfl ?_; intro hA2))
        have hap := HB.out
        have hf : Fr (fun j => j = BR) wr (wr.setRow BR (sb S).toArray) := (Fr.refl _ wr).setRow BR _ (.inl rfl)
        refine bodyPost_ret (ret_sec rfl _ _ BR S rfl hA2) rfl ⟨S, b, rfl, hb.trans (hf.below (fun j e => by omega) (by have := hS.lt; omega)), hrel2.no, fun hb1 => ⟨A, true, hrel2.yes hb1, fun j hj => ?_⟩⟩
        exact hrel2.d j hj
end Go.Proofs.YtndfhmlcfaaaiaaDoor
