/- WalFrames: a home in which bits were turned is told as rotten. -/
import Derived.Test.YtndfhmlcfaaaiaaDoorOver
namespace Go.Proofs.YtndfhmlcfaaaiaaDoor
open Go.RowKit

section
variable {w : World} {ops : Array Oper} {rest : List Oper} {o : Oper} {a : Act} {Q : Exit → Act → World → Prop}
theorem make74w (hw : Region.wanted o (yielded ops a.tmps) = true) {x y : Operand} (ho : o.op = .build 74 #[(0, x), (1, y)]) (n : Int) (pk : Pg) (hx : a.eval x = .int .i64 n) (hy : a.eval y = .agg (pb pk).toArray)
    (h : wpList Tryd.prog ops Q rest (a.put o.dst (.agg (ic (n, pk)).toArray)) w) : wpList Tryd.prog ops Q (o :: rest) a w := by
  refine wpList_step fun K hK => ?_
  rw [if_pos hw]
  unfold Oper.wp execOp
  have hb := bd74 n pk w
  simp only [ho, List.map_toArray, List.map_cons, List.map_nil, hx, hy, Sem.run_bind, hb, Result.andThen_ok, Sem.run_pure]
  exact hK _ _ h
theorem build_im1w (hw : Region.wanted o (yielded ops a.tmps) = true) {x : Operand} (y : Int × Pg) (ho : o.op = .buildSlice 36 1 #[(0, x)]) (hx : a.eval x = .agg (ic y).toArray)
    (h : ImR (w.alloc (.cells (ic y).toArray 74)) w.heap.size [y] → wpList Tryd.prog ops Q rest (a.put o.dst (.slice (some ⟨w.heap.size, 0, none⟩) 1 1)) (w.alloc (.cells (ic y).toArray 74))) : wpList Tryd.prog ops Q (o :: rest) a w := by
  refine wpList_step fun K hK => ?_
  rw [if_pos hw]
  obtain ⟨i0, hi, hz0, hz1, hz2⟩ := info_parts info74
  refine wp_buildSlice 36 74 1 _ ho (ic y).toArray i0 (.agg (ic (0, zp)).toArray) Tryd.underlying36 hi hz0 (by rw [hz1]; omega) (by rw [hz1]; omega) ?_ (hK _ _ (h ?_))
  · rw [show ((#[(0, x)] : Array (Nat × Operand)).map fun (i, x) => (i, a.eval x)).toList = [(0, a.eval x)] by simp, hx, hz1]
    have := Great.fill_whole (s := 481) (by omega) [.agg (ic y).toArray] ((Array.range (1 * 481)).map ((Value.agg (ic (0, zp)).toArray).cells[· % (Value.agg (ic (0, zp)).toArray).cells.size]!)) (by
      intro v hv
      simp only [List.mem_singleton] at hv
      subst hv
      rw [cells_im, List.size_toArray, ic_length]) (by simp)
    rw [show ((([.agg (ic y).toArray] : List Value).zipIdx 0).map fun x => (x.2, x.1)) = [(0, .agg (ic y).toArray)] from rfl] at this
    rw [this]
    simp [Value.cells]
  · refine ⟨(ic y).toArray, heap_alloc_new w _, fun k z hk j u hu => ?_⟩
    cases k with
    | zero =>
      simp only [List.getElem?_cons_zero, Option.some.injEq] at hk
      subst hk
      rw [Nat.zero_mul, Nat.zero_add, List.getElem?_toArray]
      exact hu
    | succ k => simp at hk
end
theorem isF_hm (g p : Nat) (x : Pg) (hp : p < 4294967296) : isF (hmF g p x) := by
  have h := isF_frm 5#8 (g % 18446744073709551616) 0 p x (by omega) (by omega) hp
  rw [frm_mod] at h
  exact h
theorem hm_read (g p : Nat) (x : Pg) : hmOf (hmF g p x) p = (x, 0) := by
  unfold hmOf
  have hg : hmF (gin (hmF g p x)) p (pin (hmF g p x)) = hmF g p x := by
    unfold hmF
    rw [pin_frm, gin_frm]
    exact frm_mod _ _ _ _ _
  rw [if_pos hg.symm]
  unfold hmF
  rw [pin_frm]
theorem hm_rot (t : Sec) (p : Nat) (hp : p < 4294967296) (h : ¬ isF t) : hmOf t p = (zp, 81) := by
  unfold hmOf
  rw [if_neg]
  intro e
  exact h (by rw [e]; exact isF_hm _ _ _ hp)
/-- A sector is written under a log: its blocks stay. -/
theorem write_b (B : Nat) (w v : World) (q r mm f m cap : Nat) (x : Lg) (d : St) (k : Nat) (h : LB B w v q r mm f m cap x d) (hwk : Wk d k) (hk : k ≤ 10000) (hon : d.off = false) (ha : d.armed = 0) (i : Nat) (hi : i < d.n) (s : Sec) :
    Calls Tryd.prog 28 #[.pointer (some ⟨r, 0, none⟩), .int .i64 (i : Int), .agg (sb s).toArray] v fun e v' => e = .returned (.int .i64 0) ∧ ∃ mm' m' d', (mm' = mm ∨ v.heap.size ≤ mm') ∧ (m' = m ∨ v.heap.size ≤ m') ∧ Fr (fun k => fp r f m k ∨ lp q mm k) v v' ∧ LB B w v' q r mm' f m' cap x d' ∧ d'.at = upd d.at i s ∧ d'.lasts = d.lasts ∧ d'.off = false ∧ d'.armed = 0 ∧ Wk d' (k + 1) ∧ d'.n = d.n := by
  unfold Wk at hwk
  have e : d.wr (i : Int) s = (d.write i s, 0) := by
    unfold St.wr
    rw [if_neg (by rw [hon]; simp), if_neg (by omega), Int.toNat_natCast]
    unfold St.op
    rw [if_pos (show (d.write i s).armed = 0 from ha)]
  have hc := wr_any v r f m cap d h.dl.k (i : Int) s (by omega)
  rw [e] at hc
  refine hc.mono ?_
  rintro e v' ⟨rfl, hT⟩
  obtain ⟨mm', m', h1, h2, hD, hF⟩ := h.dl.turn hT rfl
  refine ⟨rfl, mm', m', _, h1, h2, hF, h.turn hD h1 h2 hF, at_write d i s, rfl, hon, ha, ?_, rfl⟩
  unfold Wk
  show d.writes + 1 ≤ _ ∧ d.flushes ≤ _
  omega
structure FP8 (w v : World) (B P : Nat) (pg : Pg) : Prop where
  p : Blk v P 31 (pb pg)
  t : Tabs v
  k : Below B w v
  s : B ≤ v.heap.size
theorem FP8.next {w v v' : World} {B P : Nat} {pg : Pg} (h : FP8 w v B P pg) (hb : Below v.heap.size v v') : FP8 w v' B P pg := ⟨h.p.next hb, h.t.next hb, h.k.trans (hb.mono h.s), Nat.le_trans h.s hb.size⟩
set_option maxRecDepth 100000 in
set_option maxHeartbeats 600000 in
theorem frames_walk (w : World) (tx : ByteArray) (ba tu : Int) (bc : Bool) (hT : Tabs w) (htx : tx.size ≤ maxLen) :
    Calls Tryd.prog 6 #[.string tx, .agg #[.int .i64 ba, .int .u32 tu, .bool bc]] w fun e w' => e = .returned (.bool true) ∧ Below w.heap.size w w' := by
  have hz31 := zero31
  have hz64 := zero39
  obtain ⟨us, hus⟩ : ∃ us : List Value, us = [.int .i64 ba, .int .u32 tu, .bool bc] := ⟨_, rfl⟩
  have hov := fun (v : World) (s : Sec) => over_burst v ba tu bc s
  have harg : (.agg #[.int .i64 ba, .int .u32 tu, .bool bc] : Value) = .agg us.toArray := by rw [hus]
  have hul : us.length = 3 := by rw [hus]; rfl
  rw [harg] at hov ⊢
  clear hus harg
  have hU0 := Blk.new w 61 us
  have kb := (Below.refl w.heap.size w).alloc (Nat.le_refl _) (.cells us.toArray 61)
  have hT0 := hT.next kb
  have h2 := hT.two
  have hx := fun v => text_any tx htx v
  obtain ⟨pg, hpg⟩ : ∃ pg, pg = textPg tx := ⟨_, rfl⟩
  rw [← hpg] at hx
  clear hpg
  obtain ⟨B, hB⟩ : ∃ B, B = w.heap.size := ⟨_, rfl⟩
  have HB : Hid (B = w.heap.size) := hB
  rw [← hB] at hU0 kb h2 ⊢
  have hs0 : B ≤ (w.alloc (.cells us.toArray 61)).heap.size := by rw [hB]; simp
  clear hB hT
  go_enter Tryd.func6, Tryd.ntmps6
  go_upto_region 1 with fail
  rw [← HB.out]
  obtain ⟨w0, hw0⟩ : ∃ u, u = w.alloc (.cells us.toArray 61) := ⟨_, rfl⟩
  rw [← hw0] at hU0 kb hT0 hs0 ⊢
  clear hw0
  have hbg := begun_any B w w0 4 4 hs0 h2 hT0 kb
  rw [show tL 4 = 7 from rfl, show td 4 + 1 = 5 from rfl] at hbg
  go_upto_region 2 with (go_at_call 18; refine hbg.mono ?_; rintro e w1 ⟨q, r, mm, f, m, cap, x, d, rfl, hL1, hV1, hW1, hxL, hxH, ha1, kb1, hfp1, hlp1⟩)
  have hU1 := hU0.next kb1
  have hapU : ¬ fp r f m B ∧ ¬ lp q mm B := ⟨fun h => by have := hfp1 _ h; have := hU0.lt; omega, fun h => by have := hlp1 _ h; have := hU0.lt; omega⟩
  have hc1 := fun (v : World) (g : Nat) (h : LB B w v q r mm f m cap x d) (hI : ImR v g (toI [(2, pg)])) (hA : ¬ fp r f m g ∧ ¬ lp q mm g) => com_sure B w v q r mm f m cap x d 2 _ g 1 [(2, pg)] h hV1 hW1 (by omega) hI hA (by rw [hxH]; exact ⟨by simp, by simp⟩) (by simp) (by simp) (by rw [hxL]; simp) ha1
  clear hbg hU0 hfp1 hlp1
  have hck := fun (v : World) (mm m : Nat) (x : Lg) (d : St) (pg : Nat → Pg) (h : LB B w v q r mm f m cap x d) (hV : Lv d x 3 pg) (hW : Wk d 3) => ckp_b B w v q r mm f m cap x d 3 pg h hV hW (by omega)
  go_upto_region 4 with (first
    | (go_at_call 31; refine (hx _).mono ?_; rintro e w2 ⟨rfl, kb2⟩)
    | (refine make74w (by rfl) rfl 2 pg rfl rfl ?_)
    | (refine build_im1w (by rfl) (2, pg) rfl rfl ?_; intro hIm
       have hL2 := (hL1.next kb2).next ((Below.refl _ w2).alloc (Nat.le_refl _) (.cells (ic (2, pg)).toArray 74))
       have hU2 := (hU1.next kb2).alloc (.cells (ic (2, pg)).toArray 74)
       have hA2 := (hL1.next kb2).apart_new (Nat.le_refl w2.heap.size))
    | (go_at_call 10; refine (hc1 _ _ hL2 hIm hA2).mono ?_; rintro e w3 ⟨rfl, mm3, m3, x3, d3, i1, i2, hF3, hW3, hL3, hV3, hx3L, hx3H, ha3⟩
       have hU3 := hU2.fr hF3 (fun h => h.elim hapU.1 hapU.2)
       have hap3 := apart_move hapU.1 hapU.2 hU2.lt i2 i1)
    | (go_at_call 12; refine (hck w3 mm3 m3 x3 d3 _ hL3 hV3 hW3).mono ?_; rintro e w4 ⟨mm4, m4, x4, d4, j1, j2, hF4, hW4, hL4, ⟨rfl, hV4, hx4L, hx4H, hx4w, ha4⟩ | ⟨hbad, -⟩⟩
       rotate_left
       · exact absurd ha3 hbad))
  have hU4 := hU3.fr hF4 (fun h => h.elim hap3.1 hap3.2)
  have hap4 := apart_move hap3.1 hap3.2 hU3.lt j2 j1
  have ha4' := ha4 ha3
  have hx4L' : x4.L = 7 := by rw [hx4L, hx3L, hxL]
  have hx4H' : x4.H = 5 := by rw [hx4H, hx3H, hxH]
  clear hck hc1 ha4 hx4L hx4H hx3L hx3H hF3 hF4 hU3 hU2 hap3 hapU hL3 hL2 hV3 hW3 ha3 hIm hA2 i1 i2 j1 j2 hL1 hV1 hW1 ha1 hxL hxH kb1 hU1 kb2
  have hn4 : d4.n = 14 := by rw [hV4.n, hx4L', hx4H']
  obtain ⟨g', y, hsc, hy⟩ := hV4.rep.homes 2 (by rw [hx4H']; omega)
  have hyp : y = pg := hy (by rw [hx4w]; rfl)
  rw [hx4L', hyp] at hsc
  have hsz : Calls Tryd.prog 32 #[.pointer (some ⟨r, 0, none⟩)] w4 fun e w' => e = .returned (.int .i64 14) ∧ w4 = w' := by
    have := size_any w4 r f m4 cap d4 hL4.dl.k
    rwa [hn4] at this
  have hpa : Calls Tryd.prog 13 #[.pointer (some ⟨q, 0, none⟩)] w4 fun e w' => e = .returned (.int .i64 5) ∧ w4 = w' := by
    have := pages_any w4 q r mm4 x4 hL4.dl.l hV4.alive
    rwa [hx4H'] at this
  have hrd : Calls Tryd.prog 26 #[.pointer (some ⟨r, 0, none⟩), .int .i64 11] w4 fun e w' => e = .returned (.tuple #[.agg (sb (d4.at 11)).toArray, .int .i64 0]) ∧ Below w4.heap.size w4 w' := read_good w4 r f m4 cap d4 hL4.dl.k 11 hV4.on (by omega)
  have hsc' : d4.at 11 = hmF g' 2 pg := hsc
  obtain ⟨sc, hsce⟩ : ∃ sc, sc = d4.at 11 := ⟨_, rfl⟩
  rw [← hsce] at hrd hsc'
  have HSC : Hid (sc = hmF g' 2 pg) := hsc'
  clear hsc hsc' hy hyp hsce
  go_upto_region 6 with (first
    | (go_at_call 32; refine hsz.mono ?_; rintro e w5 ⟨rfl, rfl⟩)
    | (go_at_call 13; refine hpa.mono ?_; rintro e w5 ⟨rfl, rfl⟩)
    | (go_at_call 26; refine hrd.mono ?_; rintro e w5 ⟨rfl, kb5⟩
       have hN5 := Blk.new w5 64 (sb zs))
    | (refine store_sec rfl _ _ rfl w5.heap.size zs sc hN5 rfl rfl ?_; intro hS5))
  have kc5 := (boxed w5 sc).2
  have hL5 := (hL4.next kb5).next kc5
  have hU5 := (hU4.next kb5).next kc5
  have hs5 : w5.heap.size < ((w5.alloc (.cells (sb zs).toArray 64)).setRow w5.heap.size (sb sc).toArray).heap.size := hS5.lt
  obtain ⟨P5, hP5⟩ : ∃ P, P = w5.heap.size := ⟨_, rfl⟩
  obtain ⟨w6, hw6⟩ : ∃ u, u = (w5.alloc (.cells (sb zs).toArray 64)).setRow w5.heap.size (sb sc).toArray := ⟨_, rfl⟩
  rw [← hw6] at hS5 hL5 hU5 ⊢
  rw [← hP5] at hS5 ⊢
  clear hw6 hP5 hs5 kc5 hN5 kb5 hL4 hU4 hsz hpa hrd
  go_upto_region 7 with (first
    | (refine wpList_load_mid rfl 61 _ rfl B 0 rfl us _ hU5.whole Tryd.underlying61 rfl (by rw [hul]; kernel_rfl) ?_)
    | (refine load_sec rfl _ rfl P5 sc hS5 rfl ?_)
    | (go_at_call 27; refine (hov w6 sc).mono ?_; rintro e w7 ⟨t, b, rfl, kb7, hno, hyes⟩
       have hN7 := Blk.new w7 64 (sb zs))
    | (refine store_sec rfl _ _ rfl w7.heap.size zs t hN7 rfl rfl ?_; intro hS7))
  have kc7 := (boxed w7 t).2
  have hL8 := (hL5.next kb7).next kc7
  obtain ⟨P7, hP7⟩ : ∃ P, P = w7.heap.size := ⟨_, rfl⟩
  obtain ⟨w8, hw8⟩ : ∃ u, u = (w7.alloc (.cells (sb zs).toArray 64)).setRow w7.heap.size (sb t).toArray := ⟨_, rfl⟩
  rw [← hw8] at hS7 hL8 ⊢
  rw [← hP7] at hS7 ⊢
  clear hw8 hP7 kc7 hN7 kb7 hL5 hU5 hS5 hov
  have hwr : Calls Tryd.prog 28 #[.pointer (some ⟨r, 0, none⟩), .int .i64 11, .agg (sb t).toArray] w8 fun e v' => e = .returned (.int .i64 0) ∧ ∃ mm' m' d', (mm' = mm4 ∨ w8.heap.size ≤ mm') ∧ (m' = m4 ∨ w8.heap.size ≤ m') ∧ Fr (fun k => fp r f m4 k ∨ lp q mm4 k) w8 v' ∧ LB B w v' q r mm' f m' cap x4 d' ∧ d'.at = upd d4.at 11 t ∧ d'.lasts = d4.lasts ∧ d'.off = false ∧ d'.armed = 0 ∧ Wk d' (3 + 1 + 1) ∧ d'.n = d4.n := write_b B w w8 q r mm4 f m4 cap x4 d4 (3 + 1) hL8 hW4 (by omega) hV4.on ha4' 11 (by omega) t
  go_upto_region 9 with (first
    | (refine load_want (by rfl) 64 _ rfl P7 0 rfl (sb t) _ hS7.whole Tryd.underlying64 rfl (by rw [sb_length]; kernel_rfl) ?_)
    | (go_at_call 28; refine hwr.mono ?_; rintro e w9 ⟨rfl, mm9, m9, d9, i1, i2, hF9, hL9, hat9, -, hon9, -, -, -⟩))
  have hr8 := read8_any w9 q r mm9 f m9 cap x4 d9 hL9.dl 2 (by omega) hon9 hV4.alive
  have hrr : rdR d9 x4 2 = hmOf t 2 := by
    have e1 : rdR d9 x4 2 = hmR d9 x4 2 := by
      unfold rdR
      rw [if_neg (by rw [hx4H']; decide), hx4w]
      rfl
    rw [e1]
    unfold hmR
    rw [hx4L', hat9]
    rfl
  rw [hrr] at hr8
  have hqz := fun W => eq31 zp zp W
  have hqp := fun W => eq31 pg pg W
  rw [decide_eq_true rfl] at hqz hqp
  have hgu := guard31
  clear hwr hL8 hF9 hat9 hrr i1 i2 hS7
  cases b with
  | true =>
    have hno2 := burst_notF (by rw [HSC.out]; exact isF_hm _ _ _ (by omega)) (hyes rfl)
    rw [hm_rot t 2 (by omega) hno2] at hr8
    dsimp only at hr8
    clear hno hyes hno2
    go_upto_region 11 with (first
      | (go_at_call 8; refine hr8.mono ?_; rintro e w10 ⟨rfl, kb10⟩
         have hN10 := Blk.new w10 31 (pb zp))
      | (refine store_pg rfl _ _ rfl w10.heap.size zp zp hN10 rfl rfl ?_; intro hS10))
    have kc10 := boxed_pg w10 zp
    have hL11 := (hL9.next kb10).next kc10
    obtain ⟨P12, hP12⟩ : ∃ P, P = w10.heap.size := ⟨_, rfl⟩
    obtain ⟨w11, hw11⟩ : ∃ u, u = (w10.alloc (.cells (pb zp).toArray 31)).setRow w10.heap.size (pb zp).toArray := ⟨_, rfl⟩
    rw [← hw11] at hS10 hL11 ⊢
    rw [← hP12] at hS10 ⊢
    clear hw11 hP12 kc10 hN10 hr8
    go_wp2_with (first
      | (refine load_want (by rfl) 31 _ rfl P12 0 rfl (pb zp) _ hS10.whole Tryd.underlying31 rfl (by rw [pb_length]; kernel_rfl) ?_)
      | (go_at_call 16; refine (works_any _ hL11.dl.t).mono ?_; rintro e w12 ⟨rfl, kb12⟩))
    go_ret
    exact ⟨rfl, hL11.below.trans (kb12.mono hL11.size)⟩
  | false =>
    have hts := hno rfl
    rw [hts, HSC.out, hm_read] at hr8
    dsimp only at hr8
    clear hno hyes hts
    go_upto_region 12 with (first
      | (go_at_call 8; refine hr8.mono ?_; rintro e w10 ⟨rfl, kb10⟩
         have hN10 := Blk.new w10 31 (pb zp))
      | (refine store_pg rfl _ _ rfl w10.heap.size zp pg hN10 rfl rfl ?_; intro hS10))
    have kc10 := boxed_pg w10 pg
    have hL11 := (hL9.next kb10).next kc10
    obtain ⟨P12, hP12⟩ : ∃ P, P = w10.heap.size := ⟨_, rfl⟩
    obtain ⟨w11, hw11⟩ : ∃ u, u = (w10.alloc (.cells (pb zp).toArray 31)).setRow w10.heap.size (pb pg).toArray := ⟨_, rfl⟩
    rw [← hw11] at hS10 hL11 ⊢
    rw [← hP12] at hS10 ⊢
    have hS0 : FP8 w w11.drew B P12 pg := ⟨hS10.drew, hL11.dl.t.next (below_drw w11), ⟨hL11.below.os, hL11.below.tape, hL11.below.output, hL11.below.size, hL11.below.block⟩, by have := hL11.size; exact this⟩
    clear hw11 hP12 kc10 hN10 hr8 kb10 hL11 hS10
    refine wp_region_to (fun v => FP8 w v B P12 pg) 12 (by kernel_rfl) ?_
    refine wpTo_take (i := 0) (v := ?v0z1) (show _ = some _ by simp only [List.getElem?_toArray, List.getElem?_cons_zero]; exact rfl) (by kernel_rfl) (by kernel_rfl) (by kernel_rfl) (by kernel_rfl) (by exact fun _ _ _ h => h) (Or.inl ⟨by rfl, ?hy0z1⟩) hS0 ?r0z1
    case hy0z1 => (intro w hSw; (try dsimp only at hSw); go_simp; try with_reducible rfl)
    (try simp only [Act.put]); (try simp only [List.setIfInBounds_toArray]); (repeat (first | simp only [List.set_cons_succ] | simp only [List.set_cons_zero]))
    refine wpTo_take (i := 1) (v := ?v1z2) (show _ = some _ by simp only [List.getElem?_toArray, List.getElem?_cons_succ, List.getElem?_cons_zero]; exact rfl) (by kernel_rfl) (by kernel_rfl) (by kernel_rfl) (by kernel_rfl) (by exact fun _ _ _ h => h) (Or.inl ⟨by rfl, ?hy1z2⟩) hS0 ?r1z2
    case hy1z2 => (intro w hSw; (try dsimp only at hSw); go_simp; try with_reducible rfl)
    (try simp only [Act.put]); (try simp only [List.setIfInBounds_toArray]); (repeat (first | simp only [List.set_cons_succ] | simp only [List.set_cons_zero]))
    refine wpTo_take (i := 2) (v := ?v2z3) (show _ = some _ by simp only [List.getElem?_toArray, List.getElem?_cons_succ, List.getElem?_cons_zero]; exact rfl) (by kernel_rfl) (by kernel_rfl) (by kernel_rfl) (by kernel_rfl) (by exact fun _ _ _ h => h) (Or.inl ⟨by rfl, ?hy2z3⟩) hS0 ?r2z3
    case hy2z3 => (intro w hSw; (try dsimp only at hSw); go_simp; try with_reducible rfl)
    (try simp only [Act.put]); (try simp only [List.setIfInBounds_toArray]); (repeat (first | simp only [List.set_cons_succ] | simp only [List.set_cons_zero]))
    refine wpTo_take (i := 3) (show _ = some _ by simp only [List.getElem?_toArray, List.getElem?_cons_succ, List.getElem?_cons_zero]; exact rfl) (by kernel_rfl) (by kernel_rfl) (by kernel_rfl) (by kernel_rfl) (by exact fun _ _ _ h => h) (yieldsIf_load_mid (by rfl) 31 (.tmp 12) rfl P12 0 rfl (pb pg) _ (fun v h => (FP8.p h).whole) Tryd.underlying31 rfl (by rw [pb_length]; kernel_rfl)) hS0 ?_
    (try simp only [Act.put]); (try simp only [List.setIfInBounds_toArray]); (repeat (first | simp only [List.set_cons_succ] | simp only [List.set_cons_zero]))
    refine wpTo_take (i := 4) (v := ?v4z4) (show _ = some _ by simp only [List.getElem?_toArray, List.getElem?_cons_succ, List.getElem?_cons_zero]; exact rfl) (by kernel_rfl) (by kernel_rfl) (by kernel_rfl) (by kernel_rfl) (by exact fun _ _ _ h => h) (Or.inl ⟨by rfl, ?hy4z4⟩) hS0 ?r4z4
    case hy4z4 => (intro w hSw; (try dsimp only at hSw); go_simp; try with_reducible rfl)
    (try simp only [Act.put]); (try simp only [List.setIfInBounds_toArray]); (repeat (first | simp only [List.set_cons_succ] | simp only [List.set_cons_zero]))
    refine wpTo_one (i := 5) (by kernel_rfl) (show _ = some _ by simp only [List.getElem?_toArray, List.getElem?_cons_succ, List.getElem?_cons_zero]; exact rfl) (fun K hK => ?_)
    go_simp
    go_at_call 31; refine (hx _).mono ?_; rintro e v1 ⟨rfl, kx1⟩
    (try simp only [])
    have hS1 := hS0.next kx1
    refine hK.out _ _ (hS1) (fun _ => ?_)
    clear hK K
    (try simp only [Act.put]); (try simp only [List.setIfInBounds_toArray]); (repeat (first | simp only [List.set_cons_succ] | simp only [List.set_cons_zero]))
    refine wpTo_take (i := 6) (v := ?v6z5) (show _ = some _ by simp only [List.getElem?_toArray, List.getElem?_cons_succ, List.getElem?_cons_zero]; exact rfl) (by kernel_rfl) (by kernel_rfl) (by kernel_rfl) (by kernel_rfl) (by exact fun _ _ _ h => h) (Or.inl ⟨by rfl, ?hy6z5⟩) hS1 ?r6z5
    case hy6z5 => (intro w hSw; (try dsimp only at hSw); go_simp; try with_reducible rfl)
    (try simp only [Act.put]); (try simp only [List.setIfInBounds_toArray]); (repeat (first | simp only [List.set_cons_succ] | simp only [List.set_cons_zero]))
    refine wpTo_take (i := 7) (v := ?v7z6) (show _ = some _ by simp only [List.getElem?_toArray, List.getElem?_cons_succ, List.getElem?_cons_zero]; exact rfl) (by kernel_rfl) (by kernel_rfl) (by kernel_rfl) (by kernel_rfl) (by exact fun _ _ _ h => h) (Or.inl ⟨by rfl, ?hy7z6⟩) hS1 ?r7z6
    case hy7z6 => (intro w hSw; (try dsimp only at hSw); go_simp; try with_reducible rfl)
    (try simp only [Act.put]); (try simp only [List.setIfInBounds_toArray]); (repeat (first | simp only [List.set_cons_succ] | simp only [List.set_cons_zero]))
    refine wpTo_take (i := 8) (v := ?v8z7) (show _ = some _ by simp only [List.getElem?_toArray, List.getElem?_cons_succ, List.getElem?_cons_zero]; exact rfl) (by kernel_rfl) (by kernel_rfl) (by kernel_rfl) (by kernel_rfl) (by exact fun _ _ _ h => h) (Or.inl ⟨by rfl, ?hy8z7⟩) hS1 ?r8z7
    case hy8z7 => (intro w hSw; (try dsimp only at hSw); go_simp; try with_reducible rfl)
    (try simp only [Act.put]); (try simp only [List.setIfInBounds_toArray]); (repeat (first | simp only [List.set_cons_succ] | simp only [List.set_cons_zero]))
    refine wpTo_one (i := 9) (by kernel_rfl) (show _ = some _ by simp only [List.getElem?_toArray, List.getElem?_cons_succ, List.getElem?_cons_zero]; exact rfl) (fun K hK => ?_)
    go_simp
    go_at_call 16; refine (works_any _ hS1.t).mono ?_; rintro e v2 ⟨rfl, kx2⟩
    (try simp only [])
    have hS2 := hS1.next kx2
    refine hK.out _ _ (hS2) (fun _ => ?_)
    clear hK K
    (try simp only [Act.put]); (try simp only [List.setIfInBounds_toArray]); (repeat (first | simp only [List.set_cons_succ] | simp only [List.set_cons_zero]))
    refine wpTo_take (i := 10) (v := ?v10z8) (show _ = some _ by simp only [List.getElem?_toArray, List.getElem?_cons_succ, List.getElem?_cons_zero]; exact rfl) (by kernel_rfl) (by kernel_rfl) (by kernel_rfl) (by kernel_rfl) (by exact fun _ _ _ h => h) (Or.inl ⟨by rfl, ?hy10z8⟩) hS2 ?r10z8
    case hy10z8 => (intro w hSw; (try dsimp only at hSw); go_simp; try with_reducible rfl)
    (try simp only [Act.put]); (try simp only [List.setIfInBounds_toArray]); (repeat (first | simp only [List.set_cons_succ] | simp only [List.set_cons_zero]))
    refine wpTo_take (i := 11) (v := ?v11z9) (show _ = some _ by simp only [List.getElem?_toArray, List.getElem?_cons_succ, List.getElem?_cons_zero]; exact rfl) (by kernel_rfl) (by kernel_rfl) (by kernel_rfl) (by kernel_rfl) (by exact fun _ _ _ h => h) (Or.inl ⟨by rfl, ?hy11z9⟩) hS2 ?r11z9
    case hy11z9 => (intro w hSw; (try dsimp only at hSw); go_simp; try with_reducible rfl)
    (try simp only [Act.put]); (try simp only [List.setIfInBounds_toArray]); (repeat (first | simp only [List.set_cons_succ] | simp only [List.set_cons_zero]))
    refine wpTo_done (by kernel_rfl) ?_
    go_wp2_with fail
    go_ret
    exact ⟨rfl, hS2.k⟩
section
open Go.ChangeShapes Go.WideShapes Go.ChangeAt
variable {H : Type} {enc : TypeId × Value → H} {W : World}
set_option maxRecDepth 100000 in
/-- A text that came in. -/
theorem open_text {base : Nat} {v : Value} {d : DataW H} {ps : List MemPlace} (hval : Value.okWide Tryd.prog W .any base 9 v) (h : DataW.Trod enc Tryd.prog W 0 (fun _ => true) true 9 v d ps) :
    ∃ s : ByteArray, v = .string s ∧ s.size ≤ maxLen := by
  obtain ⟨s, rfl, _⟩ := Go.ChangeMaps.open_string Tryd.underlying9 hval h
  obtain ⟨fuel, hf⟩ := h
  obtain ⟨t, e, _, ht⟩ := DataW.trod_string Tryd.underlying9 hf
  simp [Value.cells] at e
  subst e
  exact ⟨s, rfl, ht⟩
end
end Go.Proofs.YtndfhmlcfaaaiaaDoor
