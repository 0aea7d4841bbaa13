/- Bytes, asked of both readers; what was answered is written over, and the readers stand. -/
import Derived.Test.YtmnkbbfpdohpkaaDoorAskF
namespace Go.Proofs.YtmnkbbfpdohpkaaDoor
open Go.RowKit

theorem own_onlyC {r : Nat} {w w' : World} {base : Nat} {e : TypeId} {sz : Nat} {v : Value} {n : Nat} {xs : List Value} (ho : Only r w w') (h : w.ownsRow base e sz v n xs) (hne : v.ownBlock ≠ some r) : w'.ownsRow base e sz v n xs := by
  obtain ⟨h1, h2⟩ := h
  refine ⟨h1, ?_⟩
  rcases h2 with h2 | ⟨g, cap, cur, hv, hg, hh, rr⟩
  · exact Or.inl h2
  · exact Or.inr ⟨g, cap, cur, hv, hg, (ho.block g (lt_of_block hh) (fun e => hne (by rw [hv, e]; rfl))).trans hh, rr⟩

theorem fromAt_block {ao : Option Addr} {c k : Nat} {ad' : Addr} (h : fromAt ao c k = some ad') : ∃ ad, ao = some ad ∧ ad'.block = ad.block := by
  unfold fromAt at h
  split at h
  · exact ⟨ad', h, rfl⟩
  · cases ao with
    | none => simp at h
    | some a0 =>
      simp only [Option.map_some, Option.some.injEq] at h
      subst h
      exact ⟨a0, rfl, by unfold Addr.add; split <;> rfl⟩

theorem raw_all2 (k : Int) (r : Nat) (ao : Option Addr) (n c : Nat) (xs : List Int) (e : Int) (w : World) (h : Rd w r ao n c xs e) (hbig : n ≤ 140737488355328) :
    Calls Tryd.prog 37 #[.pointer (some ⟨r, 0, none⟩), .int .i64 k] w fun x w' => ∃ v, x = .returned v ∧ w'.ownsRow w.heap.size 5 1 v (mO k xs e).length (u8s (mO k xs e)) ∧ (∃ ao' n' c', Rd w' r ao' n' c' (mL k xs e) (mE k xs e) ∧ n' ≤ n ∧ ∀ ad', ao' = some ad' → ∃ ad, ao = some ad ∧ ad'.block = ad.block) ∧ Only r w w' := by
  have hl := h.sh.len
  by_cases he : e = 0
  · subst he
    by_cases hk0 : k < 0
    · obtain ⟨e1, e2, e3⟩ := m_neg (xs := xs) hk0
      rw [e1, e2, e3]
      refine (raw_of_nil _ _ _ _ (take_neg r ao n c xs k w h hk0)).mono ?_
      rintro x w' ⟨rfl, rfl⟩
      exact ⟨_, rfl, World.ownsRow_nil _ _ _ _, ⟨_, _, _, h.fail 2, Nat.le_refl _, fun ad had => ⟨ad, had, rfl⟩⟩, Only.set r 1 _ w⟩
    · obtain ⟨m, rfl⟩ : ∃ m : Nat, k = m := ⟨k.toNat, by omega⟩
      by_cases hn : m ≤ n
      · obtain ⟨e1, e2, e3⟩ := m_ok (n := m) (xs := xs) (by omega)
        rw [e1, e2, e3]
        refine (raw_at r ao n c xs m w h hn hbig).mono ?_
        rintro x w' ⟨v, rfl, hown, hrd, hon⟩
        have : (xs.take m).length = m := by simp; omega
        rw [this]
        exact ⟨_, rfl, hown, ⟨_, _, _, hrd, Nat.sub_le _ _, fun ad had => fromAt_block had⟩, hon⟩
      · obtain ⟨e1, e2, e3⟩ := m_short (n := m) (xs := xs) (by omega)
        rw [e1, e2, e3]
        refine (raw_of_nil _ _ _ _ (take_short r ao n c xs m w h (by omega))).mono ?_
        rintro x w' ⟨rfl, rfl⟩
        exact ⟨_, rfl, World.ownsRow_nil _ _ _ _, ⟨_, _, _, h.fail 10, Nat.le_refl _, fun ad had => ⟨ad, had, rfl⟩⟩, Only.set r 1 _ w⟩
  · obtain ⟨e1, e2, e3⟩ := m_err (n := k) (xs := xs) he
    rw [e1, e2, e3]
    refine (raw_of_nil _ _ _ _ (take_err r ao n c xs e k w h (by simpa using he))).mono ?_
    rintro x w' ⟨rfl, rfl⟩
    exact ⟨_, rfl, World.ownsRow_nil _ _ _ _, ⟨_, _, _, h, Nat.le_refl _, fun ad had => ⟨ad, had, rfl⟩⟩, Only.refl r w⟩

/-- A reader whose blocks lie below B stands behind writes from B on. -/
theorem Rd.low {w w' : World} {r : Nat} {ao : Option Addr} {n c : Nat} {xs : List Int} {e : Int} {B : Nat} (h : Rd w r ao n c xs e) (hb : Below B w w') (hr : r < B) (hlow : ∀ ad, ao = some ad → 0 < n → ad.block < B) : Rd w' r ao n c xs e :=
  ⟨(hb.block r hr).trans h.blk, ⟨h.sh.len, h.sh.bare, fun ad had i hi => (World.cell?_of_block (hb.block _ (by have := hlow ad had (by omega); unfold Addr.add; split <;> simpa using this))).trans (h.sh.cell ad had i hi), h.sh.rng⟩, h.cap, h.big, h.bare, h.apart⟩
theorem RR.low {w w' : World} {q : Nat} {bo : Option Addr} {N bc : Nat} {ys : List Int} {k : Nat} {e : Int} {B : Nat} (h : RR w q bo N bc ys k e) (hb : Below B w w') (hq : q < B) (hlow : ∀ ad, bo = some ad → 0 < N → ad.block < B) : RR w' q bo N bc ys k e :=
  ⟨(hb.block q hq).trans h.blk, ⟨h.sh.len, h.sh.bare, fun ad had i hi => (World.cell?_of_block (hb.block _ (by have := hlow ad had (by omega); unfold Addr.add; split <;> simpa using this))).trans (h.sh.cell ad had i hi), h.sh.rng⟩, h.plc, h.cap, h.big, h.bare, h.apart, h.lim⟩
theorem Shows.below {w : World} {ao : Option Addr} {n : Nat} {xs : List Int} (h : Shows w ao n xs) {ad : Addr} (had : ao = some ad) (hn : 0 < n) : ad.block < w.heap.size := by
  have := block_lt_of_cell (h.cell ad had 0 hn)
  unfold Addr.add at this
  simpa using this

theorem Two.of_low {r q B : Nat} {w0 w w' : World} (h : Two r q w0 w) (hb : Below B w w') (hB : w0.heap.size ≤ B) : Two r q w0 w' :=
  ⟨hb.os.trans h.os, hb.tape.trans h.tape, hb.output.trans h.output, Nat.le_trans h.size hb.size, fun k hk hr hq => (hb.block k (by omega)).trans (h.block k hk hr hq)⟩

theorem rng_set {zs : List Int} (h : ∀ x ∈ zs, 0 ≤ x ∧ x ≤ 255) (i : Nat) (y : Int) (hy : 0 ≤ y ∧ y ≤ 255) : ∀ x ∈ zs.set i y, 0 ≤ x ∧ x ≤ 255 := by
  intro x hx
  rcases List.mem_or_eq_of_mem_set hx with h1 | h1
  · exact h x h1
  · rw [h1]; exact hy

set_option maxHeartbeats 2000000 in
set_option maxRecDepth 100000 in
theorem asked_3 (r q : Nat) (ao bo : Option Addr) (n c N bc : Nat) (ys : List Int) (k : Nat) (e x2 : Int) (w : World) (h : Rd w r ao n c (ys.drop k) e) (hq : RR w q bo N bc ys k e) (hbig : n ≤ 140737488350000) :
    Calls Tryd.prog 32 #[.pointer (some ⟨r, 0, none⟩), .pointer (some ⟨q, 0, none⟩), .agg #[.int .i64 3, .int .i64 x2]] w fun e w' => e = .returned (.bool true) ∧ Alike2 w' r q bo N bc ys ∧ Two r q w w' := by
  have hA : Below w.heap.size w (w.alloc (.cells #[.int .i64 3, .int .i64 x2] 53)) := (Below.refl _ w).alloc (Nat.le_refl _) _
  have h0 := h.later hA
  have q0 := hq.later hA
  have bx : (w.alloc (.cells #[.int .i64 3, .int .i64 x2] 53)).cell? ⟨w.heap.size, 1, none⟩ = some (.int .i64 x2) := by rw [World.cell?_alloc_at _ _ _ _ rfl]; rfl
  have hrw := lt_of_block h.blk
  have hqw := lt_of_block hq.blk
  have hlowr : ∀ ad, ao = some ad → 0 < n → ad.block < w.heap.size := fun ad had hn => h.sh.below had hn
  have hlowq : ∀ ad, bo = some ad → 0 < N → ad.block < w.heap.size := fun ad had hn => hq.sh.below had hn
  have hcon := raw_all2 x2 r ao n c (ys.drop k) e _ h0 (by omega)
  have hcon2 := fun w1 h1 => rraw_all x2 q bo N bc ys k e w1 h1
  have hrg : ∀ x ∈ mO x2 (ys.drop k) e, 0 ≤ x ∧ x ≤ 255 := mO_rng h.sh.rng
  have hol : (mO x2 (ys.drop k) e).length ≤ n := by
    have hl := h.sh.len
    unfold mO
    split
    · simp
    · split
      · simp
      · split
        · simp
        · simp only [List.length_take]; omega
  generalize mO x2 (ys.drop k) e = out at *
  clear h hq
  go_enter Tryd.func32, Tryd.ntmps32
  go_wp2_with (first
    | (go_at_call 37; go_must (refine hcon.mono ?_; rintro x w1 ⟨v1, rfl, hown1, ⟨ao1, n1, c1, h1, hn1, hbk1⟩, ho1⟩; have q1 := q0.only_rd h0 ho1; have b1 : w1.cell? ⟨w.heap.size, 1, none⟩ = some (.int .i64 x2) := ho1.cell bx (by show w.heap.size ≠ r; omega)))
    | (go_at_call 53; go_must (refine (hcon2 w1 q1).mono ?_; rintro x w2 ⟨v2, rfl, hown2, ⟨k2, q2, hd2⟩, ho2⟩; have h2 := h1.only_rr q1 ho2; rw [← hd2] at h2; have hownb := own_onlyC ho2 hown1 (own_ne_rr hown1 q1); obtain ⟨ao9, c9, hv9, hs9, hcap9, hmax9, hbare9, hblk9⟩ := own_shape hownb hrg; subst hv9; obtain ⟨ao8, c8, hv8, hs8, hcap8, hmax8, hbare8, hblk8⟩ := own_shape hown2 hrg; subst hv8))
    | (go_at_call 16; go_must (refine (eqBytes_any _ _ _ _ _ _ _ _ _ hs9 hs8).mono ?_; rintro x w' ⟨rfl, rfl⟩)))
  have hsz2 : w.heap.size + 1 ≤ w2.heap.size := by have a := ho1.size; have b := ho2.size; simp at a; omega
  have hT : Two r q w w2 := ((Two.of_below hA).trans (Two.left ho1)).trans (Two.right ho2)
  have hown3 : w2.ownsRow (w.heap.size + 1) 5 1 (.slice ao9 out.length c9) out.length (u8s out) := by simpa using hownb
  have hlow1 : ∀ ad, ao1 = some ad → 0 < n1 → ad.block < w.heap.size + 1 := by
    intro ad had hn
    obtain ⟨ad0, h3, h4⟩ := hbk1 ad had
    have := hlowr ad0 h3 (by omega)
    omega
  have hlow2 : ∀ ad, bo = some ad → 0 < N → ad.block < w.heap.size + 1 := fun ad had hn => by have := hlowq ad had hn; omega
  clear hcon hcon2 hs9 hs8 hown1 hown2 hownb hblk8 hblk9 hbk1 hlowr hlowq ho1 ho2 h0 q0 h1 q1 hd2
  have HOL : Hid (out.length ≤ 140737488350000) := by show _ ≤ _; omega
  clear hol
  generalize out.length = L at *
  go_loopw [8] (fun i wr => ∃ i2 : Nat, i2 ≤ L ∧ i = .int .i64 i2 ∧ (∃ zs : List Int, wr.ownsRow (w.heap.size + 1) 5 1 (.slice ao9 L c9) L (u8s zs) ∧ ∀ x ∈ zs, 0 ≤ x ∧ x ≤ 255) ∧ Below (w.heap.size + 1) w2 wr) (fun i _ => L - (intOf i).toNat)
  case atStart => exact ⟨0, by omega, rfl, ⟨out, hown3, hrg⟩, Below.refl _ _⟩
  case round =>
    obtain ⟨i2, hi2, rfl, ⟨zs, hz, hzr⟩, hbr⟩ := hrel
    have hL := HOL.out
    by_cases hlt : i2 < L
    · obtain ⟨g, cap, hv, hg1, hg2⟩ := hz.form (by omega)
      cases hv
      have hzl : zs.length = L := by have := hz.1; simpa [u8s_length] using this
      obtain ⟨x, hx⟩ : ∃ x, zs[i2]? = some x := ⟨zs[i2]'(by omega), List.getElem?_eq_getElem (by omega)⟩
      have hxm := hzr x (List.mem_of_getElem? hx)
      have k0 : wr.cell? ⟨g, i2, none⟩ = some (.int .u8 x) := by rw [hz.cellAt i2 (by omega)]; simp [u8s, hx]
      have kf := hz.frozenAt i2
      have hst := hz.stored i2 (.int .u8 (255 - x))
      obtain ⟨hx0, hx1⟩ := hxm
      have HST : Hid _ := hst
      clear hst hx hzl
      go_wp2
      go_roundw
      case rel =>
        refine ⟨i2 + 1, by omega, by go_num, ⟨zs.set i2 (255 - x), ?_, rng_set hzr i2 _ (by omega)⟩, hbr.setCell hg1 _⟩
        have := HST.out.1
        rw [show (u8s zs).set i2 (.int .u8 (255 - x)) = u8s (zs.set i2 (255 - x)) by simp [u8s]] at this
        exact this
      case measure => simp [intOf]; omega
    · have hzs := hbr.size
      have hsrc := shows_new wr [201, 202, 203] (by decide)
      go_wp2_with (at_builtin; go_must (refine law_append rfl _ _ rfl (w.heap.size + 1) _ L zs rfl (hz.alloc _) _ 3 3 _ rfl hsrc (by intro h; cases h) (by omega) (by simp; omega) ?_))
      intro v4 w4 hown4 hgrow4 _
      obtain ⟨g4, cap4, hv4, _, _⟩ := hown4.form (by omega)
      subst hv4
      have hb4 : Below (w.heap.size + 1) w2 w4 := (hbr.alloc (by omega) _).grown hgrow4 (by simp; omega) (fun b hb => (hz.lt b hb).1)
      have h4 := h2.low hb4 (by omega) hlow1
      have q4 := q2.low hb4 (by omega) hlow2
      have hT4 := hT.of_low hb4 (by omega)
      have hL3 : ¬ ((L : Int) + 3 < 3) := by omega
      clear h2 q2 hb4 hT hown4 hgrow4 hz hbr hlow1 hlow2
      go_wp2_with (first
        | (go_at_call 39; go_must (refine (left_ok r _ _ _ _ _ _ h4).mono ?_; rintro x w' ⟨rfl, rfl⟩))
        | (go_at_call 55; go_must (refine (rleft_n q _ _ _ _ k2 _ _ _ q4 h4.sh.len).mono ?_; rintro x w5 ⟨rfl, hb5⟩; have h5 := h4.later hb5; have q5 := q4.later hb5))
        | (go_at_call 40; go_must (refine (err_ok r _ _ _ _ _ _ h5).mono ?_; rintro x w' ⟨rfl, rfl⟩))
        | (go_at_call 56; go_must (refine (rerr q _ _ _ _ _ _ _ q5).mono ?_; rintro x w' ⟨rfl, rfl⟩)))
      go_ret
      have hlim := q5.lim
      have hdl := h5.sh.len
      rw [List.length_drop, q5.sh.len] at hdl
      exact ⟨by simp, ⟨_, _, _, _, k2, h5, q5, by omega⟩, hT4.trans (Two.of_below hb5)⟩

end Go.Proofs.YtmnkbbfpdohpkaaDoor
