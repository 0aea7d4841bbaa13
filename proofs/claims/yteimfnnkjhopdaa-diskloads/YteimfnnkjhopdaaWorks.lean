/- The program writes and reads: what every statement asks besides. -/
import Derived.Test.YteimfnnkjhopdaaUni
namespace Go.Proofs.Yteimfnnkjhopdaa
open Go.RowKit

theorem write_ok (w : World) (r f m cap : Nat) (d : St) (h : Lay w r f m cap d) (i : Nat) (s : Sec) (hoff : d.off = false) (ha : d.armed = 0) (hi : i < d.n) (hw : d.writes < 1000000000) :
    Calls Try.prog 29 #[.pointer (some ⟨r, 0, none⟩), .int .i64 i, .agg (sb s).toArray] w fun e w' => e = .returned (.int .i64 0) ∧ Turn w w' r f m cap (d.write i s) :=
  (write_good w r f m cap d h i s hoff hi hw).mono fun _ _ ⟨he, hl, hf⟩ => by
    rw [op_zero (d.write i s) ha] at he hl
    exact ⟨he, .of hl hf⟩
theorem flush_ok (w : World) (r f m cap : Nat) (d : St) (h : Lay w r f m cap d) (hoff : d.off = false) (ha : d.armed = 0) (hf : d.flushes < 1000000000) :
    Calls Try.prog 23 #[.pointer (some ⟨r, 0, none⟩)] w fun e w' => e = .returned (.int .i64 0) ∧ Turn w w' r f m cap d.tick.all :=
  (flush_good w r f m cap d h hoff (by rw [op_zero d.tick ha]) hf).mono fun _ _ ⟨he, m', hm', hl, hfr⟩ => by
    rw [op_zero d.tick ha] at hl
    exact ⟨he, m', .inr hm', hl, hfr⟩
theorem off_ok (w : World) (r f m cap : Nat) (d : St) (h : Lay w r f m cap d) : Calls Try.prog 24 #[.pointer (some ⟨r, 0, none⟩)] w fun e w' => e = .returned (.tuple #[]) ∧ Turn w w' r f m cap d.goOff :=
  (off_any w r f m cap d h).mono fun _ _ ⟨he, hl, hf, _⟩ => ⟨he, .of hl hf⟩

def wk1 (a : Sec) : St := (St.start 3 (fun _ => zs)).write 1 a
def wk2 (a : Sec) : St := (wk1 a).tick.all
def wk3 (a b : Sec) : St := (wk2 a).write 1 b
def wk4 (a b : Sec) : St := (wk3 a b).write 2 b
def wk5 (a b : Sec) : St := (wk4 a b).goOff
def wk6 (a b : Sec) : St := (wk5 a b).on [2]
theorem wk6_one (a b : Sec) : (wk6 a b).at 1 = a := rfl
theorem wk6_two (a b : Sec) : (wk6 a b).at 2 = b := rfl

theorem list_two (w : World) : Ints (w.alloc (.cells #[.int .i64 2] 3)) (some ⟨w.heap.size, 0, none⟩) 1 [2] := by
  have hb := Blk.new w 3 [.int .i64 2]
  refine ⟨rfl, fun h => (by cases h), fun ad had j hj => ?_, fun x hx => (by simp at hx; subst hx; decide)⟩
  cases had
  have : j = 0 := by omega
  subst this
  exact hb.cell 0 _ rfl

/-- A whole sector is loaded, where the walk stands at the load. -/
theorem load_sec_w {w : World} {o : Oper} {a : Act} {K : Act → World → Prop} {Q : Exit → Act → World → Prop} (x : Operand) (ho : o.op = .load 39 x) (g : Nat) (s : Sec) (hA : Blk w g 39 (sb s)) (hx : a.eval x = .pointer (some ⟨g, 0, none⟩))
    (h : K (a.put o.dst (.agg (sb s).toArray)) w) : o.wp Try.prog a w K Q :=
  wp_load_mid 39 x ho g 0 hx (sb s) _ hA.whole Try.underlying39 rfl (by rw [sb_length]; kernel_rfl) h
theorem on_ok (w : World) (r f m cap : Nat) (d : St) (h : Lay w r f m cap d) (hoff : d.off = true) (ao : Option Addr) (n c : Nat) (xs : List Int) (hx : Ints w ao n xs) (hap : ∀ ad, ao = some ad → 0 < n → ¬ fp r f m ad.block) (hn : n ≤ 9223372036854775807) :
    Calls Try.prog 21 #[.pointer (some ⟨r, 0, none⟩), .slice ao n c] w fun e w' => e = .returned (.int .i64 0) ∧ Turn w w' r f m cap (d.on xs) :=
  (on_good w r f m cap d h hoff ao n c xs hx hap hn).mono fun _ _ ⟨he, m', hm', hl, hfr⟩ => ⟨he, m', .inr hm', hl, hfr⟩
theorem read_ok (w : World) (r f m cap : Nat) (d : St) (h : Lay w r f m cap d) (i : Nat) (s : Sec) (hoff : d.off = false) (hi : i < d.n) (hs : d.at i = s) : Calls Try.prog 26 #[.pointer (some ⟨r, 0, none⟩), .int .i64 i] w fun e w' => e = .returned (.tuple #[.agg (sb s).toArray, .int .i64 0]) ∧ Below w.heap.size w w' := by
  subst hs
  exact read_good w r f m cap d h i hoff hi
theorem IntsS.new {w w' : World} {ao : Addr} {n : Nat} {xs : List Int} {r f m cap : Nat} {d : St} (hl : Lay w r f m cap d) (_ : Ints w' (some ao) n xs) (hg : w.heap.size ≤ ao.block := by exact Nat.le_refl _) : ∀ ad, some ao = some ad → 0 < n → ¬ fp r f m ad.block := by
  rintro ad had _ hx
  cases had
  have h1 := hl.blk.lt
  have h2 := hl.row.lt
  have h3 := hl.mlt
  rcases hx with e | e | e <;> omega
/-- .. also where it stands under a guard that lets it by. -/
theorem load_sec_g {w : World} {ops : Array Oper} {rest : List Oper} {o : Oper} {a : Act} {Q : Exit → Act → World → Prop} (hw : Region.wanted o (yielded ops a.tmps) = true) (x : Operand) (ho : o.op = .load 39 x) (g : Nat) (s : Sec) (hA : Blk w g 39 (sb s)) (hx : a.eval x = .pointer (some ⟨g, 0, none⟩))
    (h : wpList Try.prog ops Q rest (a.put o.dst (.agg (sb s).toArray)) w) : wpList Try.prog ops Q (o :: rest) a w :=
  BigFrame.wpList_want hw fun _ hK => load_sec_w x ho g s hA hx (hK _ _ h)
theorem fp_ge {b r f m : Nat} (hr : b ≤ r) (hf : b ≤ f) (hm : b ≤ m) : ∀ k, fp r f m k → b ≤ k := by
  rintro k (rfl | rfl | rfl)
  · exact hr
  · exact hf
  · exact hm
theorem turn_ge {b m m' s : Nat} (hm : b ≤ m) (h : m' = m ∨ s ≤ m') (hs : b ≤ s) : b ≤ m' := by
  rcases h with rfl | h
  · exact hm
  · omega
/-- Numbers beside a disk. -/
def IntsS (w : World) (ao : Option Addr) (n : Nat) (xs : List Int) (r f m : Nat) : Prop := Ints w ao n xs ∧ ∀ ad, ao = some ad → 0 < n → ¬ fp r f m ad.block
theorem IntsS.next {w w' : World} {ao : Option Addr} {n : Nat} {xs : List Int} {r f m : Nat} (h : IntsS w ao n xs r f m) (hb : Below w.heap.size w w') : IntsS w' ao n xs r f m := ⟨h.1.next hb, h.2⟩
theorem IntsS.turn {w w' : World} {ao : Option Addr} {n : Nat} {xs : List Int} {r f m m' : Nat} (h : IntsS w ao n xs r f m) (hf : Fr (fp r f m) w w') (hm : m' = m ∨ w.heap.size ≤ m') : IntsS w' ao n xs r f m' := by
  refine ⟨h.1.fr hf h.2, fun ad had h0 hx => ?_⟩
  subst had
  have hlt := h.1.lt h0
  rcases hx with e | e | e
  · exact h.2 ad rfl h0 (.inl e)
  · exact h.2 ad rfl h0 (.inr (.inl e))
  · rcases hm with rfl | hm
    · exact h.2 ad rfl h0 (.inr (.inr e))
    · omega

set_option maxRecDepth 100000 in
set_option maxHeartbeats 4000000 in
theorem works_any (w : World) : Calls Try.prog 12 #[] w fun e w' => e = .returned (.bool true) ∧ Below w.heap.size w w' := by
  have hz := zero39
  obtain ⟨A, hA⟩ : ∃ A, A = textSec ⟨#[97]⟩ := ⟨_, rfl⟩
  obtain ⟨C, hC⟩ : ∃ C, C = textSec ⟨#[98]⟩ := ⟨_, rfl⟩
  have tA := fun v => text_any ⟨#[97]⟩ (by decide) v
  have tC := fun v => text_any ⟨#[98]⟩ (by decide) v
  rw [← hA] at tA
  rw [← hC] at tC
  clear hA hC
  go_enter Try.func12, Try.ntmps12
  go_wp2_with fail
  go_at_call 10; refine (new_any 3 w (by omega) (by omega)).mono ?_; rintro e w1 ⟨r, f, m, cap, rfl, hr, hf, hm, hL, hB⟩
  go_wp2_with fail
  go_at_call 30; refine (size_any _ r f m cap _ hL).mono ?_; rintro e w' ⟨rfl, rfl⟩
  simp only [show (St.start 3 (fun _ => zs)).n = 3 from rfl]
  have hq1 := eq39 A A; have hq2 := eq39 C C; have hgd := guard39
  rw [decide_eq_true rfl] at hq1 hq2
  have tok0 : True := trivial
  go_wp2_with (first
    | (have _t := tok0; go_at_call 14; refine (tA _).mono ?_; rintro e v1 ⟨rfl, kv1⟩
       have hL1 := hL.next kv1; clear hL; have hL := hL1; clear hL1
       have hB1 := hB.trans (kv1.mono hB.size); clear hB; have hB := hB1; clear hB1
       clear kv1
       clear tok0 _t; have tok1 : True := trivial)
    | (have _t := tok1; refine store_sec rfl _ _ rfl v1.heap.size zs A (Blk.new v1 39 (sb zs)) rfl rfl ?_; intro _
       obtain ⟨b1, k1⟩ := boxed v1 A
       have hsA := Side.new hL b1 (Nat.le_refl _)
       have hL1 := hL.next k1; clear hL; have hL := hL1; clear hL1
       have hB1 := hB.trans (k1.mono hB.size); clear hB; have hB := hB1; clear hB1
       obtain ⟨v2, hU⟩ : ∃ U, U = ((v1.alloc (.cells (sb zs).toArray 39)).setRow v1.heap.size (sb A).toArray) := ⟨_, rfl⟩
       obtain ⟨gA, hg1⟩ : ∃ g, g = v1.heap.size := ⟨_, rfl⟩
       rw [← hU] at hsA hL hB ⊢
       rw [← hg1] at hsA ⊢
       clear hU hg1 b1 k1
       clear tok1 _t; have tok2 : True := trivial)
    | (have _t := tok2; go_at_call 14; refine (tC _).mono ?_; rintro e v3 ⟨rfl, kv3⟩
       have hsA := hsA.next kv3
       have hL1 := hL.next kv3; clear hL; have hL := hL1; clear hL1
       have hB1 := hB.trans (kv3.mono hB.size); clear hB; have hB := hB1; clear hB1
       clear kv3
       clear tok2 _t; have tok3 : True := trivial)
    | (have _t := tok3; refine store_sec rfl _ _ rfl v3.heap.size zs C (Blk.new v3 39 (sb zs)) rfl rfl ?_; intro _
       obtain ⟨b1, k1⟩ := boxed v3 C
       have hsC := Side.new hL b1 (Nat.le_refl _)
       have hsA := hsA.next k1
       have hL1 := hL.next k1; clear hL; have hL := hL1; clear hL1
       have hB1 := hB.trans (k1.mono hB.size); clear hB; have hB := hB1; clear hB1
       obtain ⟨v4, hU⟩ : ∃ U, U = ((v3.alloc (.cells (sb zs).toArray 39)).setRow v3.heap.size (sb C).toArray) := ⟨_, rfl⟩
       obtain ⟨gC, hg1⟩ : ∃ g, g = v3.heap.size := ⟨_, rfl⟩
       rw [← hU] at hsC hsA hL hB ⊢
       rw [← hg1] at hsC ⊢
       clear hU hg1 b1 k1
       clear tok3 _t; have tok4 : True := trivial)
    | (have _t := tok4; refine load_sec_g (by rfl) _ rfl gA A hsA.1 rfl ?_
       clear tok4 _t; have tok5 : True := trivial)
    | (have _t := tok5; go_at_call 29; refine (write_ok _ r f m cap _ hL 1 A rfl rfl (of_decide_eq_true rfl) (of_decide_eq_true rfl)).mono ?_; rintro e v5 ⟨rfl, m, hm1, hL1, hF1⟩
       have hsA := hsA.turn hF1 hm1
       have hsC := hsC.turn hF1 hm1
       have hB1 := hB.trans (hF1.below (b := w.heap.size) (fp_ge hr hf hm) hB.size)
       have hm2 := turn_ge hm hm1 hB.size
       clear hm hL hB hF1 hm1
       have hm := hm2; have hL := hL1; have hB := hB1
       clear hm2 hL1 hB1
       clear tok5 _t; have tok6 : True := trivial)
    | (have _t := tok6; go_at_call 23; refine (flush_ok _ r f m cap _ hL rfl rfl (of_decide_eq_true rfl)).mono ?_; rintro e v6 ⟨rfl, m, hm1, hL1, hF1⟩
       have hsA := hsA.turn hF1 hm1
       have hsC := hsC.turn hF1 hm1
       have hB1 := hB.trans (hF1.below (b := w.heap.size) (fp_ge hr hf hm) hB.size)
       have hm2 := turn_ge hm hm1 hB.size
       clear hm hL hB hF1 hm1
       have hm := hm2; have hL := hL1; have hB := hB1
       clear hm2 hL1 hB1
       clear tok6 _t; have tok7 : True := trivial)
    | (have _t := tok7; refine load_sec_g (by rfl) _ rfl gC C hsC.1 rfl ?_
       clear tok7 _t; have tok8 : True := trivial)
    | (have _t := tok8; go_at_call 29; refine (write_ok _ r f m cap _ hL 1 C rfl rfl (of_decide_eq_true rfl) (of_decide_eq_true rfl)).mono ?_; rintro e v7 ⟨rfl, m, hm1, hL1, hF1⟩
       have hsA := hsA.turn hF1 hm1
       have hsC := hsC.turn hF1 hm1
       have hB1 := hB.trans (hF1.below (b := w.heap.size) (fp_ge hr hf hm) hB.size)
       have hm2 := turn_ge hm hm1 hB.size
       clear hm hL hB hF1 hm1
       have hm := hm2; have hL := hL1; have hB := hB1
       clear hm2 hL1 hB1
       clear tok8 _t; have tok9 : True := trivial)
    | (have _t := tok9; refine load_sec_g (by rfl) _ rfl gC C hsC.1 rfl ?_
       clear tok9 _t; have tok10 : True := trivial)
    | (have _t := tok10; go_at_call 29; refine (write_ok _ r f m cap _ hL 2 C rfl rfl (of_decide_eq_true rfl) (of_decide_eq_true rfl)).mono ?_; rintro e v8 ⟨rfl, m, hm1, hL1, hF1⟩
       have hsA := hsA.turn hF1 hm1
       have hsC := hsC.turn hF1 hm1
       have hB1 := hB.trans (hF1.below (b := w.heap.size) (fp_ge hr hf hm) hB.size)
       have hm2 := turn_ge hm hm1 hB.size
       clear hm hL hB hF1 hm1
       have hm := hm2; have hL := hL1; have hB := hB1
       clear hm2 hL1 hB1
       clear tok10 _t; have tok11 : True := trivial)
    | (have _t := tok11; go_at_call 24; refine (off_ok _ r f m cap _ hL).mono ?_; rintro e v9 ⟨rfl, m, hm1, hL1, hF1⟩
       have hsA := hsA.turn hF1 hm1
       have hsC := hsC.turn hF1 hm1
       have hB1 := hB.trans (hF1.below (b := w.heap.size) (fp_ge hr hf hm) hB.size)
       have hm2 := turn_ge hm hm1 hB.size
       clear hm hL hB hF1 hm1
       have hm := hm2; have hL := hL1; have hB := hB1
       clear hm2 hL1 hB1
       clear tok11 _t; have tok12 : True := trivial)
    | (have _t := tok12; go_at_call 21
       have hx := list_two v9
       have hap := IntsS.new hL hx
       have kk : Below v9.heap.size v9 (v9.alloc (.cells #[.int .i64 2] 3)) := (Below.refl _ v9).alloc (Nat.le_refl _) _
       have hsA := hsA.next kk
       have hsC := hsC.next kk
       have hL1 := hL.next kk; clear hL; have hL := hL1; clear hL1
       have hB1 := hB.trans (kk.mono hB.size); clear hB; have hB := hB1; clear hB1
       obtain ⟨v10, hV⟩ : ∃ U, U = v9.alloc (.cells #[.int .i64 2] 3) := ⟨_, rfl⟩
       rw [← hV] at hsA hsC hL hB hx ⊢
       clear hV kk
       refine (on_ok _ r f m cap _ hL rfl _ 1 1 [2] hx hap (by decide)).mono ?_; rintro e v11 ⟨rfl, m, hm1, hL1, hF1⟩
       have hsA := hsA.turn hF1 hm1
       have hsC := hsC.turn hF1 hm1
       have hB1 := hB.trans (hF1.below (b := w.heap.size) (fp_ge hr hf hm) hB.size)
       have hm2 := turn_ge hm hm1 hB.size
       clear hm hL hB hF1 hm1
       have hm := hm2; have hL := hL1; have hB := hB1
       clear hm2 hL1 hB1
       clear tok12 _t; have tok13 : True := trivial)
    | (have _t := tok13; go_at_call 26; refine (read_ok _ r f m cap _ hL 1 A rfl (of_decide_eq_true rfl) rfl).mono ?_; rintro e v12 ⟨rfl, kv12⟩
       have hsA := hsA.next kv12
       have hsC := hsC.next kv12
       have hL1 := hL.next kv12; clear hL; have hL := hL1; clear hL1
       have hB1 := hB.trans (kv12.mono hB.size); clear hB; have hB := hB1; clear hB1
       clear kv12
       clear tok13 _t; have tok14 : True := trivial)
    | (have _t := tok14; refine store_sec rfl _ _ rfl v12.heap.size zs A (Blk.new v12 39 (sb zs)) rfl rfl ?_; intro _
       obtain ⟨b1, k1⟩ := boxed v12 A
       have hsX := Side.new hL b1 (Nat.le_refl _)
       have hsA := hsA.next k1
       have hsC := hsC.next k1
       have hL1 := hL.next k1; clear hL; have hL := hL1; clear hL1
       have hB1 := hB.trans (k1.mono hB.size); clear hB; have hB := hB1; clear hB1
       obtain ⟨v13, hU⟩ : ∃ U, U = ((v12.alloc (.cells (sb zs).toArray 39)).setRow v12.heap.size (sb A).toArray) := ⟨_, rfl⟩
       obtain ⟨gX, hg1⟩ : ∃ g, g = v12.heap.size := ⟨_, rfl⟩
       rw [← hU] at hsX hsA hsC hL hB ⊢
       rw [← hg1] at hsX ⊢
       clear hU hg1 b1 k1
       clear tok14 _t; have tok15 : True := trivial)
    | (have _t := tok15; go_at_call 26; refine (read_ok _ r f m cap _ hL 2 C rfl (of_decide_eq_true rfl) rfl).mono ?_; rintro e v14 ⟨rfl, kv14⟩
       have hsA := hsA.next kv14
       have hsC := hsC.next kv14
       have hsX := hsX.next kv14
       have hL1 := hL.next kv14; clear hL; have hL := hL1; clear hL1
       have hB1 := hB.trans (kv14.mono hB.size); clear hB; have hB := hB1; clear hB1
       clear kv14
       clear tok15 _t; have tok16 : True := trivial)
    | (have _t := tok16; refine store_sec rfl _ _ rfl v14.heap.size zs C (Blk.new v14 39 (sb zs)) rfl rfl ?_; intro _
       obtain ⟨b1, k1⟩ := boxed v14 C
       have hsY := Side.new hL b1 (Nat.le_refl _)
       have hsA := hsA.next k1
       have hsC := hsC.next k1
       have hsX := hsX.next k1
       have hL1 := hL.next k1; clear hL; have hL := hL1; clear hL1
       have hB1 := hB.trans (k1.mono hB.size); clear hB; have hB := hB1; clear hB1
       obtain ⟨v15, hU⟩ : ∃ U, U = ((v14.alloc (.cells (sb zs).toArray 39)).setRow v14.heap.size (sb C).toArray) := ⟨_, rfl⟩
       obtain ⟨gY, hg1⟩ : ∃ g, g = v14.heap.size := ⟨_, rfl⟩
       rw [← hU] at hsY hsA hsC hsX hL hB ⊢
       rw [← hg1] at hsY ⊢
       clear hU hg1 b1 k1
       clear tok16 _t; have tok17 : True := trivial)
    | (have _t := tok17; refine load_sec_g (by rfl) _ rfl gX A hsX.1 rfl ?_
       clear tok17 _t; have tok18 : True := trivial)
    | (have _t := tok18; refine load_sec_g (by rfl) _ rfl gA A hsA.1 rfl ?_
       clear tok18 _t; have tok19 : True := trivial)
    | (have _t := tok19; refine load_sec_g (by rfl) _ rfl gY C hsY.1 rfl ?_
       clear tok19 _t; have tok20 : True := trivial)
    | (have _t := tok20; refine load_sec_g (by rfl) _ rfl gC C hsC.1 rfl ?_
       clear tok20 _t; have tok21 : True := trivial))
  go_ret
  exact ⟨rfl, hB⟩
end Go.Proofs.Yteimfnnkjhopdaa
