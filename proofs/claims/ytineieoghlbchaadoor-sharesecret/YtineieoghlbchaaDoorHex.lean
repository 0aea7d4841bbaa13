/- Bytes are told in digits to the base 16, two a byte, the higher half first. -/
import Derived.Test.YtineieoghlbchaaDoorRoom
import Derived.Laws.BitsAllLaws
import Derived.Deep.RegionHeld3
import Derived.Deep.AppendLies
namespace Go.Proofs.YtineieoghlbchaaDoor
open Go.RowKit

theorem own_of_heap {w : World} {base g N : Nat} {xs : List Int} (h : RowIs w g xs) (hl : xs.length = N) (hm : N ≤ maxLen) (hb : base ≤ g) :
    w.ownsRow base 5 1 (.slice (some ⟨g, 0, none⟩) N N) N (u8s xs) :=
  ⟨by simp [u8s_length, hl], .inr ⟨g, N, _, rfl, hb, h, Nat.le_refl _, hm, by simp [u8s_length, hl], List.take_of_length_le (by simp [u8s_length, hl])⟩⟩

def digitsTab : List Int := [48, 49, 50, 51, 52, 53, 54, 55, 56, 57, 97, 98, 99, 100, 101, 102]
/-- The table of digits lies in block 0. -/
def Tab (w : World) : Prop := ∀ i, i < 16 → w.cell? ⟨0, i, none⟩ = some (.int .u8 (digitsTab.getD i 0))

theorem Tab.later {w w' : World} (h : Tab w) (hb : Below w.heap.size w w') : Tab w' := fun i hi => cell_later hb (h i hi)

def dig (x : Int) : Int := digitsTab.getD x.toNat 0
def hexl : List Int → List Int
  | [] => []
  | x :: xs => dig (x / 16) :: dig (x % 16) :: hexl xs

theorem hexl_length (xs : List Int) : (hexl xs).length = 2 * xs.length := by
  induction xs with
  | nil => rfl
  | cons x xs ih => simp [hexl, ih]; omega

theorem hexl_append (xs ys : List Int) : hexl (xs ++ ys) = hexl xs ++ hexl ys := by
  induction xs with
  | nil => rfl
  | cons x xs ih => simp [hexl, ih]

theorem dig_rng (x : Int) : 0 ≤ dig x ∧ dig x ≤ 255 := by
  unfold dig
  rcases Nat.lt_or_ge x.toNat 16 with h | h
  · have : ∀ i, i < 16 → 0 ≤ digitsTab.getD i 0 ∧ digitsTab.getD i 0 ≤ 255 := by decide
    exact this _ h
  · have : digitsTab.getD x.toNat 0 = 0 := by simp [List.getD, List.getElem?_eq_none (show digitsTab.length ≤ x.toNat by simpa [digitsTab] using h)]
    omega

theorem hexl_rng (xs : List Int) : ∀ y ∈ hexl xs, 0 ≤ y ∧ y ≤ 255 := by
  induction xs with
  | nil => intro y hy; simp [hexl] at hy
  | cons x xs ih =>
    intro y hy
    simp only [hexl, List.mem_cons] at hy
    rcases hy with rfl | rfl | hy
    · exact dig_rng _
    · exact dig_rng _
    · exact ih y hy

theorem u8_and15 (c : Int) (h0 : 0 ≤ c) (h1 : c ≤ 255) : bits .and .u8 c 15 = c % 16 := by
  rw [u8_and c 15 h0 (by omega) (by omega) (by omega)]
  have : c.toNat &&& (15 : Int).toNat = c.toNat % 16 := Nat.and_two_pow_sub_one_eq_mod c.toNat 4
  rw [this]; omega

/-- 'make([]byte, 0, N)'. -/
theorem law_make0 {w : World} {ops : Array Oper} {rest : List Oper} {o : Oper} {a : Act} {Q : Exit → Act → World → Prop} (hg : o.guard = none) (l c : Operand) (hop : o.op = Op.makeSlice 22 l c)
    (C : Int) (N : Nat) (hl : a.eval l = .int .i64 0) (hc : a.eval c = .int .i64 C) (hC : C = (N : Int)) (hbig : N ≤ 281474976710656)
    (hK : ∀ w', w'.ownsRow w.heap.size 5 1 (.slice (some ⟨w.heap.size, 0, none⟩) 0 N) 0 (u8s []) → Below w.heap.size w w' → wpList Tryd.prog ops Q rest (a.put o.dst (.slice (some ⟨w.heap.size, 0, none⟩) 0 N)) w') :
    wpList Tryd.prog ops Q (o :: rest) a w := by
  obtain ⟨i0, hi, hz0, hz1, hz2⟩ := info_parts Tryd.info5
  refine wpList_make_own w hg l c 22 hop w.heap.size 5 i0 (.int .u8 0) 1 Tryd.underlying22 hi hz0 hz1 .i64 .i64 C N hl hc hC (by rw [hz2]; omega) (by unfold maxLen; omega) (Nat.le_refl _) ?_
  intro w' h1 h2
  exact hK w' h1 ((Below.refl _ w).grown h2 (Nat.le_refl _) (by intro k hk; cases hk))

set_option maxHeartbeats 1000000 in
set_option maxRecDepth 100000 in
theorem hex_any (ao : Option Addr) (n c : Nat) (xs : List Int) (w : World) (hs : Shows w ao n xs) (hbig : n ≤ 70368744177600) (ht : Tab w) (h0 : 0 < w.heap.size) :
    Calls Tryd.prog 44 #[.slice ao n c] w fun e w' => e = .returned (.string (strOfNums (hexl xs))) ∧ Below w.heap.size w w' := by
  have HL : Hid (xs.length = n) := hs.len
  obtain ⟨i0, hi, hz0, hz1, hz2⟩ := info_parts Tryd.info5
  go_enter Tryd.func44, Tryd.ntmps44
  go_wp2_with (at_make; refine law_make0 rfl _ _ rfl _ (2 * n) rfl rfl (by omega) (by omega) ?_)
  intro w1 hown0 hb1
  go_wp2
  go_loopw [3, 12] (fun v i wr => ∃ k : Nat, k ≤ n ∧ i = .int .i64 k ∧ wr.ownsRow w.heap.size 5 1 v (2 * k) (u8s (hexl (xs.take k))) ∧ Below w.heap.size w wr) (fun _ i _ => n - (intOf i).toNat)
  case atStart => exact ⟨0, by omega, rfl, by simpa [hexl] using hown0, hb1⟩
  case round =>
    obtain ⟨k, hk, rfl, hown, hbr⟩ := hrel
    by_cases hlt : k < n
    · obtain ⟨ad, had⟩ : ∃ ad, ao = some ad := by
        cases ao with
        | none => have := hs.bare rfl; omega
        | some ad => exact ⟨ad, rfl⟩
      subst had
      have hcx : wr.cell? (ad.add k) = some (.int .u8 (xs.getD k 0)) := cell_later hbr (hs.cell ad rfl k hlt)
      obtain ⟨x, HX⟩ : ∃ x, Hid (x = xs.getD k 0) := ⟨xs.getD k 0, (rfl : _ = _)⟩
      rw [← HX.out] at hcx
      have hx : 0 ≤ x ∧ x ≤ 255 := by
        have := HL.out
        have e : xs.getD k 0 = xs[k]'(by omega) := by simp [List.getD, List.getElem?_eq_getElem (show k < xs.length by omega)]
        rw [HX.out, e]
        exact hs.rng _ (List.getElem_mem _)
      obtain ⟨hx0, hx1⟩ := hx
      obtain ⟨p, hp⟩ : ∃ p : Nat, x / 16 = p := ⟨(x / 16).toNat, by omega⟩
      obtain ⟨q, hq⟩ : ∃ q : Nat, x % 16 = q := ⟨(x % 16).toNat, by omega⟩
      have hp16 : (p : Int) < 16 := by omega
      have hq16 : (q : Int) < 16 := by omega
      have hand : bits .and .u8 x 15 = (q : Int) := (u8_and15 x hx0 hx1).trans hq
      have ht1 : wr.cell? ⟨0, p, none⟩ = some (.int .u8 (digitsTab.getD p 0)) := cell_later hbr (ht p (by omega))
      have ht2 : wr.cell? ⟨0, q, none⟩ = some (.int .u8 (digitsTab.getD q 0)) := cell_later hbr (ht q (by omega))
      obtain ⟨d1, HD1⟩ : ∃ d, Hid (d = digitsTab.getD p 0) := ⟨_, (rfl : _ = _)⟩
      obtain ⟨d2, HD2⟩ : ∃ d, Hid (d = digitsTab.getD q 0) := ⟨_, (rfl : _ = _)⟩
      rw [← HD1.out] at ht1
      rw [← HD2.out] at ht2
      have hne0 : some 0 ≠ u3.ownBlock := by
        intro e
        have := (hown.lt 0 e.symm).1
        omega
      have hwr0 : 0 < wr.heap.size := by have := hbr.size; omega
      go_wp2
      go_region_held3 (fun w' => w'.cell? ⟨0, p, none⟩ = some (.int .u8 d1) ∧ w'.cell? ⟨0, q, none⟩ = some (.int .u8 d2)) (first | go_keep | (go_split_ands; refine ⟨?_, ?_⟩ <;> (rw [hgrow.cell_far _ (by simp) hne0]; assumption))) ((refine step_append_lies _ (by rfl) _ _ 22 (by rfl) w.heap.size 5 i0 (.int .u8 0) 1 1 Tryd.underlying22 hi hz0 hz1 hz2 rfl (by decide) _ (2 * k) _ (by rfl) ((hown.drew).alloc _) ⟨wr.heap.size, 0, none⟩ 2 2 [.int .u8 d1, .int .u8 d2] (by rfl) rfl (World.news_of_block (heap_alloc_new _ _)) (by simp [Value.oneCell']) (by omega) (by unfold maxLen; omega) (by omega) (by have := hbr.size; simp; omega) _ rfl ?_; intro g cap w1 hown1 hgrow hat hlt1))
      go_wp2
      go_roundw
      case rel =>
        refine ⟨k + 1, by omega, by go_num, ?_, ?_⟩
        · have hxl := HL.out
          have e1 : xs.take (k + 1) = xs.take k ++ [x] := by
            rw [List.take_succ_eq_append_getElem (by omega), HX.out]
            simp [List.getD, List.getElem?_eq_getElem (show k < xs.length by omega)]
          have e2 : u8s (hexl (xs.take (k + 1))) = u8s (hexl (xs.take k)) ++ [Value.int .u8 d1, Value.int .u8 d2] := by
            rw [e1, hexl_append, u8s_append, HD1.out, HD2.out]
            simp [hexl, u8s, dig, hp, hq]
          rw [e2]
          exact hown1
        · exact ((hbr.alloc (by have := hbr.size; omega) _).drew).grown hgrow (by have := hbr.size; simp; omega) (fun b hb => (hown.lt b hb).1)
      case measure => simp [intOf]; omega
    · have hkn : k = n := by omega
      subst hkn
      have hxl := HL.out
      rw [List.take_of_length_le (by omega)] at hown
      obtain ⟨ao', c', hv, hsh, _⟩ := shows_of_own hown (hexl_rng xs)
      subst hv
      have k1 := run_string_of ao' (2 * k) c' (hexl xs) wr hsh
      clear hxl
      go_wp2
      go_ret
      exact ⟨rfl, hbr⟩

end Go.Proofs.YtineieoghlbchaaDoor
