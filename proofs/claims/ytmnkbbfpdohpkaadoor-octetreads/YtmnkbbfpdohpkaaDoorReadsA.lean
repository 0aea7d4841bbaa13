/- OctetReads: readers of any two lists of bytes, asked in turns. -/
import Derived.Test.YtmnkbbfpdohpkaaDoorAskH
import Derived.Test.YtmnkbbfpdohpkaaDoorRoom
namespace Go.Proofs.YtmnkbbfpdohpkaaDoor
open Go.RowKit

theorem rd_ne_own {w : World} {base : Nat} {sz : Nat} {v : Value} {n : Nat} {xs : List Value} {r : Nat} {ao : Option Addr} {m c : Nat} {ys : List Int} {er : Int} (h : w.ownsRow base 5 sz v n xs) (hr : Rd w r ao m c ys er) {g : Nat} (hg : v.ownBlock = some g) : r ≠ g := by
  rcases h.2 with ⟨rfl, _⟩ | ⟨g', cap, cur, rfl, _, hh, _⟩
  · simp [Value.ownBlock] at hg
  · simp only [Value.ownBlock, Option.some.injEq] at hg
    subst hg
    intro e
    subst e
    have := hr.blk
    rw [hh] at this
    simp at this

theorem own_laterR {w w' : World} {base : Nat} {e : TypeId} {sz : Nat} {v : Value} {n : Nat} {xs : List Value} (h : w.ownsRow base e sz v n xs) (hb : Below w.heap.size w w') : w'.ownsRow base e sz v n xs := by
  obtain ⟨h1, h2⟩ := h
  refine ⟨h1, ?_⟩
  rcases h2 with h2 | ⟨g, cap, cur, hv, hg, hh, r⟩
  · exact Or.inl h2
  · exact Or.inr ⟨g, cap, cur, hv, hg, (hb.block g (lt_of_block hh)).trans hh, r⟩

set_option maxHeartbeats 2000000 in
set_option maxRecDepth 100000 in
theorem reads_walk (ao co io : Option Addr) (n m N c d ic : Nat) (xb xc : List Int) (l : List (Int × Int)) (w : World) (hsb : Shows w ao n xb) (hsc : Shows w co m xc) (hit : Asks w io N l) (hc : ao = none → c = 0) (hd : co = none → d = 0)
    (ht : Tab w) (h0 : 0 < w.heap.size) (hnm : (n : Int) + m ≤ 131072) (hN : (N : Int) ≤ 4096) :
    Calls Tryd.prog 6 #[.slice ao n c, .slice co m d, .slice io N ic] w fun e w' => e = .returned (.bool true) ∧ Below w.heap.size w w' := by
  have HN : Hid (l.length = N) := hit.len
  go_enter Tryd.func6, Tryd.ntmps6
  go_wp2_with (first
    | (go_at_call 10; go_must (refine (roomy_any ao n c xb w hsb hc (by omega)).mono ?_; rintro x w1 ⟨g, cap, rfl, hown1, hb1⟩; have hz1 := hb1.size; have hgl := hown1.lt g rfl; have hin1 := shows_first hown1 hsb.len (by omega) hsb.rng))
    | (go_at_call 25; go_must (refine (copyBytes_any co m d xc w2 (hsc.later hb2w) hd (by omega)).mono ?_; rintro x w3 ⟨v3, rfl, hown3, hb3⟩; have hz3 := hb3.size; obtain ⟨ao3, c3, hv3, hs3, hcap3, hmax3, hbare3, hblk3⟩ := own_shape hown3 hsc.rng; subst hv3))
    | (go_at_call 18; go_must (refine (kept_any g n cap w.heap.size c ao xb w4 (own_laterR hown1 hb14) (hsb.later hb4w) (by omega)).mono ?_; rintro x w' ⟨rfl, rfl⟩))
    | (go_at_call 30; first
        | (refine (read_any _ n cap xb w1 hin1 (by omega)).mono ?_; rintro x w2 ⟨r, ao2, c2, rfl, hr2, hb2, hr2a, hr2b, hblk2⟩; have hz2 := hb2.size; have hb2w : Below w.heap.size w w2 := hb1.trans (hb2.mono hz1))
        | (refine (read_any ao3 m c3 xc w3 hs3 (by omega)).mono ?_; rintro x w4 ⟨s, ao4, c4, rfl, hs4, hb4, hs4a, hs4b, hblk4⟩; have hz4 := hb4.size; have hb24 : Below w2.heap.size w2 w4 := hb3.trans (hb4.mono hz3); have hb14 : Below w1.heap.size w1 w4 := hb2.trans (hb24.mono hz2); have hb4w : Below w.heap.size w w4 := hb1.trans (hb14.mono hz1); have hr4 := hr2.later hb24)))
  have hown4 := own_laterR hown1 hb14
  have hrg := rd_ne_own hown4 hr4 (g := g) rfl
  have hsg := rd_ne_own hown4 hs4 (g := g) rfl
  have hrs : s ≠ r := by omega
  have hbr2 : ∀ ad, ao2 = some ad → ad.block ≠ g := fun ad had => by have := (hblk2 ad had).1; omega
  have hbs4 : ∀ ad, ao4 = some ad → ad.block ≠ g := fun ad had => by have := (hblk4 ad had).1; omega
  have hgB : w.heap.size ≤ g := hgl.1
  have hrB : w.heap.size ≤ r := by omega
  have hsB : w.heap.size ≤ s := by omega
  have hz4w := hb4w.size
  have HZR : Hid (∀ x ∈ xb ++ marks, 0 ≤ x ∧ x ≤ 255) := fun x hx => by
    rcases List.mem_append.1 hx with h | h
    · exact hsb.rng x h
    · exact marks_rng x h
  clear hown1 hin1 hb1 hb2 hb3 hb4 hb14 hb24 hown3 hs3 hblk2 hblk3 hblk4 hr2 hb2w
  go_loopw [10] (fun i wr => ∃ i2 : Nat, i2 ≤ n ∧ i = .int .i64 i2 ∧ (∃ zs : List Int, wr.ownsRow w.heap.size 5 1 (.slice (some ⟨g, 0, none⟩) (n + 7) cap) (n + 7) (u8s zs) ∧ ∀ x ∈ zs, 0 ≤ x ∧ x ≤ 255) ∧ Only g w4 wr) (fun i _ => n - (intOf i).toNat)
  case atStart => exact ⟨0, by omega, rfl, ⟨_, hown4, HZR.out⟩, Only.refl _ _⟩
  case round =>
    obtain ⟨i2, hi2, rfl, ⟨zs, hz, hzr⟩, hog⟩ := hrel
    by_cases hlt : i2 < n
    · have hzl : zs.length = n + 7 := by have := hz.1; simpa [u8s_length] using this
      obtain ⟨x, hx⟩ : ∃ x, zs[i2]? = some x := ⟨zs[i2]'(by omega), List.getElem?_eq_getElem (by omega)⟩
      have hxm := hzr x (List.mem_of_getElem? hx)
      have k0 : wr.cell? ⟨g, i2, none⟩ = some (.int .u8 x) := by rw [hz.cellAt i2 (by omega)]; simp [u8s, hx]
      have kf := hz.frozenAt i2
      have HST : Hid _ := hz.stored i2 (.int .u8 (255 - x))
      obtain ⟨hx0, hx1⟩ := hxm
      clear hx hzl
      go_wp2
      go_roundw
      case rel =>
        refine ⟨i2 + 1, by omega, by go_num, ⟨zs.set i2 (255 - x), ?_, rng_set hzr i2 _ (by omega)⟩, hog.trans (Only.set g i2 _ _)⟩
        have := HST.out.1
        rw [show (u8s zs).set i2 (.int .u8 (255 - x)) = u8s (zs.set i2 (255 - x)) by simp [u8s]] at this
        exact this
      case measure => simp [intOf]; omega
    · have hzw := hog.size
      have hbw : Below w.heap.size w wr := hog.below hb4w hgB hz4w
      have hr5 := hr4.only hog hrg hbr2
      have hs5 := hs4.only hog hsg hbs4
      clear hr4 hs4 hown4 hz hog hbr2 hbs4
      go_wp2_with (first
        | (go_at_call 31; first
            | (refine (rread_any ao n c xb wr (hsb.later hbw) hc (by omega)).mono ?_; rintro x w5 ⟨q1, bo1, bc1, rfl, hq5, hb5, hq5a, hq5b⟩; have hz5 := hb5.size; have hr6 := hr5.later hb5; have hs6 := hs5.later hb5; have hb5w : Below w.heap.size w w5 := hbw.trans (hb5.mono hbw.size))
            | (refine (rread_any co m d xc w5 (hsc.later hb5w) hd (by omega)).mono ?_; rintro x w6 ⟨q2, bo2, bc2, rfl, hq6, hb6, hq6a, hq6b⟩; have hz6 := hb6.size; have hr7 := hr6.later hb6; have hs7 := hs6.later hb6; have hq7 := hq5.later hb6; have hb6w : Below w.heap.size w w6 := hb5w.trans (hb6.mono hb5w.size))))
      have hA1 : Alike2 w6 r q1 bo1 n bc1 xb := ⟨_, _, _, 0, 0, by simpa using hr7, by simpa using hq7, by omega⟩
      have hA2 : Alike2 w6 s q2 bo2 m bc2 xc := ⟨_, _, _, 0, 0, by simpa using hs7, by simpa using hq6, by omega⟩
      have hqq : q2 ≠ q1 := by omega
      have hq1B : w.heap.size ≤ q1 := by have := hbw.size; omega
      have hq2B : w.heap.size ≤ q2 := by have := hb5w.size; omega
      clear hr5 hs5 hr6 hs6 hr7 hs7 hq5 hq7 hq6 hb5 hb6 hbw hb5w
      go_loopw [13] (fun i wr => ∃ i2 : Nat, i2 ≤ N ∧ i = .int .i64 i2 ∧ Alike2 wr r q1 bo1 n bc1 xb ∧ Alike2 wr s q2 bo2 m bc2 xc ∧ Below w.heap.size w wr) (fun i _ => N - (intOf i).toNat)
      case atStart => exact ⟨0, by omega, rfl, hA1, hA2, hb6w⟩
      case round =>
        obtain ⟨i3, hi3, rfl, hB1, hB2, hbr⟩ := hrel
        by_cases hlt3 : i3 < N
        · obtain ⟨ad, had⟩ : ∃ ad, io = some ad := by
            cases io with
            | none => have := hit.bare rfl; omega
            | some ad => exact ⟨ad, rfl⟩
          subst had
          have hjl : i3 < l.length := by have := HN.out; omega
          obtain ⟨g0, g1⟩ := hit.cell ad rfl i3 hjl
          have k0 : ∀ W, Below w.heap.size w W → W.cell? (ad.add (i3 * 2)) = some (.int .i64 l[i3].1) := fun W hW => cell_later hW g0
          have k1 : ∀ W, Below w.heap.size w W → W.cell? ⟨(ad.add (i3 * 2)).block, (ad.add (i3 * 2)).off + 1, none⟩ = some (.int .i64 l[i3].2) := fun W hW => cell_later hW g1
          generalize l[i3].1 = x1 at *
          generalize l[i3].2 = x2 at *
          have m0 := k0 _ hbr
          have m1 := k1 _ hbr
          have hzr3 := hbr.size
          clear g0 g1 hjl hA1 hA2 hb6w
          go_wp2_with fail
          refine (asked_any r q1 bo1 n bc1 xb x1 x2 _ hB1 (by omega)).mono ?_
          rintro x w7 ⟨rfl, hC1, hT1⟩
          have hC2 := hB2.two hB1 hT1 hrs hqq
          have hb7 : Below w.heap.size w w7 := hT1.below hbr hrB hq1B hzr3
          have p0 := k0 _ hb7
          have p1 := k1 _ hb7
          have hz7 := hb7.size
          go_wp2_with fail
          refine (asked_any s q2 bo2 m bc2 xc x1 x2 _ hC2 (by omega)).mono ?_
          rintro x w8 ⟨rfl, hD2, hT2⟩
          have hD1 := hC1.two hC2 hT2 (Ne.symm hrs) (Ne.symm hqq)
          have hb8 : Below w.heap.size w w8 := hT2.below hb7 hsB hq2B hz7
          go_wp2
          go_roundw
          case rel => exact ⟨i3 + 1, by omega, by go_num, hD1, hD2, hb8⟩
          case measure => simp [intOf]; omega
        · go_wp2_with (go_at_call 9; go_must (refine (works_any _ (ht.later hbr) (by have := hbr.size; omega)).mono ?_; rintro x w9 ⟨rfl, hb9⟩))
          go_ret
          exact ⟨rfl, hbr.trans (hb9.mono hbr.size)⟩

end Go.Proofs.YtmnkbbfpdohpkaaDoor
