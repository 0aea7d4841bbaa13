/- Shares put together, by the program. -/
import Derived.Test.YtineieoghlbchaaDoorPts
import Derived.Test.YtineieoghlbchaaDoorLong
import Derived.Test.YtineieoghlbchaaDoorAtZ
import Derived.Test.YtineieoghlbchaaDoorUnhex
namespace Go.Proofs.YtineieoghlbchaaDoor
open Go.RowKit

theorem v8s_rng (l : List B) : ∀ x ∈ l.map v8, 0 ≤ x ∧ x ≤ 255 := by
  intro x hx
  obtain ⟨b, _, rfl⟩ := List.mem_map.1 hx
  exact ⟨v8_nn b, v8_le b⟩
theorem RowIs.later {w w' : World} {g : Nat} {xs : List Int} (h : RowIs w g xs) (hb : Below w.heap.size w w') : RowIs w' g xs := (hb.block g (lt_of_block h)).trans h

/-- The byte number j that shares come to. -/
def atJ (L : List Sh) (j : Nat) : B := atZ (L.map Sh.x) (L.map (fun s => s.ys.getD j 0#8))

theorem comb_arg (ao : Option Addr) (n c : Nat) (w : World) (hn : n = 0 ∨ (16 : Int) < n) :
    Calls Tryd.prog 18 #[.slice ao n c] w fun e w' => e = .returned (.tuple #[.slice none 0 0, .int .i64 2]) ∧ Below w.heap.size w w' := by
  rcases hn with rfl | hn
  · go_enter Tryd.func18, Tryd.ntmps18
    go_wp2
    go_ret2
    exact ⟨rfl, Below.refl _ _⟩
  · have h0 : ((n : Int) == 0) = false := by simp; omega
    have h1 : ¬ (n : Int) = 0 := by omega
    go_enter Tryd.func18, Tryd.ntmps18
    go_wp2
    go_ret2
    exact ⟨rfl, Below.refl _ _⟩

set_option maxRecDepth 100000 in
theorem comb_long (ao : Option Addr) (n c : Nat) (L : List Sh) (w : World) (hs : Shs w ao n L) (h0 : 0 < n) (hn : (n : Int) ≤ 16) (hl : anyLong L = true) :
    Calls Tryd.prog 18 #[.slice ao n c] w fun e w' => e = .returned (.tuple #[.slice none 0 0, .int .i64 3]) ∧ Below w.heap.size w w' := by
  have h1 : ((n : Int) == 0) = false := by simp; omega
  have h2 : ¬ (n : Int) = 0 := by omega
  have hc := containsLong_any ao n c L w hs (by omega)
  rw [hl] at hc
  go_enter Tryd.func18, Tryd.ntmps18
  go_wp2_with (go_at_call 37; refine hc.mono ?_; rintro e w1 ⟨rfl, hb⟩)
  go_ret2
  exact ⟨rfl, hb⟩

set_option maxRecDepth 100000 in
set_option maxHeartbeats 1000000 in
theorem comb_bad (ad : Addr) (n c : Nat) (L : List Sh) (s0 : Sh) (w : World) (hs : Shs w (some ad) n L) (h0 : L[0]? = some s0) (hn : (n : Int) ≤ 16) (hl : anyLong L = false) (hbad : ¬ (Good (L.map Sh.x) ∧ sameB s0.n L = true)) :
    Calls Tryd.prog 18 #[.slice (some ad) n c] w fun e w' => e = .returned (.tuple #[.slice none 0 0, .int .i64 40]) ∧ Below w.heap.size w w' := by
  have hn0 : 0 < n := by
    have := (List.getElem?_eq_some_iff.1 h0).1
    have := hs.len
    omega
  have h1 : ((n : Int) == 0) = false := by simp; omega
  have h2 : ¬ (n : Int) = 0 := by omega
  have hc := containsLong_any (some ad) n c L w hs (by omega)
  rw [hl] at hc
  have hdl := ded_good (L.map Sh.x)
  rw [List.length_map, hs.len] at hdl
  obtain ⟨d, ed⟩ : ∃ d, d = (ded (L.map Sh.x)).length := ⟨_, rfl⟩
  have hp := fun w1 (hb : Below w.heap.size w w1) => placesN_any (some ad) n c L w1 (hs.later hb) (by omega)
  have hz := fun w1 (hb : Below w.heap.size w w1) => sameSize_any ad n c L s0 w1 (hs.later hb) (by omega) h0
  rw [← ed] at hp hdl
  by_cases hG : Good (L.map Sh.x)
  · have hsb : sameB s0.n L = false := by
      cases h : sameB s0.n L
      · rfl
      · exact absurd ⟨hG, h⟩ hbad
    rw [hsb] at hz
    have hdn := hdl.2 hG
    clear hbad hdl ed hG hsb hs h0
    subst hdn
    go_enter Tryd.func18, Tryd.ntmps18
    go_wp2_with (first
      | (go_at_call 37; refine hc.mono ?_; rintro e w1 ⟨rfl, hb⟩)
      | (go_at_call 39; refine (hp _ hb).mono ?_; rintro e w2 ⟨rfl, hb2⟩; have hb' := hb.trans (hb2.mono hb.size))
      | (go_at_call 40; refine (hz _ hb').mono ?_; rintro e w3 ⟨rfl, hb3⟩))
    go_ret2
    exact ⟨rfl, hb'.trans (hb3.mono hb'.size)⟩
  · have hne : ¬ d = n := fun e => hG (hdl.1 e)
    have hne1 : ((d : Int) == (n : Int)) = false := by simp; omega
    have hne2 : ¬ (d : Int) = (n : Int) := by omega
    clear hbad hdl ed hG hs h0 hz
    go_enter Tryd.func18, Tryd.ntmps18
    go_wp2_with (first
      | (go_at_call 37; refine hc.mono ?_; rintro e w1 ⟨rfl, hb⟩)
      | (go_at_call 39; refine (hp _ hb).mono ?_; rintro e w2 ⟨rfl, hb2⟩))
    go_ret2
    exact ⟨rfl, hb.trans (hb2.mono hb.size)⟩

set_option maxRecDepth 100000 in
set_option maxHeartbeats 2000000 in
theorem comb_good (ad : Addr) (n c : Nat) (L : List Sh) (s0 : Sh) (w : World) (hs : Shs w (some ad) n L) (h0 : L[0]? = some s0) (hn : (n : Int) ≤ 16) (hl : anyLong L = false) (hG : Good (L.map Sh.x)) (hsb : sameB s0.n L = true) :
    Calls Tryd.prog 18 #[.slice (some ad) n c] w fun e w' => ∃ v, e = .returned (.tuple #[v, .int .i64 0]) ∧ Own5 w.heap.size w' v s0.n (((List.range s0.n).map (atJ L)).map v8) ∧ Below w.heap.size w w' := by
  have hn0 : 0 < n := by
    have := (List.getElem?_eq_some_iff.1 h0).1
    have := hs.len
    omega
  have h1 : ((n : Int) == 0) = false := by simp; omega
  have h2 : ¬ (n : Int) = 0 := by omega
  have hc := containsLong_any (some ad) n c L w hs (by omega)
  rw [hl] at hc
  have hdl := (ded_good (L.map Sh.x)).2 hG
  rw [List.length_map, hs.len] at hdl
  have hp := fun w1 (hb : Below w.heap.size w w1) => placesN_any (some ad) n c L w1 (hs.later hb) (by omega)
  have hz := fun w1 (hb : Below w.heap.size w w1) => sameSize_any ad n c L s0 w1 (hs.later hb) (by omega) h0
  rw [hsb] at hz
  rw [hdl] at hp
  have hm0 : (s0.n : Int) ≤ 1024 := by
    have := List.any_eq_false.1 hl s0 (List.mem_of_getElem? h0)
    simpa using this
  have hall : ∀ s ∈ L, s.n = s0.n := fun s hm => by
    have := List.all_eq_true.1 hsb s hm
    simpa using this
  have cy0 : ∀ w1, Below w.heap.size w w1 → w1.cell? ⟨ad.block, ad.off + 1, none⟩ = some (.slice s0.ao s0.n s0.c) := fun w1 hb => by
    have h := (hs.later hb).cy ad rfl 0 s0 h0
    simpa [Addr.add] using h
  obtain ⟨m, em⟩ : ∃ m, m = s0.n := ⟨_, rfl⟩
  rw [← em] at hm0 hall cy0
  rw [← em]
  obtain ⟨a0, ea⟩ : ∃ a0, a0 = s0.ao := ⟨_, rfl⟩
  obtain ⟨c0, ec⟩ : ∃ c0, c0 = s0.c := ⟨_, rfl⟩
  rw [← ea, ← ec] at cy0
  clear em ea ec hsb hdl hl h0
  obtain ⟨zs0, HZ0⟩ : ∃ zs : List Int, Hid (zs = List.replicate m 0) := ⟨List.replicate m 0, (rfl : _ = _)⟩
  go_enter Tryd.func18, Tryd.ntmps18
  go_wp2_with (first
    | (go_at_call 37; refine hc.mono ?_; rintro e w1 ⟨rfl, hb⟩)
    | (go_at_call 39; refine (hp _ hb).mono ?_; rintro e w2 ⟨rfl, hb2⟩; have hb' := hb.trans (hb2.mono hb.size))
    | (go_at_call 40; refine (hz _ hb').mono ?_; rintro e w3 ⟨rfl, hb3⟩; have hb'' := hb'.trans (hb3.mono hb'.size); have c3 := cy0 _ hb'')
    | (at_make; go_must (refine law_make rfl _ _ rfl _ _ m rfl rfl rfl rfl (by omega) zs0 HZ0 ?_)))
  intro w4 HR hb4 hlt4
  have hB4 : Below w.heap.size w w4 := hb''.trans (hb4.mono hb''.size)
  have hg : w.heap.size ≤ w3.heap.size := hb''.size
  obtain ⟨g, eg⟩ : ∃ g, g = w3.heap.size := ⟨_, rfl⟩
  rw [← eg] at HR hg ⊢
  clear hc hp hz hb hb2 hb' hb3 hb'' hb4 hlt4 c3 eg
  go_wp2
  go_loopw [36] (fun i wr => ∃ (k : Nat) (zs : List Int), k ≤ m ∧ i = .int .i64 k ∧ Hid (zs.length = m - k) ∧ RowIs wr g (((List.range k).map (atJ L)).map v8 ++ zs) ∧ Below w.heap.size w wr) (fun i _ => m - (intOf i).toNat)
  case atStart => exact ⟨0, zs0, by omega, rfl, by show _ = _; rw [HZ0.out]; simp, by simpa using HR, hB4⟩
  case round =>
    obtain ⟨k, zs, hk, rfl, HZ, HR2, hbr⟩ := hrel
    by_cases hkm : k < m
    · have hkm' : (k : Int) < (m : Int) := by omega
      have hpt := points_any ad n c k L wr (hs.later hbr) (by omega) (fun s hm => by rw [hall s hm]; exact hkm) (by omega)
      have HU : Hid ((((List.range k).map (atJ L)).map v8).length = k) := by show _ = _; simp
      have hfz : ∀ w', Below wr.heap.size wr w' → w'.frozen? ⟨g, k, none⟩ = false := fun w' hb => frozen_of_row _ _ _ _ _ (HR2.later hb)
      have hcv : ∀ w', Below wr.heap.size wr w' → ∃ cv, w'.cell? ⟨g, k, none⟩ = some cv := fun w' hb => by
        have h1 := cell_of_row w' g k _ 5 (0, 0) (HR2.later hb)
        have h3 : k < (u8s (((List.range k).map (atJ L)).map v8 ++ zs)).toArray.size := by
          have := HU.out; have := HZ.out
          simp [u8s_length]; omega
        exact ⟨_, h1.trans (Array.getElem?_eq_getElem h3)⟩
      have HR3 : Hid (∀ w', Below wr.heap.size wr w' → RowIs w' g (((List.range k).map (atJ L)).map v8 ++ zs)) := fun w' hb => HR2.later hb
      clear HR2
      go_wp2_with (first
        | (go_at_call 42; refine hpt.mono ?_; rintro e w5 ⟨v, u, rfl, hv, hu, hb5⟩; obtain ⟨ao5, c5, rfl, sv, -⟩ := own_shape hv (v8s_rng _); obtain ⟨bo5, d5, rfl, su, -⟩ := own_shape hu (v8s_rng _))
        | (go_at_call 41; refine (atz_good ao5 bo5 n c5 d5 _ _ w5 sv su (by omega) hn0 hG).mono ?_; rintro e w6 ⟨rfl, hb6⟩; have hb56 := hb5.trans (hb6.mono hb5.size); have f6 := hfz _ hb56; obtain ⟨cv, k6⟩ := hcv _ hb56))
      go_roundw
      case rel =>
        obtain ⟨zs', h1, h2⟩ := row_put (y := v8 (atJ L k)) HU.out (show zs.length = (m - k - 1) + 1 by have := HZ.out; omega) (HR3.out _ hb56)
        refine ⟨k + 1, zs', by omega, by go_num, by show _ = _; omega, ?_, (hbr.trans (hb56.mono hbr.size)).setCell hg _⟩
        have e : ((List.range (k + 1)).map (atJ L)).map v8 = ((List.range k).map (atJ L)).map v8 ++ [v8 (atJ L k)] := by
          rw [List.range_succ, List.map_append, List.map_append]; rfl
        rw [e]
        exact h2
      case measure => simp [intOf]; omega
    · have hkm2 : k = m := by omega
      subst hkm2
      have hzz : zs = [] := List.eq_nil_of_length_eq_zero (by have := HZ.out; omega)
      subst hzz
      go_wp2
      go_ret2
      rw [List.append_nil] at HR2
      exact ⟨_, rfl, ⟨own_of_heap HR2 (by simp) (by unfold maxLen; omega) hg⟩, hbr⟩
end Go.Proofs.YtineieoghlbchaaDoor
