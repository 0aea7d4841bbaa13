/- Numbers put into bytes and read out of them. -/
import Derived.Test.YtndfhmlcfaaaiaaDoorAry
namespace Go.Proofs.YtndfhmlcfaaaiaaDoor
open Go.RowKit

theorem shows_none (w : World) : Shows w none 0 [] := ⟨rfl, fun _ => rfl, fun ad h => (by cases h), fun x hx => (by cases hx)⟩
theorem shows_of_own' {w : World} {base : Nat} {v : Value} {n : Nat} {bs : List B} (hn : 0 < n) (h : w.ownsRow base 5 1 v n (u8s (v8s bs))) :
    ∃ ad c, v = .slice (some ad) n c ∧ Shows w (some ad) n (v8s bs) := by
  obtain ⟨ao, c, rfl, hs, _⟩ := shows_of_own h (v8s_rng bs)
  cases ao with
  | none => have := hs.bare rfl; omega
  | some ad => exact ⟨ad, c, rfl, hs⟩
theorem put64_nil (n : Nat) (hn : n < 18446744073709551616) (w : World) :
    Calls Tryd.prog 83 #[.slice none 0 0, .int .u64 (n : Int)] w fun e w' => ∃ ad c, e = .returned (.slice (some ad) 8 c) ∧ Shows w' (some ad) 8 (v8s (beb 8 n)) ∧ Below w.heap.size w w' :=
  (Put64_any none 0 0 [] n w (shows_none w) (by omega) (by omega) (by omega)).mono fun e w' ⟨u, he, hown, hb⟩ => by
    rw [List.nil_append, be_v8s] at hown
    obtain ⟨ad, c, rfl, hs⟩ := shows_of_own' (by omega) hown
    exact ⟨ad, c, he, hs, hb⟩
theorem put32_nil (n : Nat) (hn : n < 4294967296) (w : World) :
    Calls Tryd.prog 79 #[.slice none 0 0, .int .u32 (n : Int)] w fun e w' => ∃ ad c, e = .returned (.slice (some ad) 4 c) ∧ Shows w' (some ad) 4 (v8s (beb 4 n)) ∧ Below w.heap.size w w' :=
  (Put32_any none 0 0 [] n w (shows_none w) (by omega) (by omega) (by omega)).mono fun e w' ⟨u, he, hown, hb⟩ => by
    rw [List.nil_append, be_v8s] at hown
    obtain ⟨ad, c, rfl, hs⟩ := shows_of_own' (by omega) hown
    exact ⟨ad, c, he, hs, hb⟩
theorem put32_on (n : Nat) (hn : n < 4294967296) (ad : Addr) (m c : Nat) (bs : List B) (hm : m ≤ 1000) (w : World) (hs : Shows w (some ad) m (v8s bs)) :
    Calls Tryd.prog 79 #[.slice (some ad) m c, .int .u32 (n : Int)] w fun e w' => ∃ ad c, e = .returned (.slice (some ad) (m + 4) c) ∧ Shows w' (some ad) (m + 4) (v8s (bs ++ beb 4 n)) ∧ Below w.heap.size w w' :=
  (Put32_any (some ad) m c (v8s bs) n w hs (by omega) (by omega) (by omega)).mono fun e w' ⟨u, he, hown, hb⟩ => by
    rw [be_v8s, ← v8s_append] at hown
    obtain ⟨ad, c, rfl, hs⟩ := shows_of_own' (by omega) hown
    exact ⟨ad, c, he, hs, hb⟩
theorem Rd.k_of {r : Nat} {ao : Option Addr} {n c : Nat} {bs : List B} {w : World} (h : Rd w r ao n c (v8s bs) 0) {k : Nat} (hn : k ≤ n) :
    Shows (w.setCell ⟨r, 0, none⟩ (.slice (fromAt ao c k) (n - k) (c - k))) ao k (v8s (bs.take k)) := by
  have := (h.sh.take hn).beside (a := ⟨r, 0, none⟩) (fun ad e => h.apart ad e) (.slice (fromAt ao c k) (n - k) (c - k))
  rwa [show (v8s bs).take k = v8s (bs.take k) by simp [v8s]] at this
theorem Rd.rest_of {r : Nat} {ao : Option Addr} {n c : Nat} {bs : List B} {w : World} (h : Rd w r ao n c (v8s bs) 0) {k : Nat} (hn : k ≤ n) :
    Rd (w.setCell ⟨r, 0, none⟩ (.slice (fromAt ao c k) (n - k) (c - k))) r (fromAt ao c k) (n - k) (c - k) (v8s (bs.drop k)) 0 := by
  have := h.took hn
  rwa [show (v8s bs).drop k = v8s (bs.drop k) by simp [v8s]] at this
/-- Four bytes are read. -/
theorem read32 (r : Nat) (ao : Option Addr) (n c : Nat) (bs : List B) (w : World) (h : Rd w r ao n c (v8s bs) 0) (hn : 4 ≤ n) :
    Calls Tryd.prog 72 #[.pointer (some ⟨r, 0, none⟩)] w fun x w' => x = .returned (.int .u32 ((nub (bs.take 4) : Nat) : Int)) ∧ (∃ ao' c', Rd w' r ao' (n - 4) c' (v8s (bs.drop 4)) 0) ∧ Fr (fun k => k = r) w w' := by
  have hl := h.sh.len
  rw [v8s_length] at hl
  have hlt := nub_lt (bs.take 4)
  rw [List.length_take, Nat.min_eq_left (by omega)] at hlt
  have h1 := number_of_some (.pointer (some ⟨r, 0, none⟩)) 4 (by omega) ao c (v8s (bs.take 4)) w _ (h.k_of hn) (take_ok r ao n c (v8s bs) 4 w h hn)
  rw [beval_v8s] at h1
  refine (u32_of _ _ (by omega) (by omega) _ _ h1).mono fun x w' ⟨hx, hw⟩ => ?_
  subst hw
  exact ⟨hx, ⟨_, _, h.rest_of hn⟩, (Fr.refl _ _).setCell _ _ (.inl rfl)⟩
/-- Eight bytes are read. -/
theorem read64 (r : Nat) (ao : Option Addr) (n c : Nat) (bs : List B) (w : World) (h : Rd w r ao n c (v8s bs) 0) (hn : 8 ≤ n) :
    Calls Tryd.prog 78 #[.pointer (some ⟨r, 0, none⟩)] w fun x w' => x = .returned (.int .u64 ((nub (bs.take 8) : Nat) : Int)) ∧ Fr (fun k => k = r) w w' := by
  have hl := h.sh.len
  rw [v8s_length] at hl
  have h1 := number_of_some (.pointer (some ⟨r, 0, none⟩)) 8 (by omega) ao c (v8s (bs.take 8)) w _ (h.k_of hn) (take_ok r ao n c (v8s bs) 8 w h hn)
  rw [beval_v8s] at h1
  refine (u64_of _ _ _ _ h1).mono fun x w' ⟨hx, hw⟩ => ?_
  subst hw
  exact ⟨hx, (Fr.refl _ _).setCell _ _ (.inl rfl)⟩
theorem below_fr {w w1 w2 : World} {r : Nat} (hb : Below w.heap.size w w1) (hr : w.heap.size ≤ r) (hf : Fr (fun k => k = r) w1 w2) : Below w.heap.size w w2 :=
  hb.trans (hf.below (fun k e => by omega) hb.size)
set_option maxRecDepth 100000 in
set_option maxHeartbeats 1000000 in
theorem genIn_any (s : Sec) (w : World) : Calls Tryd.prog 58 #[.agg (sb s).toArray] w fun e w' => e = .returned (.int .u64 ((gin s : Nat) : Int)) ∧ Below w.heap.size w w' := by
  have hA := Blk.new w 64 (sb s)
  have hB := (Below.refl w.heap.size w).alloc (Nat.le_refl _) (.cells (sb s).toArray 64)
  have hs := hA.shows 8 8 (by rw [s.h]; omega)
  have hp := fun W => part64 W w.heap.size 8 16 (by omega) (by omega) (by omega)
  go_enter Tryd.func58, Tryd.ntmps58
  go_wp2_with (first
    | (go_at_call 71; refine (read_any _ _ _ _ _ hs (by omega)).mono ?_; rintro e w1 ⟨r, ao, c, rfl, hR, hb1, hr1, -, -⟩)
    | (go_at_call 78; refine (read64 r ao 8 c _ _ hR (by omega)).mono ?_; rintro e w2 ⟨rfl, hf⟩))
  go_ret
  refine ⟨?_, hB.trans (below_fr hb1 hr1 hf |>.mono (by simp))⟩
  rw [gin, List.take_of_length_le (by rw [seg_length _ _ _ (by rw [s.h]; omega)]; omega)]
  rfl
set_option maxRecDepth 100000 in
set_option maxHeartbeats 1000000 in
theorem idxIn_any (s : Sec) (w : World) : Calls Tryd.prog 74 #[.agg (sb s).toArray] w fun e w' => e = .returned (.int .u32 ((xin s : Nat) : Int)) ∧ Below w.heap.size w w' := by
  have hA := Blk.new w 64 (sb s)
  have hB := (Below.refl w.heap.size w).alloc (Nat.le_refl _) (.cells (sb s).toArray 64)
  have hs := hA.shows 24 4 (by rw [s.h]; omega)
  have hp := fun W => part64 W w.heap.size 24 28 (by omega) (by omega) (by omega)
  go_enter Tryd.func74, Tryd.ntmps74
  go_wp2_with (first
    | (go_at_call 71; refine (read_any _ _ _ _ _ hs (by omega)).mono ?_; rintro e w1 ⟨r, ao, c, rfl, hR, hb1, hr1, -, -⟩)
    | (go_at_call 72; refine (read32 r ao 4 c _ _ hR (by omega)).mono ?_; rintro e w2 ⟨rfl, -, hf⟩))
  go_ret
  refine ⟨?_, hB.trans (below_fr hb1 hr1 hf |>.mono (by simp))⟩
  rw [xin, List.take_of_length_le (by rw [seg_length _ _ _ (by rw [s.h]; omega)]; omega)]
  rfl
end Go.Proofs.YtndfhmlcfaaaiaaDoor
