/- Opening: what it answers to all bytes. -/
import Derived.Test.YtjhkicfndbceoaaOpen
namespace Go.Proofs.Ytjhkicfndbceoaa
open Go.RowKit

/-- Is the tag right? -/
def rightM (key nonce ad sl : List B) (m : Nat) : Bool := decide (qb (sl.drop m) = tagM key nonce ad (sl.take m))

theorem open_any (key nonce ad sl : List B) (hk : key.length = 32) (hn : nonce.length = 12) (ao bo : Option Addr) (n m M c d : Nat) (w : World) (hM : M = m + 16) (hs : Shows w ao n (v8s ad)) (hx : Shows w bo M (v8s sl)) (hc : ao = none → c = 0) (hnc : n ≤ c) (hmd : M ≤ d) (hbn : n ≤ 65536) (hbm : m ≤ 65536) :
    Calls Try.prog 15 #[.agg (bys key).toArray, .agg (bys nonce).toArray, .slice ao n c, .slice bo M d] w fun e w' =>
      (if rightM key nonce ad sl m then ∃ g, e = .returned (.tuple #[.slice (some ⟨g, 0, none⟩) m m, .int .i64 0]) ∧ w.heap.size ≤ g ∧ Blk w' g 5 (bys (cov key nonce (sl.take m))) else e = .returned (.tuple #[.slice none 0 0, .int .i64 60])) ∧ Below w.heap.size w w' := by
  have hl : sl.length = M := by have := hx.len; rw [v8s_length] at this; exact this
  have hRK := ready_length key hk
  have hM1 := strm_length key nonce hk hn 1
  have htl : (sl.drop m).length = 16 := by simp; omega
  have htx : (sl.take m).length = m := by simp; omega
  cases bo with
  | none => have := hx.bare rfl; omega
  | some bd =>
    have h1 := hx.take (k := m) (by omega)
    rw [v8s_take] at h1
    have h2 := hx.drop (k := m) (c := d) (by omega) hmd
    have hfr : fromAt (some bd) d m = some (bd.add m) := by unfold fromAt; rw [if_neg (by omega)]; rfl
    rw [hfr, v8s_drop, show M - m = 16 by omega] at h2
    refine open_walk key nonce ad (sl.take m) (sl.drop m) (ready key) (strm key nonce 1) (cov key nonce (sl.take m)) (tagM key nonce ad (sl.take m)) (qb (sl.drop m)) (rightM key nonce ad sl m) hk hn hRK hM1 htl ao (some bd) n m M c d (bd.add m) w (by rw [cov_length, htx]) hM hs h1 h2 hfr hbn hbm hmd
      (expand_any key hk) (ofB_of _ htl) (same_el _ _) ?_ ?_ ?_
    · intro kg ng cg W hW
      have := next_any (ready key) nonce hRK hn 0 (by omega) kg ng cg W hW
      rw [Nat.zero_add] at this
      exact this
    · intro kg ng cg W h1 h2 h3
      exact (covered_any key nonce (sl.take m) hk hn kg ng cg (some bd) m d W h1 (by omega) h2 h3).mono (fun e w' h => ⟨h.1, h.2.1, h.2.2.2⟩)
    · intro W h1 h2
      have := tagOf_any (ready key) (strm key nonce 1) ad (sl.take m) hRK hM1 ao (some bd) n m c d W h1 h2 hc (fun e => (by cases e)) hnc (by omega) (by omega) (by omega)
      unfold tagM hkey
      exact this

theorem open_good (key nonce ad sl : List B) (hk : key.length = 32) (hn : nonce.length = 12) (ao bo : Option Addr) (n m M c d : Nat) (w : World) (hM : M = m + 16) (hs : Shows w ao n (v8s ad)) (hx : Shows w bo M (v8s sl)) (hc : ao = none → c = 0) (hnc : n ≤ c) (hmd : M ≤ d) (hbn : n ≤ 65536) (hbm : m ≤ 65536) (hr : rightM key nonce ad sl m = true) :
    Calls Try.prog 15 #[.agg (bys key).toArray, .agg (bys nonce).toArray, .slice ao n c, .slice bo M d] w fun e w' =>
      ∃ g, e = .returned (.tuple #[.slice (some ⟨g, 0, none⟩) m m, .int .i64 0]) ∧ w'.ownsRow w.heap.size 5 1 (.slice (some ⟨g, 0, none⟩) m m) m (u8s (v8s (cov key nonce (sl.take m)))) ∧ Below w.heap.size w w' := by
  have hl : sl.length = M := by have := hx.len; rw [v8s_length] at this; exact this
  refine (open_any key nonce ad sl hk hn ao bo n m M c d w hM hs hx hc hnc hmd hbn hbm).mono (fun e w' h => ?_)
  rw [if_pos hr] at h
  obtain ⟨⟨g, he, hg, hb⟩, hbl⟩ := h
  exact ⟨g, he, own_blk hb (by rw [cov_length]; simp; omega) hg (by omega), hbl⟩

theorem open_bad (key nonce ad sl : List B) (hk : key.length = 32) (hn : nonce.length = 12) (ao bo : Option Addr) (n m M c d : Nat) (w : World) (hM : M = m + 16) (hs : Shows w ao n (v8s ad)) (hx : Shows w bo M (v8s sl)) (hc : ao = none → c = 0) (hnc : n ≤ c) (hmd : M ≤ d) (hbn : n ≤ 65536) (hbm : m ≤ 65536) (hr : rightM key nonce ad sl m = false) :
    Calls Try.prog 15 #[.agg (bys key).toArray, .agg (bys nonce).toArray, .slice ao n c, .slice bo M d] w fun e w' => e = .returned (.tuple #[.slice none 0 0, .int .i64 60]) ∧ Below w.heap.size w w' := by
  refine (open_any key nonce ad sl hk hn ao bo n m M c d w hM hs hx hc hnc hmd hbn hbm).mono (fun e w' h => ?_)
  rw [hr] at h
  exact h

set_option maxHeartbeats 1000000 in
set_option maxRecDepth 100000 in
theorem open_short (key nonce : List B) (ao bo : Option Addr) (n M c d : Nat) (w : World) (h : M < 16) :
    Calls Try.prog 15 #[.agg (bys key).toArray, .agg (bys nonce).toArray, .slice ao n c, .slice bo M d] w fun e w' => e = .returned (.tuple #[.slice none 0 0, .int .i64 10]) ∧ Below w.heap.size w w' := by
  obtain ⟨h1, h2, h3⟩ := blk2 w 22 23 (bys key) (bys nonce)
  have hI : (M : Int) < 16 := by omega
  go_enter Try.func15, Try.ntmps15
  go_wp2
  go_ret2
  exact ⟨rfl, h3⟩
set_option maxHeartbeats 1000000 in
set_option maxRecDepth 100000 in
theorem open_long (key nonce : List B) (ao bo : Option Addr) (n M c d : Nat) (w : World) (h16 : 16 ≤ M) (h : 65536 < n ∨ 65552 < M) :
    Calls Try.prog 15 #[.agg (bys key).toArray, .agg (bys nonce).toArray, .slice ao n c, .slice bo M d] w fun e w' => e = .returned (.tuple #[.slice none 0 0, .int .i64 3]) ∧ Below w.heap.size w w' := by
  obtain ⟨h1, h2, h3⟩ := blk2 w 22 23 (bys key) (bys nonce)
  have hI : ¬ (M : Int) < 16 := by omega
  by_cases hn : 65536 < n
  · have hnI : (n : Int) > 65536 := by omega
    go_enter Try.func15, Try.ntmps15
    go_wp2
    go_ret2
    exact ⟨rfl, h3⟩
  · have hnI : ¬ ((n : Int) > 65536) := by omega
    have hmI : (M : Int) > 65552 := by omega
    go_enter Try.func15, Try.ntmps15
    go_wp2
    go_ret2
    exact ⟨rfl, h3⟩
/-- What is sealed has the right tag. -/
theorem right_seal (key nonce ad p : List B) : rightM key nonce ad (sealM key nonce ad p) p.length = true := by
  have hl := cov_length key nonce p
  have e1 : (sealM key nonce ad p).drop p.length = bq (tagM key nonce ad (cov key nonce p)) := by
    unfold sealM
    rw [List.drop_append_of_le_length (by omega), List.drop_eq_nil_of_le (by omega), List.nil_append]
  have e2 : (sealM key nonce ad p).take p.length = cov key nonce p := by
    unfold sealM
    rw [List.take_append_of_le_length (by omega), List.take_of_length_le (by omega)]
  unfold rightM
  rw [e1, e2, qb_bq]
  exact decide_eq_true rfl
theorem seal_text (key nonce ad p : List B) : (sealM key nonce ad p).take p.length = cov key nonce p := by
  have hl := cov_length key nonce p
  unfold sealM
  rw [List.take_append_of_le_length (by omega), List.take_of_length_le (by omega)]
theorem seal_tag (key nonce ad p : List B) : (sealM key nonce ad p).drop p.length = bq (tagM key nonce ad (cov key nonce p)) := by
  have hl := cov_length key nonce p
  unfold sealM
  rw [List.drop_append_of_le_length (by omega), List.drop_eq_nil_of_le (by omega), List.nil_append]
end Go.Proofs.Ytjhkicfndbceoaa
