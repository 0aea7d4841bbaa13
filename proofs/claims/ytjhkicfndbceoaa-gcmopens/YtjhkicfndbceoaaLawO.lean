import Derived.Test.YtjhkicfndbceoaaApartB
import Derived.Test.YtjhkicfndbceoaaLaw
import Derived.Test.YtjhkicfndbceoaaROpen
/- Rows that were made one behind the other share no memory. -/
namespace Go.Proofs.Ytjhkicfndbceoaa
open Go.RowKit

theorem ne_of_iv {a b : Option Nat} {l r l' r' : Nat} (ha : ∀ x, a = some x → l ≤ x ∧ x < r) (hb : ∀ x, b = some x → l' ≤ x ∧ x < r') (h : r ≤ l' ∨ r' ≤ l) : a = none ∨ a ≠ b := by
  cases a with
  | none => exact Or.inl rfl
  | some x =>
    right
    intro e
    have h1 := ha x rfl
    have h2 := hb x e.symm
    omega
theorem eqB_true (ao bo : Option Addr) (n m c d : Nat) (xs : List Int) (w : World) (hx : Shows w ao n xs) (hy : Shows w bo m xs) :
    Calls Try.prog 12 #[.slice ao n c, .slice bo m d] w fun e w' => e = .returned (.bool true) ∧ w' = w := by
  have := eqB_same ao bo n m c d xs xs w hx hy
  simpa using this
/-- [s, a, t, p]. -/
theorem apart_four (B : Nat) (a b c d : Value) (xa xb xc xd : List Int) (w : World) (s1 s2 s3 s4 : Nat)
    (ha : w.ownsRow s2 5 1 a xa.length (u8s xa)) (hb : w.ownsRow B 5 1 b xb.length (u8s xb)) (hc : w.ownsRow s3 5 1 c xc.length (u8s xc)) (hd : w.ownsRow s1 5 1 d xd.length (u8s xd))
    (la : ∀ x, a.ownBlock = some x → x < s3) (lb : ∀ x, b.ownBlock = some x → x < s1) (lc : ∀ x, c.ownBlock = some x → x < s4) (ld : ∀ x, d.ownBlock = some x → x < s2)
    (h0 : B ≤ s1) (h1 : s1 ≤ s2) (h2 : s2 ≤ s3) (h3 : s3 ≤ s4) (hz : s4 ≤ w.heap.size)
    (ra : (∀ x ∈ xa, 0 ≤ x ∧ x ≤ 255) ∧ xa.length ≤ 1000000) (rb : (∀ x ∈ xb, 0 ≤ x ∧ x ≤ 255) ∧ xb.length ≤ 1000000) (rc : (∀ x ∈ xc, 0 ≤ x ∧ x ≤ 255) ∧ xc.length ≤ 1000000) (rd : (∀ x ∈ xd, 0 ≤ x ∧ x ≤ 255) ∧ xd.length ≤ 1000000) :
    Calls Try.prog 14 #[.slice (some ⟨w.heap.size, 0, none⟩) 4 4] (w.alloc (.cells #[a, b, c, d] 24)) fun r w' => r = .returned (.bool true) ∧ Below B (w.alloc (.cells #[a, b, c, d] 24)) w' := by
  have five : ∀ i : Nat, i < 4 → i = 0 ∨ i = 1 ∨ i = 2 ∨ i = 3 := by omega
  have ia : ∀ x, a.ownBlock = some x → s2 ≤ x ∧ x < s3 := fun x hx => ⟨(ha.lt x hx).1, la x hx⟩
  have ib : ∀ x, b.ownBlock = some x → B ≤ x ∧ x < s1 := fun x hx => ⟨(hb.lt x hx).1, lb x hx⟩
  have ic : ∀ x, c.ownBlock = some x → s3 ≤ x ∧ x < s4 := fun x hx => ⟨(hc.lt x hx).1, lc x hx⟩
  have id : ∀ x, d.ownBlock = some x → s1 ≤ x ∧ x < s2 := fun x hx => ⟨(hd.lt x hx).1, ld x hx⟩
  refine apart_any B w.heap.size 4 4 (fun j => [a, b, c, d].getD j (.slice none 0 0)) (fun j => [xa, xb, xc, xd].getD j []) _ ?_ ?_ ?_
  · refine ⟨?_, ?_, by simp; omega, ?_, ?_, by decide⟩
    · intro i j hi hj hne
      rcases five i hi with rfl | rfl | rfl | rfl <;> rcases five j hj with rfl | rfl | rfl | rfl <;> first | (exact absurd rfl hne) | (simp only [List.getD_cons_zero, List.getD_cons_succ]; first | exact ne_of_iv ia ib (by omega) | exact ne_of_iv ia ic (by omega) | exact ne_of_iv ia id (by omega) | exact ne_of_iv ib ia (by omega) | exact ne_of_iv ib ic (by omega) | exact ne_of_iv ib id (by omega) | exact ne_of_iv ic ia (by omega) | exact ne_of_iv ic ib (by omega) | exact ne_of_iv ic id (by omega) | exact ne_of_iv id ia (by omega) | exact ne_of_iv id ib (by omega) | exact ne_of_iv id ic (by omega))
    · intro j x hj hx
      have hsz : (w.alloc (.cells #[a, b, c, d] 24)).heap.size = w.heap.size + 1 := by simp
      rw [hsz]
      rcases five j hj with rfl | rfl | rfl | rfl
      · have := (ia x hx).2; omega
      · have := (ib x hx).2; omega
      · have := (ic x hx).2; omega
      · have := (id x hx).2; omega
    · intro j
      by_cases hj : j < 4
      · rcases five j hj with rfl | rfl | rfl | rfl
        · exact ra.1
        · exact rb.1
        · exact rc.1
        · exact rd.1
      · have : [xa, xb, xc, xd].getD j [] = [] := by simp [List.getD, List.getElem?_eq_none (show [xa, xb, xc, xd].length ≤ j by simp; omega)]
        rw [this]; simp
    · intro j
      by_cases hj : j < 4
      · rcases five j hj with rfl | rfl | rfl | rfl
        · exact ra.2
        · exact rb.2
        · exact rc.2
        · exact rd.2
      · have : [xa, xb, xc, xd].getD j [] = [] := by simp [List.getD, List.getElem?_eq_none (show [xa, xb, xc, xd].length ≤ j by simp; omega)]
        rw [this]; simp
  · refine ⟨_, heap_alloc_new w _, ?_⟩
    intro j hj
    rcases five j hj with rfl | rfl | rfl | rfl <;> rfl
  · intro j hj
    rcases five j hj with rfl | rfl | rfl | rfl
    · exact (own_base' ha (by omega)).alloc _
    · exact (own_base' hb (by omega)).alloc _
    · exact (own_base' hc (by omega)).alloc _
    · exact (own_base' hd (by omega)).alloc _
/-- [p, s, a]. -/
theorem apart_three (B : Nat) (a b c : Value) (xa xb xc : List Int) (w : World) (s1 s2 s3 : Nat)
    (ha : w.ownsRow s2 5 1 a xa.length (u8s xa)) (hb : w.ownsRow s1 5 1 b xb.length (u8s xb)) (hc : w.ownsRow B 5 1 c xc.length (u8s xc))
    (la : ∀ x, a.ownBlock = some x → x < s3) (lb : ∀ x, b.ownBlock = some x → x < s2) (lc : ∀ x, c.ownBlock = some x → x < s1)
    (h0 : B ≤ s1) (h1 : s1 ≤ s2) (h2 : s2 ≤ s3) (hz : s3 ≤ w.heap.size)
    (ra : (∀ x ∈ xa, 0 ≤ x ∧ x ≤ 255) ∧ xa.length ≤ 1000000) (rb : (∀ x ∈ xb, 0 ≤ x ∧ x ≤ 255) ∧ xb.length ≤ 1000000) (rc : (∀ x ∈ xc, 0 ≤ x ∧ x ≤ 255) ∧ xc.length ≤ 1000000) :
    Calls Try.prog 14 #[.slice (some ⟨w.heap.size, 0, none⟩) 3 3] (w.alloc (.cells #[a, b, c] 24)) fun r w' => r = .returned (.bool true) ∧ Below B (w.alloc (.cells #[a, b, c] 24)) w' := by
  have five : ∀ i : Nat, i < 3 → i = 0 ∨ i = 1 ∨ i = 2 := by omega
  have ia : ∀ x, a.ownBlock = some x → s2 ≤ x ∧ x < s3 := fun x hx => ⟨(ha.lt x hx).1, la x hx⟩
  have ib : ∀ x, b.ownBlock = some x → s1 ≤ x ∧ x < s2 := fun x hx => ⟨(hb.lt x hx).1, lb x hx⟩
  have ic : ∀ x, c.ownBlock = some x → B ≤ x ∧ x < s1 := fun x hx => ⟨(hc.lt x hx).1, lc x hx⟩
  refine apart_any B w.heap.size 3 3 (fun j => [a, b, c].getD j (.slice none 0 0)) (fun j => [xa, xb, xc].getD j []) _ ?_ ?_ ?_
  · refine ⟨?_, ?_, by simp; omega, ?_, ?_, by decide⟩
    · intro i j hi hj hne
      rcases five i hi with rfl | rfl | rfl <;> rcases five j hj with rfl | rfl | rfl <;> first | (exact absurd rfl hne) | (simp only [List.getD_cons_zero, List.getD_cons_succ]; first | exact ne_of_iv ia ib (by omega) | exact ne_of_iv ia ic (by omega) | exact ne_of_iv ib ia (by omega) | exact ne_of_iv ib ic (by omega) | exact ne_of_iv ic ia (by omega) | exact ne_of_iv ic ib (by omega))
    · intro j x hj hx
      have hsz : (w.alloc (.cells #[a, b, c] 24)).heap.size = w.heap.size + 1 := by simp
      rw [hsz]
      rcases five j hj with rfl | rfl | rfl
      · have := (ia x hx).2; omega
      · have := (ib x hx).2; omega
      · have := (ic x hx).2; omega
    · intro j
      by_cases hj : j < 3
      · rcases five j hj with rfl | rfl | rfl
        · exact ra.1
        · exact rb.1
        · exact rc.1
      · have : [xa, xb, xc].getD j [] = [] := by simp [List.getD, List.getElem?_eq_none (show [xa, xb, xc].length ≤ j by simp; omega)]
        rw [this]; simp
    · intro j
      by_cases hj : j < 3
      · rcases five j hj with rfl | rfl | rfl
        · exact ra.2
        · exact rb.2
        · exact rc.2
      · have : [xa, xb, xc].getD j [] = [] := by simp [List.getD, List.getElem?_eq_none (show [xa, xb, xc].length ≤ j by simp; omega)]
        rw [this]; simp
  · refine ⟨_, heap_alloc_new w _, ?_⟩
    intro j hj
    rcases five j hj with rfl | rfl | rfl <;> rfl
  · intro j hj
    rcases five j hj with rfl | rfl | rfl
    · exact (own_base' ha (by omega)).alloc _
    · exact (own_base' hb (by omega)).alloc _
    · exact (own_base' hc (by omega)).alloc _
end Go.Proofs.Ytjhkicfndbceoaa

/- GcmOpens: what Open tells is the document's answer, in new memory. -/
namespace Go.Proofs.Ytjhkicfndbceoaa
open Go.RowKit

set_option maxHeartbeats 4000000 in
set_option maxRecDepth 100000 in
theorem opens_walk (key nonce ad p PL : List B) (E : Int) (hk : key.length = 32) (hn : nonce.length = 12) (ao bo : Option Addr) (n m c d L : Nat) (w : World) (ha : Shows w ao n (v8s ad)) (hb : Shows w bo m (v8s p)) (hca : ao = none → c = 0) (hcb : bo = none → d = 0) (hbn : n ≤ 131072) (hbm : m ≤ 131072) (hL : PL.length = L) (hLb : L ≤ 200000)
    (H15 : Hid (∀ (ao4 bo4 : Option Addr) (c4 d4 : Nat) (W : World), Shows W ao4 n (v8s ad) → Shows W bo4 m (v8s p) → (ao4 = none → c4 = 0) → n ≤ c4 → m ≤ d4 → Calls Try.prog 15 #[.agg (bys key).toArray, .agg (bys nonce).toArray, .slice ao4 n c4, .slice bo4 m d4] W fun e w' => ∃ v, e = .returned (.tuple #[v, .int .i64 E]) ∧ w'.ownsRow W.heap.size 5 1 v L (u8s (v8s PL)) ∧ Below W.heap.size W w'))
    (H16 : Hid (∀ W : World, Shows W ao n (v8s ad) → Shows W bo m (v8s p) → Calls Try.prog 16 #[.agg (bys key).toArray, .agg (bys nonce).toArray, .slice ao n c, .slice bo m d] W fun e w' => ∃ v, e = .returned (.tuple #[v, .int .i64 E]) ∧ w'.ownsRow W.heap.size 5 1 v L (u8s (v8s PL)) ∧ Below W.heap.size W w')) :
    Calls Try.prog 4 #[.agg (sc key nonce (.slice ao n c) (.slice bo m d)).toArray] w fun e w' => e = .returned (.bool true) ∧ Below w.heap.size w w' := by
  have hL0 := LwS.new w key nonce (.slice ao n c) (.slice bo m d) hk hn
  have c44 := hL0.va
  have c45 := hL0.vb
  have hnI : ¬ ((n : Int) > 131072) := by omega
  have hmI : ¬ ((m : Int) > 131072) := by omega
  have hla : (v8s ad).length = n := ha.len
  have hlp : (v8s p).length = m := hb.len
  have hlS : (v8s PL).length = L := by rw [v8s_length]; exact hL
  obtain ⟨X, eX⟩ : ∃ X, X = sc key nonce (.slice ao n c) (.slice bo m d) := ⟨_, rfl⟩
  rw [← eX]
  rw [← eX] at hL0 c44 c45
  clear eX
  go_enter Try.func4, Try.ntmps4
  go_wp2_with fail
  go_at_call 9; refine (roomy_any ao n c (v8s ad) _ (ha.later hL0.k) hca (by omega)).mono ?_; rintro e v1 ⟨g1, cap1, rfl, own1, k1⟩
  have hL1 := hL0.call k1
  have c44 := hL1.va
  have c45 := hL1.vb
  have z1 := hL0.k.size
  clear hL0
  go_wp2_with fail
  go_at_call 9; refine (roomy_any bo m d (v8s p) _ (hb.later hL1.k) hcb (by omega)).mono ?_; rintro e v2 ⟨g2, cap2, rfl, own2, k2⟩
  have hL2 := hL1.call k2
  have c44 := hL2.va
  have c45 := hL2.vb
  have z2 := k1.size
  have z3 := k2.size
  have own1a := own_below own1 k2
  have f1 := own_first own1a hla (by omega)
  have f2 := own_first own2 hlp (by omega)
  obtain ⟨a1, d1, e1, s1, hc1, -, hn1, -⟩ := own_shape f1 (v8s_rng _)
  cases e1
  obtain ⟨a2, d2, e2, s2, hc2, -, hn2, -⟩ := own_shape f2 (v8s_rng _)
  cases e2
  clear f1 f2 k1 hL1
  go_wp2_with (first | (refine wpList_load_mid rfl 22 _ rfl w.heap.size 0 rfl (bys key) _ hL2.ky Try.underlying22 rfl (by rw [bys_length, hk]; kernel_rfl) ?_) | (refine wpList_load_mid rfl 23 _ rfl w.heap.size 32 rfl (bys nonce) _ hL2.non Try.underlying23 rfl (by rw [bys_length, hn]; kernel_rfl) ?_))
  go_at_call 15; refine (H15.out _ _ _ _ v2 s1 s2 hn1 hc1 hc2).mono ?_; rintro e v3 ⟨vs, rfl, own3, k3⟩
  have hL3 := hL2.call k3
  have c44 := hL3.va
  have c45 := hL3.vb
  have z4 := k3.size
  clear hL2
  go_wp2_with (first | (refine wpList_load_mid rfl 22 _ rfl w.heap.size 0 rfl (bys key) _ hL3.ky Try.underlying22 rfl (by rw [bys_length, hk]; kernel_rfl) ?_) | (refine wpList_load_mid rfl 23 _ rfl w.heap.size 32 rfl (bys nonce) _ hL3.non Try.underlying23 rfl (by rw [bys_length, hn]; kernel_rfl) ?_))
  go_at_call 16; refine (H16.out v3 (ha.later hL3.k) (hb.later hL3.k)).mono ?_; rintro e v5 ⟨vw, rfl, own5, k5⟩
  have hL5 := hL3.call k5
  have c44 := hL5.va
  have c45 := hL5.vb
  have z6 := k5.size
  have k35 := k3.trans (k5.mono k3.size)
  have k25 := k2.trans (k35.mono k2.size)
  have o1 := own_below own1 k25
  have o2 := own_below own2 k35
  have o3 := own_below own3 k5
  obtain ⟨sa, cs, rfl, ss, -, -, -, -⟩ := own_shape o3 (v8s_rng _)
  obtain ⟨aw, cw, rfl, sw, -, -, -, -⟩ := own_shape own5 (v8s_rng _)
  have l1 := own_lt own1
  have l2 := own_lt own2
  have l3 := own_lt own3
  clear hL3 k5 k3 k2 k35 k25 own1 own1a own2 own3 own5 s1 s2
  go_wp2_with fail
  go_at_call 12; refine (eqB_true sa aw L L cs cw (v8s PL) v5 ss sw).mono ?_; rintro e v6 ⟨rfl, rfl⟩
  go_wp2_with fail
  go_at_call 13; refine (kept_any g1 n cap1 _ c ao (v8s ad) _ o1 (ha.later hL5.k) (by omega)).mono ?_; rintro e v6 ⟨rfl, rfl⟩
  go_wp2_with fail
  go_at_call 13; refine (kept_any g2 m cap2 _ d bo (v8s p) _ o2 (hb.later hL5.k) (by omega)).mono ?_; rintro e v6 ⟨rfl, rfl⟩
  have hap := apart_three w.heap.size (.slice sa L cs) (.slice (some ⟨g2, 0, none⟩) m cap2) (.slice (some ⟨g1, 0, none⟩) n cap1) (v8s PL) (v8s p) (v8s ad) _ v1.heap.size v2.heap.size v3.heap.size
    (by rw [hlS]; exact o3) (by rw [hlp]; exact own_first o2 hlp (by omega)) (by rw [hla]; exact own_base' (own_first o1 hla (by omega)) z1)
    l3 l2 l1 (by omega) z3 z4 z6 ⟨v8s_rng _, by omega⟩ ⟨v8s_rng _, by omega⟩ ⟨v8s_rng _, by omega⟩
  have hbk := hL5.k
  clear o1 o2 o3 l1 l2 l3 ss sw c44 c45 hL5
  go_wp2_with fail
  go_at_call 14; refine hap.mono ?_; rintro e v7 ⟨rfl, k7⟩
  have hb7 : Below w.heap.size w v7 := (hbk.alloc hbk.size _).trans k7
  clear hap hbk k7
  go_wp2_with fail
  go_at_call 8; refine (works_any v7).mono ?_; rintro e v8 ⟨rfl, k8⟩
  go_wp2_with fail
  go_ret
  exact ⟨rfl, hb7.trans (k8.mono hb7.size)⟩

set_option maxHeartbeats 1000000 in
set_option maxRecDepth 100000 in
theorem opens_far (key nonce : List B) (hk : key.length = 32) (hn : nonce.length = 12) (ao bo : Option Addr) (n m c d : Nat) (w : World) (h : 131072 < n ∨ 131072 < m) :
    Calls Try.prog 4 #[.agg (sc key nonce (.slice ao n c) (.slice bo m d)).toArray] w fun e w' => e = .returned (.bool true) ∧ Below w.heap.size w w' := by
  have hL0 := LwS.new w key nonce (.slice ao n c) (.slice bo m d) hk hn
  have c44 := hL0.va
  have c45 := hL0.vb
  obtain ⟨X, eX⟩ : ∃ X, X = sc key nonce (.slice ao n c) (.slice bo m d) := ⟨_, rfl⟩
  rw [← eX]
  rw [← eX] at hL0 c44 c45
  clear eX
  by_cases h1 : 131072 < n
  · have hnI : (n : Int) > 131072 := by omega
    go_enter Try.func4, Try.ntmps4
    go_wp2_with fail
    go_at_call 8; refine (works_any _).mono ?_; rintro e v8 ⟨rfl, k8⟩
    go_wp2_with fail
    go_ret
    exact ⟨rfl, hL0.k.trans (k8.mono hL0.k.size)⟩
  · have hnI : ¬ ((n : Int) > 131072) := by omega
    have hmI : (m : Int) > 131072 := by omega
    go_enter Try.func4, Try.ntmps4
    go_wp2_with fail
    go_at_call 8; refine (works_any _).mono ?_; rintro e v8 ⟨rfl, k8⟩
    go_wp2_with fail
    go_ret
    exact ⟨rfl, hL0.k.trans (k8.mono hL0.k.size)⟩

theorem opens_all (key nonce ad p : List B) (hk : key.length = 32) (hn : nonce.length = 12) (ao bo : Option Addr) (n m c d : Nat) (w : World) (ha : Shows w ao n (v8s ad)) (hb : Shows w bo m (v8s p)) (hca : ao = none → c = 0) (hcb : bo = none → d = 0) (_ : n ≤ c) (hbd : m ≤ d) :
    Calls Try.prog 4 #[.agg (sc key nonce (.slice ao n c) (.slice bo m d)).toArray] w fun e w' => e = .returned (.bool true) ∧ Below w.heap.size w w' := by
  have hlm : p.length = m := by have := hb.len; rw [v8s_length] at this; exact this
  by_cases hfar : 131072 < n ∨ 131072 < m
  · exact opens_far key nonce hk hn ao bo n m c d w hfar
  · by_cases hsh : m < 16
    · refine opens_walk key nonce ad p [] 10 hk hn ao bo n m c d 0 w ha hb hca hcb (by omega) (by omega) rfl (by omega) ?_ ?_
      · intro ao4 bo4 c4 d4 W _ _ _ _ _
        exact (open_short key nonce ao4 bo4 n m c4 d4 W hsh).mono (fun e w' h => ⟨_, h.1, World.ownsRow_nil _ _ _ _, h.2⟩)
      · intro W _ _
        exact (ropen_short key nonce ao bo n m c d W hsh).mono (fun e w' h => ⟨_, h.1, World.ownsRow_nil _ _ _ _, h.2⟩)
    · by_cases hlong : 65536 < n ∨ 65552 < m
      · refine opens_walk key nonce ad p [] 3 hk hn ao bo n m c d 0 w ha hb hca hcb (by omega) (by omega) rfl (by omega) ?_ ?_
        · intro ao4 bo4 c4 d4 W _ _ _ _ _
          exact (open_long key nonce ao4 bo4 n m c4 d4 W (by omega) hlong).mono (fun e w' h => ⟨_, h.1, World.ownsRow_nil _ _ _ _, h.2⟩)
        · intro W _ _
          exact (ropen_long key nonce ao bo n m c d W (by omega) (by omega) hlong).mono (fun e w' h => ⟨_, h.1, World.ownsRow_nil _ _ _ _, h.2⟩)
      · obtain ⟨q, hq⟩ : ∃ q, m = q + 16 := ⟨m - 16, by omega⟩
        cases hr : rightM key nonce ad p q
        · refine opens_walk key nonce ad p [] 60 hk hn ao bo n m c d 0 w ha hb hca hcb (by omega) (by omega) rfl (by omega) ?_ ?_
          · intro ao4 bo4 c4 d4 W h1 h2 h3 h4 h5
            exact (open_bad key nonce ad p hk hn ao4 bo4 n q m c4 d4 W hq h1 h2 h3 h4 h5 (by omega) (by omega) hr).mono (fun e w' h => ⟨_, h.1, World.ownsRow_nil _ _ _ _, h.2⟩)
          · intro W h1 h2
            refine (ropen_any key nonce ad p hk hn ao bo n q m c d W hq h1 h2 hca hbd (by omega) (by omega)).mono (fun e w' h => ?_)
            rw [hr] at h
            exact ⟨_, h.1, World.ownsRow_nil _ _ _ _, h.2⟩
        · refine opens_walk key nonce ad p (cov key nonce (p.take q)) 0 hk hn ao bo n m c d q w ha hb hca hcb (by omega) (by omega) (by rw [cov_length]; simp; omega) (by omega) ?_ ?_
          · intro ao4 bo4 c4 d4 W h1 h2 h3 h4 h5
            exact (open_good key nonce ad p hk hn ao4 bo4 n q m c4 d4 W hq h1 h2 h3 h4 h5 (by omega) (by omega) hr).mono (fun e w' ⟨g, h1, h2, h3⟩ => ⟨_, h1, h2, h3⟩)
          · intro W h1 h2
            refine (ropen_any key nonce ad p hk hn ao bo n q m c d W hq h1 h2 hca hbd (by omega) (by omega)).mono (fun e w' h => ?_)
            rw [hr] at h
            obtain ⟨⟨v, g1, g2⟩, g3⟩ := h
            exact ⟨v, g1, g2, g3⟩
end Go.Proofs.Ytjhkicfndbceoaa
