/- OctetWrites: the call, where the arguments are not too long. -/
import Derived.Test.YtmnkbbfpdohpkaaDoorApartB
namespace Go.Proofs.YtmnkbbfpdohpkaaDoor
open Go.RowKit

theorem be_mod (v : Int) (k : Nat) : ∀ j, j ≤ k → be j (v % 256 ^ k) = be j v := by
  intro j
  induction j with
  | zero => intro _; rfl
  | succ j ih =>
    intro h
    simp only [be]
    rw [ih (by omega)]
    congr 1
    have e : (256 : Int) ^ k = 256 ^ (j + 1) * 256 ^ (k - (j + 1)) := by rw [← Int.pow_add]; congr 1; omega
    have hp : (0 : Int) < 256 ^ j := Int.pow_pos (by decide)
    have e2 : v % 256 ^ k % 256 ^ (j + 1) = v % 256 ^ (j + 1) := Int.emod_emod_of_dvd v ⟨_, e⟩
    have key : ∀ x : Int, x / 256 ^ j % 256 = x % 256 ^ (j + 1) / 256 ^ j := by
      intro x
      rw [Int.pow_succ, Int.emod_def x, Int.emod_def (x / 256 ^ j), ← Int.ediv_ediv_of_nonneg (Int.le_of_lt hp)]
      have : x - 256 ^ j * 256 * (x / 256 ^ j / 256) = x + 256 ^ j * (-(256 * (x / 256 ^ j / 256))) := by rw [Int.mul_assoc, Int.mul_neg]; omega
      rw [this, Int.add_mul_ediv_left _ _ (by omega)]
      omega
    rw [key, key, e2]

theorem be2_mod (v : Int) : be 2 (v % 65536) = be 2 v := be_mod v 2 2 (Nat.le_refl _)
theorem be4_mod (v : Int) : be 4 (v % 4294967296) = be 4 v := be_mod v 4 4 (Nat.le_refl _)

def txt (xs : List Int) (s : ByteArray) : List Int := if (s.size : Int) ≤ 65535 then xs ++ (be 2 s.size ++ nums s) else []
def terr (s : ByteArray) : Int := if (s.size : Int) ≤ 65535 then 0 else 3

theorem app_rng {xs ys : List Int} (hx : ∀ x ∈ xs, 0 ≤ x ∧ x ≤ 255) (hy : ∀ x ∈ ys, 0 ≤ x ∧ x ≤ 255) : ∀ x ∈ xs ++ ys, 0 ≤ x ∧ x ≤ 255 := by
  intro x h
  rcases List.mem_append.1 h with h | h
  · exact hx x h
  · exact hy x h

theorem txt_rng (xs : List Int) (s : ByteArray) (hx : ∀ x ∈ xs, 0 ≤ x ∧ x ≤ 255) : ∀ x ∈ txt xs s, 0 ≤ x ∧ x ≤ 255 := by
  unfold txt
  split
  · exact app_rng hx (app_rng (be_rng _ _) (nums_rng s))
  · simp

theorem txt_len (xs : List Int) (s : ByteArray) (hx : xs.length ≤ 131072) : (txt xs s).length ≤ 1000000 := by
  unfold txt
  split
  · simp [be_length, nums_length]; omega
  · simp

theorem putText_all (ao : Option Addr) (n c : Nat) (xs : List Int) (s : ByteArray) (w : World) (hs : Shows w ao n xs) (hbig : n ≤ 140737488100000) :
    Calls Tryd.prog 14 #[.slice ao n c, .string s] w fun e w' => ∃ u, e = .returned (.tuple #[u, .int .i64 (terr s)]) ∧ w'.ownsRow w.heap.size 5 1 u (txt xs s).length (u8s (txt xs s)) ∧ Below w.heap.size w w' := by
  by_cases h : (s.size : Int) ≤ 65535
  · have e1 : txt xs s = xs ++ (be 2 s.size ++ nums s) := if_pos h
    have e2 : terr s = 0 := if_pos h
    rw [e1, e2]
    refine (putText_ok ao n c xs s w hs (by omega) h).mono ?_
    rintro e w' ⟨u, rfl, h1, h2⟩
    refine ⟨u, rfl, ?_, h2⟩
    have hl : (xs ++ (be 2 (s.size : Int) ++ nums s)).length = n + (2 + s.size) := by simp [be_length, nums_length, hs.len]
    rw [hl]; exact h1
  · have e1 : txt xs s = [] := if_neg h
    have e2 : terr s = 3 := if_neg h
    rw [e1, e2]
    refine (putText_long ao n c s w (by omega)).mono ?_
    rintro e w' ⟨rfl, rfl⟩
    exact ⟨_, rfl, World.ownsRow_nil _ _ _ _, Below.refl _ _⟩

theorem refPutText_all (ao : Option Addr) (n c : Nat) (xs : List Int) (s : ByteArray) (w : World) (hs : Shows w ao n xs) (hc : ao = none → c = 0) (hbig : n ≤ 140737488100000) :
    Calls Tryd.prog 15 #[.slice ao n c, .string s] w fun e w' => ∃ u, e = .returned (.tuple #[u, .int .i64 (terr s)]) ∧ w'.ownsRow w.heap.size 5 1 u (txt xs s).length (u8s (txt xs s)) ∧ Below w.heap.size w w' := by
  by_cases h : (s.size : Int) ≤ 65535
  · have e1 : txt xs s = xs ++ (be 2 s.size ++ nums s) := if_pos h
    have e2 : terr s = 0 := if_pos h
    rw [e1, e2]
    refine (refPutText_ok ao n c xs s w hs hc (by omega) h).mono ?_
    rintro e w' ⟨u, rfl, h1, h2⟩
    refine ⟨u, rfl, ?_, h2⟩
    have hl : (xs ++ (be 2 (s.size : Int) ++ nums s)).length = n + (2 + s.size) := by simp [be_length, nums_length, hs.len]
    rw [hl]; exact h1
  · have e1 : txt xs s = [] := if_neg h
    have e2 : terr s = 3 := if_neg h
    rw [e1, e2]
    refine (refPutText_long ao n c s w (by omega)).mono ?_
    rintro e w' ⟨rfl, rfl⟩
    exact ⟨_, rfl, World.ownsRow_nil _ _ _ _, Below.refl _ _⟩

theorem refPut_2 (ao : Option Addr) (n c : Nat) (xs : List Int) (v : Int) (w : World) (hs : Shows w ao n xs) (hc : ao = none → c = 0) (hbig : n ≤ 140737488200000) :
    Calls Tryd.prog 17 #[.slice ao n c, .int .u64 v, .int .i64 2] w fun e w' => ∃ u, e = .returned u ∧ w'.ownsRow w.heap.size 5 1 u (n + 2) (u8s (xs ++ be 2 v)) ∧ Below w.heap.size w w' := refPut_any ao n c xs v 2 w hs hc hbig (by decide)
theorem refPut_4 (ao : Option Addr) (n c : Nat) (xs : List Int) (v : Int) (w : World) (hs : Shows w ao n xs) (hc : ao = none → c = 0) (hbig : n ≤ 140737488200000) :
    Calls Tryd.prog 17 #[.slice ao n c, .int .u64 v, .int .i64 4] w fun e w' => ∃ u, e = .returned u ∧ w'.ownsRow w.heap.size 5 1 u (n + 4) (u8s (xs ++ be 4 v)) ∧ Below w.heap.size w w' := refPut_any ao n c xs v 4 w hs hc hbig (by decide)
theorem refPut_8 (ao : Option Addr) (n c : Nat) (xs : List Int) (v : Int) (w : World) (hs : Shows w ao n xs) (hc : ao = none → c = 0) (hbig : n ≤ 140737488200000) :
    Calls Tryd.prog 17 #[.slice ao n c, .int .u64 v, .int .i64 8] w fun e w' => ∃ u, e = .returned u ∧ w'.ownsRow w.heap.size 5 1 u (n + 8) (u8s (xs ++ be 8 v)) ∧ Below w.heap.size w w' := refPut_any ao n c xs v 8 w hs hc hbig (by decide)

theorem eqB_true (ao bo : Option Addr) (n m c d : Nat) (xs : List Int) (w : World) (hx : Shows w ao n xs) (hy : Shows w bo m xs) :
    Calls Tryd.prog 16 #[.slice ao n c, .slice bo m d] w fun e w' => e = .returned (.bool true) ∧ w = w' := by
  have := eqBytes_any ao bo n m c d xs xs w hx hy
  simpa using this

theorem ne_of_iv {a b : Option Nat} {l r l' r' : Nat} (ha : ∀ x, a = some x → l ≤ x ∧ x < r) (hb : ∀ x, b = some x → l' ≤ x ∧ x < r') (h : r ≤ l' ∨ r' ≤ l) : a = none ∨ a ≠ b := by
  cases a with
  | none => exact Or.inl rfl
  | some x =>
    right
    intro e
    have h1 := ha x rfl
    have h2 := hb x e.symm
    omega

/-- Five rows that were made one behind the other share no memory. -/
theorem apart_five (B : Nat) (a b c d e : Value) (xa xb xc xd xe : List Int) (w : World) (s1 s2 s3 s4 s5 : Nat)
    (ha : w.ownsRow s1 5 1 a xa.length (u8s xa)) (hb : w.ownsRow B 5 1 b xb.length (u8s xb)) (hc : w.ownsRow s2 5 1 c xc.length (u8s xc)) (hd : w.ownsRow s3 5 1 d xd.length (u8s xd)) (he : w.ownsRow s4 5 1 e xe.length (u8s xe))
    (la : ∀ x, a.ownBlock = some x → x < s2) (lb : ∀ x, b.ownBlock = some x → x < s1) (lc : ∀ x, c.ownBlock = some x → x < s3) (ld : ∀ x, d.ownBlock = some x → x < s4) (le : ∀ x, e.ownBlock = some x → x < s5)
    (h1 : B ≤ s1) (h2 : s1 ≤ s2) (h3 : s2 ≤ s3) (h4 : s3 ≤ s4) (h5 : s4 ≤ s5) (h6 : s5 ≤ w.heap.size)
    (ra : (∀ x ∈ xa, 0 ≤ x ∧ x ≤ 255) ∧ xa.length ≤ 1000000) (rb : (∀ x ∈ xb, 0 ≤ x ∧ x ≤ 255) ∧ xb.length ≤ 1000000) (rc : (∀ x ∈ xc, 0 ≤ x ∧ x ≤ 255) ∧ xc.length ≤ 1000000) (rd : (∀ x ∈ xd, 0 ≤ x ∧ x ≤ 255) ∧ xd.length ≤ 1000000) (re : (∀ x ∈ xe, 0 ≤ x ∧ x ≤ 255) ∧ xe.length ≤ 1000000) :
    Calls Tryd.prog 19 #[.slice (some ⟨w.heap.size, 0, none⟩) 5 5] (w.alloc (.cells #[a, b, c, d, e] 22)) fun r w' => r = .returned (.bool true) ∧ Below B (w.alloc (.cells #[a, b, c, d, e] 22)) w' := by
  have five : ∀ i : Nat, i < 5 → i = 0 ∨ i = 1 ∨ i = 2 ∨ i = 3 ∨ i = 4 := by omega
  have ia : ∀ x, a.ownBlock = some x → s1 ≤ x ∧ x < s2 := fun x hx => ⟨(ha.lt x hx).1, la x hx⟩
  have ib : ∀ x, b.ownBlock = some x → B ≤ x ∧ x < s1 := fun x hx => ⟨(hb.lt x hx).1, lb x hx⟩
  have ic : ∀ x, c.ownBlock = some x → s2 ≤ x ∧ x < s3 := fun x hx => ⟨(hc.lt x hx).1, lc x hx⟩
  have id : ∀ x, d.ownBlock = some x → s3 ≤ x ∧ x < s4 := fun x hx => ⟨(hd.lt x hx).1, ld x hx⟩
  have ie : ∀ x, e.ownBlock = some x → s4 ≤ x ∧ x < s5 := fun x hx => ⟨(he.lt x hx).1, le x hx⟩
  refine apart_any B w.heap.size 5 (fun j => [a, b, c, d, e].getD j (.slice none 0 0)) (fun j => [xa, xb, xc, xd, xe].getD j []) _ ?_ ?_ ?_
  · refine ⟨?_, ?_, by simp; omega, ?_, ?_, by decide⟩
    · intro i j hi hj hne
      rcases five i hi with rfl | rfl | rfl | rfl | rfl <;> rcases five j hj with rfl | rfl | rfl | rfl | rfl <;> first | (exact absurd rfl hne) | (simp only [List.getD_cons_zero, List.getD_cons_succ]; first | exact ne_of_iv ia ib (by omega) | exact ne_of_iv ia ic (by omega) | exact ne_of_iv ia id (by omega) | exact ne_of_iv ia ie (by omega) | exact ne_of_iv ib ia (by omega) | exact ne_of_iv ib ic (by omega) | exact ne_of_iv ib id (by omega) | exact ne_of_iv ib ie (by omega) | exact ne_of_iv ic ia (by omega) | exact ne_of_iv ic ib (by omega) | exact ne_of_iv ic id (by omega) | exact ne_of_iv ic ie (by omega) | exact ne_of_iv id ia (by omega) | exact ne_of_iv id ib (by omega) | exact ne_of_iv id ic (by omega) | exact ne_of_iv id ie (by omega) | exact ne_of_iv ie ia (by omega) | exact ne_of_iv ie ib (by omega) | exact ne_of_iv ie ic (by omega) | exact ne_of_iv ie id (by omega))
    · intro j x hj hx
      have hsz : (w.alloc (.cells #[a, b, c, d, e] 22)).heap.size = w.heap.size + 1 := by simp
      rw [hsz]
      rcases five j hj with rfl | rfl | rfl | rfl | rfl
      · have := (ia x hx).2; omega
      · have := (ib x hx).2; omega
      · have := (ic x hx).2; omega
      · have := (id x hx).2; omega
      · have := (ie x hx).2; omega
    · intro j
      by_cases hj : j < 5
      · rcases five j hj with rfl | rfl | rfl | rfl | rfl
        · exact ra.1
        · exact rb.1
        · exact rc.1
        · exact rd.1
        · exact re.1
      · have : [xa, xb, xc, xd, xe].getD j [] = [] := by simp [List.getD, List.getElem?_eq_none (show [xa, xb, xc, xd, xe].length ≤ j by simp; omega)]
        rw [this]; simp
    · intro j
      by_cases hj : j < 5
      · rcases five j hj with rfl | rfl | rfl | rfl | rfl
        · exact ra.2
        · exact rb.2
        · exact rc.2
        · exact rd.2
        · exact re.2
      · have : [xa, xb, xc, xd, xe].getD j [] = [] := by simp [List.getD, List.getElem?_eq_none (show [xa, xb, xc, xd, xe].length ≤ j by simp; omega)]
        rw [this]; simp
  · refine ⟨_, heap_alloc_new w _, ?_⟩
    intro j hj
    rcases five j hj with rfl | rfl | rfl | rfl | rfl <;> rfl
  · intro j hj
    rcases five j hj with rfl | rfl | rfl | rfl | rfl
    · exact (own_base' ha (by omega)).alloc _
    · exact hb.alloc _
    · exact (own_base' hc (by omega)).alloc _
    · exact (own_base' hd (by omega)).alloc _
    · exact (own_base' he (by omega)).alloc _

end Go.Proofs.YtmnkbbfpdohpkaaDoor
