/- A secret in shares, whatever is asked: by the program and by the document's answer. -/
import Derived.Test.YtineieoghlbchaaDoorApartC
namespace Go.Proofs.YtineieoghlbchaaDoor
open Go.RowKit

/-- The error of a Split. -/
def spE (m dn : Nat) (n k : Int) : Int := if k < 1 ∨ n < k ∨ 16 < n then 2 else if (1024 : Int) < m then 3 else if (dn : Int) = (k - 1) * m then 0 else 41
/-- The keys of its shares. -/
def spK (S D : List B) (m dn : Nat) (n k : Int) : List (B × List B) := if spE m dn n k = 0 then keyOf S D k.toNat m n.toNat else []

theorem blk_own {w : World} {g n base : Nat} {L : List Sh} (h : Blk w g 44 (shv L)) (hl : L.length = n) (hb : base ≤ g) (hn : n ≤ 1000) : w.ownsRow base 44 2 (.slice (some ⟨g, 0, none⟩) n n) n (shv L) :=
  ⟨by rw [shv_length, hl], .inr ⟨g, n, _, rfl, hb, h, Nat.le_refl _, by unfold maxLen; omega, by simp [shv_length, hl], List.take_of_length_le (by simp [shv_length, hl])⟩⟩

theorem split_all (so ro : Option Addr) (m sc dn rc : Nat) (n k : Int) (S D : List B) (w : World) (hs : Shows w so m (S.map v8)) (hd : Shows w ro dn (D.map v8)) (hrc : dn ≤ rc) :
    Calls Tryd.prog 10 #[.slice so m sc, .int .i64 n, .int .i64 k, .slice ro dn rc] w fun e w' => ∃ v L, e = .returned (.tuple #[v, .int .i64 (spE m dn n k)]) ∧ OwnS w.heap.size w' v L.length L ∧ key L = spK S D m dn n k ∧ L.Pairwise (fun s t => NeB s.y t.y) ∧ L.length ≤ 16 ∧ (∀ s ∈ L, s.n ≤ 1024) ∧ Below w.heap.size w w' := by
  by_cases h1 : k < 1 ∨ n < k ∨ 16 < n
  · have hE : spE m dn n k = 2 := if_pos h1
    refine (split_arg so ro m sc dn rc n k w h1).mono ?_
    rintro e w' ⟨rfl, rfl⟩
    refine ⟨_, [], by rw [hE], OwnS.nil _ _, ?_, List.Pairwise.nil, by simp, by simp, Below.refl _ _⟩
    unfold spK
    rw [if_neg (by rw [hE]; decide)]
    rfl
  · by_cases h2 : (1024 : Int) < m
    · have hE : spE m dn n k = 3 := by unfold spE; rw [if_neg h1, if_pos h2]
      refine (split_long so ro m sc dn rc n k w (by omega) (by omega) (by omega) h2).mono ?_
      rintro e w' ⟨rfl, rfl⟩
      refine ⟨_, [], by rw [hE], OwnS.nil _ _, ?_, List.Pairwise.nil, by simp, by simp, Below.refl _ _⟩
      unfold spK
      rw [if_neg (by rw [hE]; decide)]
      rfl
    · by_cases h3 : (dn : Int) = (k - 1) * m
      · have hE : spE m dn n k = 0 := by unfold spE; rw [if_neg h1, if_neg h2, if_pos h3]
        obtain ⟨n', rfl⟩ : ∃ n' : Nat, n = n' := ⟨n.toNat, by omega⟩
        obtain ⟨k', rfl⟩ : ∃ k' : Nat, k = k' := ⟨k.toNat, by omega⟩
        have hdn : dn = (k' - 1) * m := by
          have : (((k' - 1) * m : Nat) : Int) = ((k' : Int) - 1) * m := by
            rw [Int.natCast_mul]
            congr 1
            omega
          omega
        subst hdn
        refine (split_good so ro m sc rc n' k' S D w hs hd hrc (by omega) (by omega) (by omega) (by omega)).mono ?_
        rintro e w' ⟨rfl, hB, hR, hb⟩
        refine ⟨_, mkL w.heap.size m (yRow S D k' m) n', by rw [hE], ⟨?_, ?_⟩, ?_, ?_, by rw [mkL_length]; omega, ?_, hb⟩
        · rw [mkL_length]
          exact blk_own hB (mkL_length _ _ _ _) (Nat.le_refl _) (by omega)
        · intro s hs
          unfold mkL at hs
          obtain ⟨i, hi, rfl⟩ := List.mem_map.1 hs
          rw [List.mem_range] at hi
          exact own_of_heap (hR i hi) (by rw [List.length_map]; exact yRow_length S D k' m i) (by show m ≤ maxLen; unfold maxLen; omega) (by omega)
        · rw [key_mkL]
          unfold spK
          rw [if_pos hE]
          rfl
        · unfold mkL
          rw [List.pairwise_map]
          refine (List.pairwise_lt_range).imp ?_
          intro a b hab
          right
          simp only [Sh.y, shareAt, Value.ownBlock]
          intro e
          have := Option.some.inj e
          omega
        · intro s hs
          unfold mkL at hs
          obtain ⟨i, hi, rfl⟩ := List.mem_map.1 hs
          show m ≤ 1024
          omega
      · have hE : spE m dn n k = 41 := by unfold spE; rw [if_neg h1, if_neg h2, if_neg h3]
        refine (split_draws so ro m sc dn rc n k w (by omega) (by omega) (by omega) (by omega) h3).mono ?_
        rintro e w' ⟨rfl, rfl⟩
        refine ⟨_, [], by rw [hE], OwnS.nil _ _, ?_, List.Pairwise.nil, by simp, by simp, Below.refl _ _⟩
        unfold spK
        rw [if_neg (by rw [hE]; decide)]
        rfl

theorem rsplit_all (so ro : Option Addr) (m sc dn rc : Nat) (n k : Int) (S D : List B) (w : World) (hs : Shows w so m (S.map v8)) (hd : Shows w ro dn (D.map v8)) (hrc : dn ≤ rc) (hrb : ro = none → rc = 0) :
    Calls Tryd.prog 11 #[.slice so m sc, .int .i64 n, .int .i64 k, .slice ro dn rc] w fun e w' => ∃ v L, e = .returned (.tuple #[v, .int .i64 (spE m dn n k)]) ∧ OwnS w.heap.size w' v L.length L ∧ key L = spK S D m dn n k ∧ Below w.heap.size w w' := by
  by_cases h1 : k < 1 ∨ n < k ∨ 16 < n
  · have hE : spE m dn n k = 2 := if_pos h1
    refine (rsplit_arg so ro m sc dn rc n k w h1).mono ?_
    rintro e w' ⟨rfl, rfl⟩
    refine ⟨_, [], by rw [hE], OwnS.nil _ _, ?_, Below.refl _ _⟩
    unfold spK
    rw [if_neg (by rw [hE]; decide)]
    rfl
  · by_cases h2 : (1024 : Int) < m
    · have hE : spE m dn n k = 3 := by unfold spE; rw [if_neg h1, if_pos h2]
      refine (rsplit_long so ro m sc dn rc n k w (by omega) (by omega) (by omega) h2).mono ?_
      rintro e w' ⟨rfl, rfl⟩
      refine ⟨_, [], by rw [hE], OwnS.nil _ _, ?_, Below.refl _ _⟩
      unfold spK
      rw [if_neg (by rw [hE]; decide)]
      rfl
    · by_cases h3 : (dn : Int) = (k - 1) * m
      · have hE : spE m dn n k = 0 := by unfold spE; rw [if_neg h1, if_neg h2, if_pos h3]
        obtain ⟨n', rfl⟩ : ∃ n' : Nat, n = n' := ⟨n.toNat, by omega⟩
        obtain ⟨k', rfl⟩ : ∃ k' : Nat, k = k' := ⟨k.toNat, by omega⟩
        have hdn : dn = (k' - 1) * m := by
          have : (((k' - 1) * m : Nat) : Int) = ((k' : Int) - 1) * m := by
            rw [Int.natCast_mul]
            congr 1
            omega
          omega
        subst hdn
        refine (rsplit_good so ro m sc rc n' k' S D w hs hd hrc hrb (by omega) (by omega) (by omega) (by omega)).mono ?_
        rintro e w' ⟨v, L, rfl, hO, hK, hb⟩
        refine ⟨v, L, by rw [hE], by rw [hO.len]; exact hO, ?_, hb⟩
        rw [hK]
        unfold spK
        rw [if_pos hE]
        rfl
      · have hE : spE m dn n k = 41 := by unfold spE; rw [if_neg h1, if_neg h2, if_neg h3]
        refine (rsplit_draws so ro m sc dn rc n k w (by omega) (by omega) (by omega) (by omega) h3).mono ?_
        rintro e w' ⟨rfl, rfl⟩
        refine ⟨_, [], by rw [hE], OwnS.nil _ _, ?_, Below.refl _ _⟩
        unfold spK
        rw [if_neg (by rw [hE]; decide)]
        rfl
end Go.Proofs.YtineieoghlbchaaDoor
