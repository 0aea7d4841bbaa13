/- The document's answer: the bytes with what is put to them. -/
import Derived.Test.YtmnembhcfkcmnaaDoorSum
import Derived.Deep.AppendLies
namespace Go.Proofs.YtmnembhcfkcmnaaDoor
open Go.RowKit

/-- The first q of eight bytes. -/
theorem be8_take (N q : Nat) (hq : q < 8) : (be8 N).take (q + 1) = (be8 N).take q ++ [((N / 2 ^ (8 * (7 - q)) % 256 : Nat) : Int)] := by
  have h := be8_at N q hq
  rw [List.take_add_one, List.getElem?_eq_getElem (by rw [be8_length]; exact hq), ← h]
  simp [List.getD, List.getElem?_eq_getElem (show q < (be8 N).length by rw [be8_length]; exact hq)]

set_option maxHeartbeats 2000000 in
theorem padded_any (ao : Option Addr) (n c : Nat) (xs : List Int) (w : World) (hs : Shows w ao n xs) (hc : ao = none → c = 0) (hbig : n ≤ 1000000) :
    Calls Tryd.prog 21 #[.slice ao n c] w fun e w' => ∃ v, e = .returned v ∧ w'.ownsRow w.heap.size 5 1 v (padded xs).length (u8s (padded xs)) ∧ Below w.heap.size w w' := by
  have HL : Hid (xs.length = n) := hs.len
  go_enter Tryd.func21, Tryd.ntmps21
  go_wp2_with (at_builtin; first
    | (refine law_append rfl _ _ rfl w.heap.size _ 0 [] rfl (World.ownsRow_nil _ _ _ _) ao n c xs rfl hs hc (by omega) (Nat.le_refl _) ?_; intro v1 w1 hown1 hgrow1 _; have hb1 : Below w.heap.size w w1 := (Below.refl _ w).grown hgrow1 (Nat.le_refl _) (by intro k hk; cases (show (none : Option Nat) = some k from hk)))
    | (refine law_append rfl _ _ rfl w.heap.size _ _ _ rfl (hown1.alloc _) _ 1 1 [128] rfl (shows_new w1 [128] (by decide)) (by intro h; cases h) (by omega) (by have := hb1.size; simp; omega) ?_; intro v2 w2 hown2 hgrow2 _))
  have hb2 : Below w.heap.size w w2 := (hb1.alloc hb1.size _).grown hgrow2 (by have := hb1.size; simp; omega) (fun b hb => (hown1.lt b hb).1)
  have HP : Hid (padLen n = (119 - n % 64) % 64) := rfl
  obtain ⟨P, eP⟩ : ∃ P, P = padLen n := ⟨_, rfl⟩
  have hP : P = (119 - n % 64) % 64 := eP
  clear hgrow1 hgrow2 hown1
  go_wp2_with fail
  go_loopw [3] (fun v wr => ∃ j : Nat, j ≤ P ∧ wr.ownsRow w.heap.size 5 1 v (n + 1 + j) (u8s (xs ++ 128 :: List.replicate j 0)) ∧ Below w.heap.size w wr) (fun v _ => match v with | .slice _ l _ => n + 1 + P - l | _ => 0)
  case atStart => exact ⟨0, by omega, by simpa using hown2, hb2⟩
  case round =>
    obtain ⟨j, hj, hown, hbr⟩ := hrel
    obtain ⟨g, cap, hv, _, _⟩ := hown.form (by omega)
    subst hv
    clear hown2 hb2
    have hgz := hbr.size
    by_cases hlt : j < P
    · have hne : (n + 1 + j) % 64 ≠ 56 := by omega
      go_wp2_with (at_builtin; go_must (refine law_append rfl _ _ rfl w.heap.size _ _ _ rfl (hown.alloc _) _ 1 1 [0] rfl (shows_new wr [0] (by decide)) (by intro h; cases h) (by omega) (by simp; omega) ?_; intro v3 w3 hown3 hgrow3 _))
      go_wp2
      obtain ⟨g3, cap3, hv3, _, _⟩ := hown3.form (by omega)
      subst hv3
      refine ⟨⟨j + 1, by omega, ?_, (hbr.alloc hgz _).grown hgrow3 (by simp; omega) (fun b hb => (hown.lt b hb).1)⟩, ?_⟩
      · rw [show xs ++ 128 :: List.replicate (j + 1) 0 = (xs ++ 128 :: List.replicate j 0) ++ [0] by rw [List.replicate_succ']; simp]
        exact hown3
      · show n + 1 + P - (n + 1 + j + 1) < n + 1 + P - (n + 1 + j)
        omega
    · have hjP : P = j := by omega
      have heq : (n + 1 + j) % 64 = 56 := by omega
      obtain ⟨N, hN⟩ : ∃ N, N = 8 * n := ⟨_, rfl⟩
      have HN8 : Hid ((N : Int) = 8 * (n : Int)) := by show (N : Int) = 8 * (n : Int); omega
      have HN : Hid (N = 8 * n) := hN
      have hNb : N < 10000000 := by omega
      obtain ⟨M, eM⟩ : ∃ M, M = n + 1 + j := ⟨_, rfl⟩
      obtain ⟨bs, ebs⟩ : ∃ bs, bs = xs ++ 128 :: List.replicate j 0 := ⟨_, rfl⟩
      have hbl : bs.length = M := by have := HL.out; rw [ebs]; simp; omega
      have HB : Hid (bs = xs ++ 128 :: List.replicate (padLen n) 0) := by
        show bs = xs ++ 128 :: List.replicate (padLen n) 0
        rw [ebs, ← eP, hjP]
      have hMb : M ≤ 2000000 := by omega
      have hown' : wr.ownsRow w.heap.size 5 1 (.slice (some ⟨g, 0, none⟩) (n + 1 + j) cap) M (u8s bs) := by rw [eM, ebs]; exact hown
      have hM0 : 0 < M := by omega
      have HM : Hid (M = n + 1 + j) := eM
      clear eM ebs hN
      go_wp2_with fail
      have hbool : (((n : Int) + 1 + (j : Int)) % 64 != 56) = false := by simp; omega
      rw [hbool]
      go_loopw [3, 5] (fun v i wr => ∃ q : Nat, q ≤ 8 ∧ i = .int .i64 (7 - (q : Int)) ∧ wr.ownsRow w.heap.size 5 1 v (M + q) (u8s (bs ++ (be8 N).take q)) ∧ Below w.heap.size w wr) (fun _ i _ => (intOf i + 1).toNat)
      case atStart => exact ⟨0, by omega, rfl, by simpa using hown', hbr⟩
      case round =>
        obtain ⟨q, hq, rfl, hown4, hb4⟩ := hrel
        obtain ⟨g4, cap4, hv4, _, _⟩ := hown4.form (by omega)
        subst hv4
        have hgz4 := hb4.size
        clear hown hown' hbr
        by_cases hlq : q < 8
        · have hbt := be8_take N q hlq
          have hcast : ((N / 2 ^ (8 * (7 - q)) % 256 : Nat) : Int) = 8 * (n : Int) / 2 ^ (8 * (7 - q)) % 256 := by
            rw [← HN8.out]
            rw [Int.natCast_emod, Int.natCast_ediv, Int.natCast_pow]
            rfl
          rw [hcast] at hbt
          have hy0 : 0 ≤ 8 * (n : Int) / 2 ^ (8 * (7 - q)) % 256 ∧ 8 * (n : Int) / 2 ^ (8 * (7 - q)) % 256 ≤ 255 := by omega
          have HBT : Hid ((be8 N).take (q + 1) = (be8 N).take q ++ [8 * (n : Int) / 2 ^ (8 * (7 - q)) % 256]) := hbt
          clear hcast hbt
          go_wp2_with (at_builtin; go_must (refine law_append rfl _ _ rfl w.heap.size _ _ _ rfl (hown4.alloc _) _ 1 1 [8 * (n : Int) / 2 ^ (8 * (7 - q)) % 256] rfl (shows_new wr [8 * (n : Int) / 2 ^ (8 * (7 - q)) % 256] (by intro x hx; rw [List.mem_singleton] at hx; rw [hx]; exact hy0)) (by intro h; cases h) (by omega) (by simp; omega) ?_; intro v5 w5 hown5 hgrow5 _))
          go_wp2
          go_roundw
          case rel =>
            refine ⟨q + 1, by omega, by go_num, ?_, (hb4.alloc hgz4 _).grown hgrow5 (by simp; omega) (fun b hb => (hown4.lt b hb).1)⟩
            rw [HBT.out, ← List.append_assoc]
            exact hown5
          case measure => simp [intOf]; omega
        · have hq8 : q = 8 := by omega
          subst hq8
          rw [List.take_of_length_le (by rw [be8_length]; omega)] at hown4
          go_wp2
          go_ret
          have e1 : bs ++ be8 N = padded xs := by
            rw [HB.out, HN.out]
            unfold padded
            rw [HL.out]
            simp
          have e2 : M + 8 = (padded xs).length := by rw [← e1, List.length_append, hbl, be8_length]
          rw [e1, e2] at hown4
          refine ⟨_, rfl, ?_, hb4⟩
          rw [← e2] at hown4 ⊢
          exact hown4
end Go.Proofs.YtmnembhcfkcmnaaDoor
