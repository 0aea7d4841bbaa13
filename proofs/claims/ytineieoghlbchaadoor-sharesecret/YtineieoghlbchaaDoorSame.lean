/- Two lists of shares are the same; the bytes of shares, list by list. -/
import Derived.Test.YtineieoghlbchaaDoorRSplit
namespace Go.Proofs.YtineieoghlbchaaDoor
open Go.RowKit

theorem key_at {L M : List Sh} (h : key L = key M) {i : Nat} {s t : Sh} (hs : L[i]? = some s) (ht : M[i]? = some t) : s.x = t.x ∧ s.ys = t.ys := by
  have h1 : (key L)[i]? = (key M)[i]? := by rw [h]
  unfold key at h1
  rw [List.getElem?_map, List.getElem?_map, hs, ht] at h1
  simp at h1
  exact h1

set_option maxRecDepth 100000 in
set_option maxHeartbeats 2000000 in
theorem same_any (ao bo : Option Addr) (n c d : Nat) (L M : List Sh) (w : World) (hL : Shs w ao n L) (hM : Shs w bo n M) (hk : key L = key M) (hn : (n : Int) ≤ 1000) :
    Calls Tryd.prog 12 #[.slice ao n c, .slice bo n d] w fun e w' => e = .returned (.bool true) ∧ Below w.heap.size w w' := by
  have HK : Hid (key L = key M) := hk
  clear hk
  go_enter Tryd.func12, Tryd.ntmps12
  go_wp2
  go_loopw [5] (fun i wr => ∃ j : Nat, j ≤ n ∧ i = .int .i64 j ∧ Below w.heap.size w wr) (fun i _ => n - (intOf i).toNat)
  case atStart => exact ⟨0, Nat.zero_le _, rfl, Below.refl _ _⟩
  case round =>
    obtain ⟨k, hk, rfl, hb⟩ := hrel
    by_cases hlt : k < n
    · obtain ⟨ad, rfl⟩ := hL.adr (by omega)
      obtain ⟨bd, rfl⟩ := hM.adr (by omega)
      obtain ⟨s, hsk⟩ := hL.get k hlt
      obtain ⟨t, htk⟩ := hM.get k hlt
      have cx := (hL.later hb).cx ad rfl k s hsk
      have cy := (hL.later hb).cy ad rfl k s hsk
      have dx := (hM.later hb).cx bd rfl k t htk
      have dy := (hM.later hb).cy bd rfl k t htk
      have s1 := ((hL.later hb).ok s (List.mem_of_getElem? hsk)).sh
      have s2 := ((hM.later hb).ok t (List.mem_of_getElem? htk)).sh
      obtain ⟨e1, e2⟩ := key_at HK.out hsk htk
      rw [← e1] at dx
      rw [← e2] at s2
      have hkn : (k : Int) < (n : Int) := by omega
      clear hsk htk e1 e2
      have hq := fun N => eqB_same s.ao t.ao s.n t.n s.c t.c (s.ys.map v8) (s.ys.map v8) (wr.drewN N) (shows_heap s1 (drewN_heap _ _)) (shows_heap s2 (drewN_heap _ _))
      simp only [decide_true] at hq
      go_wp2
      go_quiet ((go_at_call 20; exact Calls.quiet_of_same (hq _)))
      go_wp2
      go_roundw
      case rel => exact ⟨k + 1, by omega, by go_num, below_drewN hb _⟩
      case measure => simp [intOf]; omega
    · go_wp2
      go_ret
      exact ⟨rfl, hb⟩

set_option maxRecDepth 100000 in
set_option maxHeartbeats 2000000 in
theorem ys_any (ao : Option Addr) (n c : Nat) (L : List Sh) (w : World) (hL : Shs w ao n L) (hn : (n : Int) ≤ 500) :
    Calls Tryd.prog 14 #[.slice ao n c] w fun e w' => ∃ v, e = .returned v ∧ w'.ownsRow w.heap.size 22 1 v n (L.map Sh.y) ∧ Below w.heap.size w w' := by
  have HL : Hid (L.length = n) := hL.len
  go_enter Tryd.func14, Tryd.ntmps14
  go_wp2
  go_loopw [3, 4] (fun v i wr => ∃ j : Nat, j ≤ n ∧ i = .int .i64 j ∧ wr.ownsRow w.heap.size 22 1 v j ((L.map Sh.y).take j) ∧ Below w.heap.size w wr) (fun _ i _ => n - (intOf i).toNat)
  case atStart => exact ⟨0, Nat.zero_le _, rfl, World.ownsRow_nil _ _ _ _, Below.refl _ _⟩
  case round =>
    obtain ⟨k, hk, rfl, hv, hb⟩ := hrel
    have hsz := hb.size
    by_cases hlt : k < n
    · obtain ⟨ad, rfl⟩ := hL.adr (by omega)
      obtain ⟨s, hsk⟩ := hL.get k hlt
      have cy := (hL.later hb).cy ad rfl k s hsk
      have HT : Hid ((L.map Sh.y).take (k + 1) = (L.map Sh.y).take k ++ [.slice s.ao s.n s.c]) := take_next' (by rw [List.getElem?_map, hsk]; rfl)
      obtain ⟨xs, HX⟩ : ∃ xs, Hid (xs = (L.map Sh.y).take k) := ⟨_, rfl⟩
      rw [← HX.out] at hv
      have hkn : (k : Int) < (n : Int) := by omega
      clear hsk
      go_wp2_with (at_builtin; go_must (refine law_push rfl _ _ rfl w.heap.size _ _ _ rfl (hv.alloc _) _ _ rfl (one_new wr _ 22) rfl (by omega) (by simp; omega) ?_))
      intro v' w2 hv2 hg
      go_wp2
      go_roundw
      case rel =>
        refine ⟨k + 1, by omega, by go_num, ?_, (hb.alloc hsz _).grown hg (by simp; omega) (fun b hb => (hv.lt b hb).1)⟩
        rw [HT.out, ← HX.out]
        exact hv2
      case measure => simp [intOf]; omega
    · have hkn : n = k := by omega
      subst hkn
      rw [List.take_of_length_le (by rw [List.length_map, HL.out]; exact Nat.le_refl _)] at hv
      go_wp2
      go_ret
      exact ⟨_, rfl, hv, hb⟩
end Go.Proofs.YtineieoghlbchaaDoor
