/- OctetHex: for every b and s bytes are told in digits, digits read or refused, and what is equal is, as the document says. -/
import Derived.Test.YtmnkbbfpdohpkaaDoorUnhex
namespace Go.Proofs.YtmnkbbfpdohpkaaDoor
open Go.RowKit

theorem shows_bytes (w : World) (s : ByteArray) (cap : Nat) (fr : Nat × Nat) : Shows (w.alloc (.cells (bytesRow s cap) 5 fr)) (some ⟨w.heap.size, 0, none⟩) s.size (nums s) := by
  refine ⟨nums_length s, fun h => (by cases h), fun ad had j hj => ?_, nums_rng s⟩
  cases had
  have hadd : (⟨w.heap.size, 0, none⟩ : Addr).add j = ⟨w.heap.size, j, none⟩ := by unfold Addr.add; split <;> simp_all
  rw [hadd, World.cell?_alloc_mark]
  have h1 : (nums s).getD j 0 = (s[j].toNat : Int) := by
    rw [List.getD, List.getElem?_eq_getElem (by rw [nums_length]; exact hj), nums_at s j hj]; rfl
  rw [h1]
  unfold bytesRow
  rw [Array.getElem?_append_left (by simpa using hj)]
  have : j < s.data.size := hj
  rw [Array.getElem?_map, Array.getElem?_eq_getElem this]
  rfl

theorem shows_drew {w : World} {ao : Option Addr} {n : Nat} {xs : List Int} (h : Shows w ao n xs) : Shows w.drew ao n xs := ⟨h.len, h.bare, h.cell, h.rng⟩

theorem equal_is (ao bo : Option Addr) (n m c d : Nat) (xs ys : List Int) (b : Bool) (hb : decide (xs = ys) = b) (w : World) (hx : Shows w ao n xs) (hy : Shows w bo m ys) (hbig : n ≤ 140737488355328) (hbig2 : m ≤ 140737488355328) :
    Calls Tryd.prog 24 #[.slice ao n c, .slice bo m d] w fun e w' => e = .returned (.bool b) ∧ Below w.heap.size w w' := by
  subst hb; exact equal_any ao bo n m c d xs ys w hx hy hbig hbig2

/-- What the region that draws its order may rely on: all that was there is there. -/
def Keep (w0 w : World) : Prop := Below w0.heap.size w0 w
theorem Keep.drew {w0 w : World} (h : Keep w0 w) : Keep w0 w.drew := Below.drew h
theorem Keep.alloc {w0 w : World} (h : Keep w0 w) (o : Obj) : Keep w0 (w.alloc o) := Below.alloc h h.size o
theorem Keep.step {w0 w w' : World} (h : Keep w0 w) (hb : Below w.heap.size w w') : Keep w0 w' := Below.trans h (hb.mono h.size)

theorem own_later {w w' : World} {base : Nat} {v : Value} {n : Nat} {xs : List Value} (h : w.ownsRow base 5 1 v n xs) (hb : Below w.heap.size w w') : w'.ownsRow base 5 1 v n xs := by
  obtain ⟨h1, h2⟩ := h
  refine ⟨h1, ?_⟩
  rcases h2 with h2 | ⟨g, cap, cur, hv, hg, hh, r⟩
  · exact Or.inl h2
  · exact Or.inr ⟨g, cap, cur, hv, hg, (hb.block g (lt_of_block hh)).trans hh, r⟩

theorem strEq_nums {xs : List Int} (s : ByteArray) (hx : ∀ x ∈ xs, 0 ≤ x ∧ x ≤ 255) : ((strOfNums xs).toList == s.toList) = decide (xs = nums s) := by
  have e : s = strOfNums (nums s) := by
    apply ByteArray.ext
    apply Array.ext'
    rw [strOfNums_data]
    simp only [nums, List.map_map]
    symm
    exact List.map_id'' (fun b => by simp) _
  have := strEq_iff hx (nums_rng s)
  rw [← e] at this
  exact this

theorem holdS {w0 w : World} {ao : Option Addr} {n : Nat} {xs : List Int} (c : Nat) (hbb : Shows w0 ao n xs) (h : Keep w0 w) : Keep w0 w ∧ (convert 22 9 (.slice ao n c)).run Tryd.prog w = .ok (.string (strOfNums xs)) w :=
  ⟨h, run_string_of _ _ _ _ _ (hbb.later h)⟩

set_option maxHeartbeats 2000000 in
set_option maxRecDepth 100000 in
theorem hex_walk (ao : Option Addr) (n c : Nat) (xs : List Int) (s : ByteArray) (w : World) (hs : Shows w ao n xs) (hc : ao = none → c = 0) (ht : Tab w) (h0 : 0 < w.heap.size) (hn : (n : Int) ≤ 131072) (hm : (s.size : Int) ≤ 131072) :
    Calls Tryd.prog 4 #[.slice ao n c, .string s] w fun e w' => e = .returned (.bool true) ∧ Below w.heap.size w w' := by
  go_enter Tryd.func4, Tryd.ntmps4
  go_wp2_with (first
    | (go_at_call 10; go_must (refine (roomy_any ao n c xs w hs hc (by omega)).mono ?_; rintro e w1 ⟨g, cap, rfl, hown, hb1⟩; have hl1 := hs.len; have hs1 := shows_first hown hs.len (by omega) hs.rng; have hz1 := hb1.size; clear hl1))
    | (go_at_call 20; go_must (refine (hex_any _ _ _ _ _ hs1 (by omega) (ht.later hb1) (by omega)).mono ?_; rintro e w2 ⟨rfl, hb2⟩; have hz2 := hb2.size; have hb12 := hb1.trans (hb2.mono hz1)))
    | (go_at_call 21; go_must (refine (hexRef_any _ _ _ _ _ (hs.later hb12) (by omega)).mono ?_; rintro e w3 ⟨rfl, hb3⟩; have hz3 := hb3.size; have hb23 := hb2.trans (hb3.mono hz2); have hb13 := hb12.trans (hb3.mono (by omega))))
    | (go_at_call 22; go_must (refine (unhex_any s w3 (by omega)).mono ?_; rintro e w4 ⟨u4, rfl, hown4, hb4⟩; have hz4 := hb4.size; obtain ⟨ao4, c4, rfl, hs4, -, -, -, -⟩ := own_shape hown4 (uhL_rng _)))
    | (go_at_call 23; go_must (refine (unhexRef_any s w4 (by omega)).mono ?_; rintro e w5 ⟨u5, rfl, hown5, hb5⟩; have hz5 := hb5.size; obtain ⟨ao5, c5, rfl, hs5, -, -, -, -⟩ := own_shape hown5 (uhL_rng _); clear hown4 hown5))
    | (go_at_call 16; go_must (refine (eqBytes_any _ _ _ _ _ _ _ _ _ (hs4.later hb5) hs5).mono ?_; rintro e w' ⟨rfl, rfl⟩)))
  have hw5 : Below w.heap.size w w5 := hb13.trans ((hb4.mono (by omega)).trans (hb5.mono (by omega)))
  have hin : Shows w5 (some ⟨g, 0, none⟩) n xs := hs1.later (hb23.trans ((hb4.mono (by omega)).trans (hb5.mono (by omega))))
  have hown6 := own_later hown (hb23.trans ((hb4.mono (by omega)).trans (hb5.mono (by omega))))
  have hbb : Shows w5 ao n xs := hs.later hw5
  have ht5 : Tab w5 := ht.later hw5
  have h05 : 0 < w5.heap.size := by omega
  have hkp : Keep w5 w5 := Below.refl _ _
  have HALL : Hid (Below w.heap.size w w5 ∧ w5.ownsRow w.heap.size 5 1 (.slice (some ⟨g, 0, none⟩) (n + 7) cap) (n + 7) (u8s (xs ++ marks)) ∧ Tab w5 ∧ 0 < w5.heap.size) := ⟨hw5, hown6, ht5, h05⟩
  clear hs ht h0 hb1 hb2 hb3 hb4 hb5 hb12 hb13 hb23 hs1 hs4 hs5 hz1 hz2 hz3 hz4 hz5 hown hw5 hown6 ht5 h05
  have kc := fun (w : World) => run_bytes_of_string (P := Tryd.prog) w 9 22 5 s Tryd.underlying9 Tryd.underlying22 Tryd.underlying5
  have heq0 := strEq_nums s hin.rng
  cases hb : decide (xs = nums s) with
  | true =>
    have hbs : decide (nums s = xs) = true := by simp at hb ⊢; exact hb.symm
    have heq : ((strOfNums xs).toList == s.toList) = true := heq0.trans hb
    clear heq0
    --REGION
    refine wp_region_noPanic ?_
    refine wp_region_held_drew (S := fun w' => Keep w5 w' ∧ (convert 22 9 (.slice ao n c)).run Tryd.prog w' = .ok (.string (strOfNums xs)) w') (by kernel_rfl) (holdS c hbb hkp.drew) (fun hHeld => ?_)
    refine wpAnyH_take (i := 0) (v := ?v0t) (show _ = some _ by simp only [List.getElem?_toArray, List.getElem?_cons_zero]; exact rfl) (by kernel_rfl) (by kernel_rfl) (by kernel_rfl) (fun _ _ _ h => h) (Or.inl ⟨by rfl, ?hy0t⟩) (by assumption) ?r0t
    case hy0t => (intro w hSw; (try dsimp only at hSw); go_simp; try with_reducible rfl)
    (try simp only [Act.put]); (try simp only [List.setIfInBounds_toArray]); (repeat (first | simp only [List.set_cons_succ] | simp only [List.set_cons_zero]))
    refine wpAnyH_take (i := 1) (v := ?v1t) (show _ = some _ by simp only [List.getElem?_toArray, List.getElem?_cons_succ, List.getElem?_cons_zero]; exact rfl) (by kernel_rfl) (by kernel_rfl) (by kernel_rfl) (fun _ _ _ h => h) (Or.inl ⟨by rfl, ?hy1t⟩) (by assumption) ?r1t
    case hy1t => (intro w hSw; (try dsimp only at hSw); go_simp; try with_reducible rfl)
    (try simp only [Act.put]); (try simp only [List.setIfInBounds_toArray]); (repeat (first | simp only [List.set_cons_succ] | simp only [List.set_cons_zero]))
    refine wpAnyH_take (i := 4) (v := ?v4t) (show _ = some _ by simp only [List.getElem?_toArray, List.getElem?_cons_succ, List.getElem?_cons_zero]; exact rfl) (by kernel_rfl) (by kernel_rfl) (by kernel_rfl) (fun _ _ _ h => h) (Or.inl ⟨by rfl, ?hy4t⟩) (by assumption) ?r4t
    case hy4t => (intro w hSw; (try dsimp only at hSw); go_simp; try with_reducible rfl)
    (try simp only [Act.put]); (try simp only [List.setIfInBounds_toArray]); (repeat (first | simp only [List.set_cons_succ] | simp only [List.set_cons_zero]))
    refine wpAnyH_take (i := 5) (v := ?v5t) (show _ = some _ by simp only [List.getElem?_toArray, List.getElem?_cons_succ, List.getElem?_cons_zero]; exact rfl) (by kernel_rfl) (by kernel_rfl) (by kernel_rfl) (fun _ _ _ h => h) (Or.inl ⟨by rfl, ?hy5t⟩) (by assumption) ?r5t
    case hy5t => (intro w hSw; (try dsimp only at hSw); go_simp; try with_reducible rfl)
    (try simp only [Act.put]); (try simp only [List.setIfInBounds_toArray]); (repeat (first | simp only [List.set_cons_succ] | simp only [List.set_cons_zero]))
    refine wpAnyH_take (i := 6) (v := ?v6t) (show _ = some _ by simp only [List.getElem?_toArray, List.getElem?_cons_succ, List.getElem?_cons_zero]; exact rfl) (by kernel_rfl) (by kernel_rfl) (by kernel_rfl) (fun _ _ _ h => h) (Or.inl ⟨by rfl, ?hy6t⟩) (by assumption) ?r6t
    case hy6t => (intro w hSw; (try dsimp only at hSw); go_simp; try with_reducible rfl)
    (try simp only [Act.put]); (try simp only [List.setIfInBounds_toArray]); (repeat (first | simp only [List.set_cons_succ] | simp only [List.set_cons_zero]))
    refine wpAnyH_take (i := 7) (v := ?v7t) (show _ = some _ by simp only [List.getElem?_toArray, List.getElem?_cons_succ, List.getElem?_cons_zero]; exact rfl) (by kernel_rfl) (by kernel_rfl) (by kernel_rfl) (fun _ _ _ h => h) (Or.inl ⟨by rfl, ?hy7t⟩) (by assumption) ?r7t
    case hy7t => (intro w hSw; (try dsimp only at hSw); go_simp; try with_reducible rfl)
    (try simp only [Act.put]); (try simp only [List.setIfInBounds_toArray]); (repeat (first | simp only [List.set_cons_succ] | simp only [List.set_cons_zero]))
    refine wpAnyH_ready (rs := [2]) (by kernel_rfl) (by simp) ?_
    refine AllReadyH.cons (show _ = some _ by simp only [List.getElem?_toArray, List.getElem?_cons_succ, List.getElem?_cons_zero]; exact rfl) (fun K hK => ?_) AllReadyH.nil
    go_simp
    refine hK.out _ _ (holdS c hbb (by repeat (first | assumption | apply Keep.drew | apply Keep.alloc))) (fun hHeld2 => ?_)
    clear hK K
    (try simp only [Act.put]); (try simp only [List.setIfInBounds_toArray]); (repeat (first | simp only [List.set_cons_succ] | simp only [List.set_cons_zero]))
    refine wpAnyH_ready (rs := [3]) (by kernel_rfl) (by simp) ?_
    refine AllReadyH.cons (show _ = some _ by simp only [List.getElem?_toArray, List.getElem?_cons_succ, List.getElem?_cons_zero]; exact rfl) (fun K hK => ?_) AllReadyH.nil
    go_simp
    refine (equal_is _ _ _ _ _ _ xs (nums s) true hb _ (hin.later (by repeat (first | assumption | apply Keep.drew | apply Keep.alloc))) (by repeat (first | exact shows_bytes _ _ _ _ | apply shows_drew)) (by omega) (by omega)).mono ?_
    rintro e w6 ⟨rfl, hbq6⟩
    have hk6 : Keep w5 w6 := Keep.step (by repeat (first | assumption | apply Keep.drew | apply Keep.alloc)) hbq6
    clear hbq6
    (try go_wp2_with fail)
    refine hK.out _ _ (holdS c hbb hk6) (fun hHeld3 => ?_)
    clear hK K
    (try simp only [Act.put]); (try simp only [List.setIfInBounds_toArray]); (repeat (first | simp only [List.set_cons_succ] | simp only [List.set_cons_zero]))
    refine wpAnyH_take (i := 8) (v := ?v8t) (show _ = some _ by simp only [List.getElem?_toArray, List.getElem?_cons_succ, List.getElem?_cons_zero]; exact rfl) (by kernel_rfl) (by kernel_rfl) (by kernel_rfl) (fun _ _ _ h => h) (Or.inl ⟨by rfl, ?hy8t⟩) (by assumption) ?r8t
    case hy8t => (intro w hSw; (try dsimp only at hSw); go_simp; try with_reducible rfl)
    (try simp only [Act.put]); (try simp only [List.setIfInBounds_toArray]); (repeat (first | simp only [List.set_cons_succ] | simp only [List.set_cons_zero]))
    refine wpAnyH_take (i := 9) (v := ?v9t) (show _ = some _ by simp only [List.getElem?_toArray, List.getElem?_cons_succ, List.getElem?_cons_zero]; exact rfl) (by kernel_rfl) (by kernel_rfl) (by kernel_rfl) (fun _ _ _ h => h) (Or.inl ⟨by rfl, ?hy9t⟩) (by assumption) ?r9t
    case hy9t => (intro w hSw; (try dsimp only at hSw); go_simp; try with_reducible rfl)
    (try simp only [Act.put]); (try simp only [List.setIfInBounds_toArray]); (repeat (first | simp only [List.set_cons_succ] | simp only [List.set_cons_zero]))
    refine wpAnyH_take (i := 10) (v := ?v10t) (show _ = some _ by simp only [List.getElem?_toArray, List.getElem?_cons_succ, List.getElem?_cons_zero]; exact rfl) (by kernel_rfl) (by kernel_rfl) (by kernel_rfl) (fun _ _ _ h => h) (Or.inl ⟨by rfl, ?hy10t⟩) (by assumption) ?r10t
    case hy10t => (intro w hSw; (try dsimp only at hSw); go_simp; try with_reducible rfl)
    (try simp only [Act.put]); (try simp only [List.setIfInBounds_toArray]); (repeat (first | simp only [List.set_cons_succ] | simp only [List.set_cons_zero]))
    refine wpAnyH_take (i := 12) (v := ?v12t) (show _ = some _ by simp only [List.getElem?_toArray, List.getElem?_cons_succ, List.getElem?_cons_zero]; exact rfl) (by kernel_rfl) (by kernel_rfl) (by kernel_rfl) (fun _ _ _ h => h) (Or.inl ⟨by rfl, ?hy12t⟩) (by assumption) ?r12t
    case hy12t => (intro w hSw; (try dsimp only at hSw); go_simp; try with_reducible rfl)
    (try simp only [Act.put]); (try simp only [List.setIfInBounds_toArray]); (repeat (first | simp only [List.set_cons_succ] | simp only [List.set_cons_zero]))
    refine wpAnyH_take (i := 14) (v := ?v14t) (show _ = some _ by simp only [List.getElem?_toArray, List.getElem?_cons_succ, List.getElem?_cons_zero]; exact rfl) (by kernel_rfl) (by kernel_rfl) (by kernel_rfl) (fun _ _ _ h => h) (Or.inl ⟨by rfl, ?hy14t⟩) (by assumption) ?r14t
    case hy14t => (intro w hSw; (try dsimp only at hSw); go_simp; try with_reducible rfl)
    (try simp only [Act.put]); (try simp only [List.setIfInBounds_toArray]); (repeat (first | simp only [List.set_cons_succ] | simp only [List.set_cons_zero]))
    refine wpAnyH_take (i := 15) (v := ?v15t) (show _ = some _ by simp only [List.getElem?_toArray, List.getElem?_cons_succ, List.getElem?_cons_zero]; exact rfl) (by kernel_rfl) (by kernel_rfl) (by kernel_rfl) (fun _ _ _ h => h) (Or.inl ⟨by rfl, ?hy15t⟩) (by assumption) ?r15t
    case hy15t => (intro w hSw; (try dsimp only at hSw); go_simp; try with_reducible rfl)
    (try simp only [Act.put]); (try simp only [List.setIfInBounds_toArray]); (repeat (first | simp only [List.set_cons_succ] | simp only [List.set_cons_zero]))
    refine wpAnyH_take (i := 16) (v := ?v16t) (show _ = some _ by simp only [List.getElem?_toArray, List.getElem?_cons_succ, List.getElem?_cons_zero]; exact rfl) (by kernel_rfl) (by kernel_rfl) (by kernel_rfl) (fun _ _ _ h => h) (Or.inl ⟨by rfl, ?hy16t⟩) (by assumption) ?r16t
    case hy16t => (intro w hSw; (try dsimp only at hSw); go_simp; try with_reducible rfl)
    (try simp only [Act.put]); (try simp only [List.setIfInBounds_toArray]); (repeat (first | simp only [List.set_cons_succ] | simp only [List.set_cons_zero]))
    refine wpAnyH_take (i := 17) (v := ?v17t) (show _ = some _ by simp only [List.getElem?_toArray, List.getElem?_cons_succ, List.getElem?_cons_zero]; exact rfl) (by kernel_rfl) (by kernel_rfl) (by kernel_rfl) (fun _ _ _ h => h) (Or.inl ⟨by rfl, ?hy17t⟩) (by assumption) ?r17t
    case hy17t => (intro w hSw; (try dsimp only at hSw); go_simp; try with_reducible rfl)
    (try simp only [Act.put]); (try simp only [List.setIfInBounds_toArray]); (repeat (first | simp only [List.set_cons_succ] | simp only [List.set_cons_zero]))
    refine wpAnyH_ready (rs := [11]) (by kernel_rfl) (by simp) ?_
    refine AllReadyH.cons (show _ = some _ by simp only [List.getElem?_toArray, List.getElem?_cons_succ, List.getElem?_cons_zero]; exact rfl) (fun K hK => ?_) AllReadyH.nil
    go_simp
    refine hK.out _ _ (holdS c hbb (by repeat (first | assumption | apply Keep.drew | apply Keep.alloc))) (fun hHeld11 => ?_)
    clear hK K
    (try simp only [Act.put]); (try simp only [List.setIfInBounds_toArray]); (repeat (first | simp only [List.set_cons_succ] | simp only [List.set_cons_zero]))
    refine wpAnyH_ready (rs := [13]) (by kernel_rfl) (by simp) ?_
    refine AllReadyH.cons (show _ = some _ by simp only [List.getElem?_toArray, List.getElem?_cons_succ, List.getElem?_cons_zero]; exact rfl) (fun K hK => ?_) AllReadyH.nil
    go_simp
    refine (equal_is _ _ _ _ _ _ (nums s) xs true hbs _ (by repeat (first | exact shows_bytes _ _ _ _ | apply shows_drew)) (hin.later (by repeat (first | assumption | apply Keep.drew | apply Keep.alloc))) (by omega) (by omega)).mono ?_
    rintro e w7 ⟨rfl, hbq7⟩
    have hk7 : Keep w5 w7 := Keep.step (by repeat (first | assumption | apply Keep.drew | apply Keep.alloc)) hbq7
    clear hbq7
    (try go_wp2_with fail)
    refine hK.out _ _ (holdS c hbb hk7) (fun hHeld13 => ?_)
    clear hK K
    (try simp only [Act.put]); (try simp only [List.setIfInBounds_toArray]); (repeat (first | simp only [List.set_cons_succ] | simp only [List.set_cons_zero]))
    refine wpAnyH_take (i := 18) (v := ?v18t) (show _ = some _ by simp only [List.getElem?_toArray, List.getElem?_cons_succ, List.getElem?_cons_zero]; exact rfl) (by kernel_rfl) (by kernel_rfl) (by kernel_rfl) (fun _ _ _ h => h) (Or.inl ⟨by rfl, ?hy18t⟩) (by assumption) ?r18t
    case hy18t => (intro w hSw; (try dsimp only at hSw); go_simp; try with_reducible rfl)
    (try simp only [Act.put]); (try simp only [List.setIfInBounds_toArray]); (repeat (first | simp only [List.set_cons_succ] | simp only [List.set_cons_zero]))
    refine wpAnyH_take (i := 19) (v := ?v19t) (show _ = some _ by simp only [List.getElem?_toArray, List.getElem?_cons_succ, List.getElem?_cons_zero]; exact rfl) (by kernel_rfl) (by kernel_rfl) (by kernel_rfl) (fun _ _ _ h => h) (Or.inl ⟨by rfl, ?hy19t⟩) (by assumption) ?r19t
    case hy19t => (intro w hSw; (try dsimp only at hSw); go_simp; try with_reducible rfl)
    (try simp only [Act.put]); (try simp only [List.setIfInBounds_toArray]); (repeat (first | simp only [List.set_cons_succ] | simp only [List.set_cons_zero]))
    refine wpAnyH_take (i := 20) (v := ?v20t) (show _ = some _ by simp only [List.getElem?_toArray, List.getElem?_cons_succ, List.getElem?_cons_zero]; exact rfl) (by kernel_rfl) (by kernel_rfl) (by kernel_rfl) (fun _ _ _ h => h) (Or.inl ⟨by rfl, ?hy20t⟩) (by assumption) ?r20t
    case hy20t => (intro w hSw; (try dsimp only at hSw); go_simp; try with_reducible rfl)
    (try simp only [Act.put]); (try simp only [List.setIfInBounds_toArray]); (repeat (first | simp only [List.set_cons_succ] | simp only [List.set_cons_zero]))
    refine wpAnyH_take (i := 21) (v := ?v21t) (show _ = some _ by simp only [List.getElem?_toArray, List.getElem?_cons_succ, List.getElem?_cons_zero]; exact rfl) (by kernel_rfl) (by kernel_rfl) (by kernel_rfl) (fun _ _ _ h => h) (Or.inl ⟨by rfl, ?hy21t⟩) (by assumption) ?r21t
    case hy21t => (intro w hSw; (try dsimp only at hSw); go_simp; try with_reducible rfl)
    (try simp only [Act.put]); (try simp only [List.setIfInBounds_toArray]); (repeat (first | simp only [List.set_cons_succ] | simp only [List.set_cons_zero]))
    refine wpAnyH_take (i := 22) (v := ?v22t) (show _ = some _ by simp only [List.getElem?_toArray, List.getElem?_cons_succ, List.getElem?_cons_zero]; exact rfl) (by kernel_rfl) (by kernel_rfl) (by kernel_rfl) (fun _ _ _ h => h) (Or.inl ⟨by rfl, ?hy22t⟩) (by assumption) ?r22t
    case hy22t => (intro w hSw; (try dsimp only at hSw); go_simp; try with_reducible rfl)
    (try simp only [Act.put]); (try simp only [List.setIfInBounds_toArray]); (repeat (first | simp only [List.set_cons_succ] | simp only [List.set_cons_zero]))
    refine wpAnyH_ready (rs := [23]) (by kernel_rfl) (by simp) ?_
    refine AllReadyH.cons (show _ = some _ by simp only [List.getElem?_toArray, List.getElem?_cons_succ, List.getElem?_cons_zero]; exact rfl) (fun K hK => ?_) AllReadyH.nil
    go_simp
    refine (copyBytes_any ao n c xs _ (hbb.later (by repeat (first | assumption | apply Keep.drew | apply Keep.alloc))) hc (by omega)).mono ?_
    rintro e w8 ⟨u8, rfl, hown8, hbq8⟩
    obtain ⟨ao8, c8, rfl, hs8, -, -, -, -⟩ := own_shape hown8 hin.rng
    have hk8 : Keep w5 w8 := Keep.step (by repeat (first | assumption | apply Keep.drew | apply Keep.alloc)) hbq8
    clear hbq8 hown8
    (try go_wp2_with fail)
    refine hK.out _ _ (holdS c hbb hk8) (fun hHeld23 => ?_)
    clear hK K
    (try simp only [Act.put]); (try simp only [List.setIfInBounds_toArray]); (repeat (first | simp only [List.set_cons_succ] | simp only [List.set_cons_zero]))
    refine wpAnyH_ready (rs := [24]) (by kernel_rfl) (by simp) ?_
    refine AllReadyH.cons (show _ = some _ by simp only [List.getElem?_toArray, List.getElem?_cons_succ, List.getElem?_cons_zero]; exact rfl) (fun K hK => ?_) AllReadyH.nil
    go_simp
    refine (equal_is _ _ _ _ _ _ xs xs true (by simp) _ (hin.later hk8) hs8 (by omega) (by omega)).mono ?_
    rintro e w9 ⟨rfl, hbq9⟩
    have hk9 : Keep w5 w9 := Keep.step hk8 hbq9
    clear hbq9
    (try go_wp2_with fail)
    refine hK.out _ _ (holdS c hbb hk9) (fun hHeld24 => ?_)
    clear hK K
    (try simp only [Act.put]); (try simp only [List.setIfInBounds_toArray]); (repeat (first | simp only [List.set_cons_succ] | simp only [List.set_cons_zero]))
    refine wpAnyH_take (i := 25) (v := ?v25t) (show _ = some _ by simp only [List.getElem?_toArray, List.getElem?_cons_succ, List.getElem?_cons_zero]; exact rfl) (by kernel_rfl) (by kernel_rfl) (by kernel_rfl) (fun _ _ _ h => h) (Or.inl ⟨by rfl, ?hy25t⟩) (by assumption) ?r25t
    case hy25t => (intro w hSw; (try dsimp only at hSw); go_simp; try with_reducible rfl)
    (try simp only [Act.put]); (try simp only [List.setIfInBounds_toArray]); (repeat (first | simp only [List.set_cons_succ] | simp only [List.set_cons_zero]))
    refine wpAnyH_take (i := 26) (v := ?v26t) (show _ = some _ by simp only [List.getElem?_toArray, List.getElem?_cons_succ, List.getElem?_cons_zero]; exact rfl) (by kernel_rfl) (by kernel_rfl) (by kernel_rfl) (fun _ _ _ h => h) (Or.inl ⟨by rfl, ?hy26t⟩) (by assumption) ?r26t
    case hy26t => (intro w hSw; (try dsimp only at hSw); go_simp; try with_reducible rfl)
    (try simp only [Act.put]); (try simp only [List.setIfInBounds_toArray]); (repeat (first | simp only [List.set_cons_succ] | simp only [List.set_cons_zero]))
    refine wpAnyH_done (by kernel_rfl) ?_ _
    refine NoPanic.normal ?_
    obtain ⟨hw5, hown6, ht5, h05⟩ := HALL.out
    have hz9 : w5.heap.size ≤ w9.heap.size := hk9.size
    go_wp2_with (first | (go_at_call 18; refine (kept_any g n cap w.heap.size c ao xs w9 (own_later hown6 hk9) (hbb.later hk9) (by omega)).mono ?_; rintro e w' ⟨rfl, rfl⟩) | (go_at_call 9; refine (works_any w9 (ht5.later hk9) (by omega)).mono ?_; rintro e w10 ⟨rfl, hb10⟩))
    go_ret
    exact ⟨rfl, hw5.trans ((Below.mono hk9 (by have := hw5.size; omega)).trans (hb10.mono (by have := hw5.size; omega)))⟩
  | false =>
    have hbs : decide (nums s = xs) = false := by simp at hb ⊢; exact fun e => hb e.symm
    have heq : ((strOfNums xs).toList == s.toList) = false := heq0.trans hb
    clear heq0
    refine wp_region_noPanic ?_
    refine wp_region_held_drew (S := fun w' => Keep w5 w' ∧ (convert 22 9 (.slice ao n c)).run Tryd.prog w' = .ok (.string (strOfNums xs)) w') (by kernel_rfl) (holdS c hbb hkp.drew) (fun hHeld => ?_)
    refine wpAnyH_take (i := 0) (v := ?v0f) (show _ = some _ by simp only [List.getElem?_toArray, List.getElem?_cons_zero]; exact rfl) (by kernel_rfl) (by kernel_rfl) (by kernel_rfl) (fun _ _ _ h => h) (Or.inl ⟨by rfl, ?hy0f⟩) (by assumption) ?r0f
    case hy0f => (intro w hSw; (try dsimp only at hSw); go_simp; try with_reducible rfl)
    (try simp only [Act.put]); (try simp only [List.setIfInBounds_toArray]); (repeat (first | simp only [List.set_cons_succ] | simp only [List.set_cons_zero]))
    refine wpAnyH_take (i := 1) (v := ?v1f) (show _ = some _ by simp only [List.getElem?_toArray, List.getElem?_cons_succ, List.getElem?_cons_zero]; exact rfl) (by kernel_rfl) (by kernel_rfl) (by kernel_rfl) (fun _ _ _ h => h) (Or.inl ⟨by rfl, ?hy1f⟩) (by assumption) ?r1f
    case hy1f => (intro w hSw; (try dsimp only at hSw); go_simp; try with_reducible rfl)
    (try simp only [Act.put]); (try simp only [List.setIfInBounds_toArray]); (repeat (first | simp only [List.set_cons_succ] | simp only [List.set_cons_zero]))
    refine wpAnyH_take (i := 4) (v := ?v4f) (show _ = some _ by simp only [List.getElem?_toArray, List.getElem?_cons_succ, List.getElem?_cons_zero]; exact rfl) (by kernel_rfl) (by kernel_rfl) (by kernel_rfl) (fun _ _ _ h => h) (Or.inl ⟨by rfl, ?hy4f⟩) (by assumption) ?r4f
    case hy4f => (intro w hSw; (try dsimp only at hSw); go_simp; try with_reducible rfl)
    (try simp only [Act.put]); (try simp only [List.setIfInBounds_toArray]); (repeat (first | simp only [List.set_cons_succ] | simp only [List.set_cons_zero]))
    refine wpAnyH_take (i := 5) (v := ?v5f) (show _ = some _ by simp only [List.getElem?_toArray, List.getElem?_cons_succ, List.getElem?_cons_zero]; exact rfl) (by kernel_rfl) (by kernel_rfl) (by kernel_rfl) (fun _ _ _ h => h) (Or.inl ⟨by rfl, ?hy5f⟩) (by assumption) ?r5f
    case hy5f => (intro w hSw; (try dsimp only at hSw); go_simp; try with_reducible rfl)
    (try simp only [Act.put]); (try simp only [List.setIfInBounds_toArray]); (repeat (first | simp only [List.set_cons_succ] | simp only [List.set_cons_zero]))
    refine wpAnyH_take (i := 6) (v := ?v6f) (show _ = some _ by simp only [List.getElem?_toArray, List.getElem?_cons_succ, List.getElem?_cons_zero]; exact rfl) (by kernel_rfl) (by kernel_rfl) (by kernel_rfl) (fun _ _ _ h => h) (Or.inl ⟨by rfl, ?hy6f⟩) (by assumption) ?r6f
    case hy6f => (intro w hSw; (try dsimp only at hSw); go_simp; try with_reducible rfl)
    (try simp only [Act.put]); (try simp only [List.setIfInBounds_toArray]); (repeat (first | simp only [List.set_cons_succ] | simp only [List.set_cons_zero]))
    refine wpAnyH_take (i := 7) (v := ?v7f) (show _ = some _ by simp only [List.getElem?_toArray, List.getElem?_cons_succ, List.getElem?_cons_zero]; exact rfl) (by kernel_rfl) (by kernel_rfl) (by kernel_rfl) (fun _ _ _ h => h) (Or.inl ⟨by rfl, ?hy7f⟩) (by assumption) ?r7f
    case hy7f => (intro w hSw; (try dsimp only at hSw); go_simp; try with_reducible rfl)
    (try simp only [Act.put]); (try simp only [List.setIfInBounds_toArray]); (repeat (first | simp only [List.set_cons_succ] | simp only [List.set_cons_zero]))
    refine wpAnyH_ready (rs := [2]) (by kernel_rfl) (by simp) ?_
    refine AllReadyH.cons (show _ = some _ by simp only [List.getElem?_toArray, List.getElem?_cons_succ, List.getElem?_cons_zero]; exact rfl) (fun K hK => ?_) AllReadyH.nil
    go_simp
    refine hK.out _ _ (holdS c hbb (by repeat (first | assumption | apply Keep.drew | apply Keep.alloc))) (fun hHeld2 => ?_)
    clear hK K
    (try simp only [Act.put]); (try simp only [List.setIfInBounds_toArray]); (repeat (first | simp only [List.set_cons_succ] | simp only [List.set_cons_zero]))
    refine wpAnyH_ready (rs := [3]) (by kernel_rfl) (by simp) ?_
    refine AllReadyH.cons (show _ = some _ by simp only [List.getElem?_toArray, List.getElem?_cons_succ, List.getElem?_cons_zero]; exact rfl) (fun K hK => ?_) AllReadyH.nil
    go_simp
    refine (equal_is _ _ _ _ _ _ xs (nums s) false hb _ (hin.later (by repeat (first | assumption | apply Keep.drew | apply Keep.alloc))) (by repeat (first | exact shows_bytes _ _ _ _ | apply shows_drew)) (by omega) (by omega)).mono ?_
    rintro e w6 ⟨rfl, hbq6⟩
    have hk6 : Keep w5 w6 := Keep.step (by repeat (first | assumption | apply Keep.drew | apply Keep.alloc)) hbq6
    clear hbq6
    (try go_wp2_with fail)
    refine hK.out _ _ (holdS c hbb hk6) (fun hHeld3 => ?_)
    clear hK K
    (try simp only [Act.put]); (try simp only [List.setIfInBounds_toArray]); (repeat (first | simp only [List.set_cons_succ] | simp only [List.set_cons_zero]))
    refine wpAnyH_take (i := 8) (v := ?v8f) (show _ = some _ by simp only [List.getElem?_toArray, List.getElem?_cons_succ, List.getElem?_cons_zero]; exact rfl) (by kernel_rfl) (by kernel_rfl) (by kernel_rfl) (fun _ _ _ h => h) (Or.inl ⟨by rfl, ?hy8f⟩) (by assumption) ?r8f
    case hy8f => (intro w hSw; (try dsimp only at hSw); go_simp; try with_reducible rfl)
    (try simp only [Act.put]); (try simp only [List.setIfInBounds_toArray]); (repeat (first | simp only [List.set_cons_succ] | simp only [List.set_cons_zero]))
    refine wpAnyH_take (i := 9) (v := ?v9f) (show _ = some _ by simp only [List.getElem?_toArray, List.getElem?_cons_succ, List.getElem?_cons_zero]; exact rfl) (by kernel_rfl) (by kernel_rfl) (by kernel_rfl) (fun _ _ _ h => h) (Or.inl ⟨by rfl, ?hy9f⟩) (by assumption) ?r9f
    case hy9f => (intro w hSw; (try dsimp only at hSw); go_simp; try with_reducible rfl)
    (try simp only [Act.put]); (try simp only [List.setIfInBounds_toArray]); (repeat (first | simp only [List.set_cons_succ] | simp only [List.set_cons_zero]))
    refine wpAnyH_take (i := 10) (v := ?v10f) (show _ = some _ by simp only [List.getElem?_toArray, List.getElem?_cons_succ, List.getElem?_cons_zero]; exact rfl) (by kernel_rfl) (by kernel_rfl) (by kernel_rfl) (fun _ _ _ h => h) (Or.inl ⟨by rfl, ?hy10f⟩) (by assumption) ?r10f
    case hy10f => (intro w hSw; (try dsimp only at hSw); go_simp; try with_reducible rfl)
    (try simp only [Act.put]); (try simp only [List.setIfInBounds_toArray]); (repeat (first | simp only [List.set_cons_succ] | simp only [List.set_cons_zero]))
    refine wpAnyH_take (i := 12) (v := ?v12f) (show _ = some _ by simp only [List.getElem?_toArray, List.getElem?_cons_succ, List.getElem?_cons_zero]; exact rfl) (by kernel_rfl) (by kernel_rfl) (by kernel_rfl) (fun _ _ _ h => h) (Or.inl ⟨by rfl, ?hy12f⟩) (by assumption) ?r12f
    case hy12f => (intro w hSw; (try dsimp only at hSw); go_simp; try with_reducible rfl)
    (try simp only [Act.put]); (try simp only [List.setIfInBounds_toArray]); (repeat (first | simp only [List.set_cons_succ] | simp only [List.set_cons_zero]))
    refine wpAnyH_take (i := 14) (v := ?v14f) (show _ = some _ by simp only [List.getElem?_toArray, List.getElem?_cons_succ, List.getElem?_cons_zero]; exact rfl) (by kernel_rfl) (by kernel_rfl) (by kernel_rfl) (fun _ _ _ h => h) (Or.inl ⟨by rfl, ?hy14f⟩) (by assumption) ?r14f
    case hy14f => (intro w hSw; (try dsimp only at hSw); go_simp; try with_reducible rfl)
    (try simp only [Act.put]); (try simp only [List.setIfInBounds_toArray]); (repeat (first | simp only [List.set_cons_succ] | simp only [List.set_cons_zero]))
    refine wpAnyH_take (i := 15) (v := ?v15f) (show _ = some _ by simp only [List.getElem?_toArray, List.getElem?_cons_succ, List.getElem?_cons_zero]; exact rfl) (by kernel_rfl) (by kernel_rfl) (by kernel_rfl) (fun _ _ _ h => h) (Or.inl ⟨by rfl, ?hy15f⟩) (by assumption) ?r15f
    case hy15f => (intro w hSw; (try dsimp only at hSw); go_simp; try with_reducible rfl)
    (try simp only [Act.put]); (try simp only [List.setIfInBounds_toArray]); (repeat (first | simp only [List.set_cons_succ] | simp only [List.set_cons_zero]))
    refine wpAnyH_take (i := 16) (v := ?v16f) (show _ = some _ by simp only [List.getElem?_toArray, List.getElem?_cons_succ, List.getElem?_cons_zero]; exact rfl) (by kernel_rfl) (by kernel_rfl) (by kernel_rfl) (fun _ _ _ h => h) (Or.inl ⟨by rfl, ?hy16f⟩) (by assumption) ?r16f
    case hy16f => (intro w hSw; (try dsimp only at hSw); go_simp; try with_reducible rfl)
    (try simp only [Act.put]); (try simp only [List.setIfInBounds_toArray]); (repeat (first | simp only [List.set_cons_succ] | simp only [List.set_cons_zero]))
    refine wpAnyH_take (i := 17) (v := ?v17f) (show _ = some _ by simp only [List.getElem?_toArray, List.getElem?_cons_succ, List.getElem?_cons_zero]; exact rfl) (by kernel_rfl) (by kernel_rfl) (by kernel_rfl) (fun _ _ _ h => h) (Or.inl ⟨by rfl, ?hy17f⟩) (by assumption) ?r17f
    case hy17f => (intro w hSw; (try dsimp only at hSw); go_simp; try with_reducible rfl)
    (try simp only [Act.put]); (try simp only [List.setIfInBounds_toArray]); (repeat (first | simp only [List.set_cons_succ] | simp only [List.set_cons_zero]))
    refine wpAnyH_ready (rs := [11]) (by kernel_rfl) (by simp) ?_
    refine AllReadyH.cons (show _ = some _ by simp only [List.getElem?_toArray, List.getElem?_cons_succ, List.getElem?_cons_zero]; exact rfl) (fun K hK => ?_) AllReadyH.nil
    go_simp
    refine hK.out _ _ (holdS c hbb (by repeat (first | assumption | apply Keep.drew | apply Keep.alloc))) (fun hHeld11 => ?_)
    clear hK K
    (try simp only [Act.put]); (try simp only [List.setIfInBounds_toArray]); (repeat (first | simp only [List.set_cons_succ] | simp only [List.set_cons_zero]))
    refine wpAnyH_ready (rs := [13]) (by kernel_rfl) (by simp) ?_
    refine AllReadyH.cons (show _ = some _ by simp only [List.getElem?_toArray, List.getElem?_cons_succ, List.getElem?_cons_zero]; exact rfl) (fun K hK => ?_) AllReadyH.nil
    go_simp
    refine (equal_is _ _ _ _ _ _ (nums s) xs false hbs _ (by repeat (first | exact shows_bytes _ _ _ _ | apply shows_drew)) (hin.later (by repeat (first | assumption | apply Keep.drew | apply Keep.alloc))) (by omega) (by omega)).mono ?_
    rintro e w7 ⟨rfl, hbq7⟩
    have hk7 : Keep w5 w7 := Keep.step (by repeat (first | assumption | apply Keep.drew | apply Keep.alloc)) hbq7
    clear hbq7
    (try go_wp2_with fail)
    refine hK.out _ _ (holdS c hbb hk7) (fun hHeld13 => ?_)
    clear hK K
    (try simp only [Act.put]); (try simp only [List.setIfInBounds_toArray]); (repeat (first | simp only [List.set_cons_succ] | simp only [List.set_cons_zero]))
    refine wpAnyH_take (i := 18) (v := ?v18f) (show _ = some _ by simp only [List.getElem?_toArray, List.getElem?_cons_succ, List.getElem?_cons_zero]; exact rfl) (by kernel_rfl) (by kernel_rfl) (by kernel_rfl) (fun _ _ _ h => h) (Or.inl ⟨by rfl, ?hy18f⟩) (by assumption) ?r18f
    case hy18f => (intro w hSw; (try dsimp only at hSw); go_simp; try with_reducible rfl)
    (try simp only [Act.put]); (try simp only [List.setIfInBounds_toArray]); (repeat (first | simp only [List.set_cons_succ] | simp only [List.set_cons_zero]))
    refine wpAnyH_take (i := 19) (v := ?v19f) (show _ = some _ by simp only [List.getElem?_toArray, List.getElem?_cons_succ, List.getElem?_cons_zero]; exact rfl) (by kernel_rfl) (by kernel_rfl) (by kernel_rfl) (fun _ _ _ h => h) (Or.inl ⟨by rfl, ?hy19f⟩) (by assumption) ?r19f
    case hy19f => (intro w hSw; (try dsimp only at hSw); go_simp; try with_reducible rfl)
    (try simp only [Act.put]); (try simp only [List.setIfInBounds_toArray]); (repeat (first | simp only [List.set_cons_succ] | simp only [List.set_cons_zero]))
    refine wpAnyH_take (i := 20) (v := ?v20f) (show _ = some _ by simp only [List.getElem?_toArray, List.getElem?_cons_succ, List.getElem?_cons_zero]; exact rfl) (by kernel_rfl) (by kernel_rfl) (by kernel_rfl) (fun _ _ _ h => h) (Or.inl ⟨by rfl, ?hy20f⟩) (by assumption) ?r20f
    case hy20f => (intro w hSw; (try dsimp only at hSw); go_simp; try with_reducible rfl)
    (try simp only [Act.put]); (try simp only [List.setIfInBounds_toArray]); (repeat (first | simp only [List.set_cons_succ] | simp only [List.set_cons_zero]))
    refine wpAnyH_take (i := 21) (v := ?v21f) (show _ = some _ by simp only [List.getElem?_toArray, List.getElem?_cons_succ, List.getElem?_cons_zero]; exact rfl) (by kernel_rfl) (by kernel_rfl) (by kernel_rfl) (fun _ _ _ h => h) (Or.inl ⟨by rfl, ?hy21f⟩) (by assumption) ?r21f
    case hy21f => (intro w hSw; (try dsimp only at hSw); go_simp; try with_reducible rfl)
    (try simp only [Act.put]); (try simp only [List.setIfInBounds_toArray]); (repeat (first | simp only [List.set_cons_succ] | simp only [List.set_cons_zero]))
    refine wpAnyH_take (i := 22) (v := ?v22f) (show _ = some _ by simp only [List.getElem?_toArray, List.getElem?_cons_succ, List.getElem?_cons_zero]; exact rfl) (by kernel_rfl) (by kernel_rfl) (by kernel_rfl) (fun _ _ _ h => h) (Or.inl ⟨by rfl, ?hy22f⟩) (by assumption) ?r22f
    case hy22f => (intro w hSw; (try dsimp only at hSw); go_simp; try with_reducible rfl)
    (try simp only [Act.put]); (try simp only [List.setIfInBounds_toArray]); (repeat (first | simp only [List.set_cons_succ] | simp only [List.set_cons_zero]))
    refine wpAnyH_ready (rs := [23]) (by kernel_rfl) (by simp) ?_
    refine AllReadyH.cons (show _ = some _ by simp only [List.getElem?_toArray, List.getElem?_cons_succ, List.getElem?_cons_zero]; exact rfl) (fun K hK => ?_) AllReadyH.nil
    go_simp
    refine (copyBytes_any ao n c xs _ (hbb.later (by repeat (first | assumption | apply Keep.drew | apply Keep.alloc))) hc (by omega)).mono ?_
    rintro e w8 ⟨u8, rfl, hown8, hbq8⟩
    obtain ⟨ao8, c8, rfl, hs8, -, -, -, -⟩ := own_shape hown8 hin.rng
    have hk8 : Keep w5 w8 := Keep.step (by repeat (first | assumption | apply Keep.drew | apply Keep.alloc)) hbq8
    clear hbq8 hown8
    (try go_wp2_with fail)
    refine hK.out _ _ (holdS c hbb hk8) (fun hHeld23 => ?_)
    clear hK K
    (try simp only [Act.put]); (try simp only [List.setIfInBounds_toArray]); (repeat (first | simp only [List.set_cons_succ] | simp only [List.set_cons_zero]))
    refine wpAnyH_ready (rs := [24]) (by kernel_rfl) (by simp) ?_
    refine AllReadyH.cons (show _ = some _ by simp only [List.getElem?_toArray, List.getElem?_cons_succ, List.getElem?_cons_zero]; exact rfl) (fun K hK => ?_) AllReadyH.nil
    go_simp
    refine (equal_is _ _ _ _ _ _ xs xs true (by simp) _ (hin.later hk8) hs8 (by omega) (by omega)).mono ?_
    rintro e w9 ⟨rfl, hbq9⟩
    have hk9 : Keep w5 w9 := Keep.step hk8 hbq9
    clear hbq9
    (try go_wp2_with fail)
    refine hK.out _ _ (holdS c hbb hk9) (fun hHeld24 => ?_)
    clear hK K
    (try simp only [Act.put]); (try simp only [List.setIfInBounds_toArray]); (repeat (first | simp only [List.set_cons_succ] | simp only [List.set_cons_zero]))
    refine wpAnyH_take (i := 25) (v := ?v25f) (show _ = some _ by simp only [List.getElem?_toArray, List.getElem?_cons_succ, List.getElem?_cons_zero]; exact rfl) (by kernel_rfl) (by kernel_rfl) (by kernel_rfl) (fun _ _ _ h => h) (Or.inl ⟨by rfl, ?hy25f⟩) (by assumption) ?r25f
    case hy25f => (intro w hSw; (try dsimp only at hSw); go_simp; try with_reducible rfl)
    (try simp only [Act.put]); (try simp only [List.setIfInBounds_toArray]); (repeat (first | simp only [List.set_cons_succ] | simp only [List.set_cons_zero]))
    refine wpAnyH_take (i := 26) (v := ?v26f) (show _ = some _ by simp only [List.getElem?_toArray, List.getElem?_cons_succ, List.getElem?_cons_zero]; exact rfl) (by kernel_rfl) (by kernel_rfl) (by kernel_rfl) (fun _ _ _ h => h) (Or.inl ⟨by rfl, ?hy26f⟩) (by assumption) ?r26f
    case hy26f => (intro w hSw; (try dsimp only at hSw); go_simp; try with_reducible rfl)
    (try simp only [Act.put]); (try simp only [List.setIfInBounds_toArray]); (repeat (first | simp only [List.set_cons_succ] | simp only [List.set_cons_zero]))
    refine wpAnyH_done (by kernel_rfl) ?_ _
    refine NoPanic.normal ?_
    obtain ⟨hw5, hown6, ht5, h05⟩ := HALL.out
    have hz9 : w5.heap.size ≤ w9.heap.size := hk9.size
    go_wp2_with (first | (go_at_call 18; refine (kept_any g n cap w.heap.size c ao xs w9 (own_later hown6 hk9) (hbb.later hk9) (by omega)).mono ?_; rintro e w' ⟨rfl, rfl⟩) | (go_at_call 9; refine (works_any w9 (ht5.later hk9) (by omega)).mono ?_; rintro e w10 ⟨rfl, hb10⟩))
    go_ret
    exact ⟨rfl, hw5.trans ((Below.mono hk9 (by have := hw5.size; omega)).trans (hb10.mono (by have := hw5.size; omega)))⟩

end Go.Proofs.YtmnkbbfpdohpkaaDoor
