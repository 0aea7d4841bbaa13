/- An item is put behind any bytes, and read as itself. -/
import Derived.Test.YtmnkbbfpdohpkaaDoorText
import Derived.Test.YtmnkbbfpdohpkaaDoorHexLaw
namespace Go.Proofs.YtmnkbbfpdohpkaaDoor
open Go.RowKit

/-- The bytes of an item. -/
def ib (k v : Int) (s : ByteArray) : List Int :=
  if k.tmod 5 = 1 then be 2 (IntKind.u16.wrap v) else if k.tmod 5 = 2 then be 4 (IntKind.u32.wrap v) else if k.tmod 5 = 3 then be 8 v else if k.tmod 5 = 4 then be 2 s.size ++ nums s else be 1 (IntKind.u8.wrap v)

theorem tmod5 (k : Int) : -4 ≤ k.tmod 5 ∧ k.tmod 5 ≤ 4 := by
  have h1 := Int.tmod_lt_of_pos k (show (0 : Int) < 5 by decide)
  have h2 := Int.lt_tmod_of_pos k (show (0 : Int) < 5 by decide)
  omega

theorem wrap16 (v : Int) : 0 ≤ IntKind.u16.wrap v ∧ IntKind.u16.wrap v ≤ 65535 := by rw [IntKind.wrap_u16]; omega
theorem wrap32' (v : Int) : 0 ≤ IntKind.u32.wrap v ∧ IntKind.u32.wrap v ≤ 4294967295 := by rw [IntKind.wrap_u32']; omega
theorem wrap8 (v : Int) : 0 ≤ IntKind.u8.wrap v ∧ IntKind.u8.wrap v ≤ 255 := by rw [IntKind.wrap_u8']; omega

theorem own_base {w : World} {base base' : Nat} {e : TypeId} {sz : Nat} {v : Value} {n : Nat} {xs : List Value} (h : w.ownsRow base' e sz v n xs) (hb : base ≤ base') : w.ownsRow base e sz v n xs := by
  obtain ⟨h1, h2⟩ := h
  refine ⟨h1, ?_⟩
  rcases h2 with h2 | ⟨g, cap, cur, hv, hg, r⟩
  · exact Or.inl h2
  · exact Or.inr ⟨g, cap, cur, hv, by omega, r⟩

theorem below_alloc {w w' : World} (o : Obj) (h : Below (w.alloc o).heap.size (w.alloc o) w') : Below w.heap.size w w' := ((Below.refl _ w).alloc (Nat.le_refl _) o).trans (h.mono (by simp))

theorem be_one (v : Int) : u8s (be 1 (IntKind.u8.wrap v)) = [.int .u8 (IntKind.u8.wrap v)] := by
  have h := wrap8 v
  simp only [be, u8s, List.map_cons, List.map_nil, Int.pow_zero, Int.ediv_one]
  rw [Int.emod_eq_of_lt h.1 (by omega)]

theorem newsB (w : World) (o : Obj) (y : Value) : ∀ j u, [y][j]? = some u → ((w.alloc o).alloc (.cells #[y] 5)).drew.cell? ((⟨w.heap.size + 1, 0, none⟩ : Addr).add j) = some u := by
  intro j u hj
  have := World.news_of_block (heap_alloc_new (w.alloc o) (.cells #[y] 5)) j u hj
  simpa using this

set_option maxHeartbeats 400000 in
set_option maxRecDepth 100000 in
theorem put_two (ao : Option Addr) (n c : Nat) (xs : List Int) (k v : Int) (s : ByteArray) (w : World) (hs : Shows w ao n xs) (hbig : n ≤ 140737488200000) (ht : k.tmod 5 = 1) :
    Calls Tryd.prog 41 #[.slice ao n c, .agg #[.int .i64 k, .int .u64 v, .string s]] w fun e w' => ∃ u, e = .returned (.tuple #[u, .bool true]) ∧ w'.ownsRow w.heap.size 5 1 u (n + (ib k v s).length) (u8s (xs ++ ib k v s)) ∧ Below w.heap.size w w' := by
  have HI : Hid (ib k v s = be 2 (IntKind.u16.wrap v)) := by show _ = _; unfold ib; rw [if_pos ht]
  have hs1 := hs.later ((Below.refl _ w).alloc (Nat.le_refl _) (.cells #[.int .i64 k, .int .u64 v, .string s] 66))
  go_enter Tryd.func41, Tryd.ntmps41
  go_wp2_with (go_at_call 11; go_must (refine (Put16_any ao n c xs _ _ hs1 (by omega) (wrap16 v).1 (wrap16 v).2).mono ?_; rintro e w1 ⟨u1, rfl, hown1, hb1⟩))
  go_ret2
  have hb := below_alloc _ hb1
  refine ⟨_, rfl, ?_, hb⟩
  rw [HI.out]
  have := own_base (base := w.heap.size) hown1 (by simp)
  rw [be_length]; exact this

set_option maxHeartbeats 400000 in
set_option maxRecDepth 100000 in
theorem put_four (ao : Option Addr) (n c : Nat) (xs : List Int) (k v : Int) (s : ByteArray) (w : World) (hs : Shows w ao n xs) (hbig : n ≤ 140737488200000) (ht : k.tmod 5 = 2) :
    Calls Tryd.prog 41 #[.slice ao n c, .agg #[.int .i64 k, .int .u64 v, .string s]] w fun e w' => ∃ u, e = .returned (.tuple #[u, .bool true]) ∧ w'.ownsRow w.heap.size 5 1 u (n + (ib k v s).length) (u8s (xs ++ ib k v s)) ∧ Below w.heap.size w w' := by
  have HI : Hid (ib k v s = be 4 (IntKind.u32.wrap v)) := by show _ = _; unfold ib; rw [if_neg (by omega), if_pos ht]
  have hs1 := hs.later ((Below.refl _ w).alloc (Nat.le_refl _) (.cells #[.int .i64 k, .int .u64 v, .string s] 66))
  go_enter Tryd.func41, Tryd.ntmps41
  go_wp2_with (go_at_call 12; go_must (refine (Put32_any ao n c xs _ _ hs1 (by omega) (wrap32' v).1 (wrap32' v).2).mono ?_; rintro e w1 ⟨u1, rfl, hown1, hb1⟩))
  go_ret2
  have hb := below_alloc _ hb1
  refine ⟨_, rfl, ?_, hb⟩
  rw [HI.out]
  have := own_base (base := w.heap.size) hown1 (by simp)
  rw [be_length]; exact this

set_option maxHeartbeats 400000 in
set_option maxRecDepth 100000 in
theorem put_eight (ao : Option Addr) (n c : Nat) (xs : List Int) (k v : Int) (s : ByteArray) (w : World) (hs : Shows w ao n xs) (hbig : n ≤ 140737488200000) (hv0 : 0 ≤ v) (hv1 : v ≤ 18446744073709551615) (ht : k.tmod 5 = 3) :
    Calls Tryd.prog 41 #[.slice ao n c, .agg #[.int .i64 k, .int .u64 v, .string s]] w fun e w' => ∃ u, e = .returned (.tuple #[u, .bool true]) ∧ w'.ownsRow w.heap.size 5 1 u (n + (ib k v s).length) (u8s (xs ++ ib k v s)) ∧ Below w.heap.size w w' := by
  have HI : Hid (ib k v s = be 8 v) := by show _ = _; unfold ib; rw [if_neg (by omega), if_neg (by omega), if_pos ht]
  have hs1 := hs.later ((Below.refl _ w).alloc (Nat.le_refl _) (.cells #[.int .i64 k, .int .u64 v, .string s] 66))
  go_enter Tryd.func41, Tryd.ntmps41
  go_wp2_with (go_at_call 13; go_must (refine (Put64_any ao n c xs _ _ hs1 (by omega) hv0 hv1).mono ?_; rintro e w1 ⟨u1, rfl, hown1, hb1⟩))
  go_ret2
  have hb := below_alloc _ hb1
  refine ⟨_, rfl, ?_, hb⟩
  rw [HI.out]
  have := own_base (base := w.heap.size) hown1 (by simp)
  rw [be_length]; exact this

set_option maxHeartbeats 400000 in
set_option maxRecDepth 100000 in
theorem put_text (ao : Option Addr) (n c : Nat) (xs : List Int) (k v : Int) (s : ByteArray) (w : World) (hs : Shows w ao n xs) (hbig : n ≤ 140737488200000) (hm : (s.size : Int) ≤ 65535) (ht : k.tmod 5 = 4) :
    Calls Tryd.prog 41 #[.slice ao n c, .agg #[.int .i64 k, .int .u64 v, .string s]] w fun e w' => ∃ u, e = .returned (.tuple #[u, .bool true]) ∧ w'.ownsRow w.heap.size 5 1 u (n + (ib k v s).length) (u8s (xs ++ ib k v s)) ∧ Below w.heap.size w w' := by
  have HI : Hid (ib k v s = be 2 s.size ++ nums s) := by show _ = _; unfold ib; rw [if_neg (by omega), if_neg (by omega), if_neg (by omega), if_pos ht]
  have hs1 := hs.later ((Below.refl _ w).alloc (Nat.le_refl _) (.cells #[.int .i64 k, .int .u64 v, .string s] 66))
  go_enter Tryd.func41, Tryd.ntmps41
  go_wp2_with (go_at_call 14; go_must (refine (putText_ok ao n c xs s _ hs1 hbig hm).mono ?_; rintro e w1 ⟨u1, rfl, hown1, hb1⟩))
  go_ret2
  have hb := below_alloc _ hb1
  refine ⟨_, rfl, ?_, hb⟩
  rw [HI.out]
  have := own_base (base := w.heap.size) hown1 (by simp)
  rw [List.length_append, be_length, nums_length]; exact this

set_option maxHeartbeats 1000000 in
set_option maxRecDepth 100000 in
theorem put_one (ao : Option Addr) (n c : Nat) (xs : List Int) (k v : Int) (s : ByteArray) (w : World) (hs : Shows w ao n xs) (hc : ao = none → c = 0) (hbig : n ≤ 140737488200000) (ht : k.tmod 5 < 1 ∨ 4 < k.tmod 5) :
    Calls Tryd.prog 41 #[.slice ao n c, .agg #[.int .i64 k, .int .u64 v, .string s]] w fun e w' => ∃ u, e = .returned (.tuple #[u, .bool true]) ∧ w'.ownsRow w.heap.size 5 1 u (n + (ib k v s).length) (u8s (xs ++ ib k v s)) ∧ Below w.heap.size w w' := by
  have HI : Hid (ib k v s = be 1 (IntKind.u8.wrap v)) := by show _ = _; unfold ib; rw [if_neg (by omega), if_neg (by omega), if_neg (by omega), if_neg (by omega)]
  have e1 : (k.tmod 5 == 1) = false := by simp; omega
  have e2 : (k.tmod 5 == 2) = false := by simp; omega
  have e3 : (k.tmod 5 == 3) = false := by simp; omega
  have e4 : (k.tmod 5 == 4) = false := by simp; omega
  clear ht
  obtain ⟨i0, hi, hz0, hz1, hz2⟩ := info_parts Tryd.info5
  obtain ⟨y, HY⟩ : ∃ y, Hid (y = IntKind.u8.wrap v) := ⟨IntKind.u8.wrap v, (rfl : _ = _)⟩
  have hA : Below w.heap.size w (w.alloc (.cells #[.int .i64 k, .int .u64 v, .string s] 66)).drew := ((Below.refl _ w).alloc (Nat.le_refl _) _).drew
  have hB : ∀ o, Below w.heap.size w ((w.alloc (.cells #[.int .i64 k, .int .u64 v, .string s] 66)).alloc o).drew := fun o => (((Below.refl _ w).alloc (Nat.le_refl _) _).alloc (by simp) o).drew
  have hz : w.heap.size < (w.alloc (.cells #[.int .i64 k, .int .u64 v, .string s] 66)).heap.size := by simp
  go_enter Tryd.func41, Tryd.ntmps41
  go_wp2
  go_region_held3 (fun w' => w'.cell? ⟨w.heap.size, 1, none⟩ = some (.int .u64 v)) (first | go_keep | (rw [Below.cell hb1 (by simp <;> omega)]; assumption) | (rw [hgrow.cell_far _ (by have := hb1.size; simp at this; simp; omega) hneB]; assumption)) ((first
    | (go_at_call 25; refine (copyBytes_any ao n c xs _ (hs.later (by first | exact hA | exact hB _)) hc (by omega)).mono ?_; rintro e w1 ⟨v1, rfl, hown1, hb1⟩; have hneB : some w.heap.size ≠ v1.ownBlock := (fun e => by have := (hown1.lt _ e.symm).1; simp at this; omega); have hsz1 : w.heap.size + 1 ≤ w1.heap.size := (by have := hb1.size; simp at this; omega))
    | (refine step_append_lies _ (by rfl) _ _ 22 (by rfl) _ 5 i0 (.int .u8 0) 1 1 Tryd.underlying22 hi hz0 hz1 hz2 rfl (by decide) _ n _ (by rfl) (hown1.alloc _) ⟨w1.heap.size, 0, none⟩ 1 1 [.int .u8 (IntKind.u8.wrap v)] (by rfl) rfl (World.news_of_block (heap_alloc_new _ _)) (by simp [Value.oneCell']) (by omega) (by unfold maxLen; omega) (by omega) (by have := hb1.size; simp at this; simp; omega) _ rfl ?_; intro g cap w2 hown2 hgrow hat hlt1)
    | (refine step_append_lies _ (by rfl) _ _ 22 (by rfl) _ 5 i0 (.int .u8 0) 1 1 Tryd.underlying22 hi hz0 hz1 hz2 rfl (by decide) _ n _ (by rfl) hown1 ⟨w.heap.size + 1, 0, none⟩ 1 1 [.int .u8 (IntKind.u8.wrap v)] (by rfl) rfl (fun j u hj => cell_later hb1 (newsB w _ _ j u hj)) (by simp [Value.oneCell']) (by omega) (by unfold maxLen; omega) (by omega) hb1.size _ rfl ?_; intro g cap w2 hown2 hgrow hat hlt1)
    | fail))
  all_goals go_wp2
  all_goals go_ret2
  · refine ⟨_, rfl, ?_, ?_⟩
    · rw [HI.out, be_length, u8s_append, be_one v]
      exact own_base hown2 (by simp)
    · exact ((hA.trans (hb1.mono (by simp))).alloc (by omega) _).grown hgrow (by simp; omega) (fun b hb => by have := (hown1.lt b hb).1; simp at this; omega)
  · refine ⟨_, rfl, ?_, ?_⟩
    · rw [HI.out, be_length, u8s_append, be_one v]
      exact own_base hown2 (by simp; omega)
    · exact ((hB _).trans (hb1.mono (by simp; omega))).grown hgrow (by omega) (fun b hb => by have := (hown1.lt b hb).1; simp at this; omega)

end Go.Proofs.YtmnkbbfpdohpkaaDoor
