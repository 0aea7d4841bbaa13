/- Rows of bytes: copied into an array, cut, and what they show. -/
import Derived.Test.YtjhkicfndbceoaaGSeal
import Derived.Test.YtjhkicfndbceoaaRoom
namespace Go.Proofs.Ytjhkicfndbceoaa
open Go.RowKit

/-- Bytes as the program's numbers. -/
def v8s (bs : List B) : List Int := bs.map v8
theorem v8s_length (bs : List B) : (v8s bs).length = bs.length := by simp [v8s]
theorem u8s_v8s (bs : List B) : u8s (v8s bs) = bys bs := by simp [u8s, v8s, bys]
theorem v8s_append (a b : List B) : v8s (a ++ b) = v8s a ++ v8s b := by simp [v8s]
theorem v8s_drop (bs : List B) (k : Nat) : (v8s bs).drop k = v8s (bs.drop k) := by simp [v8s]
theorem v8s_take (bs : List B) (k : Nat) : (v8s bs).take k = v8s (bs.take k) := by simp [v8s]
theorem v8s_rng (bs : List B) : ∀ x ∈ v8s bs, 0 ≤ x ∧ x ≤ 255 := by
  intro x hx
  obtain ⟨b, _, rfl⟩ := List.mem_map.1 hx
  exact ⟨v8_nn b, v8_le b⟩
theorem v8s_inj {a b : List B} (h : v8s a = v8s b) : a = b := by
  unfold v8s at h
  exact (List.map_inj_right (fun _ _ => v8_inj)).1 h
theorem v8s_at (bs : List B) (j : Nat) (h : j < bs.length) : (v8s bs).getD j 0 = v8 (bs.getD j 0#8) := by
  simp [v8s, List.getD, List.getElem?_eq_getElem h]

theorem Shows.byteAt {w : World} {ad : Addr} {n : Nat} {bs : List B} (h : Shows w (some ad) n (v8s bs)) (j : Nat) (hj : j < n) : w.cell? (ad.add j) = some (.int .u8 (v8 (bs.getD j 0#8))) := by
  have hl := h.len
  rw [v8s_length] at hl
  rw [h.cell ad rfl j hj, v8s_at bs j (by omega)]
/-- Bytes that are shown lie in a block that is there. -/
theorem Shows.lt {w : World} {ad : Addr} {n : Nat} {xs : List Int} (h : Shows w (some ad) n xs) (hn : 0 < n) : ad.block < w.heap.size := by
  have h1 := h.cell ad rfl 0 hn
  rw [show ad.add 0 = ad by simp [Addr.add]] at h1
  rcases Nat.lt_or_ge ad.block w.heap.size with h2 | h2
  · exact h2
  · have h3 : w.heap[ad.block]? = none := Array.getElem?_eq_none h2
    simp [World.cell?, h3] at h1
theorem Shows.alloc {w : World} {ao : Option Addr} {n : Nat} {xs : List Int} (h : Shows w ao n xs) (o : Obj) : Shows (w.alloc o) ao n xs := h.later ((Below.refl _ w).alloc (Nat.le_refl _) o)
theorem Shows.on {w w' : World} {ao : Option Addr} {n g : Nat} {xs : List Int} (h : Shows w ao n xs) (ho : On w w' g) (hg : ∀ ad, ao = some ad → ad.block ≠ g) : Shows w' ao n xs :=
  ⟨h.len, h.bare, fun ad had j hj => by
    have hb : (ad.add j).block = ad.block := by unfold Addr.add; split <;> rfl
    rw [World.cell?_of_block (show w'.heap[(ad.add j).block]? = w.heap[(ad.add j).block]? by rw [hb]; exact ho.block _ (hg ad had))]
    exact h.cell ad had j hj, h.rng⟩

set_option maxRecDepth 100000 in
theorem run_copyA (w : World) (ty : TypeId) (g : Nat) (m r : Nat) (t : TypeId) (cur : List B) (hcur : cur.length = m) (hg : Blk w g t (bys cur)) (ad : Addr) (n c : Nat) (bs : List B) (hs : Shows w (some ad) n (v8s bs)) (hr : r = Nat.min n m) :
    (Builtin.copy_ #[24, 24] ty #[.slice (some ⟨g, 0, none⟩) m m, .slice (some ad) n c]).run Try.prog w = .ok (goInt r) (w.setRow g (bys (bs.take m ++ cur.drop r)).toArray) := by
  have hl := hs.len
  rw [v8s_length] at hl
  have hn : (bys (bs.take m)).length = Nat.min n m := by rw [bys_length, List.length_take, hl]; exact Nat.min_comm _ _
  have hrun := run_copy_row (P := Try.prog) w 24 24 ty 5 g 0 m m ad n c (bys cur).toArray t (bys (bs.take m)) Try.underlying24 sz5 hg hn
    (fun j v hv => by
      refine hs.cells j v ?_
      rw [u8s_v8s]
      have hj : j < m := by
        have := (List.getElem?_eq_some_iff.1 hv).1
        rw [bys_length, List.length_take] at this
        omega
      rw [bys] at hv ⊢
      rw [List.map_take, List.getElem?_take, if_pos hj] at hv
      exact hv) (by rw [hn]; simp [bys_length, hcur]; exact Nat.min_le_right _ _) (bys_one' _)
  have e : ((bys cur).toArray.toList.take 0 ++ bys (bs.take m) ++ (bys cur).toArray.toList.drop (0 + (bys (bs.take m)).length)) = bys (bs.take m ++ cur.drop r) := by
    rw [hn, ← hr, List.take_zero, List.nil_append, Nat.zero_add, bys_append, ← bys_drop]
  rw [hrun, e, hn, ← hr]
/-- 'copy(x[:], b)' into an array of the call's own. -/
theorem law_copyA {w : World} {ops : Array Oper} {rest : List Oper} {o : Oper} {a : Act} {Q : Exit → Act → World → Prop} (hgd : o.guard = none) (d s : Operand)
    (ho : o.op = .call { callee := .builtin .copy, args := #[d, s], argTypes := #[24, 24] }) (g m : Nat) (hd : a.eval d = .slice (some ⟨g, 0, none⟩) m m) (ad : Addr) (n c : Nat) (hs : a.eval s = .slice (some ad) n c)
    (t : TypeId) (cur : List B) (hcur : cur.length = m) (hg : Blk w g t (bys cur)) (bs : List B) (hsh : Shows w (some ad) n (v8s bs)) (r : Nat) (hr : r = Nat.min n m)
    (h : ∀ w', On w w' g → Blk w' g t (bys (bs.take m ++ cur.drop r)) → wpList Try.prog ops Q rest (a.put o.dst (.int .i64 (r : Int))) w') : wpList Try.prog ops Q (o :: rest) a w := by
  have hrun := run_copyA w o.type g m r t cur hcur hg ad n c bs hsh hr
  refine wpList_plain hgd fun K hK => ?_
  unfold Oper.wp execOp
  simp only [ho, resolve, invoke, builtin, Sem.run_bind, Sem.run_pure, Result.andThen_ok, List.map_toArray, List.map_cons, List.map_nil, hd, hs, hrun]
  exact hK _ _ (h _ (On.setRow w g _) (setRow_heap w g _ _ t _ hg))
theorem size24 (W : World) : (sizeOf (Try.prog.elem 24)).run Try.prog W = .ok 1 W := by kernel_rfl
set_option maxRecDepth 100000 in
theorem run_from (w : World) (ao : Option Addr) (n c k : Nat) (hk : k ≤ n) (L : Int) (hL : L = k) : (Instr.sliceAt 24 (.slice ao n c) (some (.int .i64 L)) none none).run Try.prog w = .ok (.slice (fromAt ao c k) (n - k) (c - k)) w := by
  subst hL
  rw [run_sliceAt_slice (P := Try.prog) w 24 _ _ _ _ Try.underlying24, run_slice_l (P := Try.prog) w 24 ao n c Try.underlying24 .i64 k (by omega) (by omega), size24]
  simp only [Result.andThen, Int.toNat_natCast]
  unfold sliced fromAt
  simp
set_option maxRecDepth 100000 in
theorem run_to (w : World) (ao : Option Addr) (n c k : Nat) (hk : k ≤ c) (L : Int) (hL : L = k) : (Instr.sliceAt 24 (.slice ao n c) none (some (.int .i64 L)) none).run Try.prog w = .ok (.slice ao k c) w := by
  subst hL
  rw [run_sliceAt_slice (P := Try.prog) w 24 _ _ _ _ Try.underlying24, run_slice_h (P := Try.prog) w 24 ao n c Try.underlying24 .i64 k (by omega) (by omega), size24]
  simp only [Result.andThen, Int.toNat_natCast]
  unfold sliced
  cases ao with
  | none => simp
  | some ad => simp [Addr.add]
/-- 'b[k:]'. -/
theorem law_from {w : World} {ops : Array Oper} {rest : List Oper} {o : Oper} {a : Act} {Q : Exit → Act → World → Prop} (hgd : o.guard = none) (x l : Operand)
    (ho : o.op = .slice 24 x (some l) none none) (ao : Option Addr) (n c : Nat) (hx : a.eval x = .slice ao n c) (L : Int) (hl : a.eval l = .int .i64 L) (k : Nat) (hL : L = k) (hk : k ≤ n)
    (h : wpList Try.prog ops Q rest (a.put o.dst (.slice (fromAt ao c k) (n - k) (c - k))) w) : wpList Try.prog ops Q (o :: rest) a w := by
  have hs := run_from w ao n c k hk L hL
  refine wpList_plain hgd fun K hK => ?_
  unfold Oper.wp
  simp [execOp, ho, hx, hl, hs, Result.andThen]
  exact hK _ _ h
/-- 'b[:k]'. -/
theorem law_to {w : World} {ops : Array Oper} {rest : List Oper} {o : Oper} {a : Act} {Q : Exit → Act → World → Prop} (hgd : o.guard = none) (x l : Operand)
    (ho : o.op = .slice 24 x none (some l) none) (ao : Option Addr) (n c : Nat) (hx : a.eval x = .slice ao n c) (L : Int) (hl : a.eval l = .int .i64 L) (k : Nat) (hL : L = k) (hk : k ≤ c)
    (h : wpList Try.prog ops Q rest (a.put o.dst (.slice ao k c)) w) : wpList Try.prog ops Q (o :: rest) a w := by
  have hs := run_to w ao n c k hk L hL
  refine wpList_plain hgd fun K hK => ?_
  unfold Oper.wp
  simp [execOp, ho, hx, hl, hs, Result.andThen]
  exact hK _ _ h
theorem arr37 : Try.prog.underlying 37 = some (.array (Try.prog.arrayLen 37) (Try.prog.elem 37)) := by kernel_rfl
theorem arr23 : Try.prog.underlying 23 = some (.array (Try.prog.arrayLen 23) (Try.prog.elem 23)) := by kernel_rfl
theorem len37 : Try.prog.arrayLen 37 = 16 := by kernel_rfl
theorem len23 : Try.prog.arrayLen 23 = 12 := by kernel_rfl
theorem size37 (W : World) : (sizeOf (Try.prog.elem 37)).run Try.prog W = .ok 1 W := by kernel_rfl
theorem size23 (W : World) : (sizeOf (Try.prog.elem 23)).run Try.prog W = .ok 1 W := by kernel_rfl
theorem whole37 (W : World) (g : Nat) : (Instr.sliceAt 37 (.pointer (some ⟨g, 0, none⟩)) none none none).run Try.prog W = .ok (.slice (some ⟨g, 0, none⟩) 16 16) W := by
  rw [run_sliceAt_array_all W 37 _ arr37, size37, len37]
  rfl
theorem whole23 (W : World) (g : Nat) : (Instr.sliceAt 23 (.pointer (some ⟨g, 0, none⟩)) none none none).run Try.prog W = .ok (.slice (some ⟨g, 0, none⟩) 12 12) W := by
  rw [run_sliceAt_array_all W 23 _ arr23, size23, len23]
  rfl
end Go.Proofs.Ytjhkicfndbceoaa
