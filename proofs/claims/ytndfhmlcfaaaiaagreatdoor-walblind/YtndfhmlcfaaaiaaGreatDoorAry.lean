/- Arrays of bytes that are cut and copied into. -/
import Derived.Test.YtndfhmlcfaaaiaaGreatDoorChk
import Derived.Test.YtndfhmlcfaaaiaaGreatDoorLastS
namespace Go.Proofs.YtndfhmlcfaaaiaaGreatDoor
open Go.RowKit

/-- Bytes as the program's numbers. -/
def v8s (bs : List B) : List Int := bs.map v8
theorem v8s_length (bs : List B) : (v8s bs).length = bs.length := by simp [v8s]
theorem u8s_v8s (bs : List B) : u8s (v8s bs) = bys bs := by simp [u8s, v8s, bys]
theorem v8s_append (a b : List B) : v8s (a ++ b) = v8s a ++ v8s b := by simp [v8s]
theorem v8s_rng (bs : List B) : ∀ x ∈ v8s bs, 0 ≤ x ∧ x ≤ 255 := by
  intro x hx
  obtain ⟨b, _, rfl⟩ := List.mem_map.1 hx
  exact ⟨v8_nn b, v8_le b⟩
theorem v8s_at (bs : List B) (j : Nat) (h : j < bs.length) : (v8s bs).getD j 0 = v8 (bs.getD j 0#8) := by
  simp [v8s, List.getD, List.getElem?_eq_getElem h]
theorem be_snoc : ∀ (k : Nat) (v : Int), be (k + 1) v = be k (v / 256) ++ [v % 256]
  | 0, v => by simp [be]
  | k + 1, v => by
    have ih := be_snoc k v
    rw [be, ih, be]
    simp only [List.cons_append]
    rw [Int.ediv_ediv_of_nonneg (by omega), Int.pow_succ, Int.mul_comm]
theorem be_v8s (k n : Nat) : be k (n : Int) = v8s (beb k n) := by
  induction k generalizing n with
  | zero => rfl
  | succ k ih =>
    have e : (n : Int) / 256 = ((n / 256 : Nat) : Int) := by omega
    have e2 : v8 (BitVec.ofNat 8 n) = (n : Int) % 256 := by unfold v8; rw [BitVec.toNat_ofNat]; omega
    rw [be_snoc, beb, v8s_append, e, ih]
    simp [v8s, e2]
theorem beval_v8s (l : List B) : beval (v8s l) = (nub l : Int) := by
  have h : ∀ (l : List B) (a : Nat), (v8s l).foldl (fun a b => 256 * a + b) (a : Int) = ((l.foldl (fun a b => 256 * a + b.toNat) a : Nat) : Int) := by
    intro l
    induction l with
    | nil => intro a; rfl
    | cons b l ih =>
      intro a
      have := ih (256 * a + b.toNat)
      simp only [v8s, List.map_cons, List.foldl_cons] at this ⊢
      rw [← this]
      congr 1
  exact h l 0
theorem add_off (g o j : Nat) : (⟨g, o, none⟩ : Addr).add j = ⟨g, o + j, none⟩ := by unfold Addr.add; split <;> simp_all
/-- A piece of a block shows its bytes. -/
theorem Blk.shows {w : World} {g : Nat} {t : TypeId} {l : List B} (h : Blk w g t (bys l)) (o n : Nat) (hn : o + n ≤ l.length) : Shows w (some ⟨g, o, none⟩) n (v8s (seg l o n)) := by
  refine ⟨by rw [v8s_length, seg_length _ _ _ hn], fun e => (by cases e), fun ad had j hj => ?_, v8s_rng _⟩
  cases had
  rw [add_off, v8s_at _ _ (by rw [seg_length _ _ _ hn]; exact hj)]
  have h1 := h.cell (o + j) _ (bys_get l (o + j) (by omega))
  rw [h1]
  congr 3
  simp [seg, List.getD, hj, List.getElem?_drop]

/-- Bytes put over others from o on. -/
def over (l : List B) (o : Nat) (xs : List B) : List B := l.take o ++ (xs ++ l.drop (o + xs.length))
theorem over_length (l : List B) (o : Nat) (xs : List B) (h : o + xs.length ≤ l.length) : (over l o xs).length = l.length := by simp [over]; omega
theorem over_mid (a b c xs : List B) (o : Nat) (ho : o = a.length) (hb : b.length = xs.length) : over (a ++ (b ++ c)) o xs = a ++ (xs ++ c) := by
  subst ho
  simp [over, ← hb]
theorem bys_take (l : List B) (k : Nat) : (bys l).take k = bys (l.take k) := by simp [bys]
theorem bys_drop (l : List B) (k : Nat) : (bys l).drop k = bys (l.drop k) := by simp [bys]
section
variable {w : World} {o : Oper} {a : Act} {K : Act → World → Prop} {Q : Exit → Act → World → Prop}
/-- 'copy(s[o:], xs)' into an array. -/
theorem copy_in (d s : Operand) (ho : o.op = .call { callee := .builtin .copy, args := #[d, s], argTypes := #[151, 151] }) (g off N C : Nat) (hd : a.eval d = .slice (some ⟨g, off, none⟩) N C) (ad : Addr) (n c : Nat) (hs : a.eval s = .slice (some ad) n c)
    (t : TypeId) (cur : List B) (hg : Blk w g t (bys cur)) (bs : List B) (hsh : Shows w (some ad) n (v8s bs)) (hn : n ≤ N) (hfit : off + n ≤ cur.length)
    (h : ∀ w', w' = w.setRow g (bys (over cur off bs)).toArray → Blk w' g t (bys (over cur off bs)) → K (a.put o.dst (.int .i64 (n : Int))) w') : o.wp Tryz.prog a w K Q := by
  have hl := hsh.len
  rw [v8s_length] at hl
  have hrun := run_copy_row (P := Tryz.prog) w 151 151 o.type 5 g off N C ad n c (bys cur).toArray t (bys bs) Tryz.underlying151 sz5 hg (by rw [bys_length, hl]; exact (Nat.min_eq_left hn).symm)
    (fun j v hv => hsh.cells j v (by rw [u8s_v8s]; exact hv)) (by rw [bys_length, hl]; simpa [bys_length] using hfit) (bys_one' _)
  have e : (((bys cur).toArray.toList.take off ++ bys bs ++ (bys cur).toArray.toList.drop (off + (bys bs).length)).toArray : Array Value) = (bys (over cur off bs)).toArray := by
    rw [bys_length]
    simp [over, bys_append, bys_take, bys_drop]
  rw [e, bys_length, hl] at hrun
  unfold Oper.wp execOp
  simp only [ho, resolve, invoke, builtin, Sem.run_bind, Sem.run_pure, Result.andThen_ok, List.map_toArray, List.map_cons, List.map_nil, hd, hs, hrun]
  exact h _ rfl (setRow_heap w g _ _ t _ hg)
end
theorem arr64 : Tryz.prog.underlying 26 = some (.array (Tryz.prog.arrayLen 26) (Tryz.prog.elem 26)) := by kernel_rfl
theorem arr31 : Tryz.prog.underlying 66 = some (.array (Tryz.prog.arrayLen 66) (Tryz.prog.elem 66)) := by kernel_rfl
theorem len64 : Tryz.prog.arrayLen 26 = 512 := by kernel_rfl
theorem len31 : Tryz.prog.arrayLen 66 = 480 := by kernel_rfl
theorem size64 (W : World) : (sizeOf (Tryz.prog.elem 26)).run Tryz.prog W = .ok 1 W := by kernel_rfl
theorem size31 (W : World) : (sizeOf (Tryz.prog.elem 66)).run Tryz.prog W = .ok 1 W := by kernel_rfl
theorem whole64 (W : World) (g : Nat) : (Instr.sliceAt 26 (.pointer (some ⟨g, 0, none⟩)) none none none).run Tryz.prog W = .ok (.slice (some ⟨g, 0, none⟩) 512 512) W := by
  rw [run_sliceAt_array_all W 26 _ arr64, size64, len64]
  rfl
theorem whole31 (W : World) (g : Nat) : (Instr.sliceAt 66 (.pointer (some ⟨g, 0, none⟩)) none none none).run Tryz.prog W = .ok (.slice (some ⟨g, 0, none⟩) 480 480) W := by
  rw [run_sliceAt_array_all W 66 _ arr31, size31, len31]
  rfl
theorem from64 (W : World) (g k : Nat) (hk : k < 512) : (Instr.sliceAt 26 (.pointer (some ⟨g, 0, none⟩)) (some (.int .i64 (k : Int))) none none).run Tryz.prog W = .ok (.slice (some ⟨g, k, none⟩) (512 - k) (512 - k)) W := by
  rw [run_sliceAt_array_l W 26 _ arr64 .i64 (k : Int) (by omega) (by rw [len64]; omega), size64, len64]
  simp only [Result.andThen, Int.toNat_natCast]
  unfold slicedAt
  simp [add_off]
  omega
theorem from31 (W : World) (g k : Nat) (hk : k < 480) : (Instr.sliceAt 66 (.pointer (some ⟨g, 0, none⟩)) (some (.int .i64 (k : Int))) none none).run Tryz.prog W = .ok (.slice (some ⟨g, k, none⟩) (480 - k) (480 - k)) W := by
  rw [run_sliceAt_array_l W 66 _ arr31 .i64 (k : Int) (by omega) (by rw [len31]; omega), size31, len31]
  simp only [Result.andThen, Int.toNat_natCast]
  unfold slicedAt
  simp [add_off]
  omega
theorem part64 (W : World) (g k m : Nat) (hk : k ≤ m) (hm : m ≤ 512) (hk5 : k < 512) : (Instr.sliceAt 26 (.pointer (some ⟨g, 0, none⟩)) (some (.int .i64 (k : Int))) (some (.int .i64 (m : Int))) none).run Tryz.prog W = .ok (.slice (some ⟨g, k, none⟩) (m - k) (512 - k)) W := by
  rw [run_sliceAt_array_lh W 26 _ arr64 .i64 .i64 (k : Int) (m : Int) (by omega) (by omega) (by rw [len64]; omega), size64, len64]
  simp only [Result.andThen, Int.toNat_natCast]
  unfold slicedAt
  simp [add_off]
  omega
end Go.Proofs.YtndfhmlcfaaaiaaGreatDoor
