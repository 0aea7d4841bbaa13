/- Two disks side by side; an op laid into a block of its own. -/
import Derived.Test.YteimfnnkjhopdaaOps
namespace Go.Proofs.Yteimfnnkjhopdaa
open Go.RowKit

/-- Two disks, apart from one another, all of whose blocks lie above B. -/
structure Two (B : Nat) (w : World) (ra fa ma ca : Nat) (da : St) (rb fb mb cb : Nat) (db : St) : Prop where
  a : Lay w ra fa ma ca da
  b : Lay w rb fb mb cb db
  dis : ∀ k, fp ra fa ma k → ¬ fp rb fb mb k
  ga : ∀ k, fp ra fa ma k → B ≤ k
  gb : ∀ k, fp rb fb mb k → B ≤ k
theorem fp_lt {w : World} {r f m cap : Nat} {d : St} (h : Lay w r f m cap d) : ∀ k, fp r f m k → k < w.heap.size := by
  rintro k (rfl | rfl | rfl)
  · exact h.blk.lt
  · exact h.row.lt
  · exact h.mlt
theorem fp_turn {r f m m' s : Nat} (hm : m' = m ∨ s ≤ m') : ∀ k, fp r f m' k → fp r f m k ∨ s ≤ k := by
  rintro k (rfl | rfl | rfl)
  · exact .inl (fp_r _ _ _)
  · exact .inl (fp_f _ _ _)
  · rcases hm with rfl | hm
    · exact .inl (fp_m _ _ _)
    · exact .inr hm
section
variable {B : Nat} {w w' : World} {ra fa ma ca rb fb mb cb : Nat} {da db d : St}
theorem Two.next (h : Two B w ra fa ma ca da rb fb mb cb db) (hb : Below w.heap.size w w') : Two B w' ra fa ma ca da rb fb mb cb db := ⟨h.a.next hb, h.b.next hb, h.dis, h.ga, h.gb⟩
theorem Two.turnA (h : Two B w ra fa ma ca da rb fb mb cb db) (hT : Turn w w' ra fa ma ca d) (hB : B ≤ w.heap.size) : ∃ m, Two B w' ra fa m ca d rb fb mb cb db ∧ Fr (fp ra fa ma) w w' ∧ Below B w w' ∧ (m = ma ∨ w.heap.size ≤ m) := by
  obtain ⟨m', hm, hL, hF⟩ := hT
  have ht := fp_turn (r := ra) (f := fa) hm
  have hlt := fp_lt h.b
  refine ⟨m', ⟨hL, h.b.fr hF h.dis, fun k hk hkb => ?_, fun k hk => ?_, h.gb⟩, hF, hF.below h.ga hB, hm⟩
  · rcases ht k hk with h1 | h1
    · exact h.dis k h1 hkb
    · have := hlt k hkb; omega
  · rcases ht k hk with h1 | h1
    · exact h.ga k h1
    · omega
theorem Two.swap (h : Two B w ra fa ma ca da rb fb mb cb db) : Two B w rb fb mb cb db ra fa ma ca da := ⟨h.b, h.a, fun k hk hka => h.dis k hka hk, h.gb, h.ga⟩
theorem Two.turnB (h : Two B w ra fa ma ca da rb fb mb cb db) (hT : Turn w w' rb fb mb cb d) (hB : B ≤ w.heap.size) : ∃ m, Two B w' ra fa ma ca da rb fb m cb d ∧ Fr (fp rb fb mb) w w' ∧ Below B w w' ∧ (m = mb ∨ w.heap.size ≤ m) := by
  obtain ⟨m, h1, h2, h3, h4⟩ := h.swap.turnA hT hB
  exact ⟨m, h1.swap, h2, h3, h4⟩
/-- A block beside a disk, whatever is done to the disk. -/
theorem off_turn {r f m m' g : Nat} (hg : ¬ fp r f m g) (hm : m' = m ∨ w.heap.size ≤ m') (hlt : g < w.heap.size) : ¬ fp r f m' g := by
  intro hx
  rcases fp_turn hm g hx with h1 | h1
  · exact hg h1
  · omega
end
/-- What holds in a round: two disks, an op in a block of its own. -/
structure Rnd (B : Nat) (w0 w : World) (ra fa ma ca : Nat) (da : St) (rb fb mb cb : Nat) (db : St) (g : Nat) (os : List Value) : Prop where
  two : Two B w ra fa ma ca da rb fb mb cb db
  blk : Blk w g 34 os
  na : ¬ fp ra fa ma g
  nb : ¬ fp rb fb mb g
  below : Below B w0 w
  size : B ≤ w.heap.size
section
variable {B : Nat} {w0 w w' : World} {ra fa ma ca rb fb mb cb g : Nat} {da db d : St} {os : List Value}
theorem Rnd.next (h : Rnd B w0 w ra fa ma ca da rb fb mb cb db g os) (hb : Below w.heap.size w w') : Rnd B w0 w' ra fa ma ca da rb fb mb cb db g os :=
  ⟨h.two.next hb, h.blk.next hb, h.na, h.nb, h.below.trans (hb.mono h.size), Nat.le_trans h.size hb.size⟩
theorem Rnd.turnA (h : Rnd B w0 w ra fa ma ca da rb fb mb cb db g os) (hT : Turn w w' ra fa ma ca d) : ∃ m, Rnd B w0 w' ra fa m ca d rb fb mb cb db g os := by
  obtain ⟨m, h1, h2, h3, h4⟩ := h.two.turnA hT h.size
  exact ⟨m, h1, h.blk.fr h2 h.na, off_turn h.na h4 h.blk.lt, h.nb, h.below.trans h3, Nat.le_trans h.size h3.size⟩
theorem Rnd.turnB (h : Rnd B w0 w ra fa ma ca da rb fb mb cb db g os) (hT : Turn w w' rb fb mb cb d) : ∃ m, Rnd B w0 w' ra fa ma ca da rb fb m cb d g os := by
  obtain ⟨m, h1, h2, h3, h4⟩ := h.two.turnB hT h.size
  exact ⟨m, h1, h.blk.fr h2 h.nb, h.na, off_turn h.nb h4 h.blk.lt, h.below.trans h3, Nat.le_trans h.size h3.size⟩
end
theorem oc_one (a i : Int) (t : ByteArray) (ao : Option Addr) (n c : Nat) : (oc a i t ao n c).toArray.all (·.oneCell') = true := by simp [oc, Value.oneCell']
/-- An op is stored into a block of its own. -/
theorem store_op {w : World} {ops : Array Oper} {rest : List Oper} {o : Oper} {a : Act} {Q : Exit → Act → World → Prop} (hgd : o.guard = none) (x y : Operand) (ho : o.op = .store 34 x y) (g : Nat) (os : List Value) (b i : Int) (t : ByteArray) (ao : Option Addr) (n c : Nat) (hA : Blk w g 34 os) (hl : os.length = 4) (hx : a.eval x = .pointer (some ⟨g, 0, none⟩)) (hy : a.eval y = .agg (oc b i t ao n c).toArray)
    (h : Blk (w.setRow g (oc b i t ao n c).toArray) g 34 (oc b i t ao n c) → wpList Try.prog ops Q rest (a.put o.dst undef) (w.setRow g (oc b i t ao n c).toArray)) : wpList Try.prog ops Q (o :: rest) a w :=
  wpList_store_row hgd 34 x y ho g (oc b i t ao n c).toArray hx hy 34 os.toArray hA (by show _ = some 4; kernel_rfl) (by simp [hl]; rfl) (oc_one b i t ao n c) (h (setRow_heap w g _ _ 34 _ hA))
/-- An op laid into a block of its own. -/
theorem boxed_op (v : World) (os : List Value) (hl : os.length = 4) (b i : Int) (t : ByteArray) (ao : Option Addr) (n c : Nat) :
    Blk ((v.alloc (.cells os.toArray 34)).setRow v.heap.size (oc b i t ao n c).toArray) v.heap.size 34 (oc b i t ao n c) ∧ Below v.heap.size v ((v.alloc (.cells os.toArray 34)).setRow v.heap.size (oc b i t ao n c).toArray) := by
  have := hl
  refine ⟨setRow_heap _ v.heap.size _ _ 34 _ (Blk.new v 34 os), ?_⟩
  exact Fr.below (X := fun k => v.heap.size ≤ k) (((Fr.refl _ v).alloc _).setRow _ _ (.inl (Nat.le_refl _))) (fun _ h => h) (Nat.le_refl _)
/-- An op is loaded from its block. -/
theorem load_op {w : World} {ops : Array Oper} {rest : List Oper} {o : Oper} {a : Act} {Q : Exit → Act → World → Prop} (hgd : o.guard = none) (x : Operand) (ho : o.op = .load 34 x) (g : Nat) (b i : Int) (t : ByteArray) (ao : Option Addr) (n c : Nat) (hA : Blk w g 34 (oc b i t ao n c)) (hx : a.eval x = .pointer (some ⟨g, 0, none⟩))
    (h : wpList Try.prog ops Q rest (a.put o.dst (.agg (oc b i t ao n c).toArray)) w) : wpList Try.prog ops Q (o :: rest) a w :=
  wpList_load_mid hgd 34 x ho g 0 hx (oc b i t ao n c) _ hA.whole Try.underlying34 rfl (by show _ = some 4; kernel_rfl) h
end Go.Proofs.Yteimfnnkjhopdaa
