/- Each call on a disk, in one sentence. -/
import Derived.Test.YtndfhmlcfaaaiaaDoorOn
namespace Go.Proofs.YtndfhmlcfaaaiaaDoor
open Go.RowKit

def St.wr (d : St) (i : Int) (s : Sec) : St × Int := if d.off = true then (d, 6) else if i < 0 ∨ (d.n : Int) ≤ i then (d, 2) else (d.write i.toNat s).op
def St.fl (d : St) : St × Int := if d.off = true then (d, 6) else if d.tick.op.2 = 0 then (d.tick.op.1.all, 0) else (d.tick.op.1, d.tick.op.2)
def St.rd (d : St) (i : Int) : Sec × Int := if d.off = true then (zs, 6) else if i < 0 ∨ (d.n : Int) ≤ i then (zs, 2) else (d.at i.toNat, 0)
def St.ar (d : St) (i : Int) : St × Int := if i < 0 then (d, 2) else ({ d with armed := i.toNat }, 0)
def St.po (d : St) (ks : List Int) : St × Int := if d.off = true then (d.on ks, 0) else (d, 70)

/-- The disk has turned to d; nothing but its blocks has been touched. -/
def Turn (w w' : World) (r f m cap : Nat) (d : St) : Prop := ∃ m', (m' = m ∨ w.heap.size ≤ m') ∧ Lay w' r f m' cap d ∧ Fr (fp r f m) w w'
theorem Turn.of {w w' : World} {r f m cap : Nat} {d : St} (h : Lay w' r f m cap d) (hf : Fr (fp r f m) w w') : Turn w w' r f m cap d := ⟨m, .inl rfl, h, hf⟩
theorem Turn.still {w w' : World} {r f m cap : Nat} {d : St} (h : Lay w r f m cap d) (hb : Below w.heap.size w w') : Turn w w' r f m cap d := ⟨m, .inl rfl, h.next hb, Fr.of_below hb (Nat.le_refl _)⟩

theorem wr_any (w : World) (r f m cap : Nat) (d : St) (h : Lay w r f m cap d) (i : Int) (s : Sec) (hw : d.writes < 1000000000) :
    Calls Tryd.prog 28 #[.pointer (some ⟨r, 0, none⟩), .int .i64 i, .agg (sb s).toArray] w fun e w' => e = .returned (.int .i64 (d.wr i s).2) ∧ Turn w w' r f m cap (d.wr i s).1 := by
  unfold St.wr
  by_cases ho : d.off = true
  · rw [if_pos ho]
    exact (write_bad w r f m cap d h i 6 s (by unfold St.no; rw [if_pos ho]) (by decide)).mono fun e w' ⟨he, hb⟩ => ⟨he, .still h hb⟩
  · rw [if_neg ho]
    by_cases hi : i < 0 ∨ (d.n : Int) ≤ i
    · rw [if_pos hi]
      exact (write_bad w r f m cap d h i 2 s (by unfold St.no; rw [if_neg ho, if_pos hi]) (by decide)).mono fun e w' ⟨he, hb⟩ => ⟨he, .still h hb⟩
    · rw [if_neg hi]
      obtain ⟨k, rfl⟩ := Int.eq_ofNat_of_zero_le (show 0 ≤ i by omega)
      exact (write_good w r f m cap d h k s (by simpa using ho) (by omega) hw).mono fun e w' ⟨he, hl, hf⟩ => ⟨he, .of hl hf⟩
theorem fl_any (w : World) (r f m cap : Nat) (d : St) (h : Lay w r f m cap d) (hf : d.flushes < 1000000000) :
    Calls Tryd.prog 29 #[.pointer (some ⟨r, 0, none⟩)] w fun e w' => e = .returned (.int .i64 d.fl.2) ∧ Turn w w' r f m cap d.fl.1 := by
  unfold St.fl
  by_cases ho : d.off = true
  · rw [if_pos ho]
    exact (flush_out w r f m cap d h ho).mono fun e w' ⟨he, hw⟩ => by subst hw; exact ⟨he, .still h (Below.refl _ _)⟩
  · rw [if_neg ho]
    by_cases h0 : d.tick.op.2 = 0
    · rw [if_pos h0]
      exact (flush_good w r f m cap d h (by simpa using ho) h0 hf).mono fun e w' ⟨he, m', hm', hl, hfr⟩ => ⟨he, m', .inr hm', hl, hfr⟩
    · rw [if_neg h0]
      exact (flush_off w r f m cap d h (by simpa using ho) _ rfl h0 hf).mono fun e w' ⟨he, hl, hfr⟩ => ⟨he, .of hl hfr⟩
theorem rd_any (w : World) (r f m cap : Nat) (d : St) (h : Lay w r f m cap d) (i : Int) :
    Calls Tryd.prog 26 #[.pointer (some ⟨r, 0, none⟩), .int .i64 i] w fun e w' => e = .returned (.tuple #[.agg (sb (d.rd i).1).toArray, .int .i64 (d.rd i).2]) ∧ Below w.heap.size w w' := by
  unfold St.rd
  by_cases ho : d.off = true
  · rw [if_pos ho]
    exact read_bad w r f m cap d h i 6 (by unfold St.no; rw [if_pos ho]) (by decide)
  · rw [if_neg ho]
    by_cases hi : i < 0 ∨ (d.n : Int) ≤ i
    · rw [if_pos hi]
      exact read_bad w r f m cap d h i 2 (by unfold St.no; rw [if_neg ho, if_pos hi]) (by decide)
    · rw [if_neg hi]
      obtain ⟨k, rfl⟩ := Int.eq_ofNat_of_zero_le (show 0 ≤ i by omega)
      exact read_good w r f m cap d h k (by simpa using ho) (by omega)
theorem ar_any (w : World) (r f m cap : Nat) (d : St) (h : Lay w r f m cap d) (i : Int) (hi : i < 9223372036854775808) :
    Calls Tryd.prog 21 #[.pointer (some ⟨r, 0, none⟩), .int .i64 i] w fun e w' => e = .returned (.int .i64 (d.ar i).2) ∧ Turn w w' r f m cap (d.ar i).1 := by
  unfold St.ar
  by_cases hn : i < 0
  · rw [if_pos hn]
    exact (arm_bad w r i hn).mono fun e w' ⟨he, hw⟩ => by subst hw; exact ⟨he, .still h (Below.refl _ _)⟩
  · rw [if_neg hn]
    obtain ⟨k, rfl⟩ := Int.eq_ofNat_of_zero_le (show 0 ≤ i by omega)
    exact (arm_any w r f m cap d h k (by omega)).mono fun e w' ⟨he, hl, hf, _⟩ => ⟨he, .of hl hf⟩
theorem po_any (w : World) (r f m cap : Nat) (d : St) (h : Lay w r f m cap d) (ao : Option Addr) (n c : Nat) (xs : List Int) (hx : Ints w ao n xs) (hap : ∀ ad, ao = some ad → 0 < n → ¬ fp r f m ad.block) (hn : n ≤ 9223372036854775807) :
    Calls Tryd.prog 48 #[.pointer (some ⟨r, 0, none⟩), .slice ao n c] w fun e w' => e = .returned (.int .i64 (d.po xs).2) ∧ Turn w w' r f m cap (d.po xs).1 := by
  unfold St.po
  by_cases ho : d.off = true
  · rw [if_pos ho]
    exact (on_good w r f m cap d h ho ao n c xs hx hap hn).mono fun e w' ⟨he, m', hm', hl, hfr⟩ => ⟨he, m', .inr hm', hl, hfr⟩
  · rw [if_neg ho]
    exact (on_not w r f m cap d h (by simpa using ho) ao n c).mono fun e w' ⟨he, hw⟩ => by subst hw; exact ⟨he, .still h (Below.refl _ _)⟩

section
variable {w w' : World} {r f m cap : Nat} {d : St}
/-- A block beside a disk. -/
def Side (w : World) (g : Nat) (t : TypeId) (vs : List Value) (r f m : Nat) : Prop := Blk w g t vs ∧ ¬ fp r f m g
theorem Side.turn {g : Nat} {t : TypeId} {vs : List Value} {m' : Nat} (h : Side w g t vs r f m) (hf : Fr (fp r f m) w w') (hm : m' = m ∨ w.heap.size ≤ m') : Side w' g t vs r f m' := by
  refine ⟨h.1.fr hf h.2, fun hx => ?_⟩
  have hlt := h.1.lt
  rcases hx with e | e | e
  · exact h.2 (.inl e)
  · exact h.2 (.inr (.inl e))
  · rcases hm with rfl | hm
    · exact h.2 (.inr (.inr e))
    · omega
theorem Side.next {g : Nat} {t : TypeId} {vs : List Value} (h : Side w g t vs r f m) (hb : Below w.heap.size w w') : Side w' g t vs r f m := ⟨h.1.next hb, h.2⟩
theorem Side.new {g : Nat} {t : TypeId} {vs : List Value} (hl : Lay w r f m cap d) (hb : Blk w' g t vs) (hg : w.heap.size ≤ g) : Side w' g t vs r f m := by
  refine ⟨hb, fun hx => ?_⟩
  have h1 := hl.blk.lt
  have h2 := hl.row.lt
  have h3 := hl.mlt
  rcases hx with e | e | e <;> omega
/-- A sector laid into a block of its own. -/
theorem boxed (v : World) (s : Sec) : Blk ((v.alloc (.cells (sb zs).toArray 64)).setRow v.heap.size (sb s).toArray) v.heap.size 64 (sb s) ∧ Below v.heap.size v ((v.alloc (.cells (sb zs).toArray 64)).setRow v.heap.size (sb s).toArray) := by
  have h := Blk.new v 64 (sb zs)
  refine ⟨setRow_heap _ v.heap.size _ _ 64 _ h, ?_⟩
  exact Fr.below (X := fun k => v.heap.size ≤ k) (((Fr.refl _ v).alloc _).setRow _ _ (.inl (Nat.le_refl _))) (fun _ h => h) (Nat.le_refl _)
theorem op_zero (d : St) (h : d.armed = 0) : d.op = (d, 0) := by unfold St.op; rw [if_pos h]
end
end Go.Proofs.YtndfhmlcfaaaiaaDoor

