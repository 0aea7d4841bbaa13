/- DiskLasts: what stays, as mathematics. -/
import Derived.Test.YteimfnnkjhopdaaTwo
namespace Go.Proofs.Yteimfnnkjhopdaa
open Go.RowKit

/-- What is done to a disk counts at most one write and one flush. -/
theorem act_counts (d : St) (a i : Int) (t : ByteArray) (ks : List Int) : (d.act a i t ks).writes ≤ d.writes + 1 ∧ (d.act a i t ks).flushes ≤ d.flushes + 1 ∧ (d.act a i t ks).n = d.n := by
  unfold St.act
  split
  · unfold St.wr
    split
    · exact ⟨Nat.le_succ _, Nat.le_succ _, rfl⟩
    · split
      · exact ⟨Nat.le_succ _, Nat.le_succ _, rfl⟩
      · rw [op_writes, op_flushes, op_n]
        exact ⟨Nat.le_refl _, Nat.le_succ _, rfl⟩
  · split
    · unfold St.fl
      split
      · exact ⟨Nat.le_succ _, Nat.le_succ _, rfl⟩
      · split
        · show d.tick.op.1.writes ≤ _ ∧ d.tick.op.1.flushes ≤ _ ∧ d.tick.op.1.n = _
          rw [op_writes, op_flushes, op_n]
          exact ⟨Nat.le_succ _, Nat.le_refl _, rfl⟩
        · show d.tick.op.1.writes ≤ _ ∧ d.tick.op.1.flushes ≤ _ ∧ d.tick.op.1.n = _
          rw [op_writes, op_flushes, op_n]
          exact ⟨Nat.le_succ _, Nat.le_refl _, rfl⟩
    · split
      · unfold St.ar
        split <;> exact ⟨Nat.le_succ _, Nat.le_succ _, rfl⟩
      · split
        · exact ⟨Nat.le_succ _, Nat.le_succ _, rfl⟩
        · split
          · unfold St.po
            split <;> exact ⟨Nat.le_succ _, Nat.le_succ _, rfl⟩
          · exact ⟨Nat.le_succ _, Nat.le_succ _, rfl⟩

/-- Sector i has L, and nothing is pending in it. -/
def Still (d : St) (i : Nat) (L : Sec) : Prop := d.waits i = none ∧ d.lasts i = L
theorem still_at {d : St} {i : Nat} {L : Sec} (h : Still d i L) : d.at i = L := by unfold St.at; rw [h.1]; exact h.2
theorem still_op {d : St} {i : Nat} {L : Sec} (h : Still d i L) : Still d.op.1 i L := by
  unfold Still
  rw [op_waits, op_lasts]
  exact h
theorem still_kept {d : St} {i : Nat} {L : Sec} (h : Still d i L) (ks : List Int) : kept d ks i = L := by
  unfold kept
  split
  · exact still_at h
  · exact h.2
/-- What is flushed stays, whatever is done to other sectors. -/
theorem still_act (d : St) (i : Nat) (L : Sec) (h : Still d i L) (a b : Int) (t : ByteArray) (ks : List Int) (hn : ¬ (a = 1 ∧ b = (i : Int))) : Still (d.act a b t ks) i L := by
  unfold St.act
  split
  · rename_i ha
    unfold St.wr
    split
    · exact h
    · split
      · exact h
      · refine still_op ⟨?_, h.2⟩
        show upd d.waits b.toNat _ i = none
        rw [upd_ne]
        · exact h.1
        · intro e
          exact hn ⟨ha, by omega⟩
  · split
    · unfold St.fl
      split
      · exact h
      · have h2 : Still d.tick.op.1 i L := still_op (d := d.tick) h
        split
        · exact ⟨rfl, still_at h2⟩
        · exact h2
    · split
      · unfold St.ar
        split <;> exact h
      · split
        · exact h
        · split
          · unfold St.po
            split
            · exact ⟨rfl, still_kept h ks⟩
            · exact h
          · exact h
theorem pend_none (d : St) (h : d.waits = fun _ => none) : d.pend = [] := by
  unfold St.pend
  rw [h]
  simp
end Go.Proofs.Yteimfnnkjhopdaa
