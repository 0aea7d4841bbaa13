/- One op done to a disk, whatever it answers. -/
import Derived.Test.YteimfnnkjhopdaaWorks
namespace Go.Proofs.Yteimfnnkjhopdaa
open Go.RowKit

/-- An op's cells. -/
def oc (a i : Int) (t : ByteArray) (ao : Option Addr) (n c : Nat) : List Value := [.int .i64 a, .int .i64 i, .string t, .slice ao n c]
/-- What one op makes of a disk. -/
def St.act (d : St) (a i : Int) (t : ByteArray) (ks : List Int) : St :=
  if a = 1 then (d.wr i (textSec t)).1 else if a = 2 then d.fl.1 else if a = 4 then (d.ar i).1 else if a = 5 then d.goOff else if a = 6 then (d.po ks).1 else d
/-- What holds while an op is read. -/
structure AcS (v w : World) (r f m cap : Nat) (d : St) (g : Nat) (os : List Value) : Prop where
  lay : Lay v r f m cap d
  blk : Blk v g 34 os
  below : Below w.heap.size w v
section
variable {v v' w : World} {r f m cap : Nat} {d : St} {g : Nat} {os : List Value}
theorem AcS.drew (h : AcS v w r f m cap d g os) : AcS v.drew w r f m cap d g os := ⟨h.lay.drew, h.blk.drew, ⟨h.below.os, h.below.tape, h.below.output, h.below.size, h.below.block⟩⟩
theorem AcS.next (h : AcS v w r f m cap d g os) (hb : Below v.heap.size v v') : AcS v' w r f m cap d g os := ⟨h.lay.next hb, h.blk.next hb, h.below.trans (hb.mono h.below.size)⟩
end
theorem AcS.c1 {v w : World} {r f m cap : Nat} {d : St} {g : Nat} {a i : Int} {t : ByteArray} {ao : Option Addr} {n c : Nat} (h : AcS v w r f m cap d g (oc a i t ao n c)) : v.cell? ⟨g, 1, none⟩ = some (.int .i64 i) := h.blk.cell 1 _ rfl
theorem AcS.c2 {v w : World} {r f m cap : Nat} {d : St} {g : Nat} {a i : Int} {t : ByteArray} {ao : Option Addr} {n c : Nat} (h : AcS v w r f m cap d g (oc a i t ao n c)) : v.cell? ⟨g, 2, none⟩ = some (.string t) := h.blk.cell 2 _ rfl
theorem Turn.after {w v v' : World} {r f m cap : Nat} {d : St} (hb : Below w.heap.size w v) (h : Turn v v' r f m cap d) (hl : fp r f m r) : Turn w v' r f m cap d := by
  obtain ⟨m', hm, hL, hF⟩ := h
  have := hl
  have hs := hb.size
  exact ⟨m', hm.imp id (fun h => Nat.le_trans hs h), hL, (Fr.of_below hb (Nat.le_refl _)).trans hF (fun _ _ h => h)⟩
theorem Turn.then {w v v' : World} {r f m cap : Nat} {d : St} (h : Turn w v r f m cap d) (hb : Below v.heap.size v v') : Turn w v' r f m cap d := by
  obtain ⟨m', hm, hL, hF⟩ := h
  exact ⟨m', hm, hL.next hb, hF.trans (Fr.of_below (X := fun _ => False) hb (Nat.le_refl _)) (fun _ _ h => h.elim)⟩

set_option maxRecDepth 100000 in
set_option maxHeartbeats 2000000 in
theorem acts_any (w : World) (r f m cap : Nat) (d : St) (h : Lay w r f m cap d) (a i : Int) (t : ByteArray) (ao : Option Addr) (n c : Nat) (xs : List Int) (ht : t.size ≤ maxLen) (hi : i < 9223372036854775808) (hx : IntsS w ao n xs r f m) (hn : n ≤ maxLen) (hw : d.writes < 1000000000) (hfl : d.flushes < 1000000000) :
    Calls Try.prog 19 #[.pointer (some ⟨r, 0, none⟩), .agg (oc a i t ao n c).toArray] w fun e w' => e = .returned (.tuple #[]) ∧ Turn w w' r f m cap (d.act a i t xs) := by
  have hO := Blk.new w 34 (oc a i t ao n c)
  have hB : Below w.heap.size w (w.alloc (.cells (oc a i t ao n c).toArray 34)) := (Below.refl _ w).alloc (Nat.le_refl _) _
  have hL := h.next hB
  have hX := hx.next hB
  have k1 := hO.cell 1 _ rfl
  have k2 := hO.cell 2 _ rfl
  have k3 := hO.cell 3 _ rfl
  have hAS : AcS (w.alloc (.cells (oc a i t ao n c).toArray 34)) w r f m cap d w.heap.size (oc a i t ao n c) := ⟨hL, hO, hB⟩
  have k0 := hO.cell 0 _ rfl
  clear hx h
  have fin : ∀ v' d', Turn (w.alloc (.cells (oc a i t ao n c).toArray 34)) v' r f m cap d' → Turn w v' r f m cap d' := fun v' d' hT => Turn.after hB hT (fp_r r f m)
  have FIN : Hid (∀ v' d', Turn (w.alloc (.cells (oc a i t ao n c).toArray 34)) v' r f m cap d' → Turn w v' r f m cap d') := fin
  clear fin
  unfold St.act
  go_enter Try.func19, Try.ntmps19
  by_cases a1 : a = 1
  · subst a1
    rw [if_pos rfl]
    go_wp2_with fail
    refine wp_region_to (fun v => AcS v w r f m cap d w.heap.size (oc 1 i t ao n c)) 6 (by kernel_rfl) ?_
    have hS0 := hAS.drew
    refine wpTo_take (i := 0) (v := ?v0q) (show _ = some _ by simp only [List.getElem?_toArray, List.getElem?_cons_zero]; exact rfl) (by kernel_rfl) (by kernel_rfl) (by kernel_rfl) (by kernel_rfl) (by exact fun _ _ _ h => h) (Or.inl ⟨by rfl, ?hy0q⟩) hS0 ?r0q
    case hy0q => (intro w hSw; (try dsimp only at hSw); go_simp; try with_reducible rfl)
    (try simp only [Act.put]); (try simp only [List.setIfInBounds_toArray]); (repeat (first | simp only [List.set_cons_succ] | simp only [List.set_cons_zero]))
    refine wpTo_take (i := 1) (v := ?v1q) (show _ = some _ by simp only [List.getElem?_toArray, List.getElem?_cons_succ, List.getElem?_cons_zero]; exact rfl) (by kernel_rfl) (by kernel_rfl) (by kernel_rfl) (by kernel_rfl) (by exact fun _ _ _ h => h) (Or.inl ⟨by rfl, ?hy1q⟩) hS0 ?r1q
    case hy1q => (intro w hSw; (try dsimp only at hSw); go_simp; try with_reducible rfl)
    (try simp only [Act.put]); (try simp only [List.setIfInBounds_toArray]); (repeat (first | simp only [List.set_cons_succ] | simp only [List.set_cons_zero]))
    refine wpTo_take (i := 3) (v := ?v3q) (show _ = some _ by simp only [List.getElem?_toArray, List.getElem?_cons_succ, List.getElem?_cons_zero]; exact rfl) (by kernel_rfl) (by kernel_rfl) (by kernel_rfl) (by kernel_rfl) (by exact fun _ _ _ h => h) (Or.inl ⟨by rfl, ?hy3q⟩) hS0 ?r3q
    case hy3q => (intro w hSw; (try dsimp only at hSw); go_simp; try with_reducible rfl)
    (try simp only [Act.put]); (try simp only [List.setIfInBounds_toArray]); (repeat (first | simp only [List.set_cons_succ] | simp only [List.set_cons_zero]))
    refine wpTo_take (i := 2) (v := ?v2q) (show _ = some _ by simp only [List.getElem?_toArray, List.getElem?_cons_succ, List.getElem?_cons_zero]; exact rfl) (by kernel_rfl) (by kernel_rfl) (by kernel_rfl) (by kernel_rfl) (by exact fun _ _ _ h => h) (Or.inl ⟨by rfl, ?hy2q⟩) hS0 ?r2q
    case hy2q => (intro w hSw; (try dsimp only at hSw); have hcc := AcS.c1 hSw; go_simp; try with_reducible rfl)
    (try simp only [Act.put]); (try simp only [List.setIfInBounds_toArray]); (repeat (first | simp only [List.set_cons_succ] | simp only [List.set_cons_zero]))
    refine wpTo_take (i := 4) (v := ?v4q) (show _ = some _ by simp only [List.getElem?_toArray, List.getElem?_cons_succ, List.getElem?_cons_zero]; exact rfl) (by kernel_rfl) (by kernel_rfl) (by kernel_rfl) (by kernel_rfl) (by exact fun _ _ _ h => h) (Or.inl ⟨by rfl, ?hy4q⟩) hS0 ?r4q
    case hy4q => (intro w hSw; (try dsimp only at hSw); have hcc := AcS.c2 hSw; go_simp; try with_reducible rfl)
    (try simp only [Act.put]); (try simp only [List.setIfInBounds_toArray]); (repeat (first | simp only [List.set_cons_succ] | simp only [List.set_cons_zero]))
    refine wpTo_one (i := 5) (by kernel_rfl) (show _ = some _ by simp only [List.getElem?_toArray, List.getElem?_cons_succ, List.getElem?_cons_zero]; exact rfl) (fun K hK => ?_)
    go_simp
    go_at_call 14; refine (text_any t ht _).mono ?_; rintro e v5 ⟨rfl, kb⟩
    (try simp only [])
    refine hK.out _ _ (hS0.next kb) (fun hS1 => ?_)
    clear hK K
    (try simp only [Act.put]); (try simp only [List.setIfInBounds_toArray]); (repeat (first | simp only [List.set_cons_succ] | simp only [List.set_cons_zero]))
    refine wpTo_last (by kernel_rfl) (show _ = some _ by simp only [List.getElem?_toArray, List.getElem?_cons_succ, List.getElem?_cons_zero]; exact rfl) (by kernel_rfl) (fun K hK => ?_)
    go_simp
    go_at_call 29; refine (wr_any _ r f m cap d hS1.lay i (textSec t) hw).mono ?_; rintro e v6 ⟨rfl, hT⟩
    (try simp only [])
    refine hK.out _ _ ?_
    clear hK K
    have hT2 := Turn.after hS1.below hT (fp_r r f m)
    go_wp2_with fail
    go_end0
    exact ⟨rfl, hT2⟩
  · by_cases a2 : a = 2
    · subst a2
      simp only [show ¬ ((2 : Int) = 1) by decide, show ¬ ((2 : Int) = 4) by decide, show ¬ ((2 : Int) = 5) by decide, show ¬ ((2 : Int) = 6) by decide, if_false, if_true]
      go_wp2_with fail
      go_at_call 23; refine (fl_any _ r f m cap d hL hfl).mono ?_; rintro e v6 ⟨rfl, hT⟩
      go_wp2_with fail
      go_end0
      exact ⟨rfl, FIN.out _ _ hT⟩
    · by_cases a4 : a = 4
      · subst a4
        simp only [show ¬ ((4 : Int) = 1) by decide, show ¬ ((4 : Int) = 2) by decide, show ¬ ((4 : Int) = 5) by decide, show ¬ ((4 : Int) = 6) by decide, if_false, if_true]
        go_wp2_with fail
        go_at_call 22; refine (ar_any _ r f m cap d hL i hi).mono ?_; rintro e v6 ⟨rfl, hT⟩
        go_wp2_with fail
        go_end0
        exact ⟨rfl, FIN.out _ _ hT⟩
      · by_cases a5 : a = 5
        · subst a5
          simp only [show ¬ ((5 : Int) = 1) by decide, show ¬ ((5 : Int) = 2) by decide, show ¬ ((5 : Int) = 4) by decide, show ¬ ((5 : Int) = 6) by decide, if_false, if_true]
          go_wp2_with fail
          go_at_call 24; refine (off_ok _ r f m cap d hL).mono ?_; rintro e v6 ⟨rfl, hT⟩
          go_wp2_with fail
          go_end0
          exact ⟨rfl, FIN.out _ _ hT⟩
        · by_cases a6 : a = 6
          · subst a6
            simp only [show ¬ ((6 : Int) = 1) by decide, show ¬ ((6 : Int) = 2) by decide, show ¬ ((6 : Int) = 4) by decide, show ¬ ((6 : Int) = 5) by decide, if_false, if_true]
            go_wp2_with fail
            go_at_call 21; refine (po_any _ r f m cap d hL ao n c xs hX.1 hX.2 (by unfold maxLen at hn; omega)).mono ?_; rintro e v6 ⟨rfl, hT⟩
            go_wp2_with fail
            go_end0
            exact ⟨rfl, FIN.out _ _ hT⟩
          · by_cases a3 : a = 3
            · subst a3
              simp only [show ¬ ((3 : Int) = 1) by decide, show ¬ ((3 : Int) = 2) by decide, show ¬ ((3 : Int) = 4) by decide, show ¬ ((3 : Int) = 5) by decide, show ¬ ((3 : Int) = 6) by decide, if_false]
              go_wp2_with fail
              go_at_call 26; refine (rd_any _ r f m cap d hL i).mono ?_; rintro e v6 ⟨rfl, hT⟩
              go_wp2_with fail
              go_end0
              exact ⟨rfl, FIN.out _ _ (Turn.still hL hT)⟩
            · by_cases a7 : a = 7
              · subst a7
                simp only [show ¬ ((7 : Int) = 1) by decide, show ¬ ((7 : Int) = 2) by decide, show ¬ ((7 : Int) = 4) by decide, show ¬ ((7 : Int) = 5) by decide, show ¬ ((7 : Int) = 6) by decide, if_false]
                go_wp2_with fail
                go_at_call 25; refine (pending_any _ r f m cap d hL (by omega)).mono ?_; rintro e v6 ⟨v, rfl, -, hT⟩
                have hL6 := hL.next hT
                go_wp2_with fail
                go_at_call 27; refine (counts_any _ r f m cap d hL6).mono ?_; rintro e v7 ⟨rfl, hT7⟩
                have hL7 := hL6.next hT7
                go_wp2_with fail
                go_at_call 20; refine (dead_any _ r f m cap d hL7).mono ?_; rintro e w' ⟨rfl, rfl⟩
                go_wp2_with fail
                go_at_call 30; refine (size_any _ r f m cap d hL7).mono ?_; rintro e w' ⟨rfl, rfl⟩
                go_wp2_with fail
                go_end0
                exact ⟨rfl, FIN.out _ _ (Turn.still hL (hT.trans (hT7.mono hT.size)))⟩
              · by_cases a8 : a = 8
                · subst a8
                  simp only [show ¬ ((8 : Int) = 1) by decide, show ¬ ((8 : Int) = 2) by decide, show ¬ ((8 : Int) = 4) by decide, show ¬ ((8 : Int) = 5) by decide, show ¬ ((8 : Int) = 6) by decide, if_false]
                  go_wp2_with fail
                  go_at_call 17; refine (sectors_any _ r f m cap d hL).mono ?_; rintro e v6 ⟨g, c, rfl, -, -, hT⟩
                  go_wp2_with fail
                  go_end0
                  exact ⟨rfl, FIN.out _ _ (Turn.still hL hT)⟩
                · rw [if_neg a1, if_neg a2, if_neg a4, if_neg a5, if_neg a6]
                  go_wp2_with fail
                  go_end0
                  exact ⟨rfl, FIN.out _ _ (Turn.still hL (Below.refl _ _))⟩
end Go.Proofs.Yteimfnnkjhopdaa
