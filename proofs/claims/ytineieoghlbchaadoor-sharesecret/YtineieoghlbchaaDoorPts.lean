/- The points of shares: their places, and what stands there. -/
import Derived.Test.YtineieoghlbchaaDoorSh
import Derived.Test.YtineieoghlbchaaDoorApartA
import Derived.Deep.RegionHeld3
import Derived.Deep.AppendLies
namespace Go.Proofs.YtineieoghlbchaaDoor
open Go.RowKit

def NeB (v u : Value) : Prop := v.ownBlock = none ∨ v.ownBlock ≠ u.ownBlock
theorem NeB.symm {v u : Value} (h : NeB v u) : NeB u v := by
  rcases h with h | h
  · cases hu : u.ownBlock with
    | none => exact .inl hu
    | some b => exact .inr (by rw [h, hu]; simp)
  · exact .inr (fun e => h e.symm)

theorem new_at {w : World} {o : Obj} {g : Nat} (h : w.heap.size = g) : (w.alloc o).heap[g]? = some o := by subst h; exact heap_alloc_new w o
theorem old_at {w : World} {o x : Obj} {g : Nat} (h : w.heap[g]? = some x) : (w.alloc o).heap[g]? = some x :=
  (heap_alloc_old w o (by rcases Nat.lt_or_ge g w.heap.size with h1 | h1; exact h1; rw [Array.getElem?_eq_none h1] at h; cases h)).trans h
theorem drew_at {w : World} {x : Obj} {g : Nat} (h : w.heap[g]? = some x) : w.drew.heap[g]? = some x := h

theorem far_cell {A B : World} {r : Option Nat} (hg : A.grownBy B r) {a : Addr} {v : Value} (h : A.cell? a = some v) (hne : some a.block ≠ r) : B.cell? a = some v := (hg.cell_far a (block_lt_of_cell h) hne).trans h
theorem add_block (a : Addr) (j : Nat) : (a.add j).block = a.block := by unfold Addr.add; split <;> rfl

/-- A row of bytes of the call's own. -/
structure Own5 (B : Nat) (w : World) (v : Value) (n : Nat) (xs : List Int) : Prop where
  own : w.ownsRow B 5 1 v n (u8s xs)
theorem Own5.alloc {B : Nat} {w : World} {v : Value} {n : Nat} {xs : List Int} (h : Own5 B w v n xs) (o : Obj) : Own5 B (w.alloc o) v n xs := ⟨h.own.alloc o⟩
theorem Own5.drew {B : Nat} {w : World} {v : Value} {n : Nat} {xs : List Int} (h : Own5 B w v n xs) : Own5 B w.drew v n xs := ⟨h.own.drew⟩
theorem Own5.kept {B : Nat} {w w' : World} {v : Value} {n : Nat} {xs : List Int} {r : Option Nat} (h : Own5 B w v n xs) (hg : w.grownBy w' r) (hne : v.ownBlock = none ∨ v.ownBlock ≠ r) : Own5 B w' v n xs := ⟨h.own.kept hg hne⟩
theorem Own5.later {B : Nat} {w w' : World} {v : Value} {n : Nat} {xs : List Int} (h : Own5 B w v n xs) (hb : Below w.heap.size w w') : Own5 B w' v n xs := by
  refine ⟨h.own.1, ?_⟩
  rcases h.own.2 with h2 | ⟨g, cap, cur, rfl, hg, hh, r⟩
  · exact Or.inl h2
  · exact Or.inr ⟨g, cap, cur, rfl, hg, (hb.block g (lt_of_block hh)).trans hh, r⟩

theorem Own5.allocD {B : Nat} {w : World} {v : Value} {n : Nat} {xs : List Int} (h : Own5 B w.drew v n xs) (o : Obj) : Own5 B (w.alloc o).drew v n xs := ⟨World.ownsRow.alloc (w := w) h.own o⟩
theorem cellA {w : World} {a : Addr} {v : Value} (h : w.cell? a = some v) (o : Obj) : (w.alloc o).cell? a = some v := cell_later ((Below.refl _ w).alloc (Nat.le_refl _) o) h
theorem cellAD {w : World} {a : Addr} {v : Value} (h : w.drew.cell? a = some v) (o : Obj) : (w.alloc o).drew.cell? a = some v := cellA (w := w) h o

/-- One byte more: the row that was stands all the same. -/
theorem run_one {w : World} (ty : TypeId) (B : Nat) (v : Value) (n : Nat) (xs : List Int) (hown : Own5 B w v n xs) (g0 : Nat) (y : Int) (hnew : w.heap[g0]? = some (.cells #[.int .u8 y] 5 (0, 0))) (hbig : n ≤ 1000000) (hB : B ≤ w.heap.size) :
    ∃ g cap w', (Builtin.append_ #[22, 22] ty #[v, .slice (some ⟨g0, 0, none⟩) 1 1]).run Tryd.prog w = .ok (.slice (some ⟨g, 0, none⟩) (n + 1) cap) w' ∧
      Own5 B w' (.slice (some ⟨g, 0, none⟩) (n + 1) cap) (n + 1) (xs ++ [y]) ∧ Own5 B w' v n xs ∧ w.grownBy w' v.ownBlock ∧ (v.ownBlock = some g ∨ g = w.heap.size) ∧ g < w'.heap.size := by
  obtain ⟨i0, hi, hz0, hz1, hz2⟩ := info_parts Tryd.info5
  have hl : xs.length = n := by simpa [u8s_length] using hown.own.1
  have hn := World.news_of_block (cs := #[.int .u8 y]) hnew
  have lies := run_append_lies (P := Tryd.prog) w 22 ty B 5 i0 (.int .u8 0) 1 1 Tryd.underlying22 hi hz0 hz1 hz2 rfl (by decide) v n _ hown.own ⟨g0, 0, none⟩ 1 1 [.int .u8 y] rfl hn (by simp [Value.oneCell']) (by omega) (by unfold maxLen; omega) (by omega) hB _ rfl
  rcases hown.own.2 with ⟨rfl, rfl⟩ | ⟨b, cap, cur, rfl, hbB, hcur, hnc, hcm, hcs, htk⟩
  · obtain ⟨g, cap, w', h1, h2, h3, h4, h5⟩ := lies
    refine ⟨g, cap, w', h1, ⟨by rw [u8s_append]; exact h2⟩, ⟨?_⟩, h3, h4, h5⟩
    have : xs = [] := List.eq_nil_of_length_eq_zero hl
    subst this
    exact World.ownsRow_nil _ _ _ _
  · by_cases hfit : n + 1 ≤ cap
    · obtain ⟨w', h1, h2, h3⟩ := run_append_fits (P := Tryd.prog) w B 22 ty 5 i0 1 Tryd.underlying22 hi hz1 b n cap _ hown.own ⟨g0, 0, none⟩ 1 1 [.int .u8 y] rfl hn (by simp [Value.oneCell']) hfit
      have h2' : w'.ownsRow B 5 1 (.slice (some ⟨b, 0, none⟩) (n + 1) cap) (n + 1) (u8s (xs ++ [y])) := by rw [u8s_append]; exact h2
      exact ⟨b, cap, w', h1, ⟨h2'⟩, ⟨own_first h2' hl (by omega)⟩, h3, .inl rfl, (h2'.lt b rfl).2⟩
    · obtain ⟨v', w', h1, h2, h3⟩ := run_append_arg_grows (P := Tryd.prog) w 22 ty 5 i0 (.int .u8 0) 1 1 Tryd.underlying22 hi hz0 hz1 hz2 rfl (by decide) ⟨b, 0, none⟩ n cap (u8s xs) (by rw [u8s_length]; omega) (hown.own.cells rfl) ⟨g0, 0, none⟩ 1 1 [.int .u8 y] rfl hn (by omega) (by unfold maxLen; omega) (by omega)
      obtain ⟨g, cap', w2, k1, k2, k3, k4, k5⟩ := lies
      rw [h1] at k1
      cases k1
      refine ⟨g, cap', w', h1, ⟨by rw [u8s_append]; exact k2⟩, hown.kept h3 (.inr (by simp [Value.ownBlock])), k3, k4, k5⟩

/-- One byte more, at a step of a region that draws its order. -/
theorem step_one {w : World} {ops : Array Oper} {o : Oper} {a : Act} {K : Act → World → Prop} {Q : Exit → Act → World → Prop} {E : Prop} (s x : Operand)
    (ho : o.op = .call { callee := .builtin .append, args := #[s, x], argTypes := #[22, 22] }) (hgd : o.guard = none) (base : Nat) (v : Value) (n : Nat) (xs : List Int) (hs : a.eval s = v) (hown : Own5 base w v n xs)
    (g0 : Nat) (y : Int) (hx : a.eval x = .slice (some ⟨g0, 0, none⟩) 1 1) (hnew : w.heap[g0]? = some (.cells #[.int .u8 y] 5 (0, 0))) (hbig : n ≤ 1000000) (hbase : base ≤ w.heap.size)
    (h : ∀ g cap w', Own5 base w' (.slice (some ⟨g, 0, none⟩) (n + 1) cap) (n + 1) (xs ++ [y]) → Own5 base w' v n xs → w.grownBy w' v.ownBlock → (v.ownBlock = some g ∨ g = w.heap.size) → g < w'.heap.size → K (a.put o.dst (.slice (some ⟨g, 0, none⟩) (n + 1) cap)) w') :
    if Region.wanted o (yielded ops a.tmps) = true then Oper.wp Tryd.prog o a w K Q else E := by
  have hw : Region.wanted o (yielded ops a.tmps) = true := by simp [Region.wanted, hgd]
  rw [if_pos hw]
  obtain ⟨g, cap, w', h1, h2, h3, h4, h5, h6⟩ := run_one o.type base v n xs hown g0 y hnew hbig hbase
  unfold Oper.wp execOp
  simp only [ho, resolve, invoke, builtin, Sem.run_bind, Sem.run_pure, Result.andThen_ok, List.map_toArray, List.map_cons, List.map_nil, hs, hx, h1]
  exact h g cap w' h2 h3 h4 h5 h6

/-- Two rows have grown, one behind the other. -/
theorem two_end {B : Nat} {w wr A w1 C w2 : World} {v u : Value} {k g cap g2 cap2 : Nat} {xk yk : List Int} (hvu : NeB v u)
    (hvl : ∀ b, v.ownBlock = some b → B ≤ b ∧ b < wr.heap.size) (hul : ∀ b, u.ownBlock = some b → B ≤ b ∧ b < wr.heap.size) (hA : wr.heap.size ≤ A.heap.size) (hbA : Below B w A) (hBA : B ≤ A.heap.size)
    (h1 : A.grownBy w1 v.ownBlock) (o1 : Own5 B w1 (.slice (some ⟨g, 0, none⟩) (k + 1) cap) (k + 1) xk) (hat : v.ownBlock = some g ∨ g = A.heap.size) (hlt : g < w1.heap.size)
    (hC : w1.grownBy C none) (h2 : C.grownBy w2 u.ownBlock) (o2 : Own5 B w2 (.slice (some ⟨g2, 0, none⟩) (k + 1) cap2) (k + 1) yk) (hat2 : u.ownBlock = some g2 ∨ g2 = C.heap.size) :
    Own5 B w2 (.slice (some ⟨g, 0, none⟩) (k + 1) cap) (k + 1) xk ∧ Own5 B w2 (.slice (some ⟨g2, 0, none⟩) (k + 1) cap2) (k + 1) yk ∧ NeB (.slice (some ⟨g, 0, none⟩) (k + 1) cap) (.slice (some ⟨g2, 0, none⟩) (k + 1) cap2) ∧ Below B w w2 := by
  have s1 := h1.size
  have s2 := hC.size
  have hgu : some g ≠ u.ownBlock := by
    intro e
    rcases hat with h | h
    · rcases hvu with h' | h'
      · rw [h] at h'; cases h'
      · exact h' (h.trans e)
    · have := (hul g e.symm).2
      omega
  refine ⟨(o1.kept hC (.inr (by simp [Value.ownBlock]))).kept h2 (.inr hgu), o2, .inr ?_, ?_⟩
  · intro e
    have e2 : g = g2 := by simpa [Value.ownBlock] using e
    rcases hat2 with h | h
    · exact hgu (by rw [e2, h])
    · omega
  · exact ((hbA.grown h1 hBA (fun b hb => (hvl b hb).1)).grown hC (by omega) (fun b hb => by cases hb)).grown h2 (by omega) (fun b hb => (hul b hb).1)
theorem take_next' {α : Type} {l : List α} {k : Nat} {a : α} (h : l[k]? = some a) : l.take (k + 1) = l.take k ++ [a] := by
  rw [List.take_add_one, h]
  rfl

set_option maxRecDepth 100000 in
set_option maxHeartbeats 1000000 in
theorem points_any (ad : Addr) (n c j : Nat) (L : List Sh) (w : World) (hs : Shs w (some ad) n L) (hn : (n : Int) ≤ 1000) (hj : ∀ s ∈ L, j < s.n) (hjb : (j : Int) ≤ 140737488355328) :
    Calls Tryd.prog 42 #[.slice (some ad) n c, .int .i64 j] w fun e w' => ∃ v u, e = .returned (.tuple #[v, u]) ∧ w'.ownsRow w.heap.size 5 1 v n (u8s ((L.map Sh.x).map v8)) ∧ w'.ownsRow w.heap.size 5 1 u n (u8s ((L.map (fun s => s.ys.getD j 0#8)).map v8)) ∧ Below w.heap.size w w' := by
  obtain ⟨i0, hi, hz0, hz1, hz2⟩ := info_parts Tryd.info5
  have HL : Hid (L.length = n) := hs.len
  go_enter Tryd.func42, Tryd.ntmps42
  go_wp2
  go_loopw [4, 5, 10] (fun v u i wr => ∃ k : Nat, k ≤ n ∧ i = .int .i64 k ∧ Own5 w.heap.size wr v k (((L.map Sh.x).map v8).take k) ∧ Own5 w.heap.size wr u k (((L.map (fun s => s.ys.getD j 0#8)).map v8).take k) ∧ NeB v u ∧ Below w.heap.size w wr) (fun _ _ i _ => n - (intOf i).toNat)
  case atStart => exact ⟨0, Nat.zero_le _, rfl, ⟨World.ownsRow_nil _ _ _ _⟩, ⟨World.ownsRow_nil _ _ _ _⟩, .inl rfl, Below.refl _ _⟩
  case round =>
    obtain ⟨k, hk, rfl, hv, hu, hvu, hb⟩ := hrel
    by_cases hlt : k < n
    · obtain ⟨s, hsk⟩ := hs.get k hlt
      have hmem := List.mem_of_getElem? hsk
      have cx := (hs.later hb).cx ad rfl k s hsk
      have cy := (hs.later hb).cy ad rfl k s hsk
      have hok := (hs.later hb).ok s hmem
      have hjn := hj s hmem
      obtain ⟨yd, hyd⟩ := hok.sh.some (by omega)
      have hsz := hb.size
      have cz : ∀ o, (wr.alloc o).cell? (yd.add j) = some (.int .u8 (v8 (s.ys.getD j 0#8))) := fun o => by
        have := (hok.sh.later ((Below.refl _ wr).alloc (Nat.le_refl _) o))
        rw [hyd] at this
        exact this.elem j hjn
      rw [hyd] at cy
      obtain ⟨y, hy⟩ : ∃ y, y = v8 (s.ys.getD j 0#8) := ⟨_, rfl⟩
      rw [← hy] at cz
      have HY : Hid (y = v8 (s.ys.getD j 0#8)) := hy
      clear hy
      have hkn : (k : Int) < (n : Int) := by omega
      have hjn' : (j : Int) < (s.n : Int) := by omega
      obtain ⟨x, hx⟩ : ∃ x, x = v8 s.x := ⟨_, rfl⟩
      rw [← hx] at cx
      have HX : Hid (x = v8 s.x) := hx
      clear hx
      have hbl : yd.block < w.heap.size := by
        have := (hs.ok s hmem).sh
        rw [hyd] at this
        have := block_lt_of_cell (this.elem j hjn)
        unfold Addr.add at this
        split at this <;> simpa using this
      have hvlt : ∀ b, wr.heap.size ≤ b → some b ≠ u4.ownBlock := fun b hbb e => by have := (hv.own.lt b e.symm).2; omega
      have hvy : some (yd.add j).block ≠ u4.ownBlock := fun e => by rw [add_block] at e; have := (hv.own.lt _ e.symm).1; omega
      have hult : ∀ b, wr.heap.size ≤ b → some b ≠ u5.ownBlock := fun b hbb e => by have := (hu.own.lt b e.symm).2; omega
      have huy : some (yd.add j).block ≠ u5.ownBlock := fun e => by rw [add_block] at e; have := (hu.own.lt _ e.symm).1; omega
      obtain ⟨xk, HXK⟩ : ∃ xk, Hid (xk = ((L.map Sh.x).map v8).take k) := ⟨_, rfl⟩
      obtain ⟨yk, HYK⟩ : ∃ yk, Hid (yk = ((L.map (fun s => s.ys.getD j 0#8)).map v8).take k) := ⟨_, rfl⟩
      rw [← HXK.out] at hv
      rw [← HYK.out] at hu
      have hv0 := (hv.alloc (Obj.cells #[Value.int .u8 x, Value.slice (some yd) s.n s.c] 44))
      have hu0 := (hu.alloc (Obj.cells #[Value.int .u8 x, Value.slice (some yd) s.n s.c] 44))
      have hvl' : ∀ b, u4.ownBlock = some b → w.heap.size ≤ b ∧ b < wr.heap.size := fun b hbb => hv.own.lt b hbb
      have hul' : ∀ b, u5.ownBlock = some b → w.heap.size ≤ b ∧ b < wr.heap.size := fun b hbb => hu.own.lt b hbb
      have HS : Hid (L[k]? = some s) := hsk
      clear hv hu hsk
      go_wp2_with fail
      go_region_held3 (fun w' => (w'.cell? ⟨wr.heap.size, 0, none⟩ = some (.int .u8 x) ∧ w'.cell? ⟨wr.heap.size, 1, none⟩ = some (.slice (some yd) s.n s.c) ∧ w'.cell? (yd.add j) = some (.int .u8 y)) ∧ Own5 w.heap.size w' u4 k xk ∧ Own5 w.heap.size w' u5 k yk) (first | (refine ⟨?_, hv0.drew, hu0.drew⟩; go_keep) | (go_split_ands; refine ⟨⟨far_cell hgrow (by assumption) (hvlt _ (Nat.le_refl _)), far_cell hgrow (by assumption) (hvlt _ (Nat.le_refl _)), far_cell hgrow (by assumption) hvy⟩, hst1, Own5.kept (by assumption) hgrow hvu.symm⟩) | (go_split_ands; refine ⟨⟨far_cell hgrow2 (by assumption) (hult _ (Nat.le_refl _)), far_cell hgrow2 (by assumption) (hult _ (Nat.le_refl _)), far_cell hgrow2 (by assumption) huy⟩, Own5.kept (by assumption) hgrow2 hvu, hst2⟩) | (go_split_ands; exact ⟨⟨cellAD (by assumption) _, cellAD (by assumption) _, cellAD (by assumption) _⟩, Own5.allocD (by assumption) _, Own5.allocD (by assumption) _⟩) | (go_split_ands; exact ⟨⟨cellA (by assumption) _, cellA (by assumption) _, cellA (by assumption) _⟩, Own5.alloc (by assumption) _, Own5.alloc (by assumption) _⟩)) ((first
        | (go_split_ands; refine step_one (.tmp 14) (.tmp 17) rfl rfl w.heap.size u4 k xk rfl (by assumption) _ x rfl ?_ (by omega) ?_ ?_; (focus (first | with_reducible exact drew_at (new_at (by simp)) | with_reducible exact drew_at (old_at (new_at (by simp))))); (focus (simp; omega)); intro g cap w1 hown1 hst1 hgrow hat hlt1)
        | (go_split_ands; refine step_one (.tmp 19) (.tmp 25) rfl rfl w.heap.size u5 k yk rfl (by assumption) _ y rfl ?_ (by omega) ?_ ?_; (focus (first | with_reducible exact new_at rfl | (refine (hgrow.block _ ?_ (hvlt _ ?_)).trans ?_; (focus (simp; try omega)); (focus omega); (focus (first | with_reducible exact drew_at (new_at (by simp)) | with_reducible exact drew_at (old_at (new_at (by simp)))))))); (focus (have hq := hgrow.size; simp at hq ⊢; omega)); intro g2 cap2 w2 hown2 hst2 hgrow2 hat2 hlt2)))
      all_goals
        have hE := two_end (wr := wr) hvu hvl' hul' (by simp; try omega) (by first | exact ((hb.alloc hsz _).alloc (by simp; omega) _).drew | exact (((hb.alloc hsz _).alloc (by simp; omega) _).alloc (by simp; omega) _).drew) (by simp; omega) hgrow hown1 hat hlt1 (by first | exact World.grownBy.refl _ _ | exact World.grownBy_alloc _ _ _) hgrow2 hown2 hat2
        obtain ⟨E1, E2, E3, E4⟩ := hE
        clear hown1 hst1 hgrow hat hown2 hst2 hgrow2 hat2
        go_wp2
        go_roundw
        case rel =>
          refine ⟨k + 1, by omega, by go_num, ?_, ?_, E3, E4⟩
          · rw [take_next' (show ((L.map Sh.x).map v8)[k]? = some x by rw [List.getElem?_map, List.getElem?_map, HS.out, HX.out]; rfl), ← HXK.out]; exact E1
          · rw [take_next' (show ((L.map (fun s => s.ys.getD j 0#8)).map v8)[k]? = some y by rw [List.getElem?_map, List.getElem?_map, HS.out, HY.out]; rfl), ← HYK.out]; exact E2
        case measure => simp [intOf]; omega
    · have hkn : k = n := by omega
      subst hkn
      go_wp2
      go_ret2
      refine ⟨_, _, rfl, ?_, ?_, hb⟩
      · have := hv.own
        rwa [List.take_of_length_le (by rw [List.length_map, List.length_map, HL.out]; exact Nat.le_refl _)] at this
      · have := hu.own
        rwa [List.take_of_length_le (by rw [List.length_map, List.length_map, HL.out]; exact Nat.le_refl _)] at this
end Go.Proofs.YtineieoghlbchaaDoor
