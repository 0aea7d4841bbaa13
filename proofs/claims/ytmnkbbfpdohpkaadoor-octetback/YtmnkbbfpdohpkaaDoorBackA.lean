/- The first half of OctetBack: what is put one behind the other. -/
import Derived.Test.YtmnkbbfpdohpkaaDoorGot
import Derived.Test.YtmnkbbfpdohpkaaDoorOpenItems
namespace Go.Proofs.YtmnkbbfpdohpkaaDoor
open Go.RowKit

theorem Tryd.info66 : (Tryd.prog.info? 66).map (fun i => (i.zero, i.size, i.bytes)) = some (some (.agg #[.int .i64 0, .int .u64 0, .string { data := #[] }]), 3, 32) := by kernel_rfl

abbrev It := Int × Int × ByteArray
/-- An item whose text is cut behind 2000 bytes. -/
def tr (x : It) : It := (x.1, x.2.1, if x.2.2.size ≤ 2000 then x.2.2 else x.2.2.extract 0 2000)
def ibs (l : List It) : List Int := l.flatMap fun x => ib x.1 x.2.1 x.2.2
def itCells (l : List It) : List Value := l.flatMap fun x => [.int .i64 x.1, .int .u64 x.2.1, .string x.2.2]
def done (its : List It) (j : Nat) : List It := (its.take j).map tr

theorem tr_size (x : It) : (tr x).2.2.size ≤ 2000 := by
  unfold tr; simp only; split
  · assumption
  · simp; omega

theorem ib_len (k v : Int) (s : ByteArray) : 1 ≤ (ib k v s).length ∧ (ib k v s).length ≤ 8 + s.size := by
  unfold ib
  split
  · rw [be_length]; omega
  · split
    · rw [be_length]; omega
    · split
      · rw [be_length]; omega
      · split
        · rw [List.length_append, be_length, nums_length]; omega
        · rw [be_length]; omega

theorem ibs_snoc (l : List It) (x : It) : ibs (l ++ [x]) = ibs l ++ ib x.1 x.2.1 x.2.2 := by simp [ibs]
theorem itCells_snoc (l : List It) (x : It) : itCells (l ++ [x]) = itCells l ++ [.int .i64 x.1, .int .u64 x.2.1, .string x.2.2] := by simp [itCells]
theorem done_succ (its : List It) (j : Nat) (h : j < its.length) : done its (j + 1) = done its j ++ [tr its[j]] := by
  unfold done; rw [List.take_succ_eq_append_getElem h, List.map_append]; rfl
theorem ibs_rng (l : List It) : ∀ x ∈ ibs l, 0 ≤ x ∧ x ≤ 255 := by
  intro x hx
  obtain ⟨a, _, hxa⟩ := List.mem_flatMap.1 hx
  exact ib_rng _ _ _ x hxa
theorem ibs_len (its : List It) (j : Nat) : (ibs (done its j)).length ≤ j * 2008 := by
  induction j with
  | zero => simp [done, ibs]
  | succ j ih =>
    by_cases h : j < its.length
    · rw [done_succ its j h, ibs_snoc, List.length_append]
      have := (ib_len (tr its[j]).1 (tr its[j]).2.1 (tr its[j]).2.2).2
      have := tr_size its[j]
      omega
    · have : done its (j + 1) = done its j := by unfold done; rw [List.take_of_length_le (show its.length ≤ j + 1 by omega), List.take_of_length_le (show its.length ≤ j by omega)]
      rw [this]
      exact Nat.le_trans ih (Nat.mul_le_mul_right _ (Nat.le_succ j))
theorem itCells_length (l : List It) : (itCells l).length = l.length * 3 := by
  induction l with
  | nil => rfl
  | cons x l ih =>
    have e : itCells (x :: l) = [.int .i64 x.1, .int .u64 x.2.1, .string x.2.2] ++ itCells l := by simp only [itCells, List.flatMap_cons]
    have e2 : ([.int .i64 x.1, .int .u64 x.2.1, .string x.2.2] : List Value).length = 3 := rfl
    rw [e, List.length_append, ih, e2, List.length_cons]
    omega
theorem done_length (its : List It) (j : Nat) (h : j ≤ its.length) : (done its j).length = j := by simp [done]; omega

theorem own_apart {w : World} {b1 b2 : Nat} {e1 e2 : TypeId} {s1 s2 : Nat} {v1 v2 : Value} {n1 n2 : Nat} {x1 x2 : List Value} (h1 : w.ownsRow b1 e1 s1 v1 n1 x1) (h2 : w.ownsRow b2 e2 s2 v2 n2 x2) (hne : e1 ≠ e2) : v1.ownBlock = none ∨ v1.ownBlock ≠ v2.ownBlock := by
  rcases h1.2 with ⟨rfl, _⟩ | ⟨g1, c1, u1, rfl, _, hg1, _⟩
  · exact Or.inl rfl
  · right
    rcases h2.2 with ⟨rfl, _⟩ | ⟨g2, c2, u2, rfl, _, hg2, _⟩
    · simp [Value.ownBlock]
    · simp only [Value.ownBlock, ne_eq, Option.some.injEq]
      intro e
      subst e
      rw [hg1] at hg2
      simp at hg2
      exact hne hg2.2

theorem own_laterG {w w' : World} {base : Nat} {e : TypeId} {sz : Nat} {v : Value} {n : Nat} {xs : List Value} (h : w.ownsRow base e sz v n xs) (hb : Below w.heap.size w w') : w'.ownsRow base e sz v n xs := by
  obtain ⟨h1, h2⟩ := h
  refine ⟨h1, ?_⟩
  rcases h2 with h2 | ⟨g, cap, cur, hv, hg, hh, r⟩
  · exact Or.inl h2
  · exact Or.inr ⟨g, cap, cur, hv, hg, (hb.block g (lt_of_block hh)).trans hh, r⟩

theorem news3 (w : World) (a b c : Value) (t : TypeId) : ∀ j u, [a, b, c][j]? = some u → (w.alloc (.cells #[a, b, c] t)).cell? ((⟨w.heap.size, 0, none⟩ : Addr).add j) = some u :=
  World.news_of_block (heap_alloc_new _ _)

theorem own_only {r : Nat} {w w' : World} {base : Nat} {e : TypeId} {sz : Nat} {v : Value} {n : Nat} {xs : List Value} (ho : Only r w w') (h : w.ownsRow base e sz v n xs) (hne : v.ownBlock ≠ some r) : w'.ownsRow base e sz v n xs := by
  obtain ⟨h1, h2⟩ := h
  refine ⟨h1, ?_⟩
  rcases h2 with h2 | ⟨g, cap, cur, hv, hg, hh, rr⟩
  · exact Or.inl h2
  · exact Or.inr ⟨g, cap, cur, hv, hg, (ho.block g (lt_of_block hh) (fun e => hne (by rw [hv, e]; rfl))).trans hh, rr⟩

theorem own_ne_rd {w : World} {base : Nat} {sz : Nat} {v : Value} {n : Nat} {xs : List Value} {r : Nat} {ao : Option Addr} {m c : Nat} {ys : List Int} {er : Int} (h : w.ownsRow base 66 sz v n xs) (hr : Rd w r ao m c ys er) : v.ownBlock ≠ some r := by
  rcases h.2 with ⟨rfl, _⟩ | ⟨g, cap, cur, rfl, _, hh, _⟩
  · simp [Value.ownBlock]
  · simp only [Value.ownBlock, ne_eq, Option.some.injEq]
    intro e
    subst e
    have := hr.blk
    rw [hh] at this
    simp at this

theorem itCells_get (l : List It) : ∀ i (h : i < l.length), (itCells l)[i * 3]? = some (.int .i64 l[i].1) ∧ (itCells l)[i * 3 + 1]? = some (.int .u64 l[i].2.1) ∧ (itCells l)[i * 3 + 2]? = some (.string l[i].2.2) := by
  induction l with
  | nil => intro i h; simp at h
  | cons x l ih =>
    intro i h
    have e : itCells (x :: l) = [.int .i64 x.1, .int .u64 x.2.1, .string x.2.2] ++ itCells l := by simp only [itCells, List.flatMap_cons]
    cases i with
    | zero => rw [e]; exact ⟨rfl, rfl, rfl⟩
    | succ i =>
      have hi : i < l.length := by simpa using h
      have h3 := ih i hi
      rw [e]
      have e1 : (i + 1) * 3 = i * 3 + 3 := by omega
      rw [e1]
      exact h3

theorem ibs_drop (l : List It) (i : Nat) (h : i < l.length) : ibs (l.drop i) = ib l[i].1 l[i].2.1 l[i].2.2 ++ ibs (l.drop (i + 1)) := by
  rw [List.drop_eq_getElem_cons h]; simp only [ibs, List.flatMap_cons]

set_option maxHeartbeats 2000000 in
set_option maxRecDepth 100000 in
theorem back_walk (ao bo io : Option Addr) (n m N c d ic : Nat) (xa xb : List Int) (its : List It) (w : World) (ha : Shows w ao n xa) (hb : Shows w bo m xb) (hit : Items w io N its) (hc : ao = none → c = 0) (hd : bo = none → d = 0)
    (ht : Tab w) (h0 : 0 < w.heap.size) (hnm : (n : Int) + m ≤ 32768) (hN : (N : Int) ≤ 200) :
    Calls Tryd.prog 8 #[.slice ao n c, .slice io N ic, .slice bo m d] w fun e w' => e = .returned (.bool true) ∧ Below w.heap.size w w' := by
  have HN : Hid (its.length = N) := hit.len
  have HA : Hid (xa.length = n) := ha.len
  obtain ⟨i0, hi, hz0, hz1, hz2'⟩ := info_parts Tryd.info66
  go_enter Tryd.func8, Tryd.ntmps8
  go_wp2_with (go_at_call 25; go_must (refine (copyBytes_any ao n c xa w ha hc (by omega)).mono ?_; rintro e w1 ⟨v1, rfl, hown1, hb1⟩))
  go_loopw [7, 8, 9] (fun v l i wr => ∃ j : Nat, j ≤ N ∧ i = .int .i64 j ∧ wr.ownsRow w.heap.size 5 1 v (n + (ibs (done its j)).length) (u8s (xa ++ ibs (done its j))) ∧ wr.ownsRow w.heap.size 66 3 l j (itCells (done its j)) ∧ Below w.heap.size w wr) (fun _ _ i _ => N - (intOf i).toNat)
  case atStart => exact ⟨0, by omega, rfl, by simpa [done, ibs] using hown1, by simpa [done, itCells] using World.ownsRow_nil _ _ _ _, hb1⟩
  case round =>
    obtain ⟨j, hj, rfl, hownb, hownl, hbr⟩ := hrel
    by_cases hlt : j < N
    · obtain ⟨ad, had⟩ : ∃ ad, io = some ad := by
        cases io with
        | none => have := hit.bare rfl; omega
        | some ad => exact ⟨ad, rfl⟩
      subst had
      have hjl : j < its.length := by have := HN.out; omega
      obtain ⟨q0, q1, q2⟩ := hit.cell ad rfl j hjl
      have r0 := cell_later hbr q0
      have r1 := cell_later hbr q1
      have r2 := cell_later hbr q2
      have hlen := ibs_len its j
      have hrg : ∀ x ∈ xa ++ ibs (done its j), 0 ≤ x ∧ x ≤ 255 := fun x hx => by
        rcases List.mem_append.1 hx with h | h
        · exact ha.rng x h
        · exact ibs_rng _ x h
      have hMb : n + (ibs (done its j)).length ≤ 440000 := by omega
      have HLX : Hid ((xa ++ ibs (done its j)).length = n + (ibs (done its j)).length) := by show _ = _; rw [List.length_append, HA.out]
      generalize hM : n + (ibs (done its j)).length = M at *
      have HM : Hid (n + (ibs (done its j)).length = M) := hM
      clear hM hlen
      obtain ⟨ao7, c7, hv7, hs7, hcap7, hmax7, hbare7, hblk7⟩ := own_shape hownb hrg
      subst hv7
      have p1 : wr.cell? ⟨(ad.add (j * 3)).block, (ad.add (j * 3)).off + 1, none⟩ = some (.int .u64 its[j].2.1) := r1
      have p2 : wr.cell? ⟨(ad.add (j * 3)).block, (ad.add (j * 3)).off + 2, none⟩ = some (.string its[j].2.2) := r2
      have hv := hit.rng j hjl
      have hss := hit.ws j hjl
      have HT : Hid (tr its[j] = (its[j].1, its[j].2.1, if its[j].2.2.size ≤ 2000 then its[j].2.2 else its[j].2.2.extract 0 2000)) := rfl
      have HDn : Hid (done its (j + 1) = done its j ++ [tr its[j]]) := done_succ its j hjl
      generalize its[j] = x at *
      obtain ⟨k, v, s⟩ := x
      dsimp only at r0 p1 p2 hv hss HT
      have hsz := hbr.size
      clear q0 q1 q2 r1 r2 hjl hownb
      by_cases hs2 : s.size ≤ 2000
      · have hs3 : (s.size : Int) ≤ 2000 := by omega
        have hs2s := hs2
        have hIL := ib_len k v s
        have hrg2 : ∀ x ∈ (xa ++ ibs (done its j)) ++ ib k v s, 0 ≤ x ∧ x ≤ 255 := fun x hx => by
          rcases List.mem_append.1 hx with h | h
          · exact hrg x h
          · exact ib_rng _ _ _ x h
        have hbx : Below w.heap.size w (wr.alloc (.cells #[.int .i64 k, .int .u64 v, .string s] 66)) := hbr.alloc hsz _
        have hsp : Shows (wr.alloc (.cells #[.int .i64 k, .int .u64 v, .string s] 66)) ao7 M (xa ++ ibs (done its j)) := hs7.later ((Below.refl _ wr).alloc (Nat.le_refl _) _)
        go_wp2_with (first
          | (go_at_call 41; go_must (refine (put_any ao7 M c7 _ k v s _ hsp hbare7 (by omega) hv.1 hv.2 (by omega)).mono ?_; rintro e w2 ⟨u2, rfl, hown2, hb2⟩; obtain ⟨ao2, c2, hu2, hs2, hcap2, hmax2, hbare2, hblk2⟩ := own_shape hown2 hrg2; subst hu2; have hle2 : (M : Int) ≤ c2 := (by omega); have hc20 : c2 ≠ 0 := (by omega); have hgt : (M : Int) < M + (ib k v s).length := (by omega); have b0 : w2.cell? ⟨wr.heap.size, 0, none⟩ = some (.int .i64 k) := cell_later hb2 (news3 wr _ _ _ 66 0 _ rfl); have b1 : w2.cell? ⟨wr.heap.size, 1, none⟩ = some (.int .u64 v) := cell_later hb2 (news3 wr _ _ _ 66 1 _ rfl); have b2 : w2.cell? ⟨wr.heap.size, 2, none⟩ = some (.string s) := cell_later hb2 (news3 wr _ _ _ 66 2 _ rfl); have htk : Shows w2 ao2 M (xa ++ ibs (done its j)) := take_app HLX.out ▸ hs2.take (show M ≤ M + (ib k v s).length by omega); have hl2 := own_laterG (hownl.alloc (.cells #[.int .i64 k, .int .u64 v, .string s] 66)) hb2; have hz2 := hb2.size))
          | (go_at_call 16; go_must (refine (eqBytes_any _ _ _ _ _ _ _ _ _ htk (hsp.later hb2)).mono ?_; rintro e w' ⟨rfl, rfl⟩))
          | (at_builtin; go_must (refine wpList_append_own _ rfl _ _ 64 rfl w.heap.size 66 i0 (.agg #[.int .i64 0, .int .u64 0, .string { data := #[] }]) 3 32 Tryd.underlying64 hi hz0 hz1 hz2' rfl (by decide) _ j _ rfl (hl2.alloc _) ⟨w2.heap.size, 0, none⟩ 1 1 [.int .i64 k, .int .u64 v, .string s] rfl rfl (news3 w2 _ _ _ 66) (by simp [Value.oneCell']) (by unfold maxLen; omega) (by omega) (by simp at hz2 ⊢; omega) ?_)))
        intro v3 w3 hown3 hgrow _
        go_wp2
        go_roundw
        case rel =>
          have eT : tr (k, v, s) = (k, v, s) := by have := HT.out; rw [if_pos hs2s] at this; exact this
          refine ⟨j + 1, by omega, by go_num, ?_, ?_, ?_⟩
          · rw [HDn.out, ibs_snoc, eT, List.length_append, ← Nat.add_assoc, HM.out, ← List.append_assoc]
            exact ((own_base hown2 (by simp; omega)).alloc _).kept hgrow (own_apart (hown2.alloc _) (hl2.alloc (.cells #[.int .i64 k, .int .u64 v, .string s] 66)) (by decide))
          · rw [HDn.out, itCells_snoc, eT]
            exact hown3
          · exact ((hbx.trans (hb2.mono (by simp; omega))).alloc (by simp at hz2; omega) _).grown hgrow (by simp at hz2 ⊢; omega) (fun b hb => (hownl.lt b hb).1)
        case measure => simp [intOf]; omega
      · have hs3 : (2000 : Int) < s.size := by omega
        have hs2s := hs2
        have hex : (s.extract 0 2000).size = 2000 := by simp; omega
        have hex2 : (s.extract 0 2000).size ≤ 2000 := by omega
        have hss2 : s.size ≤ 9223372036854775807 := by unfold maxLen at hss; omega
        clear hex
        have hIL := ib_len k v (s.extract 0 2000)
        have hrg2 : ∀ x ∈ (xa ++ ibs (done its j)) ++ ib k v (s.extract 0 2000), 0 ≤ x ∧ x ≤ 255 := fun x hx => by
          rcases List.mem_append.1 hx with h | h
          · exact hrg x h
          · exact ib_rng _ _ _ x h
        have hbx : Below w.heap.size w (wr.alloc (.cells #[.int .i64 k, .int .u64 v, .string (s.extract 0 2000)] 66)) := hbr.alloc hsz _
        have hsp : Shows (wr.alloc (.cells #[.int .i64 k, .int .u64 v, .string (s.extract 0 2000)] 66)) ao7 M (xa ++ ibs (done its j)) := hs7.later ((Below.refl _ wr).alloc (Nat.le_refl _) _)
        go_wp2_with (first
          | (go_at_call 41; go_must (refine (put_any ao7 M c7 _ k v (s.extract 0 2000) _ hsp hbare7 (by omega) hv.1 hv.2 (by omega)).mono ?_; rintro e w2 ⟨u2, rfl, hown2, hb2⟩; obtain ⟨ao2, c2, hu2, hs2, hcap2, hmax2, hbare2, hblk2⟩ := own_shape hown2 hrg2; subst hu2; have hle2 : (M : Int) ≤ c2 := (by omega); have hc20 : c2 ≠ 0 := (by omega); have hgt : (M : Int) < M + (ib k v (s.extract 0 2000)).length := (by omega); have b0 : w2.cell? ⟨wr.heap.size, 0, none⟩ = some (.int .i64 k) := cell_later hb2 (news3 wr _ _ _ 66 0 _ rfl); have b1 : w2.cell? ⟨wr.heap.size, 1, none⟩ = some (.int .u64 v) := cell_later hb2 (news3 wr _ _ _ 66 1 _ rfl); have b2 : w2.cell? ⟨wr.heap.size, 2, none⟩ = some (.string (s.extract 0 2000)) := cell_later hb2 (news3 wr _ _ _ 66 2 _ rfl); have htk : Shows w2 ao2 M (xa ++ ibs (done its j)) := take_app HLX.out ▸ hs2.take (show M ≤ M + (ib k v (s.extract 0 2000)).length by omega); have hl2 := own_laterG (hownl.alloc (.cells #[.int .i64 k, .int .u64 v, .string (s.extract 0 2000)] 66)) hb2; have hz2 := hb2.size))
          | (go_at_call 16; go_must (refine (eqBytes_any _ _ _ _ _ _ _ _ _ htk (hsp.later hb2)).mono ?_; rintro e w' ⟨rfl, rfl⟩))
          | (at_builtin; go_must (refine wpList_append_own _ rfl _ _ 64 rfl w.heap.size 66 i0 (.agg #[.int .i64 0, .int .u64 0, .string { data := #[] }]) 3 32 Tryd.underlying64 hi hz0 hz1 hz2' rfl (by decide) _ j _ rfl (hl2.alloc _) ⟨w2.heap.size, 0, none⟩ 1 1 [.int .i64 k, .int .u64 v, .string (s.extract 0 2000)] rfl rfl (news3 w2 _ _ _ 66) (by simp [Value.oneCell']) (by unfold maxLen; omega) (by omega) (by simp at hz2 ⊢; omega) ?_)))
        intro v3 w3 hown3 hgrow _
        go_wp2
        go_roundw
        case rel =>
          have eT : tr (k, v, s) = (k, v, (s.extract 0 2000)) := by have := HT.out; rw [if_neg hs2s] at this; exact this
          refine ⟨j + 1, by omega, by go_num, ?_, ?_, ?_⟩
          · rw [HDn.out, ibs_snoc, eT, List.length_append, ← Nat.add_assoc, HM.out, ← List.append_assoc]
            exact ((own_base hown2 (by simp; omega)).alloc _).kept hgrow (own_apart (hown2.alloc _) (hl2.alloc (.cells #[.int .i64 k, .int .u64 v, .string (s.extract 0 2000)] 66)) (by decide))
          · rw [HDn.out, itCells_snoc, eT]
            exact hown3
          · exact ((hbx.trans (hb2.mono (by simp; omega))).alloc (by simp at hz2; omega) _).grown hgrow (by simp at hz2 ⊢; omega) (fun b hb => (hownl.lt b hb).1)
        case measure => simp [intOf]; omega
    · have hjN : j = N := by omega
      subst hjN
      have hlen := ibs_len its j
      have hDl : (done its j).length = j := done_length its j (by have := HN.out; omega)
      have hDb : ∀ i (h : i < (done its j).length), (0 ≤ (done its j)[i].2.1 ∧ (done its j)[i].2.1 ≤ 18446744073709551615) ∧ (done its j)[i].2.2.size ≤ 2000 := by
        intro i h
        have hi : i < its.length := by have := HN.out; omega
        have e : (done its j)[i] = tr its[i] := by simp [done]
        rw [e]
        exact ⟨hit.rng i hi, tr_size _⟩
      generalize done its j = D at *
      have HDl : Hid (D.length = j) := hDl
      have hrg : ∀ x ∈ xa ++ ibs D, 0 ≤ x ∧ x ≤ 255 := fun x hx => by
        rcases List.mem_append.1 hx with h | h
        · exact ha.rng x h
        · exact ibs_rng _ x h
      have hrg2 : ∀ x ∈ xa ++ (ibs D ++ xb), 0 ≤ x ∧ x ≤ 255 := fun x hx => by
        rw [← List.append_assoc] at hx
        rcases List.mem_append.1 hx with h | h
        · exact hrg x h
        · exact hb.rng x h
      have hsz := hbr.size
      have hMb : n + (ibs D).length ≤ 440000 := by omega
      generalize hM : n + (ibs D).length = M at *
      have hbl := hb.later hbr
      have hnM : n ≤ M := by omega
      clear hM hlen hDl hit
      go_wp2_with (first
        | (at_builtin; go_must (refine law_append rfl _ _ rfl w.heap.size _ M _ rfl hownb bo m d xb rfl hbl hd (by omega) hsz ?_)))
      intro v4 w4 hown4 hgrow4 _
      have hl4 := hownl.kept hgrow4 (own_apart hownl hownb (by decide))
      have hb4 : Below w.heap.size w w4 := hbr.grown hgrow4 hsz (fun b hb => (hownb.lt b hb).1)
      obtain ⟨ao4, c4, hv4, hs4, hcap4, hmax4, hbare4, hblk4⟩ := own_shape hown4 hrg2
      subst hv4
      have hz4 := hb4.size
      clear hownb hownl hgrow4
      go_wp2_with (first
        | (go_at_call 30; go_must (refine (read_any ao4 _ c4 _ w4 hs4 (by omega)).mono ?_; rintro e w5 ⟨r, ao5, c5, rfl, hrd5, hb5, hr1, hr2, hblk5⟩; have hl5 := own_laterG hl4 hb5; have hb5w : Below w.heap.size w w5 := hb4.trans (hb5.mono hz4)))
        | (go_at_call 37; go_must (refine (raw_at r ao5 _ c5 _ n w5 hrd5 (by omega) (by omega)).mono ?_; rintro e w6 ⟨v6, rfl, hown6, hrd6, hon6⟩; rw [take_app HA.out] at hown6; rw [drop_app HA.out] at hrd6; obtain ⟨ao6, c6, hv6, hs6, hcap6, hmax6, hbare6, hblk6⟩ := own_shape hown6 ha.rng; subst hv6; have hl6 := own_only hon6 hl5 (own_ne_rd hl5 hrd5); have hb6w : Below w.heap.size w w6 := hon6.below hb5w (by omega) hb5w.size))
        | (go_at_call 16; go_must (refine (eqBytes_any _ _ _ _ _ _ _ _ _ hs6 (ha.later hb6w)).mono ?_; rintro e w' ⟨rfl, rfl⟩)))
      have HXB : Hid (xb.length = m) := hb.len
      have hB1 : w.heap.size ≤ r := by omega
      clear hrd5 hl4 hl5 hb4 hb5 hon6 hown6 hs6 hs4 hown4 hb5w hblk4 hblk5 hblk6 hrg hrg2 hbl
      go_loopw [15] (fun i wr => ∃ i2 : Nat, i2 ≤ j ∧ i = .int .i64 i2 ∧ (∃ ao' n' c', Rd wr r ao' n' c' (ibs (D.drop i2) ++ xb) 0) ∧ wr.ownsRow w.heap.size 66 3 u8 j (itCells D) ∧ Below w.heap.size w wr) (fun i _ => j - (intOf i).toNat)
      case atStart => exact ⟨0, by omega, rfl, ⟨_, _, _, by simpa using hrd6⟩, hl6, hb6w⟩
      case round =>
        obtain ⟨i2, hi2, rfl, ⟨ao', n', c', hrd⟩, hlr, hbr2⟩ := hrel
        by_cases hlt2 : i2 < j
        · obtain ⟨g, cap, hv8, _, _⟩ := hlr.form (by omega)
          subst hv8
          have hid : i2 < D.length := by have := HDl.out; omega
          obtain ⟨g0, g1, g2⟩ := itCells_get D i2 hid
          have k0 := (hlr.cellAt (i2 * 3) (by omega)).trans g0
          have k1 := (hlr.cellAt (i2 * 3 + 1) (by omega)).trans g1
          have k2 := (hlr.cellAt (i2 * 3 + 2) (by omega)).trans g2
          have hbd := hDb i2 hid
          rw [ibs_drop D i2 hid, List.append_assoc] at hrd
          have hcon := got_any r ao' n' c' _ D[i2].1 D[i2].2.1 D[i2].2.2 _ hrd hbd.1 (by have := hbd.2; omega)
          have hneq := own_ne_rd hlr hrd
          generalize D[i2].1 = k at *
          generalize D[i2].2.1 = v at *
          generalize D[i2].2.2 = s at *
          have hz2 := hbr2.size
          clear g0 g1 g2 hbd hid hDb
          go_wp2_with (first
            | (go_at_call 42; go_must (refine hcon.mono ?_; rintro e w7 ⟨rfl, ⟨ao7, n7, c7, hrd7⟩, hon7⟩))
            | (go_at_call 40; go_must (refine (err_ok r _ _ _ _ _ _ hrd7).mono ?_; rintro e w' ⟨rfl, rfl⟩)))
          go_roundw
          case rel => exact ⟨i2 + 1, by omega, by go_num, ⟨_, _, _, hrd7⟩, own_only hon7 hlr hneq, hon7.below hbr2 hB1 hz2⟩
          case measure => simp [intOf]; omega
        · have hij : i2 = j := by omega
          subst hij
          have hdr : ibs (D.drop i2) ++ xb = xb := by rw [List.drop_of_length_le (by have := HDl.out; omega)]; simp [ibs]
          rw [hdr] at hrd
          have hn' : n' = m := hrd.sh.len.symm.trans HXB.out
          subst hn'
          have hz2 := hbr2.size
          obtain ⟨ao9, c9, hv9⟩ : ∃ ao c, u8 = .slice ao i2 c := by
            rcases hlr.2 with ⟨e1, e2⟩ | ⟨g, cap, cur, e1, _⟩
            · exact ⟨none, 0, by rw [e1, e2]⟩
            · exact ⟨_, _, e1⟩
          subst hv9
          clear hdr hDb
          go_wp2_with (first
            | (go_at_call 39; go_must (refine (left_ok r _ _ _ _ _ _ hrd).mono ?_; rintro e w' ⟨rfl, rfl⟩))
            | (go_at_call 37; go_must (refine (raw_at r ao' n' c' xb n' _ hrd (by omega) (by omega)).mono ?_; rintro e w8 ⟨v8, rfl, hown8, hrd8, hon8⟩; rw [List.take_of_length_le (by have := HXB.out; omega)] at hown8; obtain ⟨ao8, c8, hv8, hs8, hcap8, hmax8, hbare8, hblk8⟩ := own_shape hown8 hb.rng; subst hv8; have hb8w : Below w.heap.size w w8 := hon8.below hbr2 hB1 hz2))
            | (go_at_call 16; go_must (refine (eqBytes_any _ _ _ _ _ _ _ _ _ hs8 (hb.later hb8w)).mono ?_; rintro e w' ⟨rfl, rfl⟩))
            | (go_at_call 40; go_must (refine (err_ok r _ _ _ _ _ _ hrd8).mono ?_; rintro e w' ⟨rfl, rfl⟩))
            | (go_at_call 9; go_must (refine (works_any _ (ht.later hb8w) (by have := hb8w.size; omega)).mono ?_; rintro e w9 ⟨rfl, hb9⟩)))
          go_ret
          exact ⟨by simp, hb8w.trans (hb9.mono hb8w.size)⟩

end Go.Proofs.YtmnkbbfpdohpkaaDoor
