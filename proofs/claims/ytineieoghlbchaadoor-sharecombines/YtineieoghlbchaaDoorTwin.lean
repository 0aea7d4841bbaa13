/- The same shares in new memory, and the look whether they are as they were. -/
import Derived.Test.YtineieoghlbchaaDoorVast
namespace Go.Proofs.YtineieoghlbchaaDoor
open Go.RowKit

/-- What is the same of a share and its twin. -/
def tkey (L : List Sh) : List (B × Nat × List B) := L.map (fun s => (s.x, s.n, s.ys))

/-- A list of twins of the call's own, seven bytes behind each. -/
structure TwinS (B : Nat) (w : World) (v : Value) (n : Nat) (M : List Sh) : Prop where
  own : w.ownsRow B 44 2 v n (shv M)
  rows : ∀ t ∈ M, ∃ g, t.ao = some ⟨g, 0, none⟩ ∧ w.ownsRow B 5 1 (.slice (some ⟨g, 0, none⟩) (t.n + 7) t.c) (t.n + 7) (u8s (t.ys.map v8 ++ marks)) ∧ t.ys.length = t.n
  pw : M.Pairwise (fun s t => NeB s.y t.y)
theorem TwinS.later {B n : Nat} {w w' : World} {v : Value} {M : List Sh} (h : TwinS B w v n M) (hb : Below w.heap.size w w') : TwinS B w' v n M :=
  ⟨own_below h.own hb, fun t ht => by obtain ⟨g, h1, h2, h3⟩ := h.rows t ht; exact ⟨g, h1, own_below h2 hb, h3⟩, h.pw⟩
theorem TwinS.alloc {B n : Nat} {w : World} {v : Value} {M : List Sh} (h : TwinS B w v n M) (o : Obj) : TwinS B (w.alloc o) v n M :=
  ⟨h.own.alloc o, fun t ht => by obtain ⟨g, h1, h2, h3⟩ := h.rows t ht; exact ⟨g, h1, h2.alloc o, h3⟩, h.pw⟩
theorem TwinS.row {B n : Nat} {w : World} {v : Value} {M : List Sh} (h : TwinS B w v n M) {t : Sh} (ht : t ∈ M) : w.ownsRow B 5 1 (.slice t.ao t.n t.c) t.n (u8s (t.ys.map v8)) := by
  obtain ⟨g, h1, h2, h3⟩ := h.rows t ht
  rw [h1]
  exact own_first h2 (by rw [List.length_map]; exact h3) (by omega)
theorem TwinS.owns {B n : Nat} {w : World} {v : Value} {M : List Sh} (h : TwinS B w v n M) : OwnS B w v n M := ⟨h.own, fun _ ht => h.row ht⟩

/-- One share more, at a step of a region that draws its order. -/
theorem step_pushS {w : World} {ops : Array Oper} {o : Oper} {a : Act} {K : Act → World → Prop} {Q : Exit → Act → World → Prop} {E : Prop} (s x : Operand)
    (ho : o.op = .call { callee := .builtin .append, args := #[s, x], argTypes := #[27, 27] }) (hgd : o.guard = none) (base : Nat) (v : Value) (n : Nat) (M : List Sh) (hs : a.eval s = v) (hown : w.ownsRow base 44 2 v n (shv M))
    (g0 : Nat) (t : Sh) (hx : a.eval x = .slice (some ⟨g0, 0, none⟩) 1 1) (hnew : w.heap[g0]? = some (.cells #[.int .u8 (v8 t.x), .slice t.ao t.n t.c] 44 (0, 0))) (hbig : n ≤ 1000000) (hbase : base ≤ w.heap.size)
    (h : ∀ g cap w', w'.ownsRow base 44 2 (.slice (some ⟨g, 0, none⟩) (n + 1) cap) (n + 1) (shv (M ++ [t])) → w.grownBy w' v.ownBlock → K (a.put o.dst (.slice (some ⟨g, 0, none⟩) (n + 1) cap)) w') :
    if Region.wanted o (yielded ops a.tmps) = true then Oper.wp Tryd.prog o a w K Q else E := by
  obtain ⟨i0, hi, hz0, hz1, hz2⟩ := info_parts Tryd.info44
  refine step_append_lies _ hgd s x 27 ho base 44 i0 _ 2 32 Tryd.underlying27 hi hz0 hz1 hz2 rfl (by decide) v n _ hs hown ⟨g0, 0, none⟩ 1 1 (shv [t]) hx rfl (World.news_of_block (cs := #[.int .u8 (v8 t.x), .slice t.ao t.n t.c]) hnew) (shv_one' [t]) (by omega) (by unfold maxLen; omega) (by omega) hbase _ rfl ?_
  intro g cap w' h1 h2 h3 h4
  rw [shv_append] at h
  exact h g cap w' h1 h2

set_option maxRecDepth 100000 in
set_option maxHeartbeats 2000000 in
theorem twin_any (ao : Option Addr) (n c : Nat) (L : List Sh) (w : World) (hs : Shs w ao n L) (hn : (n : Int) ≤ 1000) (hln : ∀ s ∈ L, s.n ≤ 1000000) :
    Calls Tryd.prog 17 #[.slice ao n c] w fun e w' => ∃ v M, e = .returned v ∧ TwinS w.heap.size w' v n M ∧ tkey M = tkey L ∧ Below w.heap.size w w' := by
  have HL : Hid (L.length = n) := hs.len
  go_enter Tryd.func17, Tryd.ntmps17
  go_wp2
  go_loopw [3, 4] (fun v i wr => ∃ (k : Nat) (M : List Sh), k ≤ n ∧ i = .int .i64 k ∧ TwinS w.heap.size wr v k M ∧ Hid (tkey M = tkey (L.take k)) ∧ Below w.heap.size w wr) (fun _ i _ => n - (intOf i).toNat)
  case atStart => exact ⟨0, [], Nat.zero_le _, rfl, ⟨World.ownsRow_nil _ _ _ _, by simp, List.Pairwise.nil⟩, rfl, Below.refl _ _⟩
  case round =>
    obtain ⟨k, M, hk, rfl, hT, HK, hb⟩ := hrel
    have hsz := hb.size
    by_cases hlt : k < n
    · obtain ⟨ad, rfl⟩ := hs.adr (by omega)
      obtain ⟨s, hsk⟩ := hs.get k hlt
      have hmem := List.mem_of_getElem? hsk
      have cx0 := hs.cx ad rfl k s hsk
      have cy0 := hs.cy ad rfl k s hsk
      have cx := cell_later hb cx0
      have cy := cell_later hb cy0
      have hok := (hs.later hb).ok s hmem
      have hsn := hln s hmem
      have HTK : Hid (L.take (k + 1) = L.take k ++ [s]) := take_next' hsk
      have hbl1 := block_lt_of_cell cx0
      have hbl2 := block_lt_of_cell cy0
      have hne1 : some (ad.add (k * 2)).block ≠ u3.ownBlock := fun e => by have := (hT.own.lt _ e.symm).1; omega
      have hkn : (k : Int) < (n : Int) := by omega
      obtain ⟨x, HX⟩ : ∃ x, Hid (x = v8 s.x) := ⟨_, rfl⟩
      rw [← HX.out] at cx
      clear cx0 cy0 hsk
      have hro := roomy_any s.ao s.n s.c (s.ys.map v8) wr.drew (shows_heap hok.sh rfl) hok.bare (by omega)
      obtain ⟨sao, hsao⟩ : ∃ q, q = s.ao := ⟨_, rfl⟩
      obtain ⟨sn, hsnn⟩ : ∃ q, q = s.n := ⟨_, rfl⟩
      obtain ⟨sc, hscc⟩ : ∃ q, q = s.c := ⟨_, rfl⟩
      rw [← hsao, ← hsnn, ← hscc] at cy hro
      have HSN : Hid (sn = s.n) := hsnn
      have HLN : Hid (s.ys.length = s.n) := hok.len
      obtain ⟨xs, HXS⟩ : ∃ xs, Hid (xs = s.ys.map v8) := ⟨_, rfl⟩
      rw [← HXS.out] at hro
      clear hsao hsnn hscc hok
      go_wp2
      go_region_held3 (fun w' => w'.cell? (ad.add (k * 2)) = some (.int .u8 x) ∧ w'.cell? ⟨(ad.add (k * 2)).block, (ad.add (k * 2)).off + 1, none⟩ = some (.slice sao sn sc)) (first | exact ⟨cx, cy⟩ | (go_split_ands; exact ⟨cell_later hb1 (by assumption), cell_later hb1 (by assumption)⟩) | (go_split_ands; exact ⟨far_cell hg2 (by assumption) hne1, far_cell hg2 (by assumption) hne1⟩) | (go_split_ands; exact ⟨cellA (by assumption) _, cellA (by assumption) _⟩)) ((first
        | (go_at_call 9; refine hro.mono ?_; rintro e w1 ⟨g, cap, rfl, hown, hb1⟩)
        | (go_split_ands; refine step_pushS (.tmp 11) (.tmp 24) rfl rfl w.heap.size u3 k M rfl ((own_below (w := wr.drew) hT.own hb1).alloc _) w1.heap.size ⟨s.x, some ⟨g, 0, none⟩, sn, cap, s.ys⟩ rfl (by rw [← HX.out]; exact new_at rfl) (by omega) ?_ ?_; (focus (have hq := hb1.size; have hq2 : wr.drew.heap.size = wr.heap.size := rfl; simp; omega)); intro g2 cap2 w2 hown2 hg2)))
      have hw1 : Below wr.heap.size wr w1 := (Below.refl _ wr).drew.trans hb1
      have hT1 := (hT.later hw1).alloc (.cells #[.int .u8 x, .slice (some ⟨g, 0, none⟩) sn cap] 44)
      have hbw1 : Below w.heap.size w w1 := hb.trans (hw1.mono hsz)
      have hz1 := hbw1.size
      have hz1' := hw1.size
      have hbw2 : Below w.heap.size w w2 := (hbw1.alloc hz1 _).grown hg2 (by simp; omega) (fun b hb => (hT.own.lt b hb).1)
      have hnew : w2.ownsRow w.heap.size 5 1 (.slice (some ⟨g, 0, none⟩) (sn + 7) cap) (sn + 7) (u8s (xs ++ marks)) := by
        have h1 := (own_base' (base := w.heap.size) hown hsz).alloc (.cells #[.int .u8 x, .slice (some ⟨g, 0, none⟩) sn cap] 44)
        exact h1.kept hg2 (type_ne (by decide) h1 hT1.own)
      have hres : TwinS w.heap.size w2 (.slice (some ⟨g2, 0, none⟩) (k + 1) cap2) (k + 1) (M ++ [⟨s.x, some ⟨g, 0, none⟩, sn, cap, s.ys⟩]) := by
        refine ⟨hown2, fun t ht => ?_, ?_⟩
        · rcases List.mem_append.1 ht with ht | ht
          · obtain ⟨g3, h1, h2, h3⟩ := hT1.rows t ht
            exact ⟨g3, h1, h2.kept hg2 (type_ne (by decide) h2 hT1.own), h3⟩
          · rw [List.mem_singleton] at ht
            subst ht
            exact ⟨g, rfl, by rw [← HXS.out]; exact hnew, by rw [HLN.out, HSN.out]⟩
        · rw [List.pairwise_append]
          refine ⟨hT.pw, List.Pairwise.cons (fun p hp => (by simp at hp)) List.Pairwise.nil, ?_⟩
          intro a ha b hb'
          rw [List.mem_singleton] at hb'
          subst hb'
          refine ne_iv (l := 0) (r := wr.heap.size) (l' := wr.heap.size) (r' := w1.heap.size) (fun x hx => ⟨Nat.zero_le _, ((hT.row ha).lt x hx).2⟩) (fun x hx => ?_) (.inl (Nat.le_refl _))
          exact hown.lt x hx
      clear hown hown2 hg2 hT1 hnew hT hro cx cy
      go_wp2
      go_roundw
      case rel =>
        refine ⟨k + 1, _, by omega, by go_num, hres, ?_, hbw2⟩
        show _ = _
        rw [HTK.out]
        have := HK.out
        unfold tkey at *
        rw [List.map_append, List.map_append, this]
        show _ ++ [(s.x, sn, s.ys)] = _ ++ [(s.x, s.n, s.ys)]
        rw [HSN.out]
      case measure => simp [intOf]; omega
    · have hkn : n = k := by omega
      subst hkn
      go_wp2
      go_ret
      refine ⟨_, M, rfl, hT, ?_, hb⟩
      have := HK.out
      rwa [List.take_of_length_le (by rw [HL.out]; exact Nat.le_refl _)] at this

theorem tkey_at {L M : List Sh} (h : tkey M = tkey L) {i : Nat} {s t : Sh} (ht : M[i]? = some t) (hs : L[i]? = some s) : t.x = s.x ∧ t.n = s.n ∧ t.ys = s.ys := by
  have h1 : (tkey M)[i]? = (tkey L)[i]? := by rw [h]
  unfold tkey at h1
  rw [List.getElem?_map, List.getElem?_map, hs, ht] at h1
  simp at h1
  exact h1
theorem tkey_len {L M : List Sh} (h : tkey M = tkey L) : M.length = L.length := by
  have := congrArg List.length h
  simpa [tkey] using this

set_option maxRecDepth 100000 in
set_option maxHeartbeats 2000000 in
theorem keptS_any (B : Nat) (ao : Option Addr) (mo : Option Addr) (n c d : Nat) (L M : List Sh) (w : World) (hs : Shs w ao n L) (hT : TwinS B w (.slice mo n d) n M) (hk : tkey M = tkey L) (hn : (n : Int) ≤ 1000) (hln : ∀ s ∈ L, s.n ≤ 1000000) :
    Calls Tryd.prog 21 #[.slice mo n d, .slice ao n c] w fun e w' => e = .returned (.bool true) ∧ Below w.heap.size w w' := by
  have HK : Hid (tkey M = tkey L) := hk
  obtain ⟨mo', d', e1, hM, -⟩ := hT.owns.shs
  cases e1
  clear hk
  go_enter Tryd.func21, Tryd.ntmps21
  go_wp2
  go_loopw [5] (fun i wr => ∃ j : Nat, j ≤ n ∧ i = .int .i64 j ∧ Below w.heap.size w wr) (fun i _ => n - (intOf i).toNat)
  case atStart => exact ⟨0, Nat.zero_le _, rfl, Below.refl _ _⟩
  case round =>
    obtain ⟨k, hk, rfl, hb⟩ := hrel
    by_cases hlt : k < n
    · obtain ⟨ad, rfl⟩ := hs.adr (by omega)
      obtain ⟨bd, rfl⟩ := hM.adr (by omega)
      obtain ⟨s, hsk⟩ := hs.get k hlt
      obtain ⟨t, htk⟩ := hM.get k hlt
      have cx := (hs.later hb).cx ad rfl k s hsk
      have cy := (hs.later hb).cy ad rfl k s hsk
      have dx := (hM.later hb).cx bd rfl k t htk
      have dy := (hM.later hb).cy bd rfl k t htk
      have hmem := List.mem_of_getElem? hsk
      have s1 := ((hs.later hb).ok s hmem).sh
      have hsn := hln s hmem
      obtain ⟨g, e2, o2, _⟩ := (hT.later hb).rows t (List.mem_of_getElem? htk)
      obtain ⟨e3, e4, e5⟩ := tkey_at HK.out htk hsk
      rw [e3] at dx
      rw [e2, e4] at dy
      rw [e4, e5] at o2
      have hkn : (k : Int) < (n : Int) := by omega
      clear hsk htk e2 e3 e4 e5
      have hq := fun N => (kept_any g s.n t.c B s.c s.ao (s.ys.map v8) (wr.drewN N) (own_heap o2 (drewN_heap _ _)) (shows_heap s1 (drewN_heap _ _)) (by omega)).mono (fun _ _ h => (⟨h.1, h.2.symm⟩ : _ ∧ _))
      go_wp2
      go_quiet ((go_at_call 13; exact Calls.quiet_of_same (hq _)))
      go_wp2
      go_roundw
      case rel => exact ⟨k + 1, by omega, by go_num, below_drewN hb _⟩
      case measure => simp [intOf]; omega
    · go_wp2
      go_ret
      exact ⟨rfl, hb⟩
end Go.Proofs.YtineieoghlbchaaDoor
