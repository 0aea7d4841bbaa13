/- The images of an op that came in. -/
import Derived.Test.YtndfhmlcfaaaiaaGreatDoorWorks8
namespace Go.Proofs.YtndfhmlcfaaaiaaGreatDoor
open Go.RowKit

structure Strs (w : World) (ao : Option Addr) (n : Nat) (S : Nat → ByteArray) : Prop where
  bare : ao = none → n = 0
  cell : ∀ ad, ao = some ad → ∀ j, j < n → w.cell? (ad.add j) = some (.string (S j))
  good : ∀ j, j < n → (S j).size ≤ maxLen
theorem Strs.next {w w' : World} {ao : Option Addr} {n : Nat} {S : Nat → ByteArray} (h : Strs w ao n S) (hb : Below w.heap.size w w') : Strs w' ao n S :=
  ⟨h.bare, fun ad had j hj => cell_later hb (h.cell ad had j hj), h.good⟩
/-- An op's cells. -/
def oc8 (a i : Int) (po : Option Addr) (pn pc : Nat) (to' : Option Addr) (tn tc : Nat) : List Value := [.int .i64 a, .int .i64 i, .slice po pn pc, .slice to' tn tc]
/-- Its k-th image. -/
def imF (Ps : List Int) (tn : Nat) (S : Nat → ByteArray) (k : Nat) : Int × Pg := (Ps.getD k 0, if k < tn then textPg (S k) else zp)

set_option maxRecDepth 100000 in
theorem built74z (a : Int) : Tryz.prog.built 82 [(0, .int .i64 a)] = some (ic (a, zp)).toArray := by
  have hp := places74
  obtain ⟨i0, hi, hz0, hz1, hz2⟩ := info_parts info74
  unfold Program.built
  rw [hi]
  rw [Tryz.underlying82] at hp ⊢
  dsimp only at hp ⊢
  rw [hz0, hp]
  dsimp only
  have hsz : (Value.agg (ic (0, zp)).toArray).cells.size = 481 := by show (ic (0, zp)).toArray.size = 481; rw [List.size_toArray, ic_length]
  have hcs : (Value.agg (ic (0, zp)).toArray).cells = (ic (0, zp)).toArray := rfl
  rw [hcs] at hsz ⊢
  have gs : (Value.int .i64 a).cells = #[.int .i64 a] := rfl
  unfold Instr.fill
  simp only [List.getElem?_toArray, List.getElem?_cons_zero, gs]
  rw [if_neg (by simp [hsz])]
  unfold Instr.fill
  simp [ic]
theorem bd74z (a : Int) (w : World) : (Instr.build 82 #[(0, .int .i64 a)]).run Tryz.prog w = .ok (.agg (ic (a, zp)).toArray) w := run_build w 82 _ _ (built74z a)
section
variable {w : World} {ops : Array Oper} {rest : List Oper} {o : Oper} {a : Act} {Q : Exit → Act → World → Prop}
theorem make74z (hg : o.guard = none) {x : Operand} (ho : o.op = .build 82 #[(0, x)]) (n : Int) (hx : a.eval x = .int .i64 n)
    (h : wpList Tryz.prog ops Q rest (a.put o.dst (.agg (ic (n, zp)).toArray)) w) : wpList Tryz.prog ops Q (o :: rest) a w := by
  refine wpList_plain hg fun K hK => ?_
  unfold Oper.wp execOp
  have hb := bd74z n w
  simp only [ho, List.map_toArray, List.map_cons, List.map_nil, hx, Sem.run_bind, hb, Result.andThen_ok, Sem.run_pure]
  exact hK _ _ h
/-- A page is stored within an image. -/
theorem put_impg (hg : o.guard = none) (x y : Operand) (ho : o.op = .store 66 x y) (g : Nat) (n : Int) (p0 p : Pg) (hA : Blk w g 82 (ic (n, p0))) (hx : a.eval x = .pointer (some ⟨g, 1, none⟩)) (hy : a.eval y = .agg (pb p).toArray)
    (h : Blk (w.setCells g 1 (pb p)) g 82 (ic (n, p)) → wpList Tryz.prog ops Q rest (a.put o.dst undef) (w.setCells g 1 (pb p))) : wpList Tryz.prog ops Q (o :: rest) a w := by
  have hth : w.there g 1 (pb p).length := by
    intro j hj
    refine ⟨?_, hA.fz _⟩
    have hj2 : 1 + j < (ic (n, p0)).length := by rw [ic_length]; rw [pb_length] at hj; omega
    rw [hA.cell (1 + j) _ (List.getElem?_eq_getElem hj2)]
    rfl
  refine wpList_plain hg fun K hK => wp_store_mid 66 x y ho g 1 (pb p).toArray hx hy (by rw [List.size_toArray]; exact hth) (by rw [List.size_toArray, pb_length]; kernel_rfl) (by rw [List.all_toArray, List.all_eq_true]; exact fun u hu => bys_one' _ u hu) (hK _ _ (h ?_))
  obtain ⟨C', h1, h2, h3⟩ := heap_setCells g 82 (pb p) 1 w (ic (n, p0)).toArray hA (by rw [List.size_toArray, ic_length, pb_length]; omega)
  unfold Blk
  rw [h1]
  congr 2
  refine Array.ext_getElem? fun k => ?_
  rw [h3, pb_length]
  by_cases h0 : 1 ≤ k ∧ k < 1 + 480
  · rw [if_pos h0]
    obtain ⟨k, rfl⟩ : ∃ j, k = j + 1 := ⟨k - 1, by omega⟩
    simp [ic]
  · rw [if_neg h0]
    rcases Nat.lt_or_ge k 1 with h4 | h4
    · have : k = 0 := by omega
      subst this
      simp [ic]
    · rw [List.getElem?_toArray, List.getElem?_toArray, List.getElem?_eq_none (by rw [ic_length]; omega), List.getElem?_eq_none (by rw [ic_length]; omega)]
/-- 'append(l, x)', l a row of images of the call's own. -/
theorem push_im (hg : o.guard = none) (s x : Operand) (ho : o.op = .call { callee := .builtin .append, args := #[s, x], argTypes := #[73, 73] }) (base : Nat) (v : Value) (n : Nat) (F : Nat → Int × Pg) (hv : a.eval s = v) (hown : w.ownsRow base 82 481 v n (flatI n F))
    (g : Nat) (S : Int × Pg) (hx : a.eval x = .slice (some ⟨g, 0, none⟩) 1 1) (hc : Blk w g 82 (ic S)) (hbig : n ≤ 100000) (hbase : base ≤ w.heap.size) (hF : F n = S)
    (h : ∀ v' w', w'.ownsRow base 82 481 v' (n + 1) (flatI (n + 1) F) → w.grownBy w' v.ownBlock → wpList Tryz.prog ops Q rest (a.put o.dst v') w') : wpList Tryz.prog ops Q (o :: rest) a w := by
  obtain ⟨i0, hi, hz0, hz1, hz2⟩ := info_parts info74
  refine wpList_append_own w hg s x 73 ho base 82 i0 (.agg (ic (0, zp)).toArray) 481 488 Tryz.underlying73 hi hz0 hz1 hz2 (by show (ic (0, zp)).toArray.size = 481; rw [List.size_toArray, ic_length]) (by decide) v n (flatI n F) hv hown ⟨g, 0, none⟩ 1 1 (ic S) hx (by rw [ic_length]) (fun j u hj => by rw [add_zero_block]; exact hc.cell j u hj) (ic_one S) (by unfold maxLen; omega) (by omega) hbase ?_
  intro v' w' h1 h2 _
  refine h v' w' ?_ h2
  rw [flatI_succ, hF]
  exact h1
end
theorem own_fr {w w' : World} {base t es n : Nat} {v : Value} {cs : List Value} {X : Nat → Prop} (h : w.ownsRow base t es v n cs) (hf : Fr X w w') (hX : ∀ q, v.ownBlock = some q → ¬ X q) : w'.ownsRow base t es v n cs := by
  obtain ⟨hl, h1 | ⟨g, cp, C, rfl, hg, hC, h2, h3, h4, ht⟩⟩ := h
  · exact ⟨hl, .inl h1⟩
  · exact ⟨hl, .inr ⟨g, cp, C, rfl, hg, (hf.block g (lt_of_block hC) (hX g rfl)).trans hC, h2, h3, h4, ht⟩⟩
theorem own_mono {w : World} {base base' t es n : Nat} {v : Value} {cs : List Value} (h : w.ownsRow base t es v n cs) (hb : base' ≤ base) : w.ownsRow base' t es v n cs := by
  obtain ⟨hl, h1 | ⟨g, cp, C, rfl, hg, hC, h2, h3, h4, ht⟩⟩ := h
  · exact ⟨hl, .inl h1⟩
  · exact ⟨hl, .inr ⟨g, cp, C, rfl, Nat.le_trans hb hg, hC, h2, h3, h4, ht⟩⟩
/-- A row of images of the call's own: how it reads. -/
theorem irow_of_own {w : World} {base n : Nat} {v : Value} {F : Nat → Int × Pg} (h : w.ownsRow base 82 481 v n (flatI n F)) : (n = 0 ∧ v = .slice none 0 0) ∨ ∃ G cp, v = .slice (some ⟨G, 0, none⟩) n cp ∧ base ≤ G ∧ IRw w G n F := by
  obtain ⟨hl, h1 | ⟨g, cp, C, rfl, hg, hC, h2, h3, h4, ht⟩⟩ := h
  · exact .inl h1.symm
  · exact .inr ⟨g, cp, rfl, hg, ir_of_flat hC ht⟩
set_option maxRecDepth 100000 in
set_option maxHeartbeats 600000 in
theorem images_any (w : World) (a i : Int) (po : Option Addr) (pn pc : Nat) (Ps : List Int) (to' : Option Addr) (tn tc : Nat) (S : Nat → ByteArray) (hp : Ints w po pn Ps) (hs : Strs w to' tn S) (hpn : pn ≤ maxLen) :
    Calls Tryz.prog 19 #[.agg (oc8 a i po pn pc to' tn tc).toArray] w fun e w' => ∃ v, e = .returned v ∧ w'.ownsRow w.heap.size 82 481 v (min pn 200) (flatI (min pn 200) (imF Ps tn S)) ∧ Below w.heap.size w w' := by
  have hz74 := zero74
  obtain ⟨b, hb⟩ : ∃ b, b = w.heap.size := ⟨_, rfl⟩
  have hO := Blk.new w 56 (oc8 a i po pn pc to' tn tc)
  have kb : Below b w (w.alloc (.cells (oc8 a i po pn pc to' tn tc).toArray 56)) := by rw [hb]; exact (Below.refl w.heap.size w).alloc (Nat.le_refl _) _
  have HP : Hid (∀ v, Below b w v → Ints v po pn Ps) := fun v k => hp.next (by rw [← hb]; exact k)
  have HT : Hid (∀ v, Below b w v → Strs v to' tn S) := fun v k => hs.next (by rw [← hb]; exact k)
  have hpb := hp.bare
  have htb := hs.bare
  have htg := hs.good
  unfold maxLen at hpn
  have HB : Hid (b = w.heap.size) := hb
  have hs0 : b + 1 ≤ (w.alloc (.cells (oc8 a i po pn pc to' tn tc).toArray 56)).heap.size := by simp; omega
  rw [← hb] at hO ⊢
  clear hp hs hb
  obtain ⟨F, hF⟩ : ∃ F, F = imF Ps tn S := ⟨_, rfl⟩
  have HF : Hid (F = imF Ps tn S) := hF
  rw [← hF]
  clear hF
  go_enter Tryz.func19, Tryz.ntmps19
  go_wp2_with fail
  rw [← HB.out]
  obtain ⟨w0, hw0⟩ : ∃ u, u = w.alloc (.cells (oc8 a i po pn pc to' tn tc).toArray 56) := ⟨_, rfl⟩
  rw [← hw0] at hO kb hs0 ⊢
  clear hw0
  obtain ⟨os, hos⟩ : ∃ os, os = oc8 a i po pn pc to' tn tc := ⟨_, rfl⟩
  have o2 : os[2]? = some (.slice po pn pc) := by rw [hos]; rfl
  have o3 : os[3]? = some (.slice to' tn tc) := by rw [hos]; rfl
  rw [← hos] at hO
  clear hos
  go_loopw [3, 4] (fun v j wr => ∃ k : Nat, k ≤ pn ∧ k ≤ 200 ∧ j = .int .i64 (k : Int) ∧ wr.ownsRow (b + 1) 82 481 v k (flatI k F) ∧ Blk wr b 56 os ∧ Below b w wr ∧ b + 1 ≤ wr.heap.size) (fun _ j _ => 200 - (intOf j).toNat)
  case atStart => exact ⟨0, by omega, by omega, rfl, World.ownsRow_nil _ _ _ _, hO, kb, hs0⟩
  case round =>
    obtain ⟨k, hk1, hk2, rfl, hR, hO1, hB1, hs1⟩ := hrel
    clear hO kb hs0
    have c2 := hO1.cell 2 _ o2
    have c3 := hO1.cell 3 _ o3
    by_cases hlt : k < pn ∧ k < 200
    · obtain ⟨hlt1, hlt2⟩ := hlt
      have hkI : (k : Int) < (pn : Int) := by omega
      have hkJ : (k : Int) < 200 := by omega
      cases po with
      | none => exact absurd (hpb rfl) (by omega)
      | some ad =>
      have hpc := (HP.out _ hB1).cell ad rfl k hlt1
      obtain ⟨P, hP⟩ : ∃ P, P = Ps.getD k 0 := ⟨_, rfl⟩
      rw [← hP] at hpc
      have hFk : F k = (P, if k < tn then textPg (S k) else zp) := by rw [HF.out, hP]; rfl
      clear hP
      have hN := Blk.new wr 82 (ic (0, zp))
      have hne : u3.ownBlock = none ∨ u3.ownBlock ≠ none := by cases u3.ownBlock <;> simp
      go_upto_region 6 with (first
        | (refine make74z rfl rfl P rfl ?_)
        | (refine store_im rfl _ _ rfl wr.heap.size (0, zp) (P, zp) hN rfl rfl ?_; intro hG))
      have hfU : Fr (fun j => j = wr.heap.size) wr ((wr.alloc (.cells (ic (0, zp)).toArray 82)).setRow wr.heap.size (ic (P, zp)).toArray) := ((Fr.refl _ wr).alloc _).setRow _ _ (.inl rfl)
      have hbU := hfU.below (b := wr.heap.size) (fun j e => by omega) (Nat.le_refl _)
      obtain ⟨G, hGe⟩ : ∃ G, G = wr.heap.size := ⟨_, rfl⟩
      obtain ⟨U, hU⟩ : ∃ U, U = (wr.alloc (.cells (ic (0, zp)).toArray 82)).setRow wr.heap.size (ic (P, zp)).toArray := ⟨_, rfl⟩
      rw [← hU] at hG hbU ⊢
      rw [← hGe] at hG ⊢
      have hqG : ∀ q, u3.ownBlock = some q → ¬ q = G := fun q hq => by have := (hR.lt q hq).2; omega
      have hRU := hR.kept (grown_of_below hbU) hne
      have hOU := hO1.next hbU
      have hBU := hB1.trans (hbU.mono (by omega))
      have hsU : b + 1 ≤ U.heap.size := Nat.le_trans hs1 hbU.size
      have hGb : b < G := by omega
      clear hfU hbU hU hN hpc hR hO1 hB1 hs1 c2 c3 hGe
      have c2 := hOU.cell 2 _ o2
      have c3 := hOU.cell 3 _ o3
      by_cases hkt : k < tn
      · have hktI : (k : Int) < (tn : Int) := by omega
        rw [if_pos hkt] at hFk
        cases to' with
        | none => exact absurd (htb rfl) (by omega)
        | some td =>
        have htc := (HT.out _ hBU).cell td rfl k hkt
        have htx := fun V => text_any (S k) (htg k hkt) V
        obtain ⟨tp, htp⟩ : ∃ tp, tp = textPg (S k) := ⟨_, rfl⟩
        rw [← htp] at htx hFk
        clear htp
        go_wp2_with (first
          | (go_at_call 25; refine (htx _).mono ?_; rintro e w3 ⟨rfl, kb3⟩
             have hG3 := hG.next kb3
             have hR3 := hRU.kept (grown_of_below kb3) hne
             have hO3 := hOU.next kb3
             have hB3 := hBU.trans (kb3.mono (by omega))
             have hs3 := Nat.le_trans hsU kb3.size)
          | (refine put_impg rfl _ _ rfl G P zp tp hG3 rfl rfl ?_; intro hG4
             have hf4 := Fr.setCells G 1 (pb tp) (Fr.refl (fun j => j = G) w3) (.inl rfl)
             have hR4 := own_fr hR3 hf4 hqG
             have hO4 := hO3.fr hf4 (by omega)
             have hB4 := hB3.trans (hf4.below (fun j e => by omega) (by omega))
             have hs4 := Nat.le_trans hs3 hf4.size)
          | (refine wpList_load_mid rfl 82 _ rfl G 0 rfl (ic (P, tp)) _ hG4.whole Tryz.underlying82 rfl (by rw [ic_length]; kernel_rfl) ?_)
          | (refine build_im1 rfl (P, tp) rfl rfl ?_; intro hIm
             have hC5 := Blk.new (w3.setCells G 1 (pb tp)) 82 (ic (P, tp))
             have hR5 := hR4.alloc (.cells (ic (P, tp)).toArray 82)
             have hO5 := hO4.alloc (.cells (ic (P, tp)).toArray 82)
             have hB5 := hB4.alloc (by have := hs4; omega) (.cells (ic (P, tp)).toArray 82)
             have hs5 : b + 1 ≤ ((w3.setCells G 1 (pb tp)).alloc (.cells (ic (P, tp)).toArray 82)).heap.size := by rw [World.size_alloc]; have := hs4; omega)
          | (at_builtin; refine push_im rfl _ _ rfl (b + 1) _ k F rfl hR5 (w3.setCells G 1 (pb tp)).heap.size (P, tp) rfl hC5 (by omega) (by omega) hFk ?_; intro u6 w6 hR6 hg6))
        have hf6 : Fr (fun j => b + 1 ≤ j) ((w3.setCells G 1 (pb tp)).alloc (.cells (ic (P, tp)).toArray 82)) w6 := (Fr.refl _ _).grown hg6 (fun q hq => .inl (hR5.lt q hq).1)
        exact ⟨⟨k + 1, by omega, by omega, by go_num, hR6, hO5.fr hf6 (by omega), hB5.grown hg6 (by omega) (fun q hq => by have := (hR5.lt q hq).1; omega), Nat.le_trans hs5 hf6.size⟩, by simp only [intOf]; omega⟩
      · have hktI : ¬ (k : Int) < (tn : Int) := by omega
        rw [if_neg hkt] at hFk
        go_wp2_with (first
          | (refine wpList_load_mid rfl 82 _ rfl G 0 rfl (ic (P, zp)) _ hG.whole Tryz.underlying82 rfl (by rw [ic_length]; kernel_rfl) ?_)
          | (refine build_im1 rfl (P, zp) rfl rfl ?_; intro hIm
             have hC5 := Blk.new (U) 82 (ic (P, zp))
             have hR5 := hRU.alloc (.cells (ic (P, zp)).toArray 82)
             have hO5 := hOU.alloc (.cells (ic (P, zp)).toArray 82)
             have hB5 := hBU.alloc (by have := hsU; omega) (.cells (ic (P, zp)).toArray 82)
             have hs5 : b + 1 ≤ ((U).alloc (.cells (ic (P, zp)).toArray 82)).heap.size := by rw [World.size_alloc]; have := hsU; omega)
          | (at_builtin; refine push_im rfl _ _ rfl (b + 1) _ k F rfl hR5 (U).heap.size (P, zp) rfl hC5 (by omega) (by omega) hFk ?_; intro u6 w6 hR6 hg6))
        have hf6 : Fr (fun j => b + 1 ≤ j) ((U).alloc (.cells (ic (P, zp)).toArray 82)) w6 := (Fr.refl _ _).grown hg6 (fun q hq => .inl (hR5.lt q hq).1)
        exact ⟨⟨k + 1, by omega, by omega, by go_num, hR6, hO5.fr hf6 (by omega), hB5.grown hg6 (by omega) (fun q hq => by have := (hR5.lt q hq).1; omega), Nat.le_trans hs5 hf6.size⟩, by simp only [intOf]; omega⟩
    · have hend : k = min pn 200 := by omega
      have hFe : flatI k F = flatI (min pn 200) F := by rw [hend]
      have hR2 : wr.ownsRow b 82 481 u3 (min pn 200) (flatI (min pn 200) F) := by rw [← hend]; exact own_mono hR (by omega)
      have HE : Hid (wr.ownsRow b 82 481 u3 (min pn 200) (flatI (min pn 200) F)) := hR2
      clear hFe hR2 hend
      by_cases hp2 : k < pn
      · have hkI : (k : Int) < (pn : Int) := by omega
        have hkJ : ¬ (k : Int) < 200 := by omega
        go_wp2_with fail
        go_ret
        exact ⟨_, rfl, HE.out, hB1⟩
      · have hkI : ¬ (k : Int) < (pn : Int) := by omega
        go_wp2_with fail
        go_ret
        exact ⟨_, rfl, HE.out, hB1⟩
end Go.Proofs.YtndfhmlcfaaaiaaGreatDoor
