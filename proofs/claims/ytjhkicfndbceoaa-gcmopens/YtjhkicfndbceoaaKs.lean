/- The key stream, by the program: a function that counts. -/
import Derived.Test.YtjhkicfndbceoaaCtr
namespace Go.Proofs.Ytjhkicfndbceoaa
open Go.RowKit

/-- What the key stream's function holds: the key, the nonce, the count. -/
structure KsS (v : World) (kg ng cg : Nat) (ws nonce : List B) (n : Nat) : Prop where
  k : Blk v kg 55 (bys ws)
  no : Blk v ng 23 (bys nonce)
  c : Blk v cg 74 [.int .u32 (n : Int)]
  kc : kg ≠ cg
  nc : ng ≠ cg
theorem KsS.cc {v : World} {kg ng cg : Nat} {ws nonce : List B} {n : Nat} (h : KsS v kg ng cg ws nonce n) : v.cell? ⟨cg, 0, none⟩ = some (.int .u32 (n : Int)) := h.c.cell 0 _ rfl
/-- What lies there while the next block is made. -/
structure KsR (w v : World) (kg ng cg : Nat) (ws nonce : List B) (n : Nat) (Z : List B) : Prop where
  s : KsS v kg ng cg ws nonce n
  r : Blk v w.heap.size 37 (bys Z)
  b : w.grownBy v (some cg)
  kl : kg < w.heap.size
  nl : ng < w.heap.size
  cl : cg < w.heap.size
theorem grown_below {w v v' : World} {r : Option Nat} (h : w.grownBy v r) (hb : Below v.heap.size v v') : w.grownBy v' r :=
  ⟨hb.os.trans h.os, hb.tape.trans h.tape, hb.output.trans h.output, Nat.le_trans h.size hb.size, fun i hi hr => (hb.block i (Nat.lt_of_lt_of_le hi h.size)).trans (h.block i hi hr)⟩
section
variable {w v v' : World} {kg ng cg : Nat} {ws nonce Z : List B} {n : Nat}
theorem KsS.next (h : KsS v kg ng cg ws nonce n) (hb : Below v.heap.size v v') : KsS v' kg ng cg ws nonce n := ⟨h.k.next hb, h.no.next hb, h.c.next hb, h.kc, h.nc⟩
theorem KsS.on (h : KsS v kg ng cg ws nonce n) {g : Nat} (ho : On v v' g) (h1 : kg ≠ g) (h2 : ng ≠ g) (h3 : cg ≠ g) : KsS v' kg ng cg ws nonce n := ⟨h.k.on ho h1, h.no.on ho h2, h.c.on ho h3, h.kc, h.nc⟩
theorem KsS.alloc (h : KsS v kg ng cg ws nonce n) (o : Obj) : KsS (v.alloc o) kg ng cg ws nonce n := ⟨h.k.alloc o, h.no.alloc o, h.c.alloc o, h.kc, h.nc⟩
theorem KsR.call (h : KsR w v kg ng cg ws nonce n Z) (hb : Below v.heap.size v v') : KsR w v' kg ng cg ws nonce n Z := ⟨h.s.next hb, h.r.next hb, grown_below h.b hb, h.kl, h.nl, h.cl⟩
theorem KsR.drew (h : KsR w v kg ng cg ws nonce n Z) : KsR w v.drew kg ng cg ws nonce n Z := h.call ((Below.refl _ v).drew)
end

theorem grown_on {w v v' : World} {r : Option Nat} {g : Nat} (h : w.grownBy v r) (ho : On v v' g) (hg : w.heap.size ≤ g) : w.grownBy v' r :=
  ⟨ho.os.trans h.os, ho.tape.trans h.tape, ho.output.trans h.output, by rw [ho.size]; exact h.size, fun i hi hr => (ho.block i (by omega)).trans (h.block i hi hr)⟩

set_option maxHeartbeats 2000000 in
set_option maxRecDepth 100000 in
theorem next_any (ws nonce : List B) (hw : ws.length = 240) (hn : nonce.length = 12) (n : Nat) (hb : n + 1 < 4294967296) (kg ng cg : Nat) (w : World) (hS : KsS w kg ng cg ws nonce n) :
    Calls Try.prog 37 #[.pointer (some ⟨cg, 0, none⟩), .pointer (some ⟨kg, 0, none⟩), .pointer (some ⟨ng, 0, none⟩)] w fun e w' => e = .returned (.agg (bys (enc ws (ctr nonce (n + 1)) 14)).toArray) ∧ KsS w' kg ng cg ws nonce (n + 1) ∧ w.grownBy w' (some cg) := by
  obtain ⟨ZB, hZB, hzB⟩ := zeroed37'
  have hE := enc_length ws (ctr nonce (n + 1)) hw (ctr_length nonce hn _) 14 (Nat.le_refl _)
  have H38 : Hid (∀ W : World, Calls Try.prog 38 #[.agg (bys ws).toArray, .agg (bys (ctr nonce (n + 1))).toArray] W fun e w' => e = .returned (.agg (bys (enc ws (ctr nonce (n + 1)) 14)).toArray) ∧ Below W.heap.size W w') := fun W => block_any ws _ hw (ctr_length nonce hn _) W
  obtain ⟨EB, eE⟩ : ∃ EB, EB = enc ws (ctr nonce (n + 1)) 14 := ⟨_, rfl⟩
  rw [← eE] at H38 hE ⊢
  clear eE
  have h1 : Blk (w.alloc (.cells (bys ZB).toArray 37)) w.heap.size 37 (bys ZB) := Blk.new _ _ _
  have h2 := hS.alloc (.cells (bys ZB).toArray 37)
  have hcl := hS.c.lt
  have hkl := hS.k.lt
  have hnl := hS.no.lt
  have c0 := h2.cc
  have f0 := h2.c.fz 0
  have q1 : IntKind.u32.wrap ((n : Int) + 1) = ((n + 1 : Nat) : Int) := by rw [IntKind.wrap_u32']; omega
  go_enter Try.func37, Try.ntmps37
  go_wp2_with fail
  have en : ((n : Int) + 1) = ((n + 1 : Nat) : Int) := by omega
  rw [en]
  have hX : KsR w ((w.setCell ⟨cg, 0, none⟩ (.int .u32 ((n + 1 : Nat) : Int))).alloc (.cells (bys ZB).toArray 37)) kg ng cg ws nonce (n + 1) ZB := by
    have hr := Blk.new (w.setCell ⟨cg, 0, none⟩ (.int .u32 ((n + 1 : Nat) : Int))) 37 (bys ZB)
    rw [show (w.setCell ⟨cg, 0, none⟩ (.int .u32 ((n + 1 : Nat) : Int))).heap.size = w.heap.size by simp] at hr
    refine ⟨⟨(hS.k.beside _ hS.kc).alloc _, (hS.no.beside _ hS.nc).alloc _, (hS.c.set 0 _).alloc _, hS.kc, hS.nc⟩, hr, ?_, hkl, hnl, hcl⟩
    exact grown_trans (grown_set w cg 0 _) (World.grownBy_alloc _ _ _)
  obtain ⟨W0, eW⟩ : ∃ W, W = ((w.setCell ⟨cg, 0, none⟩ (.int .u32 ((n + 1 : Nat) : Int))).alloc (.cells (bys ZB).toArray 37)) := ⟨_, rfl⟩
  rw [← eW] at hX ⊢
  clear eW c0 f0 h1 h2 en q1
  refine wp_region_to (fun v => KsR w v kg ng cg ws nonce (n + 1) ZB) 5 (by kernel_rfl) ?_
  have hS0 := hX.drew
  refine wpTo_take (i := 0) (show _ = some _ by simp only [List.getElem?_toArray, List.getElem?_cons_zero]; exact rfl) (by kernel_rfl) (by kernel_rfl) (by kernel_rfl) (by kernel_rfl) (by exact fun _ _ _ h => h) (yieldsIf_load_mid (by rfl) 55 (.tmp 1) rfl kg 0 rfl (bys ws) _ (fun v h => h.s.k.whole) Try.underlying55 rfl (by rw [bys_length, hw]; kernel_rfl)) hS0 ?_
  (try simp only [Act.put]); (try simp only [List.setIfInBounds_toArray]); (repeat (first | simp only [List.set_cons_succ] | simp only [List.set_cons_zero]))
  refine wpTo_take (i := 1) (show _ = some _ by simp only [List.getElem?_toArray, List.getElem?_cons_succ, List.getElem?_cons_zero]; exact rfl) (by kernel_rfl) (by kernel_rfl) (by kernel_rfl) (by kernel_rfl) (by exact fun _ _ _ h => h) (yieldsIf_load_mid (by rfl) 23 (.tmp 2) rfl ng 0 rfl (bys nonce) _ (fun v h => h.s.no.whole) Try.underlying23 rfl (by rw [bys_length, hn]; kernel_rfl)) hS0 ?_
  (try simp only [Act.put]); (try simp only [List.setIfInBounds_toArray]); (repeat (first | simp only [List.set_cons_succ] | simp only [List.set_cons_zero]))
  refine wpTo_take (i := 2) (v := ?v2) (show _ = some _ by simp only [List.getElem?_toArray, List.getElem?_cons_succ, List.getElem?_cons_zero]; exact rfl) (by kernel_rfl) (by kernel_rfl) (by kernel_rfl) (by kernel_rfl) (by exact fun _ _ _ h => h) (Or.inl ⟨by rfl, ?hy2⟩) hS0 ?r2
  case hy2 => (intro w hSw; (try dsimp only at hSw); have hcc := KsS.cc (KsR.s hSw); go_simp; try with_reducible rfl)
  (try simp only [Act.put]); (try simp only [List.setIfInBounds_toArray]); (repeat (first | simp only [List.set_cons_succ] | simp only [List.set_cons_zero]))
  refine wpTo_one (i := 3) (by kernel_rfl) (show _ = some _ by simp only [List.getElem?_toArray, List.getElem?_cons_succ, List.getElem?_cons_zero]; exact rfl) (fun K hK => ?_)
  go_simp
  go_at_call 39; refine (counterBlock_any nonce hn (n + 1) hb _ (by push_cast; rfl) _).mono ?_; rintro e v1 ⟨rfl, k1⟩
  (try simp only [])
  refine hK.out _ _ (KsR.call hS0 k1) (fun hS1 => ?_)
  clear hK K
  (try simp only [Act.put]); (try simp only [List.setIfInBounds_toArray]); (repeat (first | simp only [List.set_cons_succ] | simp only [List.set_cons_zero]))
  refine wpTo_one (i := 4) (by kernel_rfl) (show _ = some _ by simp only [List.getElem?_toArray, List.getElem?_cons_succ, List.getElem?_cons_zero]; exact rfl) (fun K hK => ?_)
  go_simp
  go_at_call 38; refine (H38.out _).mono ?_; rintro e v2 ⟨rfl, k2⟩
  (try simp only [])
  refine hK.out _ _ (KsR.call hS1 k2) (fun hS2 => ?_)
  clear hK K
  (try simp only [Act.put]); (try simp only [List.setIfInBounds_toArray]); (repeat (first | simp only [List.set_cons_succ] | simp only [List.set_cons_zero]))
  refine wpTo_last (by kernel_rfl) (show _ = some _ by simp only [List.getElem?_toArray, List.getElem?_cons_succ, List.getElem?_cons_zero]; exact rfl) (by kernel_rfl) (fun K hK => ?_)
  rw [if_pos (by rfl)]
  refine wp_store_row 37 (.tmp 3) (.tmp 10) rfl w.heap.size (bys EB).toArray rfl rfl 37 _ hS2.r (by rw [List.size_toArray, bys_length, hE]; kernel_rfl) (by rw [List.size_toArray, List.size_toArray, bys_length, bys_length, hE, hZB]) (bys_one _) ?_
  refine hK.out _ _ ?_
  clear hK K
  (try simp only [Act.put]); (try simp only [List.setIfInBounds_toArray]); (repeat (first | simp only [List.set_cons_succ] | simp only [List.set_cons_zero]))
  have hoF := On.setRow v2 w.heap.size (bys EB).toArray
  have hAF := setRow_heap v2 w.heap.size _ (bys EB).toArray 37 _ hS2.r
  go_wp2_with fail
  refine bodyPost_ret (v := .agg (bys EB).toArray) (results_cell_row rfl _ _ w.heap.size 37 _ _ _ rfl hAF Try.underlying37 rfl (by rw [List.size_toArray, bys_length, hE]; kernel_rfl)) rfl ⟨rfl, hS2.s.on hoF (by omega) (by omega) (by omega), grown_on hS2.b hoF (Nat.le_refl _)⟩

theorem zero74 (W : World) : (zeroValue 74).run Try.prog W = .ok (.int .u32 0) W := by kernel_rfl
set_option maxHeartbeats 2000000 in
set_option maxRecDepth 100000 in
theorem keyStream_any (ws nonce : List B) (w : World) :
    Calls Try.prog 23 #[.agg (bys ws).toArray, .agg (bys nonce).toArray] w fun e w' => e = .returned (.func (.func 37) #[] #[.pointer (some ⟨w.heap.size + 1 + 1, 0, none⟩), .pointer (some ⟨w.heap.size, 0, none⟩), .pointer (some ⟨w.heap.size + 1, 0, none⟩)])
      ∧ KsS w' w.heap.size (w.heap.size + 1) (w.heap.size + 1 + 1) ws nonce 0 ∧ Below w.heap.size w w' := by
  have hz := zero74
  obtain ⟨h1, h2, h3, h4⟩ := blk3 w 55 23 74 (bys ws) (bys nonce) [.int .u32 0]
  go_enter Try.func23, Try.ntmps23
  go_wp2
  go_ret
  exact ⟨rfl, ⟨h1, h2, h3, by omega, by omega⟩, h4⟩
end Go.Proofs.Ytjhkicfndbceoaa
