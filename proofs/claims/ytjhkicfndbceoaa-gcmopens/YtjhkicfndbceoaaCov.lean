/- Bytes with the key stream added, by the program. -/
import Derived.Test.YtjhkicfndbceoaaKs
namespace Go.Proofs.Ytjhkicfndbceoaa
open Go.RowKit

theorem row_blk {w : World} {g : Nat} {l : List B} (h : RowIs w g (v8s l)) : Blk w g 5 (bys l) := by
  unfold RowIs at h
  rwa [u8s_v8s] at h
theorem v8s_zeros (n : Nat) : v8s (List.replicate n 0#8) = List.replicate n 0 := by simp [v8s, v8_zero]
theorem nbl_on (j : Nat) (h : j % 16 = 0) : nbl (j + 1) = nbl j + 1 := by unfold nbl; omega
theorem nbl_in (j : Nat) (h : j % 16 ≠ 0) : nbl (j + 1) = nbl j := by unfold nbl; omega
theorem nbl_div (j : Nat) : nbl (j + 1) = j / 16 + 1 := by unfold nbl; omega

/-- What lies there while bytes are covered. -/
structure CoS (w v : World) (kg ng cg g : Nat) (ws nonce : List B) (n : Nat) (out blk : List B) : Prop where
  s : KsS v kg ng cg ws nonce n
  o : Blk v w.heap.size 5 (bys out)
  b : Blk v g 37 (bys blk)
  bl : blk.length = 16
  g : w.heap.size < g
  r : w.grownBy v (some cg)
  kl : kg < w.heap.size
  nl : ng < w.heap.size
  cl : cg < w.heap.size

theorem add_block (ad : Addr) (j : Nat) : (ad.add j).block = ad.block := by unfold Addr.add; split <;> rfl
theorem Shows.grown {w w' : World} {ao : Option Addr} {n cg : Nat} {xs : List Int} (h : Shows w ao n xs) (hg : w.grownBy w' (some cg)) (hne : ∀ ad, ao = some ad → 0 < n → ad.block ≠ cg) : Shows w' ao n xs :=
  ⟨h.len, h.bare, fun ad had j hj => by
    have hc := h.cell ad had j hj
    have hl := block_lt_of_cell hc
    rw [World.cell?_of_block (hg.block _ hl (by rw [add_block]; have := hne ad had (by omega); simpa using this))]
    exact hc, h.rng⟩
theorem CoS.next {w v v' : World} {kg ng cg g : Nat} {ws nonce : List B} {n m : Nat} {out blk : List B} (h : CoS w v kg ng cg g ws nonce n out blk) (hs : KsS v' kg ng cg ws nonce m) (hg : v.grownBy v' (some cg)) : CoS w v' kg ng cg g ws nonce m out blk :=
  ⟨hs, (hg.block _ h.o.lt (by have := h.cl; simp; omega)).trans h.o, (hg.block _ h.b.lt (by have := h.cl; have := h.g; simp; omega)).trans h.b, h.bl, h.g, grown_trans h.r hg, h.kl, h.nl, h.cl⟩
theorem CoS.putB {w v v' : World} {kg ng cg g : Nat} {ws nonce : List B} {n : Nat} {out blk blk' : List B} (h : CoS w v kg ng cg g ws nonce n out blk) (ho : On v v' g) (hb : Blk v' g 37 (bys blk')) (hl : blk'.length = 16) : CoS w v' kg ng cg g ws nonce n out blk' := by
  have := h.kl
  have := h.nl
  have := h.cl
  have := h.g
  exact ⟨h.s.on ho (by omega) (by omega) (by omega), h.o.on ho (by omega), hb, hl, h.g, grown_on h.r ho (by omega), h.kl, h.nl, h.cl⟩
theorem CoS.putO {w v : World} {kg ng cg g : Nat} {ws nonce : List B} {n : Nat} {out blk : List B} (h : CoS w v kg ng cg g ws nonce n out blk) (i : Nat) (x : B) : CoS w (v.setCell ⟨w.heap.size, i, none⟩ (.int .u8 (v8 x))) kg ng cg g ws nonce n (out.set i x) blk := by
  have := h.kl
  have := h.nl
  have := h.cl
  have := h.g
  have ho := On.setCell v ⟨w.heap.size, i, none⟩ (.int .u8 (v8 x))
  exact ⟨h.s.on ho (by simp; omega) (by simp; omega) (by simp; omega), h.o.put i x, h.b.on ho (by simp; omega), h.bl, h.g, grown_on h.r ho (by simp), h.kl, h.nl, h.cl⟩

set_option maxHeartbeats 2000000 in
set_option maxRecDepth 100000 in
theorem covered_walk (ws nonce bs T : List B) (hw : ws.length = 240) (hn : nonce.length = 12) (kg ng cg : Nat) (ao : Option Addr) (n c : Nat) (w : World) (hs : Shows w ao n (v8s bs)) (hbig : n ≤ 1000000) (hT : T.length = n)
    (HT : ∀ j, j < n → bs.getD j 0#8 ^^^ (enc ws (ctr nonce (1 + nbl (j + 1))) 14).getD (j % 16) 0#8 = T.getD j 0#8) (hS : KsS w kg ng cg ws nonce 1) (hbc : ∀ ad, ao = some ad → 0 < n → ad.block ≠ cg) :
    Calls Try.prog 24 #[.slice ao n c, .func (.func 37) #[] #[.pointer (some ⟨cg, 0, none⟩), .pointer (some ⟨kg, 0, none⟩), .pointer (some ⟨ng, 0, none⟩)]] w
      fun e w' => e = .returned (.slice (some ⟨w.heap.size, 0, none⟩) n n) ∧ Blk w' w.heap.size 5 (bys T) ∧ KsS w' kg ng cg ws nonce (1 + nbl n) ∧ w.grownBy w' (some cg) := by
  obtain ⟨ZB, hZB, hzB⟩ := zeroed37'
  have HL : Hid (bs.length = n) := by have := hs.len; rw [v8s_length] at this; exact this
  have HT' : Hid _ := HT
  clear HT
  obtain ⟨ZN, eZ⟩ : ∃ Z : List B, Z = List.replicate n 0#8 := ⟨_, rfl⟩
  have hZN : ZN.length = n := by rw [eZ]; simp
  have HZ : Hid (v8s ZN = List.replicate n 0) := by rw [eZ]; exact v8s_zeros n
  clear eZ
  have hlow : ∀ ad, ao = some ad → 0 < n → ad.block < w.heap.size := fun ad had hn => by subst had; exact hs.lt hn
  have hcl := hS.c.lt
  have hkl := hS.k.lt
  have hnl := hS.no.lt
  go_enter Try.func24, Try.ntmps24
  go_wp2_with (refine law_make rfl _ _ rfl _ _ n rfl rfl rfl rfl (by omega) (v8s ZN) HZ ?_; intro w1 hr1 hb1 hl1; have ho1 := row_blk hr1)
  have hg1 : w.grownBy (w1.alloc (.cells (bys ZB).toArray 37)) (some cg) := grown_below (World.grownBy.refl _ _) (hb1.alloc hb1.size _)
  have hC0 : CoS w (w1.alloc (.cells (bys ZB).toArray 37)) kg ng cg w1.heap.size ws nonce 1 ZN ZB := ⟨(hS.next hb1).alloc _, ho1.alloc _, Blk.new _ _ _, hZB, hl1, hg1, hkl, hnl, hcl⟩
  have hs1 : Shows (w1.alloc (.cells (bys ZB).toArray 37)) ao n (v8s bs) := hs.later (hb1.alloc hb1.size _)
  obtain ⟨g, eg⟩ : ∃ g, g = w1.heap.size := ⟨_, rfl⟩
  rw [← eg] at hC0 ⊢
  clear eg
  have hn0 : nbl 0 = 0 := rfl
  go_loopw [14] (fun i wr => ∃ (j : Nat) (blk : List B), j ≤ n ∧ i = .int .i64 (j : Int) ∧ Hid (j % 16 ≠ 0 → blk = enc ws (ctr nonce (1 + nbl j)) 14) ∧ CoS w wr kg ng cg g ws nonce (1 + nbl j) (mid T ZN j) blk ∧ Shows wr ao n (v8s bs)) (fun i _ => n - (intOf i).toNat)
  case atStart => exact ⟨0, ZB, by omega, rfl, (show 0 % 16 ≠ 0 → _ from fun h => absurd rfl h), by rw [mid_zero, hn0]; exact hC0, hs1⟩
  case round =>
    obtain ⟨j, blk, hj, rfl, HK, hA, hsj⟩ := hrel
    clear hC0 hs1 hg1 hs ho1 hr1
    have hml := mid_length T ZN n j hT hZN
    by_cases hlt : j < n
    · cases ao with
      | none => have := hsj.bare rfl; omega
      | some ad =>
        have hadl := hlow ad rfl (by omega)
        have hgg := hA.g
        have cb := hsj.byteAt j hlt
        have hjI : (j : Int) < n := by omega
        have hT1 : Hid _ := HT'.out j hlt
        have HS : Hid _ := mid_step T ZN j n hT hZN hlt
        obtain ⟨x, ex⟩ : ∃ x, x = bs.getD j 0#8 := ⟨_, rfl⟩
        rw [← ex] at cb hT1
        clear ex HT' HZ
        by_cases h16 : j % 16 = 0
        · have hjm : (j : Int) % 16 = 0 := by omega
          have HN1 : Hid (1 + nbl j + 1 = 1 + nbl (j + 1)) := by have := nbl_on j h16; show 1 + nbl j + 1 = 1 + nbl (j + 1); omega
          have hnb : 1 + nbl j + 1 < 4294967296 := by unfold nbl; omega
          go_wp2_with fail
          go_at_call 37; refine (next_any ws nonce hw hn (1 + nbl j) hnb kg ng cg wr hA.s).mono ?_; rintro e w2 ⟨rfl, hs2, hg2⟩
          rw [HN1.out] at hs2 ⊢
          have hE := enc_length ws (ctr nonce (1 + nbl (j + 1))) hw (ctr_length nonce hn _) 14 (Nat.le_refl _)
          have HK2 : Hid ((j + 1) % 16 ≠ 0 → enc ws (ctr nonce (1 + nbl (j + 1))) 14 = enc ws (ctr nonce (1 + nbl (j + 1))) 14) := fun _ => rfl
          rw [h16] at hT1
          obtain ⟨EB, eE⟩ : ∃ E, E = enc ws (ctr nonce (1 + nbl (j + 1))) 14 := ⟨_, rfl⟩
          have HK3 : Hid ((j + 1) % 16 ≠ 0 → EB = enc ws (ctr nonce (1 + nbl (j + 1))) 14) := fun _ => eE
          rw [← eE] at hE hT1 ⊢
          clear HK2 eE
          have hA1 := hA.next hs2 hg2
          have hsj2 := hsj.grown hg2 hbc
          have HXB : Hid (bits .xor .u8 (v8 x) (v8 (EB.getD 0 0#8)) = v8 (T.getD j 0#8)) := (v8_xor x (EB.getD 0 0#8)).trans (by rw [hT1.out])
          obtain ⟨y, ey⟩ : ∃ y, y = EB.getD 0 0#8 := ⟨_, rfl⟩
          have EY : Hid (EB.getD 0 0#8 = y) := ey.symm
          rw [← ey] at HXB
          clear ey hT1
          have y0 := v8_nn y
          have y1 := v8_le y
          have z0 := v8_nn x
          have z1 := v8_le x
          go_wp2_with (refine law_store rfl 37 _ _ rfl _ (bys EB) rfl rfl 37 _ hA1.b (by rw [bys_length, bys_length, hE, hA1.bl]) (by rw [bys_length, hE]; kernel_rfl) (bys_one EB) ?_; intro w3 ho3 hb3; have hA2 := hA1.putB ho3 hb3 hE; have cE := hA2.b.byte 0 (by omega); rw [EY.out] at cE; have cO := hA2.o.byte j (by omega); have fO := hA2.o.fz j)
          rw [HXB.out]
          have hA3 := hA2.putO j (T.getD j 0#8)
          rw [HS.out] at hA3
          refine ⟨⟨j + 1, EB, by omega, by go_num, HK3, hA3, ?_⟩, by simp [intOf]; omega⟩
          exact (hsj2.on ho3 (fun a ha => by cases ha; omega)).beside (fun a ha => by cases ha; simp; omega) _
        · have h16I : (j : Int) % 16 = ((j % 16 : Nat) : Int) := by omega
          have HN1 : Hid (nbl j = nbl (j + 1)) := (nbl_in j h16).symm
          have HB : Hid (blk = enc ws (ctr nonce (1 + nbl (j + 1))) 14) := by have := HK.out h16; rw [HN1.out] at this; exact this
          have hbl := hA.bl
          have HK3 : Hid ((j + 1) % 16 ≠ 0 → blk = enc ws (ctr nonce (1 + nbl (j + 1))) 14) := fun _ => HB.out
          have HXB : Hid (bits .xor .u8 (v8 x) (v8 (blk.getD (j % 16) 0#8)) = v8 (T.getD j 0#8)) := (v8_xor x (blk.getD (j % 16) 0#8)).trans (by rw [← hT1.out, HB.out])
          have cE := hA.b.byte (j % 16) (by omega)
          have cO := hA.o.byte j (by omega)
          have fO := hA.o.fz j
          obtain ⟨q, eq⟩ : ∃ q, q = j % 16 := ⟨_, rfl⟩
          have q16 : q < 16 := by omega
          rw [← eq] at h16I HXB cE
          have hq0 : ¬ q = 0 := by omega
          have hq0' : ((q : Int) == 0) = false := by simp; omega
          obtain ⟨y, ey⟩ : ∃ y, y = blk.getD q 0#8 := ⟨_, rfl⟩
          rw [← ey] at HXB cE
          clear ey hT1 eq
          have y0 := v8_nn y
          have y1 := v8_le y
          have z0 := v8_nn x
          have z1 := v8_le x
          go_wp2_with fail
          rw [HXB.out]
          have hA3 := hA.putO j (T.getD j 0#8)
          rw [HS.out, HN1.out] at hA3
          refine ⟨⟨j + 1, blk, by omega, by go_num, HK3, hA3, ?_⟩, by simp [intOf]; omega⟩
          exact hsj.beside (fun a ha => by cases ha; simp; omega) _
    · have hjn : n = j := by omega
      subst hjn
      have hA1 := hA.o
      rw [mid_full T ZN n hT hZN] at hA1
      go_wp2
      go_ret
      exact ⟨rfl, hA1, hA.s, hA.r⟩
theorem covered_any (key nonce bs : List B) (hk : key.length = 32) (hn : nonce.length = 12) (kg ng cg : Nat) (ao : Option Addr) (n c : Nat) (w : World) (hs : Shows w ao n (v8s bs)) (hbig : n ≤ 1000000) (hS : KsS w kg ng cg (ready key) nonce 1) (hbc : ∀ ad, ao = some ad → 0 < n → ad.block ≠ cg) :
    Calls Try.prog 24 #[.slice ao n c, .func (.func 37) #[] #[.pointer (some ⟨cg, 0, none⟩), .pointer (some ⟨kg, 0, none⟩), .pointer (some ⟨ng, 0, none⟩)]] w
      fun e w' => e = .returned (.slice (some ⟨w.heap.size, 0, none⟩) n n) ∧ Blk w' w.heap.size 5 (bys (cov key nonce bs)) ∧ KsS w' kg ng cg (ready key) nonce (1 + nbl n) ∧ w.grownBy w' (some cg) := by
  have hl : bs.length = n := by have := hs.len; rw [v8s_length] at this; exact this
  refine covered_walk (ready key) nonce bs (cov key nonce bs) (ready_length key hk) hn kg ng cg ao n c w hs hbig (by rw [cov_length, hl]) (fun j hj => ?_) hS hbc
  rw [cov_at key nonce bs j (by omega), strm, nbl_div, show 1 + (j / 16 + 1) = 2 + j / 16 by omega]
end Go.Proofs.Ytjhkicfndbceoaa
