/- The hash of bytes, by the program. -/
import Derived.Test.YtjhkicfndbceoaaSli
namespace Go.Proofs.Ytjhkicfndbceoaa
open Go.RowKit

def sliceLen : Value → Nat
  | .slice _ n _ => n
  | _ => 0
/-- What lies there while bytes are hashed. -/
structure HoS (w v : World) (h Z Y : Q) : Prop where
  y : Blk v w.heap.size 62 (el Y)
  hh : Blk v (w.heap.size + 1) 62 (el h)
  r : Blk v (w.heap.size + 1 + 1) 62 (el Z)
  k : Below w.heap.size w v
/-- The same, with the bytes of a long element. -/
structure HoX (w v : World) (h Z Y : Q) (g : Nat) (c : List B) : Prop where
  s : HoS w v h Z Y
  x : Blk v g 37 (bys c)
  g : w.heap.size + 1 + 1 < g
section
variable {w v v' : World} {h Z Y Y' : Q} {g : Nat} {c : List B}
theorem HoS.call (a : HoS w v h Z Y) (hb : Below v.heap.size v v') : HoS w v' h Z Y := ⟨a.y.next hb, a.hh.next hb, a.r.next hb, a.k.trans (hb.mono a.k.size)⟩
theorem HoS.drew (a : HoS w v h Z Y) : HoS w v.drew h Z Y := ⟨a.y, a.hh, a.r, a.k.drew⟩
theorem HoS.lt (a : HoS w v h Z Y) : w.heap.size + 1 + 1 < v.heap.size := a.r.lt
theorem HoS.on (a : HoS w v h Z Y) (ho : On v v' g) (hg : w.heap.size + 1 + 1 < g) : HoS w v' h Z Y := ⟨a.y.on ho (by omega), a.hh.on ho (by omega), a.r.on ho (by omega), ho.below a.k (by omega)⟩
theorem HoS.put (a : HoS w v h Z Y) (ho : On v v' w.heap.size) (hb : Blk v' w.heap.size 62 (el Y')) : HoS w v' h Z Y' := ⟨hb, a.hh.on ho (by omega), a.r.on ho (by omega), ho.below a.k (by omega)⟩
theorem HoX.call (a : HoX w v h Z Y g c) (hb : Below v.heap.size v v') : HoX w v' h Z Y g c := ⟨a.s.call hb, a.x.next hb, a.g⟩
theorem HoX.drew (a : HoX w v h Z Y g c) : HoX w v.drew h Z Y g c := ⟨a.s.drew, a.x, a.g⟩
theorem HoX.y (a : HoX w v h Z Y g c) : Blk v w.heap.size 62 (el Y) := a.s.y
theorem HoX.hh (a : HoX w v h Z Y g c) : Blk v (w.heap.size + 1) 62 (el h) := a.s.hh
end
theorem zeroed37e : ∃ Z : List B, Z = List.replicate 16 0#8 ∧ ∀ W : World, (zeroValue 37).run Try.prog W = .ok (.agg (bys Z).toArray) W := ⟨_, rfl, zero37⟩
theorem chunk_made (bs : List B) (k r : Nat) (hr : r = bs.length - 16 * k) : (bs.drop (16 * k)).take 16 ++ (List.replicate 16 0#8).drop (Nat.min r 16) = chunk bs k := by
  unfold chunk
  rw [List.drop_replicate, hr]
  congr 2
  show 16 - min _ _ = _
  omega
theorem drop_next (bs : List B) (k r : Nat) (hr : r = bs.length - 16 * k) : (bs.drop (16 * k)).drop (Nat.min r 16) = bs.drop (16 * (k + 1)) := by
  rw [List.drop_drop]
  by_cases h : 16 ≤ r
  · rw [show Nat.min r 16 = 16 from Nat.min_eq_right h]
    congr 1
  · rw [show Nat.min r 16 = r from Nat.min_eq_left (by omega), List.drop_eq_nil_of_le (by omega), List.drop_eq_nil_of_le (by omega)]

set_option maxHeartbeats 2000000 in
set_option maxRecDepth 100000 in
theorem hashOn_any (y h : Q) (bs : List B) (ao : Option Addr) (n c : Nat) (w : World) (hs : Shows w ao n (v8s bs)) (hc : ao = none → c = 0) (hnc : n ≤ c) (hbig : n ≤ 1000000) :
    Calls Try.prog 54 #[.agg (el y).toArray, .agg (el h).toArray, .slice ao n c] w fun e w' => e = .returned (.agg (el (hashN h y bs (nbl n))).toArray) ∧ Below w.heap.size w w' := by
  have HL : Hid (bs.length = n) := by have := hs.len; rw [v8s_length] at this; exact this
  obtain ⟨Z, -, hz⟩ := zeroedQ
  obtain ⟨ZB, eZB, hzB⟩ := zeroed37e
  have HZB : Hid (ZB = List.replicate 16 0#8) := eZB
  have hZB : ZB.length = 16 := by rw [eZB]; simp
  clear eZB
  have hS : HoS w (((w.alloc (.cells (el y).toArray 62)).alloc (.cells (el h).toArray 62)).alloc (.cells (el Z).toArray 62)) h Z y := by
    obtain ⟨h1, h2, h3, h4⟩ := blk3 w 62 62 62 (el y) (el h) (el Z)
    exact ⟨h1, h2, h3, h4⟩
  have hs1 : Shows (((w.alloc (.cells (el y).toArray 62)).alloc (.cells (el h).toArray 62)).alloc (.cells (el Z).toArray 62)) ao n (v8s bs) := ((hs.alloc _).alloc _).alloc _
  have hlow : ∀ ad, ao = some ad → 0 < n → ad.block < w.heap.size := fun ad had hn => by subst had; exact hs.lt hn
  obtain ⟨H, eH⟩ : ∃ H, H = fun k => hashN h y bs k := ⟨_, rfl⟩
  have HH0 : Hid (H 0 = y) := by rw [eH]; exact rfl
  have HHN : Hid (∀ k, gm (H k ^^^ qb (chunk bs k)) h = H (k + 1)) := by rw [eH]; exact fun k => rfl
  have HHF : Hid (hashN h y bs (nbl n) = H (nbl n)) := by rw [eH]; exact rfl
  rw [HHF.out]
  clear eH HHF hs
  go_enter Try.func54, Try.ntmps54
  go_wp2_with fail
  go_loopw [2] (fun b wr => ∃ (k r c' : Nat) (fo : Option Addr), b = .slice fo r c' ∧ Hid (r = n - 16 * k) ∧ 16 * k ≤ n + 15 ∧ Shows wr fo r (v8s (bs.drop (16 * k))) ∧ r ≤ c' ∧ (fo = none → c' = 0) ∧ (∀ ad, fo = some ad → 0 < r → ad.block < w.heap.size) ∧ HoS w wr h Z (H k)) (fun b _ => sliceLen b)
  case atStart => exact ⟨0, n, c, ao, rfl, (show n = n - 16 * 0 by omega), by omega, by simpa using hs1, hnc, hc, hlow, by rw [HH0.out]; exact hS⟩
  case round =>
    obtain ⟨k, r, c', fo, rfl, hr, hk, hsh, hrc, hfo, hlo, hA⟩ := hrel
    clear hS hs1 hlow hc hnc
    by_cases hr0 : 0 < r
    · cases fo with
      | none => have := hsh.bare rfl; omega
      | some ad =>
        have hadl := hlo ad rfl hr0
        have hlt := hA.lt
        have hX0 : Blk (wr.alloc (.cells (bys ZB).toArray 37)) wr.heap.size 37 (bys ZB) := Blk.new _ _ _
        have hsh1 := hsh.alloc (.cells (bys ZB).toArray 37)
        have hA1 : HoS w (wr.alloc (.cells (bys ZB).toArray 37)) h Z (H k) := hA.call ((Below.refl _ wr).alloc (Nat.le_refl _) _)
        have hwh := fun W => whole37 W wr.heap.size
        obtain ⟨m, hm⟩ : ∃ m, m = Nat.min r 16 := ⟨_, rfl⟩
        have hm1 : 0 < m := by rw [hm]; exact Nat.lt_min.2 ⟨hr0, by omega⟩
        have hm2 : m ≤ r := by rw [hm]; exact Nat.min_le_left _ _
        have hm3 : m ≤ 16 := by rw [hm]; exact Nat.min_le_right _ _
        have hmr : Hid (r - m = n - 16 * (k + 1)) := by
          show r - m = n - 16 * (k + 1)
          have hr := hr.out
          rcases Nat.le_total r 16 with h | h
          · rw [show m = r by rw [hm]; exact Nat.min_eq_left h]; omega
          · rw [show m = 16 by rw [hm]; exact Nat.min_eq_right h]; omega
        have HM : Hid (m = Nat.min r 16) := hm
        clear hm
        have HC : Hid (bs.drop (16 * k) |>.take 16 |>.append (ZB.drop m) |> (· = chunk bs k)) := by
          show (bs.drop (16 * k)).take 16 ++ ZB.drop m = chunk bs k
          rw [HZB.out, HM.out]
          exact chunk_made bs k r (by rw [HL.out]; exact hr.out)
        have HD : Hid ((bs.drop (16 * k)).drop m = bs.drop (16 * (k + 1))) := by
          show _ = _
          rw [HM.out]
          exact drop_next bs k r (by rw [HL.out]; exact hr.out)
        go_wp2_with (first
          | (refine law_copyA rfl _ _ rfl wr.heap.size 16 rfl ad r c' rfl 37 ZB hZB hX0 (bs.drop (16 * k)) hsh1 m HM.out ?_; intro wF hoF hxF; rw [show (bs.drop (16 * k)).take 16 ++ ZB.drop m = chunk bs k from HC.out] at hxF)
          | (refine law_from rfl _ _ rfl (some ad) r c' rfl _ rfl m rfl hm2 ?_))
        have hX : HoX w wF h Z (H k) wr.heap.size (chunk bs k) := ⟨hA1.on hoF hlt, hxF, hlt⟩
        have hsF := (hsh1.on hoF (fun a ha => by cases ha; omega))
        obtain ⟨Y, eY⟩ : ∃ Y, Y = H k := ⟨_, rfl⟩
        obtain ⟨g, eg⟩ : ∃ g, g = wr.heap.size := ⟨_, rfl⟩
        have HN : Hid _ := HHN.out k
        rw [← eY] at hX HN
        rw [← eg] at hX ⊢
        have h29 : ∀ W : World, Calls Try.prog 29 #[.agg (bys (chunk bs k)).toArray] W fun e w' => e = .returned (.agg (el (qb (chunk bs k))).toArray) ∧ Below W.heap.size W w' := fun W => by
          have := ofB_any (qb (chunk bs k)) W
          rwa [bq_qb _ (chunk_length bs k)] at this
        obtain ⟨X, eX⟩ : ∃ X, X = qb (chunk bs k) := ⟨_, rfl⟩
        have hC16 := chunk_length bs k
        rw [← eX] at HN h29
        obtain ⟨C, eC⟩ : ∃ C, C = chunk bs k := ⟨_, rfl⟩
        rw [← eC] at hX h29 hC16
        clear eX eC eY
        have hsn := hsF.drop (k := m) (c := c') hm2 hrc
        rw [v8s_drop, HD.out] at hsn
        have hsg := hX.s.lt
        clear hsF hX0 hsh1 hA1 hA hsh hwh hxF hoF
        refine wp_region_to (fun v => HoX w v h Z Y g C) 6 (by kernel_rfl) ?_
        have hS0 := hX.drew
        refine wpTo_take (i := 0) (show _ = some _ by simp only [List.getElem?_toArray, List.getElem?_cons_zero]; exact rfl) (by kernel_rfl) (by kernel_rfl) (by kernel_rfl) (by kernel_rfl) (by exact fun _ _ _ h => h) (yieldsIf_load_mid (by rfl) 62 (.tmp 3) rfl w.heap.size 0 rfl (el Y) _ (fun v h => (HoX.y h).whole) Try.underlying62 rfl (by kernel_rfl)) hS0 ?_
        (try simp only [Act.put]); (try simp only [List.setIfInBounds_toArray]); (repeat (first | simp only [List.set_cons_succ] | simp only [List.set_cons_zero]))
        refine wpTo_take (i := 1) (show _ = some _ by simp only [List.getElem?_toArray, List.getElem?_cons_succ, List.getElem?_cons_zero]; exact rfl) (by kernel_rfl) (by kernel_rfl) (by kernel_rfl) (by kernel_rfl) (by exact fun _ _ _ h => h) (yieldsIf_load_mid (by rfl) 37 (.tmp 7) rfl g 0 rfl (bys C) _ (fun v h => (HoX.x h).whole) Try.underlying37 rfl (by rw [bys_length, hC16]; kernel_rfl)) hS0 ?_
        (try simp only [Act.put]); (try simp only [List.setIfInBounds_toArray]); (repeat (first | simp only [List.set_cons_succ] | simp only [List.set_cons_zero]))
        refine wpTo_take (i := 4) (show _ = some _ by simp only [List.getElem?_toArray, List.getElem?_cons_succ, List.getElem?_cons_zero]; exact rfl) (by kernel_rfl) (by kernel_rfl) (by kernel_rfl) (by kernel_rfl) (by exact fun _ _ _ h => h) (yieldsIf_load_mid (by rfl) 62 (.tmp 4) rfl (w.heap.size + 1) 0 rfl (el h) _ (fun v h => (HoX.hh h).whole) Try.underlying62 rfl (by kernel_rfl)) hS0 ?_
        (try simp only [Act.put]); (try simp only [List.setIfInBounds_toArray]); (repeat (first | simp only [List.set_cons_succ] | simp only [List.set_cons_zero]))
        refine wpTo_one (i := 2) (by kernel_rfl) (show _ = some _ by simp only [List.getElem?_toArray, List.getElem?_cons_succ, List.getElem?_cons_zero]; exact rfl) (fun K hK => ?_)
        go_simp
        go_at_call 29; refine (h29 _).mono ?_; rintro e v1 ⟨rfl, k1⟩
        (try simp only [])
        refine hK.out _ _ (HoX.call hS0 k1) (fun hS1 => ?_)
        clear hK K
        (try simp only [Act.put]); (try simp only [List.setIfInBounds_toArray]); (repeat (first | simp only [List.set_cons_succ] | simp only [List.set_cons_zero]))
        refine wpTo_one (i := 3) (by kernel_rfl) (show _ = some _ by simp only [List.getElem?_toArray, List.getElem?_cons_succ, List.getElem?_cons_zero]; exact rfl) (fun K hK => ?_)
        go_simp
        go_at_call 41; refine (eplus_any Y X _).mono ?_; rintro e v2 ⟨rfl, k2⟩
        (try simp only [])
        refine hK.out _ _ (HoX.call hS1 k2) (fun hS2 => ?_)
        clear hK K
        (try simp only [Act.put]); (try simp only [List.setIfInBounds_toArray]); (repeat (first | simp only [List.set_cons_succ] | simp only [List.set_cons_zero]))
        refine wpTo_one (i := 5) (by kernel_rfl) (show _ = some _ by simp only [List.getElem?_toArray, List.getElem?_cons_succ, List.getElem?_cons_zero]; exact rfl) (fun K hK => ?_)
        go_simp
        go_at_call 55; refine (times_el (Y ^^^ X) h _).mono ?_; rintro e v3 ⟨rfl, k3⟩
        (try simp only [])
        refine hK.out _ _ (HoX.call hS2 k3) (fun hS3 => ?_)
        clear hK K
        (try simp only [Act.put]); (try simp only [List.setIfInBounds_toArray]); (repeat (first | simp only [List.set_cons_succ] | simp only [List.set_cons_zero]))
        refine wpTo_last (by kernel_rfl) (show _ = some _ by simp only [List.getElem?_toArray, List.getElem?_cons_succ, List.getElem?_cons_zero]; exact rfl) (by kernel_rfl) (fun K hK => ?_)
        rw [if_pos (by rfl)]
        refine wp_store_row 62 (.tmp 3) (.tmp 21) rfl w.heap.size (el (gm (Y ^^^ X) h)).toArray rfl rfl 62 _ hS3.y (by kernel_rfl) rfl (el_one _) ?_
        refine hK.out _ _ ?_
        clear hK K
        (try simp only [Act.put]); (try simp only [List.setIfInBounds_toArray]); (repeat (first | simp only [List.set_cons_succ] | simp only [List.set_cons_zero]))
        have hoG := On.setRow v3 w.heap.size (el (gm (Y ^^^ X) h)).toArray
        have hAG := setRow_heap v3 w.heap.size _ (el (gm (Y ^^^ X) h)).toArray 62 _ hS3.y
        have hF := hS3.s.put (Y' := H (k + 1)) hoG (by rw [← HN.out]; exact hAG)
        have hb3 : Below wF.heap.size wF v3 := ((Below.refl _ wF).drew).trans ((k1.trans (k2.mono k1.size)).trans (k3.mono (Nat.le_trans k1.size k2.size)))
        have hsn2 := (hsn.later hb3).on hoG (fun a ha => by
          have hab : a.block = ad.block := by
            unfold fromAt at ha
            split at ha
            · cases ha; rfl
            · simp only [Option.map_some, Option.some.injEq] at ha
              rw [← ha]
              unfold Addr.add
              split <;> rfl
          omega)
        go_wp2_with fail
        refine ⟨⟨k + 1, r - m, c' - m, fromAt (some ad) c' m, rfl, hmr, ?_, hsn2, by omega, ?_, ?_, hF⟩, ?_⟩
        · have := hr.out
          omega
        · intro e
          unfold fromAt at e
          split at e
          · cases e
          · cases e
        · intro a ha _
          have hab : a.block = ad.block := by
            unfold fromAt at ha
            split at ha
            · cases ha; rfl
            · simp only [Option.map_some, Option.some.injEq] at ha
              rw [← ha]
              unfold Addr.add
              split <;> rfl
          omega
        · simp [sliceLen]
          omega
    · have hr00 : r = 0 := by omega
      subst hr00
      have hkn : nbl n = k := by
        have := hr.out
        unfold nbl
        omega
      have HKN : Hid (nbl n = k) := hkn
      clear hkn
      go_wp2_with (first | (refine law_load rfl 62 _ rfl _ rfl 62 _ hA.y _ Try.underlying62 rfl (by kernel_rfl) ?_) | (refine law_store rfl 62 _ _ rfl _ (el (H k)) rfl rfl 62 _ hA.r rfl (by kernel_rfl) (el_one _) ?_; intro wF hoF hAF))
      refine bodyPost_ret (v := .agg (el (H k)).toArray) (results_cell_row rfl _ _ (w.heap.size + 1 + 1) 62 _ _ _ rfl hAF Try.underlying62 rfl (by kernel_rfl)) rfl ⟨by rw [HKN.out], hoF.below hA.k (by omega)⟩
end Go.Proofs.Ytjhkicfndbceoaa
