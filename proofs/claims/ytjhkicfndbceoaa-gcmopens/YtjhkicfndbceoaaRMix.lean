/- The document's: a block's columns, each times four factors and these turned. -/
import Derived.Test.YtjhkicfndbceoaaRAdd
namespace Go.Proofs.Ytjhkicfndbceoaa
open Go.RowKit

/-- The sum of the first q products for place i. -/
def rms (F b : List B) (i : Nat) : Nat → B
  | 0 => 0#8
  | q + 1 => rms F b i q ^^^ mul (F.getD ((q + 4 - i % 4) % 4) 0#8) (b.getD (i - i % 4 + q) 0#8)
/-- A block's columns times four factors. -/
def rmix (F b : List B) : List B := (List.range 16).map fun i => rms F b i 4
theorem rmix_length (F b : List B) : (rmix F b).length = 16 := by simp [rmix]
theorem zeroed23z : ∃ Z : List B, Z.length = 16 ∧ (∀ i, Z.getD i 0#8 = 0#8) ∧ ∀ W : World, (zeroValue 37).run Try.prog W = .ok (.agg (bys Z).toArray) W :=
  ⟨List.replicate 16 0#8, by simp, fun i => by rw [List.getD, List.getElem?_replicate]; split <;> rfl, zero37⟩
theorem set_same (l : List B) (i : Nat) (x : B) (h : i < l.length) (e : l.getD i 0#8 = x) : l.set i x = l := by
  refine List.ext_getElem (by simp) fun j h1 h2 => ?_
  rw [List.getElem_set]
  split
  · next h' =>
    subst h'
    rw [← e]
    simp [List.getD, List.getElem?_eq_getElem h]
  · rfl
theorem set_getD (l : List B) (i : Nat) (x : B) (h : i < l.length) : (l.set i x).getD i 0#8 = x := by
  simp [List.getD, h]

/-- What lies there while the columns are reckoned. -/
structure MiS (w v : World) (bs F Z out : List B) : Prop where
  b : Blk v w.heap.size 37 (bys bs)
  f : Blk v (w.heap.size + 1) 51 (bys F)
  r : Blk v (w.heap.size + 1 + 1) 37 (bys Z)
  o : Blk v (w.heap.size + 1 + 1 + 1) 37 (bys out)
  k : Below w.heap.size w v
section
variable {w v : World} {bs F Z out : List B}
theorem MiS.drew (h : MiS w v bs F Z out) : MiS w v.drew bs F Z out := ⟨h.b, h.f, h.r, h.o, h.k.drew⟩
theorem MiS.put (h : MiS w v bs F Z out) (i : Nat) (x : B) : MiS w (v.setCell ⟨w.heap.size + 1 + 1 + 1, i, none⟩ (.int .u8 (v8 x))) bs F Z (out.set i x) :=
  ⟨h.b.beside _ (by simp <;> omega), h.f.beside _ (by simp <;> omega), h.r.beside _ (by simp <;> omega), h.o.put i x, h.k.setCell (by simp <;> omega) _⟩
end

set_option maxHeartbeats 2000000 in
set_option maxRecDepth 100000 in
theorem rmixed_any (F bs : List B) (hF : F.length = 4) (hl : bs.length = 16) (w : World) :
    Calls Try.prog 34 #[.agg (bys bs).toArray, .agg (bys F).toArray] w fun e w' => e = .returned (.agg (bys (rmix F bs)).toArray) ∧ Below w.heap.size w w' := by
  obtain ⟨L, eL⟩ : ∃ L, L = rmix F bs := ⟨_, rfl⟩
  have hL : L.length = 16 := by rw [eL]; exact rmix_length F bs
  have HS : Hid (∀ i, i < 16 → rms F bs i 4 = L.getD i 0#8) := fun i hi => by rw [eL]; unfold rmix; rw [getD_range _ 16 i hi]
  rw [← eL]
  clear eL
  obtain ⟨Z, hZ, hz0, hz⟩ := zeroed23z
  have HZ : Hid (∀ i, Z.getD i 0#8 = 0#8) := hz0
  clear hz0
  have hSS : MiS w ((((w.alloc (.cells (bys bs).toArray 37)).alloc (.cells (bys F).toArray 51)).alloc (.cells (bys Z).toArray 37)).alloc (.cells (bys Z).toArray 37)) bs F Z Z := by
    refine ⟨(((Blk.new w 37 (bys bs)).alloc _).alloc _).alloc _, ?_, ?_, ?_, ((((Below.refl _ w).alloc (Nat.le_refl _) _).alloc (by simp) _).alloc (by simp; omega) _).alloc (by simp; omega) _⟩
    · have h := ((Blk.new (w.alloc (.cells (bys bs).toArray 37)) 51 (bys F)).alloc (.cells (bys Z).toArray 37)).alloc (.cells (bys Z).toArray 37)
      rwa [World.size_alloc] at h
    · have h := (Blk.new ((w.alloc (.cells (bys bs).toArray 37)).alloc (.cells (bys F).toArray 51)) 37 (bys Z)).alloc (.cells (bys Z).toArray 37)
      rwa [World.size_alloc, World.size_alloc] at h
    · have h := Blk.new (((w.alloc (.cells (bys bs).toArray 37)).alloc (.cells (bys F).toArray 51)).alloc (.cells (bys Z).toArray 37)) 37 (bys Z)
      rwa [World.size_alloc, World.size_alloc, World.size_alloc] at h
  go_enter Try.func34, Try.ntmps34
  go_wp2
  go_loopw [6] (fun i wr => ∃ c : Nat, c ≤ 4 ∧ i = .int .i64 c ∧ MiS w wr bs F Z (mid L Z (4 * c))) (fun i _ => 4 - (intOf i).toNat)
  case atStart => exact ⟨0, by omega, rfl, by rw [mid_zero]; exact hSS⟩
  case round =>
    obtain ⟨c, hc4, rfl, hA⟩ := hrel
    clear hSS
    by_cases hlt : c < 4
    · have hcI : (c : Int) < 4 := by omega
      go_wp2
      obtain ⟨wA, hwA⟩ : ∃ x, x = wr := ⟨_, rfl⟩
      subst hwA
      go_loopw [7] (fun i wr => ∃ r : Nat, r ≤ 4 ∧ i = .int .i64 r ∧ MiS w wr bs F Z (mid L Z (4 * c + r))) (fun i _ => 4 - (intOf i).toNat)
      case atStart => exact ⟨0, by omega, rfl, hA⟩
      case round =>
        clear hA
        obtain ⟨r, hr4, rfl, hA⟩ := hrel
        by_cases hrt : r < 4
        · have hrI : (r : Int) < 4 := by omega
          have hA0 : MiS w wr bs F Z ((mid L Z (4 * c + r)).set (4 * c + r) (rms F bs (4 * c + r) 0)) := by
            rw [set_same _ _ _ (by rw [mid_length L Z 16 _ hL hZ]; omega)]
            · exact hA
            · rw [mid_at L Z _ _ 16 hL hZ (Nat.le_refl _) (by omega), HZ.out]
              rfl
          clear hA
          go_wp2
          obtain ⟨wB, hwB⟩ : ∃ x, x = wr := ⟨_, rfl⟩
          subst hwB
          go_loopw [8] (fun i wr => ∃ q : Nat, q ≤ 4 ∧ i = .int .i64 q ∧ MiS w wr bs F Z ((mid L Z (4 * c + r)).set (4 * c + r) (rms F bs (4 * c + r) q))) (fun i _ => 4 - (intOf i).toNat)
          case atStart => exact ⟨0, by omega, rfl, hA0⟩
          case round =>
            clear hA0
            obtain ⟨q, hq4, rfl, hA⟩ := hrel
            by_cases hqt : q < 4
            · have hqI : (q : Int) < 4 := by omega
              have hmm := mid_length L Z 16 (4 * c + r) hL hZ
              have HP : Hid (rms F bs (4 * c + r) (q + 1) = rms F bs (4 * c + r) q ^^^ mul (F.getD ((q + 4 - r) % 4) 0#8) (bs.getD (4 * c + q) 0#8)) := by
                show rms F bs (4 * c + r) q ^^^ mul (F.getD ((q + 4 - (4 * c + r) % 4) % 4) 0#8) (bs.getD (4 * c + r - (4 * c + r) % 4 + q) 0#8) = _
                rw [show (4 * c + r) % 4 = r by omega, show 4 * c + r - r + q = 4 * c + q by omega]
              have hst := hA.put (4 * c + r) (rms F bs (4 * c + r) (q + 1))
              rw [List.set_set] at hst
              have c0 := hA.b.byte (4 * c + q) (by omega)
              have c1 := hA.f.byte ((q + 4 - r) % 4) (by omega)
              have c2 := hA.o.byte (4 * c + r) (by rw [List.length_set]; omega)
              rw [set_getD _ _ _ (by omega)] at c2
              have f2 := hA.o.fz (4 * c + r)
              obtain ⟨u, eu⟩ : ∃ u, u = rms F bs (4 * c + r) (q + 1) := ⟨_, rfl⟩
              obtain ⟨z, ez⟩ : ∃ u, u = rms F bs (4 * c + r) q := ⟨_, rfl⟩
              obtain ⟨p, ep⟩ : ∃ u, u = (q + 4 - r) % 4 := ⟨_, rfl⟩
              have hp : ((q : Int) - r + 4) % 4 = p := by omega
              have hp4 : p < 4 := by omega
              rw [← ep] at c1 HP
              obtain ⟨y, ey⟩ : ∃ u, u = F.getD p 0#8 := ⟨_, rfl⟩
              obtain ⟨x, ex⟩ : ∃ u, u = bs.getD (4 * c + q) 0#8 := ⟨_, rfl⟩
              rw [← eu] at HP hst
              rw [← ez] at HP c2
              rw [← ey] at HP c1
              rw [← ex] at HP c0
              have hc := fun W => refMul_any y x (v8 y) (v8 x) W rfl rfl
              obtain ⟨pr, epr⟩ : ∃ u, u = mul y x := ⟨_, rfl⟩
              rw [← epr] at HP hc
              have hwx := v8_xor z pr
              rw [← HP.out] at hwx
              have q0 : (0 : Int) ≤ 4 * (c : Int) + r := by omega
              have q1 : 4 * (c : Int) + r < 16 := by omega
              have q2 : (4 * (c : Int) + r).toNat = 4 * c + r := by omega
              have q3 : (0 : Int) ≤ 4 * (c : Int) + q := by omega
              have q4 : 4 * (c : Int) + q < 16 := by omega
              have q5 : (4 * (c : Int) + q).toNat = 4 * c + q := by omega
              have q6 : (0 : Int) ≤ (q : Int) - r + 4 := by omega
              have q7 : (p : Int) < 4 := by omega
              have r0 : IntKind.i64.wrap (4 * (c : Int)) = 4 * c := by rw [IntKind.wrap_i64]; omega
              have r1 : IntKind.i64.wrap (4 * (c : Int) + r) = 4 * c + r := by rw [IntKind.wrap_i64]; omega
              have r2 : IntKind.i64.wrap (4 * (c : Int) + q) = 4 * c + q := by rw [IntKind.wrap_i64]; omega
              have r3 : IntKind.i64.wrap ((q : Int) - r) = q - r := by rw [IntKind.wrap_i64]; omega
              have r4 : IntKind.i64.wrap ((q : Int) - r + 4) = q - r + 4 := by rw [IntKind.wrap_i64]; omega
              have r5 : ((q : Int) - r + 4).tmod 4 = p := by rw [Int.tmod_eq_emod_of_nonneg (by omega)]; exact hp
              have r6 : IntKind.i64.wrap (p : Int) = p := by rw [IntKind.wrap_i64]; omega
              have EU : Hid (u = rms F bs (4 * c + r) (q + 1)) := eu
              clear eu ez ep ey ex epr HP hA HS HZ
              go_wp2_with fail
              refine wp_region_to (fun v => v.cell? ⟨w.heap.size, 4 * c + q, none⟩ = some (.int .u8 (v8 x)) ∧ v.cell? ⟨w.heap.size + 1, p, none⟩ = some (.int .u8 (v8 y)) ∧ v.cell? ⟨w.heap.size + 1 + 1 + 1, 4 * c + r, none⟩ = some (.int .u8 (v8 z))) 26 (by kernel_rfl) ?_
              have hS0 : (fun v : World => v.cell? ⟨w.heap.size, 4 * c + q, none⟩ = some (.int .u8 (v8 x)) ∧ v.cell? ⟨w.heap.size + 1, p, none⟩ = some (.int .u8 (v8 y)) ∧ v.cell? ⟨w.heap.size + 1 + 1 + 1, 4 * c + r, none⟩ = some (.int .u8 (v8 z))) wr.drew := ⟨c0, c1, c2⟩
              refine wpTo_take (i := 0) (v := ?v0) (show _ = some _ by simp only [List.getElem?_toArray, List.getElem?_cons_zero]; exact rfl) (by kernel_rfl) (by kernel_rfl) (by kernel_rfl) (by kernel_rfl) (by exact fun _ _ _ h => h) (Or.inl ⟨by rfl, ?hy0⟩) hS0 ?r0
              case hy0 => (intro w hSw; (try dsimp only at hSw); go_simp; try with_reducible rfl)
              (try simp only [Act.put]); (try simp only [List.setIfInBounds_toArray]); (repeat (first | simp only [List.set_cons_succ] | simp only [List.set_cons_zero]))
              refine wpTo_take (i := 1) (v := ?v1) (show _ = some _ by simp only [List.getElem?_toArray, List.getElem?_cons_succ, List.getElem?_cons_zero]; exact rfl) (by kernel_rfl) (by kernel_rfl) (by kernel_rfl) (by kernel_rfl) (by exact fun _ _ _ h => h) (Or.inl ⟨by rfl, ?hy1⟩) hS0 ?r1
              case hy1 => (intro w hSw; (try dsimp only at hSw); go_simp; try with_reducible rfl)
              (try simp only [Act.put]); (try simp only [List.setIfInBounds_toArray]); (repeat (first | simp only [List.set_cons_succ] | simp only [List.set_cons_zero]))
              refine wpTo_take (i := 2) (v := ?v2) (show _ = some _ by simp only [List.getElem?_toArray, List.getElem?_cons_succ, List.getElem?_cons_zero]; exact rfl) (by kernel_rfl) (by kernel_rfl) (by kernel_rfl) (by kernel_rfl) (by exact fun _ _ _ h => h) (Or.inl ⟨by rfl, ?hy2⟩) hS0 ?r2
              case hy2 => (intro w hSw; (try dsimp only at hSw); go_simp; try with_reducible rfl)
              (try simp only [Act.put]); (try simp only [List.setIfInBounds_toArray]); (repeat (first | simp only [List.set_cons_succ] | simp only [List.set_cons_zero]))
              refine wpTo_take (i := 3) (v := ?v3) (show _ = some _ by simp only [List.getElem?_toArray, List.getElem?_cons_succ, List.getElem?_cons_zero]; exact rfl) (by kernel_rfl) (by kernel_rfl) (by kernel_rfl) (by kernel_rfl) (by exact fun _ _ _ h => h) (Or.inl ⟨by rfl, ?hy3⟩) hS0 ?r3
              case hy3 => (intro w hSw; (try dsimp only at hSw); go_simp; try with_reducible rfl)
              (try simp only [Act.put]); (try simp only [List.setIfInBounds_toArray]); (repeat (first | simp only [List.set_cons_succ] | simp only [List.set_cons_zero]))
              refine wpTo_take (i := 4) (v := ?v4) (show _ = some _ by simp only [List.getElem?_toArray, List.getElem?_cons_succ, List.getElem?_cons_zero]; exact rfl) (by kernel_rfl) (by kernel_rfl) (by kernel_rfl) (by kernel_rfl) (by exact fun _ _ _ h => h) (Or.inl ⟨by rfl, ?hy4⟩) hS0 ?r4
              case hy4 => (intro w hSw; (try dsimp only at hSw); go_simp; try with_reducible rfl)
              (try simp only [Act.put]); (try simp only [List.setIfInBounds_toArray]); (repeat (first | simp only [List.set_cons_succ] | simp only [List.set_cons_zero]))
              refine wpTo_take (i := 5) (v := ?v5) (show _ = some _ by simp only [List.getElem?_toArray, List.getElem?_cons_succ, List.getElem?_cons_zero]; exact rfl) (by kernel_rfl) (by kernel_rfl) (by kernel_rfl) (by kernel_rfl) (by exact fun _ _ _ h => h) (Or.inl ⟨by rfl, ?hy5⟩) hS0 ?r5
              case hy5 => (intro w hSw; (try dsimp only at hSw); go_simp; try with_reducible rfl)
              (try simp only [Act.put]); (try simp only [List.setIfInBounds_toArray]); (repeat (first | simp only [List.set_cons_succ] | simp only [List.set_cons_zero]))
              refine wpTo_take (i := 6) (v := ?v6) (show _ = some _ by simp only [List.getElem?_toArray, List.getElem?_cons_succ, List.getElem?_cons_zero]; exact rfl) (by kernel_rfl) (by kernel_rfl) (by kernel_rfl) (by kernel_rfl) (by exact fun _ _ _ h => h) (Or.inl ⟨by rfl, ?hy6⟩) hS0 ?r6
              case hy6 => (intro w hSw; (try dsimp only at hSw); go_simp; try with_reducible rfl)
              (try simp only [Act.put]); (try simp only [List.setIfInBounds_toArray]); (repeat (first | simp only [List.set_cons_succ] | simp only [List.set_cons_zero]))
              refine wpTo_take (i := 7) (v := ?v7) (show _ = some _ by simp only [List.getElem?_toArray, List.getElem?_cons_succ, List.getElem?_cons_zero]; exact rfl) (by kernel_rfl) (by kernel_rfl) (by kernel_rfl) (by kernel_rfl) (by exact fun _ _ _ h => h) (Or.inl ⟨by rfl, ?hy7⟩) hS0 ?r7
              case hy7 => (intro w hSw; (try dsimp only at hSw); go_simp; try with_reducible rfl)
              (try simp only [Act.put]); (try simp only [List.setIfInBounds_toArray]); (repeat (first | simp only [List.set_cons_succ] | simp only [List.set_cons_zero]))
              refine wpTo_take (i := 8) (v := ?v8) (show _ = some _ by simp only [List.getElem?_toArray, List.getElem?_cons_succ, List.getElem?_cons_zero]; exact rfl) (by kernel_rfl) (by kernel_rfl) (by kernel_rfl) (by kernel_rfl) (by exact fun _ _ _ h => h) (Or.inl ⟨by rfl, ?hy8⟩) hS0 ?r8
              case hy8 => (intro w hSw; (try dsimp only at hSw); go_simp; try with_reducible rfl)
              (try simp only [Act.put]); (try simp only [List.setIfInBounds_toArray]); (repeat (first | simp only [List.set_cons_succ] | simp only [List.set_cons_zero]))
              refine wpTo_take (i := 9) (v := ?v9) (show _ = some _ by simp only [List.getElem?_toArray, List.getElem?_cons_succ, List.getElem?_cons_zero]; exact rfl) (by kernel_rfl) (by kernel_rfl) (by kernel_rfl) (by kernel_rfl) (by exact fun _ _ _ h => h) (Or.inl ⟨by rfl, ?hy9⟩) hS0 ?r9
              case hy9 => (intro w hSw; (try dsimp only at hSw); go_simp; try with_reducible rfl)
              (try simp only [Act.put]); (try simp only [List.setIfInBounds_toArray]); (repeat (first | simp only [List.set_cons_succ] | simp only [List.set_cons_zero]))
              refine wpTo_take (i := 10) (v := ?v10) (show _ = some _ by simp only [List.getElem?_toArray, List.getElem?_cons_succ, List.getElem?_cons_zero]; exact rfl) (by kernel_rfl) (by kernel_rfl) (by kernel_rfl) (by kernel_rfl) (by exact fun _ _ _ h => h) (Or.inl ⟨by rfl, ?hy10⟩) hS0 ?r10
              case hy10 => (intro w hSw; (try dsimp only at hSw); go_simp; try with_reducible rfl)
              (try simp only [Act.put]); (try simp only [List.setIfInBounds_toArray]); (repeat (first | simp only [List.set_cons_succ] | simp only [List.set_cons_zero]))
              refine wpTo_take (i := 11) (v := ?v11) (show _ = some _ by simp only [List.getElem?_toArray, List.getElem?_cons_succ, List.getElem?_cons_zero]; exact rfl) (by kernel_rfl) (by kernel_rfl) (by kernel_rfl) (by kernel_rfl) (by exact fun _ _ _ h => h) (Or.inl ⟨by rfl, ?hy11⟩) hS0 ?r11
              case hy11 => (intro w hSw; (try dsimp only at hSw); go_simp; try with_reducible rfl)
              (try simp only [Act.put]); (try simp only [List.setIfInBounds_toArray]); (repeat (first | simp only [List.set_cons_succ] | simp only [List.set_cons_zero]))
              refine wpTo_take (i := 12) (v := ?v12) (show _ = some _ by simp only [List.getElem?_toArray, List.getElem?_cons_succ, List.getElem?_cons_zero]; exact rfl) (by kernel_rfl) (by kernel_rfl) (by kernel_rfl) (by kernel_rfl) (by exact fun _ _ _ h => h) (Or.inl ⟨by rfl, ?hy12⟩) hS0 ?r12
              case hy12 => (intro w hSw; (try dsimp only at hSw); go_simp; try with_reducible rfl)
              (try simp only [Act.put]); (try simp only [List.setIfInBounds_toArray]); (repeat (first | simp only [List.set_cons_succ] | simp only [List.set_cons_zero]))
              refine wpTo_take (i := 13) (v := ?v13) (show _ = some _ by simp only [List.getElem?_toArray, List.getElem?_cons_succ, List.getElem?_cons_zero]; exact rfl) (by kernel_rfl) (by kernel_rfl) (by kernel_rfl) (by kernel_rfl) (by exact fun _ _ _ h => h) (Or.inl ⟨by rfl, ?hy13⟩) hS0 ?r13
              case hy13 => (intro w hSw; (try dsimp only at hSw); go_simp; try with_reducible rfl)
              (try simp only [Act.put]); (try simp only [List.setIfInBounds_toArray]); (repeat (first | simp only [List.set_cons_succ] | simp only [List.set_cons_zero]))
              refine wpTo_take (i := 14) (v := ?v14) (show _ = some _ by simp only [List.getElem?_toArray, List.getElem?_cons_succ, List.getElem?_cons_zero]; exact rfl) (by kernel_rfl) (by kernel_rfl) (by kernel_rfl) (by kernel_rfl) (by exact fun _ _ _ h => h) (Or.inl ⟨by rfl, ?hy14⟩) hS0 ?r14
              case hy14 => (intro w hSw; (try dsimp only at hSw); go_simp; try with_reducible rfl)
              (try simp only [Act.put]); (try simp only [List.setIfInBounds_toArray]); (repeat (first | simp only [List.set_cons_succ] | simp only [List.set_cons_zero]))
              refine wpTo_take (i := 15) (v := ?v15) (show _ = some _ by simp only [List.getElem?_toArray, List.getElem?_cons_succ, List.getElem?_cons_zero]; exact rfl) (by kernel_rfl) (by kernel_rfl) (by kernel_rfl) (by kernel_rfl) (by exact fun _ _ _ h => h) (Or.inl ⟨by rfl, ?hy15⟩) hS0 ?r15
              case hy15 => (intro w hSw; (try dsimp only at hSw); go_simp; try with_reducible rfl)
              (try simp only [Act.put]); (try simp only [List.setIfInBounds_toArray]); (repeat (first | simp only [List.set_cons_succ] | simp only [List.set_cons_zero]))
              refine wpTo_take (i := 16) (v := ?v16) (show _ = some _ by simp only [List.getElem?_toArray, List.getElem?_cons_succ, List.getElem?_cons_zero]; exact rfl) (by kernel_rfl) (by kernel_rfl) (by kernel_rfl) (by kernel_rfl) (by exact fun _ _ _ h => h) (Or.inl ⟨by rfl, ?hy16⟩) hS0 ?r16
              case hy16 => (intro w hSw; (try dsimp only at hSw); go_simp; try with_reducible rfl)
              (try simp only [Act.put]); (try simp only [List.setIfInBounds_toArray]); (repeat (first | simp only [List.set_cons_succ] | simp only [List.set_cons_zero]))
              refine wpTo_take (i := 17) (v := ?v17) (show _ = some _ by simp only [List.getElem?_toArray, List.getElem?_cons_succ, List.getElem?_cons_zero]; exact rfl) (by kernel_rfl) (by kernel_rfl) (by kernel_rfl) (by kernel_rfl) (by exact fun _ _ _ h => h) (Or.inl ⟨by rfl, ?hy17⟩) hS0 ?r17
              case hy17 => (intro w hSw; (try dsimp only at hSw); go_simp; try with_reducible rfl)
              (try simp only [Act.put]); (try simp only [List.setIfInBounds_toArray]); (repeat (first | simp only [List.set_cons_succ] | simp only [List.set_cons_zero]))
              refine wpTo_take (i := 18) (v := ?v18) (show _ = some _ by simp only [List.getElem?_toArray, List.getElem?_cons_succ, List.getElem?_cons_zero]; exact rfl) (by kernel_rfl) (by kernel_rfl) (by kernel_rfl) (by kernel_rfl) (by exact fun _ _ _ h => h) (Or.inl ⟨by rfl, ?hy18⟩) hS0 ?r18
              case hy18 => (intro w hSw; (try dsimp only at hSw); go_simp; try with_reducible rfl)
              (try simp only [Act.put]); (try simp only [List.setIfInBounds_toArray]); (repeat (first | simp only [List.set_cons_succ] | simp only [List.set_cons_zero]))
              refine wpTo_take (i := 19) (v := ?v19) (show _ = some _ by simp only [List.getElem?_toArray, List.getElem?_cons_succ, List.getElem?_cons_zero]; exact rfl) (by kernel_rfl) (by kernel_rfl) (by kernel_rfl) (by kernel_rfl) (by exact fun _ _ _ h => h) (Or.inl ⟨by rfl, ?hy19⟩) hS0 ?r19
              case hy19 => (intro w hSw; (try dsimp only at hSw); go_simp; try with_reducible rfl)
              (try simp only [Act.put]); (try simp only [List.setIfInBounds_toArray]); (repeat (first | simp only [List.set_cons_succ] | simp only [List.set_cons_zero]))
              refine wpTo_take (i := 20) (v := ?v20) (show _ = some _ by simp only [List.getElem?_toArray, List.getElem?_cons_succ, List.getElem?_cons_zero]; exact rfl) (by kernel_rfl) (by kernel_rfl) (by kernel_rfl) (by kernel_rfl) (by exact fun _ _ _ h => h) (Or.inl ⟨by rfl, ?hy20⟩) hS0 ?r20
              case hy20 => (intro w hSw; (try dsimp only at hSw); go_simp; try with_reducible rfl)
              (try simp only [Act.put]); (try simp only [List.setIfInBounds_toArray]); (repeat (first | simp only [List.set_cons_succ] | simp only [List.set_cons_zero]))
              refine wpTo_take (i := 21) (v := ?v21) (show _ = some _ by simp only [List.getElem?_toArray, List.getElem?_cons_succ, List.getElem?_cons_zero]; exact rfl) (by kernel_rfl) (by kernel_rfl) (by kernel_rfl) (by kernel_rfl) (by exact fun _ _ _ h => h) (Or.inl ⟨by rfl, ?hy21⟩) hS0 ?r21
              case hy21 => (intro w hSw; (try dsimp only at hSw); go_simp; try with_reducible rfl)
              (try simp only [Act.put]); (try simp only [List.setIfInBounds_toArray]); (repeat (first | simp only [List.set_cons_succ] | simp only [List.set_cons_zero]))
              refine wpTo_take (i := 22) (v := ?v22) (show _ = some _ by simp only [List.getElem?_toArray, List.getElem?_cons_succ, List.getElem?_cons_zero]; exact rfl) (by kernel_rfl) (by kernel_rfl) (by kernel_rfl) (by kernel_rfl) (by exact fun _ _ _ h => h) (Or.inl ⟨by rfl, ?hy22⟩) hS0 ?r22
              case hy22 => (intro w hSw; (try dsimp only at hSw); go_simp; try with_reducible rfl)
              (try simp only [Act.put]); (try simp only [List.setIfInBounds_toArray]); (repeat (first | simp only [List.set_cons_succ] | simp only [List.set_cons_zero]))
              refine wpTo_one (i := 23) (by kernel_rfl) (show _ = some _ by simp only [List.getElem?_toArray, List.getElem?_cons_succ, List.getElem?_cons_zero]; exact rfl) (fun K hK => ?_)
              go_simp
              go_at_call 45; refine (hc _).mono ?_; rintro e w' ⟨rfl, rfl⟩
              (try simp only [])
              refine hK.out _ _ (hS0) (fun _ => ?_)
              clear hK K
              (try simp only [Act.put]); (try simp only [List.setIfInBounds_toArray]); (repeat (first | simp only [List.set_cons_succ] | simp only [List.set_cons_zero]))
              refine wpTo_take (i := 24) (v := ?v24) (show _ = some _ by simp only [List.getElem?_toArray, List.getElem?_cons_succ, List.getElem?_cons_zero]; exact rfl) (by kernel_rfl) (by kernel_rfl) (by kernel_rfl) (by kernel_rfl) (by exact fun _ _ _ h => h) (Or.inl ⟨by rfl, ?hy24⟩) hS0 ?r24
              case hy24 => (intro w hSw; (try dsimp only at hSw); go_simp; try with_reducible rfl)
              (try simp only [Act.put]); (try simp only [List.setIfInBounds_toArray]); (repeat (first | simp only [List.set_cons_succ] | simp only [List.set_cons_zero]))
              refine wpTo_take (i := 25) (v := ?v25) (show _ = some _ by simp only [List.getElem?_toArray, List.getElem?_cons_succ, List.getElem?_cons_zero]; exact rfl) (by kernel_rfl) (by kernel_rfl) (by kernel_rfl) (by kernel_rfl) (by exact fun _ _ _ h => h) (Or.inl ⟨by rfl, ?hy25⟩) hS0 ?r25
              case hy25 => (intro w hSw; (try dsimp only at hSw); go_simp; try with_reducible rfl)
              (try simp only [Act.put]); (try simp only [List.setIfInBounds_toArray]); (repeat (first | simp only [List.set_cons_succ] | simp only [List.set_cons_zero]))
              refine wpTo_last (by kernel_rfl) (show _ = some _ by simp only [List.getElem?_toArray, List.getElem?_cons_succ, List.getElem?_cons_zero]; exact rfl) (by kernel_rfl) (fun K hK => ?_)
              rw [if_pos (by rfl)]
              go_simp
              refine hK.out _ _ ?_
              clear hK K
              (try simp only [Act.put]); (try simp only [List.setIfInBounds_toArray]); (repeat (first | simp only [List.set_cons_succ] | simp only [List.set_cons_zero]))
              go_wp2
              refine ⟨⟨q + 1, by omega, by go_num, ?_⟩, by simp [intOf]; omega⟩
              rw [← EU.out]
              exact hst.drew
            · have hq : q = 4 := by omega
              subst hq
              rw [HS.out (4 * c + r) (by omega), mid_step L Z (4 * c + r) 16 hL hZ (by omega)] at hA
              clear HS HZ
              go_wp2
              refine ⟨⟨r + 1, by omega, by go_num, hA⟩, by simp [intOf]; omega⟩
        · have hr : r = 4 := by omega
          subst hr
          clear HS HZ
          go_wp2
          refine ⟨⟨c + 1, by omega, by go_num, ?_⟩, by simp [intOf]; omega⟩
          rw [show 4 * (c + 1) = 4 * c + 4 by omega]
          exact hA
    · have hc : c = 4 := by omega
      subst hc
      have hO := hA.o
      rw [mid_full L Z 16 hL hZ] at hO
      have hZr := hA.r
      have hbr := hA.k
      clear HS HZ
      go_wp2_with (first | (refine law_load rfl 37 _ rfl _ rfl 37 _ hO _ Try.underlying37 rfl (by rw [bys_length, hL]; kernel_rfl) ?_) | (refine law_store rfl 37 _ _ rfl _ (bys L) rfl rfl 37 _ hZr (by rw [bys_length, bys_length, hL, hZ]) (by rw [bys_length, hL]; kernel_rfl) (bys_one L) ?_; intro wF hoF hAF))
      refine bodyPost_ret (v := .agg (bys L).toArray) (results_cell_row rfl _ _ (w.heap.size + 1 + 1) 37 _ _ _ rfl hAF Try.underlying37 rfl (by rw [List.size_toArray, bys_length, hL]; kernel_rfl)) rfl ⟨rfl, hoF.below hbr (by omega)⟩
end Go.Proofs.Ytjhkicfndbceoaa
