/- DigestStates: the calls that came in; how many bytes they bring. -/
import Derived.Test.YtmnembhcfkcmnaaDoorStatesA
import Derived.Test.YtmnembhcfkcmnaaDoorKeysA
import Derived.BigQuiet
namespace Go.Proofs.YtmnembhcfkcmnaaDoor
open Go.RowKit

/-- In the world w a slice at oo, of length n, shows the calls: kind, which, to, and bytes. -/
structure Ops (w : World) (oo : Option Addr) (n : Nat) (K W T : Nat → Int) (B : Nat → Option Addr) (BN BC : Nat → Nat) (BS : Nat → List Int) : Prop where
  bare : oo = none → n = 0
  cell : ∀ ad, oo = some ad → ∀ i, i < n → w.cell? (ad.add (i * 4)) = some (.int .i64 (K i)) ∧ w.cell? ⟨(ad.add (i * 4)).block, (ad.add (i * 4)).off + 1, none⟩ = some (.int .i64 (W i)) ∧ w.cell? ⟨(ad.add (i * 4)).block, (ad.add (i * 4)).off + 2, none⟩ = some (.int .i64 (T i)) ∧ w.cell? ⟨(ad.add (i * 4)).block, (ad.add (i * 4)).off + 3, none⟩ = some (.slice (B i) (BN i) (BC i))
  bytes : ∀ i, i < n → Shows w (B i) (BN i) (BS i) ∧ (B i = none → BC i = 0) ∧ BN i ≤ BC i ∧ BC i ≤ maxLen
theorem Ops.later {w w' : World} {oo : Option Addr} {n : Nat} {K W T : Nat → Int} {B : Nat → Option Addr} {BN BC : Nat → Nat} {BS : Nat → List Int} (h : Ops w oo n K W T B BN BC BS) (hb : Below w.heap.size w w') : Ops w' oo n K W T B BN BC BS :=
  ⟨h.bare, fun ad had i hi => by obtain ⟨h1, h2, h3, h4⟩ := h.cell ad had i hi; exact ⟨cell_later hb h1, cell_later hb h2, cell_later hb h3, cell_later hb h4⟩, fun i hi => ⟨(h.bytes i hi).1.later hb, (h.bytes i hi).2⟩⟩

def tot (BN : Nat → Nat) : Nat → Nat
  | 0 => 0
  | i + 1 => tot BN i + 1 + min (BN i) 65536

def P0 (r0 r1 r2 : Nat) : Nat → Option Nat := fun k => if k = 0 then some r0 else if k = 1 then some r1 else if k = 2 then some r2 else none
theorem inv_start (base : Nat) (w3 : World) (r0 r1 r2 : Nat) (h0 : Sta w3 r0 H0 (List.replicate 64 0) 0) (h1 : Sta w3 r1 H0 (List.replicate 64 0) 0) (h2 : Sta w3 r2 H0 (List.replicate 64 0) 0) (b0 : base ≤ r0) (b1 : base ≤ r1) (b2 : base ≤ r2) (h01 : r0 < r1) (h02 : r0 < r2) (h12 : r1 < r2) :
    Inv (((w3.alloc (.cells #[.pointer (some ⟨r0, 0, none⟩), .pointer (some ⟨r1, 0, none⟩), .pointer (some ⟨r2, 0, none⟩), .pointer none] 33)).alloc (.cells #[.bool true, .bool true, .bool true, .bool false] 4)).alloc (.cells #[.slice none 0 0, .slice none 0 0, .slice none 0 0, .slice none 0 0] 22)) base w3.heap.size (w3.heap.size + 1) (w3.heap.size + 1 + 1) (P0 r0 r1 r2) (fun k => (P0 r0 r1 r2 k).isSome) (fun _ => .slice none 0 0) (fun _ => []) (fun _ => []) := by
  obtain ⟨wX, eX⟩ : ∃ x, x = ((w3.alloc (.cells #[.pointer (some ⟨r0, 0, none⟩), .pointer (some ⟨r1, 0, none⟩), .pointer (some ⟨r2, 0, none⟩), .pointer none] 33)).alloc (.cells #[.bool true, .bool true, .bool true, .bool false] 4)).alloc (.cells #[.slice none 0 0, .slice none 0 0, .slice none 0 0, .slice none 0 0] 22) := ⟨_, rfl⟩
  have hb : Below w3.heap.size w3 wX := by rw [eX]; exact (((Below.refl _ w3).alloc (Nat.le_refl _) _).alloc (by simp) _).alloc (by simp; omega) _
  have hs : wX.heap[w3.heap.size]? = some (.cells #[.pointer (some ⟨r0, 0, none⟩), .pointer (some ⟨r1, 0, none⟩), .pointer (some ⟨r2, 0, none⟩), .pointer none] 33 (0, 0)) := by
    rw [eX, heap_alloc_old _ _ (by simp; omega), heap_alloc_old _ _ (by simp)]
    exact heap_alloc_new _ _
  have ht : wX.heap[w3.heap.size + 1]? = some (.cells #[.bool true, .bool true, .bool true, .bool false] 4 (0, 0)) := by
    rw [eX, heap_alloc_old _ _ (by simp)]
    have := heap_alloc_new (w3.alloc (.cells #[.pointer (some ⟨r0, 0, none⟩), .pointer (some ⟨r1, 0, none⟩), .pointer (some ⟨r2, 0, none⟩), .pointer none] 33)) (.cells #[.bool true, .bool true, .bool true, .bool false] 4)
    rwa [World.size_alloc] at this
  have hh : wX.heap[w3.heap.size + 1 + 1]? = some (.cells #[.slice none 0 0, .slice none 0 0, .slice none 0 0, .slice none 0 0] 22 (0, 0)) := by
    rw [eX]
    have := heap_alloc_new ((w3.alloc (.cells #[.pointer (some ⟨r0, 0, none⟩), .pointer (some ⟨r1, 0, none⟩), .pointer (some ⟨r2, 0, none⟩), .pointer none] 33)).alloc (.cells #[.bool true, .bool true, .bool true, .bool false] 4)) (.cells #[.slice none 0 0, .slice none 0 0, .slice none 0 0, .slice none 0 0] 22)
    rwa [World.size_alloc, World.size_alloc] at this
  rw [← eX]
  have key : ∀ k r, P0 r0 r1 r2 k = some r → (k = 0 ∧ r = r0) ∨ (k = 1 ∧ r = r1) ∨ (k = 2 ∧ r = r2) := by
    intro k r hk
    unfold P0 at hk
    split at hk
    · exact Or.inl ⟨by assumption, (Option.some.inj hk).symm⟩
    · split at hk
      · exact Or.inr (Or.inl ⟨by assumption, (Option.some.inj hk).symm⟩)
      · split at hk
        · exact Or.inr (Or.inr ⟨by assumption, (Option.some.inj hk).symm⟩)
        · cases hk
  refine ⟨hs, ht, hh, fun k hk => World.ownsRow_nil _ _ _ _, fun k hk x hx => by simp at hx, fun k hk r hr => ?_, fun i j hi hj hij r hir hjr => ?_, fun i j hi hj hij g hg => by cases hg⟩
  · rcases key k r hr with ⟨_, rfl⟩ | ⟨_, rfl⟩ | ⟨_, rfl⟩
    · exact ⟨b0, H0, _, h0.next hb, hold_new⟩
    · exact ⟨b1, H0, _, h1.next hb, hold_new⟩
    · exact ⟨b2, H0, _, h2.next hb, hold_new⟩
  · have a := key i r hir
    have b := key j r hjr
    omega

theorem tot_le (BN : Nat → Nat) (j : Nat) : tot BN j ≤ tot BN (j + 1) := by show tot BN j ≤ tot BN j + 1 + min (BN j) 65536; omega
theorem own_mono {w : World} {b b' n : Nat} {v : Value} {xs : List Value} (h : w.ownsRow b 5 1 v n xs) (hb : b' ≤ b) : w.ownsRow b' 5 1 v n xs := by
  obtain ⟨h1, h2⟩ := h
  refine ⟨h1, ?_⟩
  rcases h2 with h2 | ⟨g, cap, cur, hv, hg, r⟩
  · exact Or.inl h2
  · exact Or.inr ⟨g, cap, cur, hv, Nat.le_trans hb hg, r⟩
theorem below_drewN0 (w : World) (q : Nat) : Below w.heap.size w (w.drewN q) := ⟨rfl, rfl, rfl, Nat.le_refl _, fun _ _ => rfl⟩
theorem tot_mono (BN : Nat → Nat) (a b : Nat) (h : a ≤ b) : tot BN a ≤ tot BN b := by
  induction b with
  | zero => rw [Nat.le_zero.1 h]; exact Nat.le_refl _
  | succ b ih =>
    by_cases hab : a = b + 1
    · rw [hab]; exact Nat.le_refl _
    · exact Nat.le_trans (ih (by omega)) (tot_le BN b)

--LEM
theorem on_grown {w w' : World} {g : Nat} (ho : On w w' g) : w.grownBy w' (some g) := ⟨ho.os, ho.tape, ho.output, by rw [ho.size]; exact Nat.le_refl _, fun k _ hne => ho.block k (fun e => hne (by rw [e]))⟩
theorem on_trans {w w1 w2 : World} {g : Nat} (h : On w w1 g) (k : On w1 w2 g) : On w w2 g := ⟨k.os.trans h.os, k.tape.trans h.tape, k.output.trans h.output, k.size.trans h.size, fun q hq => (k.block q hq).trans (h.block q hq)⟩
theorem on_refl (w : World) (g : Nat) : On w w g := ⟨rfl, rfl, rfl, rfl, fun _ _ => rfl⟩

section
variable {wr w' : World} {base gs gt gh : Nat} {P : Nat → Option Nat} {T : Nat → Bool} {H : Nat → Value} {X Y : Nat → List Int}
theorem Inv.far (h : Inv wr base gs gt gh P T H X Y) {k : Nat} (hk : k < 4) (hg : wr.grownBy w' (H k).ownBlock) {g : Nat} {cs : Array Value} {t : TypeId} {fr : Nat × Nat} (hh : wr.heap[g]? = some (.cells cs t fr)) (ht : t ≠ 5) : w'.heap[g]? = wr.heap[g]? := by
  refine hg.block g (lt_of_block hh) (fun e => ?_)
  obtain ⟨cs', hc⟩ := own_block (h.row k hk) e.symm
  exact block_ne hh hc ht rfl
theorem Inv.append (h : Inv wr base gs gt gh P T H X Y) {k : Nat} (hk : k < 4) (hg : wr.grownBy w' (H k).ownBlock) (v : Value) (ys : List Int) (hv : w'.ownsRow base 5 1 v ys.length (u8s ys)) (hr : ∀ x ∈ ys, 0 ≤ x ∧ x ≤ 255) (hat : v.ownBlock = (H k).ownBlock ∨ v.ownBlock = some wr.heap.size) :
    Inv (w'.setCell ⟨gh, k, none⟩ v) base gs gt gh P T (upd H k v) X (upd Y k ys) := by
  have ho := On.setCell w' ⟨gh, k, none⟩ v
  have hs' : Row4 w' gs 33 (fun k => ptr (P k)) := (h.far hk hg h.s (by decide)).trans h.s
  have ht' : Row4 w' gt 4 (fun k => .bool (T k)) := (h.far hk hg h.t (by decide)).trans h.t
  have hh' : Row4 w' gh 22 H := (h.far hk hg h.h (by decide)).trans h.h
  have hapv : ∀ j, j < 4 → j ≠ k → Ap v (H j) := fun j hj hjk g hg1 hg2 => by
    rcases hat with h1 | h1
    · rw [h1] at hg1
      exact h.apart k j hk hj (Ne.symm hjk) g hg1 hg2
    · rw [h1] at hg1
      have := (h.row j hj).lt g hg2
      have := Option.some.inj hg1
      omega
  refine ⟨hs'.on ho (block_ne hs' hh' (by decide)), ht'.on ho (block_ne ht' hh' (by decide)), hh'.set k hk v, fun j hj => ?_, fun j hj => ?_, fun j hj r hr => ?_, h.one, fun i j hi hj hij => ?_⟩
  · by_cases hjk : j = k
    · subst hjk
      rw [upd_same, upd_same]
      exact row_far hv (fun q hq _ => ho.block q hq) hh' (by decide)
    · rw [upd_other _ _ _ _ hjk, upd_other _ _ _ _ hjk]
      refine row_far ((h.row j hj).kept hg ?_) (fun q hq _ => ho.block q hq) hh' (by decide)
      cases hb : (H j).ownBlock with
      | none => exact Or.inl rfl
      | some g => exact Or.inr (fun e => h.apart j k hj hk hjk g hb e.symm)
  · by_cases hjk : j = k
    · subst hjk; rw [upd_same]; exact hr
    · rw [upd_other _ _ _ _ hjk]; exact h.rng j hj
  · obtain ⟨h1, s, b', h2, h3⟩ := h.st j hj r hr
    have h2' : Sta w' r s b' (X j).length := ⟨(h.far hk hg h2.blk (by decide)).trans h2.blk, h2.len, h2.rng⟩
    exact ⟨h1, s, b', h2'.on ho (fun e => block_ne hh' h2'.blk (by decide) e.symm), h3⟩
  · by_cases hik : i = k
    · subst hik
      rw [upd_same, upd_other _ _ _ _ (Ne.symm hij)]
      exact hapv j hj (Ne.symm hij)
    · rw [upd_other _ _ _ _ hik]
      by_cases hjk : j = k
      · subst hjk
        rw [upd_same]
        intro g hg hv'
        exact hapv i hi hij g hv' hg
      · rw [upd_other _ _ _ _ hjk]
        exact h.apart i j hi hj hij
end

/-- 'append(v, x...)' as one step of a region that draws its order: where the row lies. -/
theorem step_append_any {w : World} {ops : Array Oper} {o : Oper} {a : Act} {K : Act → World → Prop} {Q : Exit → Act → World → Prop} {E : Prop} (hw : Region.wanted o (yielded ops a.tmps) = true) (s x : Operand)
    (ho : o.op = .call { callee := .builtin .append, args := #[s, x], argTypes := #[22, 22] }) (base : Nat) (v : Value) (n : Nat) (xs ys : List Int) (hv : a.eval s = v) (hown : w.ownsRow base 5 1 v n (u8s xs)) (hr : ∀ x ∈ xs ++ ys, 0 ≤ x ∧ x ≤ 255)
    (ao : Option Addr) (m c : Nat) (hx : a.eval x = .slice ao m c) (hs : Shows w ao m ys) (hc : ao = none → c = 0) (hbig : n + m ≤ 140737488355328) (hbase : base ≤ w.heap.size)
    (h : ∀ va vc w', w'.ownsRow base 5 1 (.slice va (n + m) vc) (n + m) (u8s (xs ++ ys)) → w.grownBy w' v.ownBlock → ((Value.slice va (n + m) vc).ownBlock = v.ownBlock ∨ (Value.slice va (n + m) vc).ownBlock = some w.heap.size) → K (a.put o.dst (.slice va (n + m) vc)) w') :
    if Region.wanted o (yielded ops a.tmps) = true then Oper.wp Tryd.prog o a w K Q else E := by
  rw [if_pos hw]
  obtain ⟨i0, hi, hz0, hz1, hz2⟩ := info_parts Tryd.info5
  have hl := hs.len
  have key : ∃ v' w', (Builtin.append_ #[22, 22] o.type #[v, .slice ao m c]).run Tryd.prog w = .ok v' w' ∧ w'.ownsRow base 5 1 v' (n + m) (u8s (xs ++ ys)) ∧ w.grownBy w' v.ownBlock ∧ (v'.ownBlock = v.ownBlock ∨ v'.ownBlock = some w.heap.size) := by
    cases ao with
    | none =>
      have hm := hs.bare rfl
      have hc0 := hc rfl
      subst hm hc0
      have hy : ys = [] := List.eq_nil_of_length_eq_zero hl
      subst hy
      exact ⟨v, w, run_append_owned_none w base 22 o.type 5 i0 1 Tryd.underlying22 hi v n (u8s xs) hown, by simpa using hown, World.grownBy.refl _ _, Or.inl rfl⟩
    | some ad =>
      obtain ⟨v', w', h1, h2, h3, _, h5⟩ := run_append_own_at (P := Tryd.prog) w base 22 o.type 5 i0 (.int .u8 0) 1 1 Tryd.underlying22 hi hz0 hz1 hz2 rfl (by decide) v n (u8s xs) hown ad m c (u8s ys) (by simp [u8s_length, hl]) hs.cells (u8s_one ys) (by unfold maxLen; omega) (by omega) hbase
      exact ⟨v', w', h1, by rw [u8s_append]; exact h2, h3, h5⟩
  obtain ⟨v', w', h1, h2, h3, h4⟩ := key
  obtain ⟨va, vc, rfl, _⟩ := own_shape h2 hr
  unfold Oper.wp execOp
  simp only [ho, resolve, invoke, builtin, Sem.run_bind, Sem.run_pure, Result.andThen_ok, List.map_toArray, List.map_cons, List.map_nil, hv, hx, h1]
  exact h va vc w' h2 h3 h4
--LEMEND

set_option maxHeartbeats 1000000 in
set_option maxRecDepth 100000 in
theorem states_t (oo : Option Addr) (n c : Nat) (K W T : Nat → Int) (B : Nat → Option Addr) (BN BC : Nat → Nat) (BS : Nat → List Int) (w : World) (ho : Ops w oo n K W T B BN BC BS) (hnm : n ≤ maxLen) (hT : Tabs w) :
    Calls Tryd.prog 5 #[.slice oo n c] w fun e w' => e = .returned (.bool true) ∧ Below w.heap.size w w' := by
  go_enter Tryd.func5, Tryd.ntmps5
  go_wp2_with fail
  go_loop [3, 4] (fun m i => ∃ j : Nat, j ≤ n ∧ i = .int .i64 (j : Int) ∧ m = .int .i64 ((tot BN j : Nat) : Int) ∧ tot BN j ≤ 100000) (fun _ i => n - (intOf i).toNat)
  case atStart => exact ⟨0, by omega, rfl, rfl, by simp [tot]⟩
  case round =>
    obtain ⟨j, hj, rfl, rfl, htb⟩ := hrel
    by_cases hlt : j < n ∧ tot BN j ≤ 32768
    · obtain ⟨od, rfl⟩ : ∃ od, oo = some od := by
        cases oo with
        | none => have := ho.bare rfl; omega
        | some od => exact ⟨od, rfl⟩
      obtain ⟨c0, c1, c2, c3⟩ := ho.cell od rfl j hlt.1
      have j1 : (j : Int) < (n : Int) := by omega
      have j2 : ((tot BN j : Nat) : Int) ≤ 32768 := by omega
      obtain ⟨m, em⟩ : ∃ m, m = tot BN j := ⟨_, rfl⟩
      rw [← em] at j2
      rw [← em]
      obtain ⟨l, el⟩ : ∃ l, l = min (BN j) 65536 := ⟨_, rfl⟩
      have e1 : (if (65536 : Int) < (BN j : Int) then 65536 else (BN j : Int)) = (l : Int) := by split <;> omega
      have e2 : (if (BN j : Int) < (65536 : Int) then (BN j : Int) else 65536) = (l : Int) := by split <;> omega
      have e3 : (if (BN j : Int) ≤ (65536 : Int) then (BN j : Int) else 65536) = (l : Int) := by split <;> omega
      have hl6 : l ≤ 65536 := by omega
      have HT : Hid (tot BN (j + 1) = m + 1 + l) := by show tot BN (j + 1) = m + 1 + l; rw [em, el]; rfl
      have hm2 : m ≤ 32768 := by omega
      have hw : wrap64 ((j : Int) + 1) = ((j + 1 : Nat) : Int) := by unfold maxLen at hnm; unfold wrap64; omega
      clear el em
      go_wp2
      rw [hw]
      exact ⟨⟨j + 1, by omega, rfl, by rw [HT.out]; go_num, by rw [HT.out]; omega⟩, by simp [intOf]; omega⟩
    · by_cases hjn : j < n
      · have hbig : 32768 < tot BN j := by omega
        obtain ⟨m, em⟩ : ∃ m, m = tot BN j := ⟨_, rfl⟩
        rw [← em] at hbig
        rw [← em]
        have j1 : (j : Int) < (n : Int) := by omega
        have j2 : (32768 : Int) < (m : Int) := by omega
        clear em
        go_wp2_with (go_at_call 8; refine (works_any w hT).mono ?_; rintro e w' ⟨rfl, hb⟩)
        go_ret
        exact ⟨rfl, hb⟩
      · have hjn' : n = j := by omega
        subst hjn'
        by_cases hbig : 32768 < tot BN n
        · obtain ⟨m, em⟩ : ∃ m, m = tot BN n := ⟨_, rfl⟩
          rw [← em] at hbig
          rw [← em]
          have j2 : (32768 : Int) < (m : Int) := by omega
          clear em
          go_wp2_with (go_at_call 8; refine (works_any w hT).mono ?_; rintro e w' ⟨rfl, hb⟩)
          go_ret
          exact ⟨rfl, hb⟩
        · by_cases h60 : 60 < n
          · obtain ⟨m, em⟩ : ∃ m, m = tot BN n := ⟨_, rfl⟩
            rw [← em] at hbig
            rw [← em]
            have j2 : (m : Int) ≤ (32768 : Int) := by omega
            have j3 : (60 : Int) < (n : Int) := by omega
            clear em
            go_wp2_with (go_at_call 8; refine (works_any w hT).mono ?_; rintro e w' ⟨rfl, hb⟩)
            go_ret
            exact ⟨rfl, hb⟩
          · have j2 : ((tot BN n : Nat) : Int) ≤ (32768 : Int) := by omega
            have j3 : (n : Int) ≤ (60 : Int) := by omega
            obtain ⟨mt, emt⟩ : ∃ m, m = tot BN n := ⟨_, rfl⟩
            rw [← emt] at j2
            rw [← emt]
            have HMT : Hid (mt = tot BN n) := emt
            clear emt hbig h60
            go_wp2_with fail
            go_at_call 15
            refine (new_any w hT).mono ?_
            rintro e w1 ⟨r0, rfl, hr0, hS0, hb1⟩
            go_wp2_with fail
            go_at_call 15
            refine (new_any w1 (hT.next hb1)).mono ?_
            rintro e w2 ⟨r1, rfl, hr1, hS1, hb2⟩
            have hB2 : Below w.heap.size w w2 := hb1.trans (hb2.mono hb1.size)
            go_wp2_with fail
            go_at_call 15
            refine (new_any w2 (hT.next hB2)).mono ?_
            rintro e w3 ⟨r2, rfl, hr2, hS2, hb3⟩
            have hB3 : Below w.heap.size w w3 := hB2.trans (hb3.mono hB2.size)
            have hSa : Sta w3 r0 H0 (List.replicate 64 0) 0 := (hS0.next hb2).next hb3
            have hSb : Sta w3 r1 H0 (List.replicate 64 0) 0 := hS1.next hb3
            have hI := inv_start w.heap.size w3 r0 r1 r2 hSa hSb hS2 hr0 (Nat.le_trans hb1.size hr1) (Nat.le_trans hB2.size hr2) (by have := hS0.lt; omega) (by have := hS0.lt; have := hb2.size; omega) (by have := hS1.lt; omega)
            have hBX : Below w.heap.size w (((w3.alloc (.cells #[.pointer (some ⟨r0, 0, none⟩), .pointer (some ⟨r1, 0, none⟩), .pointer (some ⟨r2, 0, none⟩), .pointer none] 33)).alloc (.cells #[.bool true, .bool true, .bool true, .bool false] 4)).alloc (.cells #[.slice none 0 0, .slice none 0 0, .slice none 0 0, .slice none 0 0] 22)) := ((hB3.alloc hB3.size _).alloc (by have := hB3.size; simp; omega) _).alloc (by have := hB3.size; simp; omega) _
            obtain ⟨G, eG⟩ : ∃ G, G = w3.heap.size := ⟨_, rfl⟩
            have hGw : w.heap.size ≤ G := by have := hB3.size; omega
            go_wp2
            rw [← eG] at hI
            rw [← eG]
            clear eG hS0 hS1 hS2 hSa hSb hb1 hb2 hb3 hB2 hB3 hr0 hr1 hr2
            go_loopw [8] (fun i wr => ∃ (j : Nat) (P : Nat → Option Nat) (H : Nat → Value) (X Y : Nat → List Int), j ≤ n ∧ i = .int .i64 (j : Int) ∧ Inv wr w.heap.size G (G + 1) (G + 1 + 1) P (fun k => (P k).isSome) H X Y ∧ (∀ k, k < 4 → ∀ r, P k = some r → X k = Y k) ∧ (∀ k, k < 4 → (Y k).length ≤ tot BN j) ∧ Below w.heap.size w wr) (fun i _ => n - (intOf i).toNat)
            case atStart => exact ⟨0, P0 r0 r1 r2, fun _ => .slice none 0 0, fun _ => [], fun _ => [], by omega, rfl, hI, fun _ _ _ _ => rfl, fun _ _ => by simp, hBX⟩
            case round =>
              obtain ⟨j, P, H, X, Y, hj, rfl, hI, hXY, hYl, hbr⟩ := hrel
              clear hBX
              by_cases hlt : j < n
              · obtain ⟨od, rfl⟩ : ∃ od, oo = some od := by
                  cases oo with
                  | none => have := ho.bare rfl; omega
                  | some od => exact ⟨od, rfl⟩
                have hor := ho.later hbr
                obtain ⟨c0, c1, c2, c3⟩ := hor.cell od rfl j hlt
                obtain ⟨hsB, hcB, hnB, hmB⟩ := hor.bytes j hlt
                have j1 : (j : Int) < (n : Int) := by omega
                obtain ⟨kd, ekd⟩ : ∃ x, x = K j := ⟨_, rfl⟩
                rw [← ekd] at c0
                obtain ⟨k, ek⟩ : ∃ k, k = plc (W j) := ⟨_, rfl⟩
                obtain ⟨t, et⟩ : ∃ t, t = plc (T j) := ⟨_, rfl⟩
                have hk4' : k < 4 := by rw [ek]; exact plc_lt _
                have ht4 : t < 4 := by rw [et]; exact plc_lt _
                have hp1 : ∀ w, Calls Tryd.prog 16 #[.int .i64 (W j)] w fun e w' => e = .returned (.int .i64 (k : Int)) ∧ w = w' := by rw [ek]; exact place_any _
                have hp2 : ∀ w, Calls Tryd.prog 16 #[.int .i64 (T j)] w fun e w' => e = .returned (.int .i64 (t : Int)) ∧ w = w' := by rw [et]; exact place_any _
                have k0 : (0 : Int) ≤ (k : Int) := by omega
                have k4 : (k : Int) < 4 := by omega
                have t0 : (0 : Int) ≤ (t : Int) := by omega
                have t4 : (t : Int) < 4 := by omega
                clear ek et ekd
                by_cases hk1 : kd = 1
                · --K1
                  subst hk1
                  have hBl : BN j ≤ 32768 := by have h3 := tot_mono BN (j + 1) n (by omega); have h4 := HMT.out; have h5 : tot BN (j + 1) = tot BN j + 1 + min (BN j) 65536 := rfl; omega
                  have htj : tot BN (j + 1) = tot BN j + 1 + min (BN j) 65536 := rfl
                  have hlB := hsB.len
                  have hlY : (Y k).length ≤ 100000 := by have h1 := hYl k hk4'; have h3 := tot_mono BN j n (by omega); omega
                  obtain ⟨ha, hc', hHv, hHs, hHc, hHm, hHn, hHb⟩ := own_shape (hI.row k hk4') (hI.rng k hk4')
                  have hHlt : ∀ i, i < 4 → ∀ g, (H i).ownBlock = some g → g < wr.heap.size := fun i hi g hg => ((hI.row i hi).lt g hg).2
                  have hwsz := hbr.size
                  cases hPk : P k with
                  | none =>
                    go_wp2_with fail
                    go_at_call 16
                    refine (hp1 wr).mono ?_
                    rintro e w' ⟨rfl, rfl⟩
                    go_wp2_with fail
                    go_at_call 16
                    refine (hp2 wr).mono ?_
                    rintro e w' ⟨rfl, rfl⟩
                    go_wp2_with fail
                    go_at_call 9
                    refine (roomy_any (B j) (BN j) (BC j) (BS j) wr hsB hcB (by omega)).mono ?_
                    rintro e w1 ⟨g, cap, rfl, hown1, hb1⟩
                    have hB1 : Below w.heap.size w w1 := hbr.trans (hb1.mono hbr.size)
                    have hI1 := hI.next hb1
                    have hgl := hown1.lt g rfl
                    have cS1 : w1.cell? ⟨G, k, none⟩ = some (.pointer none) := by have h := hI1.s.cell k hk4'; rw [hPk] at h; exact h
                    have hsg := shows_first hown1 hsB.len (by omega) hsB.rng
                    have hcap : BN j ≤ cap ∧ cap ≤ maxLen := by
                      rcases hown1.2 with ⟨h3, _⟩ | ⟨g', cap', cur, h3, _, _, h4, h5, _⟩
                      · cases h3
                      · cases h3; exact ⟨by omega, h5⟩
                    go_wp2_with fail
                    go_at_call 17
                    refine (add_nil _ w1).mono ?_
                    rintro e w2 ⟨rfl, rfl⟩
                    have hI2 := hI1
                    have hown2 := hown1
                    have hB2 := hB1
                    have hor2 := ho.later hB2
                    obtain ⟨d0, d1, d2, d3⟩ := hor2.cell od rfl j hlt
                    have hkp := kept_any g (BN j) cap wr.heap.size (BC j) (B j) (BS j) w1 hown2 (hor2.bytes j hlt).1 (by omega)
                    obtain ⟨cur0, hcur0, hcu0⟩ : ∃ cur : Array Value, w1.heap[g]? = some (.cells cur 5 (0, 0)) ∧ ∀ q, q < BN j → ∃ x, cur[q]? = some (.int .u8 x) := by
                      have hsg2 := shows_first hown2 hsB.len (by omega) hsB.rng
                      obtain ⟨cur, hc⟩ := own_block hown2 (rfl : _ = some g)
                      refine ⟨cur, hc, fun q hq => ⟨(BS j).getD q 0, ?_⟩⟩
                      · have h := hsg2.cell _ rfl q hq
                        rw [show (⟨g, 0, none⟩ : Addr).add q = ⟨g, q, none⟩ by (simp [Addr.add]; omega), cell_of_row w1 g q _ 5 _ hc] at h
                        exact h
                    clear d0 d1 d2
                    go_wp2_with fail
                    go_at_call 12
                    refine hkp.mono ?_
                    rintro e w' ⟨rfl, rfl⟩
                    clear hkp
                    go_wp2_with fail
                    go_loopw [12] (fun v w3 => ∃ (i : Nat) (cur : Array Value), i ≤ BN j ∧ v = .int .i64 (i : Int) ∧ w3.heap[g]? = some (.cells cur 5 (0, 0)) ∧ (∀ q, q < BN j → ∃ x, cur[q]? = some (.int .u8 x)) ∧ On w1 w3 g) (fun v _ => BN j - (intOf v).toNat)
                    case atStart => exact ⟨0, cur0, by omega, rfl, hcur0, hcu0, on_refl _ _⟩
                    case round =>
                      obtain ⟨i, cur, hi, rfl, hcg, hcu, hon⟩ := hrel
                      by_cases hil : i < BN j
                      · obtain ⟨x, hx⟩ := hcu i hil
                        have cG : wr.cell? ⟨g, i, none⟩ = some (.int .u8 x) := by rw [cell_of_row wr g i _ 5 _ hcg]; exact hx
                        have fG : wr.frozen? ⟨g, i, none⟩ = false := frozen_of_row wr g i _ 5 hcg
                        have i0 : (0 : Int) ≤ (i : Int) := by omega
                        have i1 : (i : Int) < (BN j : Int) := by omega
                        go_wp2
                        refine ⟨⟨i + 1, cur.setIfInBounds i _, by omega, by go_num, heap_setCell_same wr g i _ 5 _ hcg, fun q hq => ?_, on_trans hon (On.setCell _ _ _)⟩, by simp [intOf]; omega⟩
                        by_cases hqi : q = i
                        · subst hqi
                          have hlt' : q < cur.size := (Array.getElem?_eq_some_iff.1 hx).1
                          exact ⟨_, by rw [Array.getElem?_setIfInBounds_self_of_lt hlt']⟩
                        · obtain ⟨y, hy⟩ := hcu q hq
                          exact ⟨y, by rw [Array.getElem?_setIfInBounds_ne (Ne.symm hqi)]; exact hy⟩
                      · have hib : i = BN j := by omega
                        subst hib
                        have hB3 : Below w.heap.size w wr := hon.below hB2 (by omega)
                        have hI3 := hI2.grown (on_grown hon) (fun q hq => by cases hq; exact own_block hown2 rfl) (fun i hi q hq e => by cases hq; have := hHlt i hi g e; omega)
                        have cT3 : wr.cell? ⟨G + 1, k, none⟩ = some (.bool false) := by have h := hI3.t.cell k hk4'; rw [hPk] at h; exact h
                        go_wp2
                        exact ⟨⟨j + 1, P, H, X, Y, by omega, by go_num, hI3, hXY, fun i hi => Nat.le_trans (hYl i hi) (tot_le BN j), hB3⟩, by simp [intOf]; omega⟩
                  | some r0 =>
                    obtain ⟨hr0, s0, b0, hS0, hH0⟩ := hI.st k hk4' r0 hPk
                    go_wp2_with fail
                    go_at_call 16
                    refine (hp1 wr).mono ?_
                    rintro e w' ⟨rfl, rfl⟩
                    go_wp2_with fail
                    go_at_call 16
                    refine (hp2 wr).mono ?_
                    rintro e w' ⟨rfl, rfl⟩
                    go_wp2_with fail
                    go_at_call 9
                    refine (roomy_any (B j) (BN j) (BC j) (BS j) wr hsB hcB (by omega)).mono ?_
                    rintro e w1 ⟨g, cap, rfl, hown1, hb1⟩
                    have hB1 : Below w.heap.size w w1 := hbr.trans (hb1.mono hbr.size)
                    have hI1 := hI.next hb1
                    have hgl := hown1.lt g rfl
                    have cS1 : w1.cell? ⟨G, k, none⟩ = some (.pointer (some ⟨r0, 0, none⟩)) := by have h := hI1.s.cell k hk4'; rw [hPk] at h; exact h
                    have hsg := shows_first hown1 hsB.len (by omega) hsB.rng
                    have hcap : BN j ≤ cap ∧ cap ≤ maxLen := by
                      rcases hown1.2 with ⟨h3, _⟩ | ⟨g', cap', cur, h3, _, _, h4, h5, _⟩
                      · cases h3
                      · cases h3; exact ⟨by omega, h5⟩
                    go_wp2_with fail
                    go_at_call 17
                    refine (add_any r0 _ (X k) (BS j) w1 s0 b0 (hS0.next hb1) hH0 (some ⟨g, 0, none⟩) (BN j) cap hsg (fun _ ad had e => by cases had; have := hS0.lt; simp at e; omega) hcap.1 hcap.2 (hT.later hB1 hT.sz) (by have := hT.sz; omega) (by rw [hXY k hk4' r0 hPk]; omega)).mono ?_
                    rintro e w2 ⟨rfl, s2, b2, hS2, hH2, ho2⟩
                    have hB2 : Below w.heap.size w w2 := hB1.trans (ho2.toBelow hr0 hB1.size)
                    have hown2 := row_far hown1 (fun q hq hl => ho2.block q hl hq) (hS0.next hb1).blk (by decide)
                    have hI2 := hI1.add hk4' hPk ho2 (s := s2) (b := b2) (zs := X k ++ BS j) (by rw [List.length_append, hlB]; exact hS2) (by rw [List.length_append, hlB]; exact hH2)
                    have hor2 := ho.later hB2
                    obtain ⟨d0, d1, d2, d3⟩ := hor2.cell od rfl j hlt
                    have hkp := kept_any g (BN j) cap wr.heap.size (BC j) (B j) (BS j) w2 hown2 (hor2.bytes j hlt).1 (by omega)
                    obtain ⟨cur0, hcur0, hcu0⟩ : ∃ cur : Array Value, w2.heap[g]? = some (.cells cur 5 (0, 0)) ∧ ∀ q, q < BN j → ∃ x, cur[q]? = some (.int .u8 x) := by
                      have hsg2 := shows_first hown2 hsB.len (by omega) hsB.rng
                      obtain ⟨cur, hc⟩ := own_block hown2 (rfl : _ = some g)
                      refine ⟨cur, hc, fun q hq => ⟨(BS j).getD q 0, ?_⟩⟩
                      · have h := hsg2.cell _ rfl q hq
                        rw [show (⟨g, 0, none⟩ : Addr).add q = ⟨g, q, none⟩ by (simp [Addr.add]; omega), cell_of_row w2 g q _ 5 _ hc] at h
                        exact h
                    clear d0 d1 d2
                    go_wp2_with fail
                    go_at_call 12
                    refine hkp.mono ?_
                    rintro e w' ⟨rfl, rfl⟩
                    clear hkp
                    go_wp2_with fail
                    go_loopw [12] (fun v w3 => ∃ (i : Nat) (cur : Array Value), i ≤ BN j ∧ v = .int .i64 (i : Int) ∧ w3.heap[g]? = some (.cells cur 5 (0, 0)) ∧ (∀ q, q < BN j → ∃ x, cur[q]? = some (.int .u8 x)) ∧ On w2 w3 g) (fun v _ => BN j - (intOf v).toNat)
                    case atStart => exact ⟨0, cur0, by omega, rfl, hcur0, hcu0, on_refl _ _⟩
                    case round =>
                      obtain ⟨i, cur, hi, rfl, hcg, hcu, hon⟩ := hrel
                      by_cases hil : i < BN j
                      · obtain ⟨x, hx⟩ := hcu i hil
                        have cG : wr.cell? ⟨g, i, none⟩ = some (.int .u8 x) := by rw [cell_of_row wr g i _ 5 _ hcg]; exact hx
                        have fG : wr.frozen? ⟨g, i, none⟩ = false := frozen_of_row wr g i _ 5 hcg
                        have i0 : (0 : Int) ≤ (i : Int) := by omega
                        have i1 : (i : Int) < (BN j : Int) := by omega
                        go_wp2
                        refine ⟨⟨i + 1, cur.setIfInBounds i _, by omega, by go_num, heap_setCell_same wr g i _ 5 _ hcg, fun q hq => ?_, on_trans hon (On.setCell _ _ _)⟩, by simp [intOf]; omega⟩
                        by_cases hqi : q = i
                        · subst hqi
                          have hlt' : q < cur.size := (Array.getElem?_eq_some_iff.1 hx).1
                          exact ⟨_, by rw [Array.getElem?_setIfInBounds_self_of_lt hlt']⟩
                        · obtain ⟨y, hy⟩ := hcu q hq
                          exact ⟨y, by rw [Array.getElem?_setIfInBounds_ne (Ne.symm hqi)]; exact hy⟩
                      · have hib : i = BN j := by omega
                        subst hib
                        have hB3 : Below w.heap.size w wr := hon.below hB2 (by omega)
                        have hI3 := hI2.grown (on_grown hon) (fun q hq => by cases hq; exact own_block hown2 rfl) (fun i hi q hq e => by cases hq; have := hHlt i hi g e; omega)
                        have cT3 : wr.cell? ⟨G + 1, k, none⟩ = some (.bool true) := by have h := hI3.t.cell k hk4'; rw [hPk] at h; exact h
                        have cH3 : wr.cell? ⟨G + 1 + 1, k, none⟩ = some (.slice ha (Y k).length hc') := by have h := hI3.h.cell k hk4'; rw [hHv] at h; exact h
                        have cH3d : wr.drew.cell? ⟨G + 1 + 1, k, none⟩ = some (.slice ha (Y k).length hc') := cH3
                        have hB3d : Below w.heap.size w wr.drew := hB3.drew
                        have hor3 := ho.later hB3d
                        have e3 := (hor3.cell od rfl j hlt).2.2.2
                        have hrow3 : wr.drew.ownsRow w.heap.size 5 1 (.slice ha (Y k).length hc') (Y k).length (u8s (Y k)) := by have h := hI3.row k hk4'; rw [hHv] at h; exact h
                        have hrr : ∀ x ∈ Y k ++ BS j, 0 ≤ x ∧ x ≤ 255 := fun x hx => (List.mem_append.1 hx).elim (hI.rng k hk4' x) (hsB.rng x)
                        have hsB3 := (hor3.bytes j hlt).1
                        have hap : ∀ (v : Value) (w5 : World), wr.drew.grownBy w5 (Value.slice ha (Y k).length hc').ownBlock → w5.ownsRow w.heap.size 5 1 v ((Y k).length + BN j) (u8s (Y k ++ BS j)) → (v.ownBlock = (Value.slice ha (Y k).length hc').ownBlock ∨ v.ownBlock = some wr.drew.heap.size) → Inv (w5.setCell ⟨G + 1 + 1, k, none⟩ v) w.heap.size G (G + 1) (G + 1 + 1) P (fun k => (P k).isSome) (upd H k v) (upd X k (X k ++ BS j)) (upd Y k (Y k ++ BS j)) := fun v w5 hg hv hat => by
                          rw [← hHv] at hg hat
                          have hg' : wr.grownBy w5 (H k).ownBlock := ⟨hg.os, hg.tape, hg.output, hg.size, hg.block⟩
                          exact hI3.append hk4' hg' v (Y k ++ BS j) (by rw [List.length_append, hlB]; exact hv) hrr hat
                        have hHr : ∀ w5 : World, wr.drew.grownBy w5 (Value.slice ha (Y k).length hc').ownBlock → Row4 w5 (G + 1 + 1) 22 H := fun w5 hg => by
                          rw [← hHv] at hg
                          have hg' : wr.grownBy w5 (H k).ownBlock := ⟨hg.os, hg.tape, hg.output, hg.size, hg.block⟩
                          exact (hI3.far hk4' hg' hI3.h (by decide)).trans hI3.h
                        have hbn : (Y k).length + BN j ≤ 140737488355328 := by omega
                        go_wp2_with fail
                        refine wp_region_noPanic ?_
                        refine wp_region_held_drew (S := fun w' => w'.cell? ⟨(od.add (j * 4)).block, (od.add (j * 4)).off + 3, none⟩ = some (.slice (B j) (BN j) (BC j))) (by kernel_rfl) e3 (fun hHeld => ?_)
                        refine wpAnyH_take (i := 0) (v := ?v0a) (show _ = some _ by simp only [List.getElem?_toArray, List.getElem?_cons_zero]; exact rfl) (by kernel_rfl) (by kernel_rfl) (by kernel_rfl) (fun _ _ _ h => h) (Or.inl ⟨by rfl, ?hy0a⟩) (e3) ?r0a
                        case hy0a => (intro w hSw; (try dsimp only at hSw); go_simp; try with_reducible rfl)
                        (try simp only [Act.put]); (try simp only [List.setIfInBounds_toArray]); (repeat (first | simp only [List.set_cons_succ] | simp only [List.set_cons_zero]))
                        refine wpAnyH_take (i := 1) (v := ?v1a) (show _ = some _ by simp only [List.getElem?_toArray, List.getElem?_cons_succ, List.getElem?_cons_zero]; exact rfl) (by kernel_rfl) (by kernel_rfl) (by kernel_rfl) (fun _ _ _ h => h) (Or.inl ⟨by rfl, ?hy1a⟩) (e3) ?r1a
                        case hy1a => (intro w hSw; (try dsimp only at hSw); go_simp; try with_reducible rfl)
                        (try simp only [Act.put]); (try simp only [List.setIfInBounds_toArray]); (repeat (first | simp only [List.set_cons_succ] | simp only [List.set_cons_zero]))
                        refine wpAnyH_take (i := 2) (v := ?v2a) (show _ = some _ by simp only [List.getElem?_toArray, List.getElem?_cons_succ, List.getElem?_cons_zero]; exact rfl) (by kernel_rfl) (by kernel_rfl) (by kernel_rfl) (fun _ _ _ h => h) (Or.inl ⟨by rfl, ?hy2a⟩) (e3) ?r2a
                        case hy2a => (intro w hSw; (try dsimp only at hSw); go_simp; try with_reducible rfl)
                        (try simp only [Act.put]); (try simp only [List.setIfInBounds_toArray]); (repeat (first | simp only [List.set_cons_succ] | simp only [List.set_cons_zero]))
                        refine wpAnyH_take (i := 3) (v := ?v3a) (show _ = some _ by simp only [List.getElem?_toArray, List.getElem?_cons_succ, List.getElem?_cons_zero]; exact rfl) (by kernel_rfl) (by kernel_rfl) (by kernel_rfl) (fun _ _ _ h => h) (Or.inl ⟨by rfl, ?hy3a⟩) (e3) ?r3a
                        case hy3a => (intro w hSw; (try dsimp only at hSw); go_simp; try with_reducible rfl)
                        (try simp only [Act.put]); (try simp only [List.setIfInBounds_toArray]); (repeat (first | simp only [List.set_cons_succ] | simp only [List.set_cons_zero]))
                        refine wpAnyH_take (i := 4) (v := ?v4a) (show _ = some _ by simp only [List.getElem?_toArray, List.getElem?_cons_succ, List.getElem?_cons_zero]; exact rfl) (by kernel_rfl) (by kernel_rfl) (by kernel_rfl) (fun _ _ _ h => h) (Or.inl ⟨by rfl, ?hy4a⟩) (e3) ?r4a
                        case hy4a => (intro w hSw; (try dsimp only at hSw); go_simp; try with_reducible rfl)
                        (try simp only [Act.put]); (try simp only [List.setIfInBounds_toArray]); (repeat (first | simp only [List.set_cons_succ] | simp only [List.set_cons_zero]))
                        refine wpAnyH_take (i := 6) (v := ?v6a) (show _ = some _ by simp only [List.getElem?_toArray, List.getElem?_cons_succ, List.getElem?_cons_zero]; exact rfl) (by kernel_rfl) (by kernel_rfl) (by kernel_rfl) (fun _ _ _ h => h) (Or.inl ⟨by rfl, ?hy6a⟩) (e3) ?r6a
                        case hy6a => (intro w hSw; (try dsimp only at hSw); go_simp; try with_reducible rfl)
                        (try simp only [Act.put]); (try simp only [List.setIfInBounds_toArray]); (repeat (first | simp only [List.set_cons_succ] | simp only [List.set_cons_zero]))
                        refine wpAnyH_take (i := 7) (v := ?v7a) (show _ = some _ by simp only [List.getElem?_toArray, List.getElem?_cons_succ, List.getElem?_cons_zero]; exact rfl) (by kernel_rfl) (by kernel_rfl) (by kernel_rfl) (fun _ _ _ h => h) (Or.inl ⟨by rfl, ?hy7a⟩) (e3) ?r7a
                        case hy7a => (intro w hSw; (try dsimp only at hSw); go_simp; try with_reducible rfl)
                        (try simp only [Act.put]); (try simp only [List.setIfInBounds_toArray]); (repeat (first | simp only [List.set_cons_succ] | simp only [List.set_cons_zero]))
                        refine wpAnyH_take (i := 8) (v := ?v8a) (show _ = some _ by simp only [List.getElem?_toArray, List.getElem?_cons_succ, List.getElem?_cons_zero]; exact rfl) (by kernel_rfl) (by kernel_rfl) (by kernel_rfl) (fun _ _ _ h => h) (Or.inl ⟨by rfl, ?hy8a⟩) (e3) ?r8a
                        case hy8a => (intro w hSw; (try dsimp only at hSw); go_simp; try with_reducible rfl)
                        (try simp only [Act.put]); (try simp only [List.setIfInBounds_toArray]); (repeat (first | simp only [List.set_cons_succ] | simp only [List.set_cons_zero]))
                        refine wpAnyH_take (i := 9) (v := ?v9a) (show _ = some _ by simp only [List.getElem?_toArray, List.getElem?_cons_succ, List.getElem?_cons_zero]; exact rfl) (by kernel_rfl) (by kernel_rfl) (by kernel_rfl) (fun _ _ _ h => h) (Or.inl ⟨by rfl, ?hy9a⟩) (e3) ?r9a
                        case hy9a => (intro w hSw; (try dsimp only at hSw); go_simp; try with_reducible rfl)
                        (try simp only [Act.put]); (try simp only [List.setIfInBounds_toArray]); (repeat (first | simp only [List.set_cons_succ] | simp only [List.set_cons_zero]))
                        refine wpAnyH_take (i := 10) (v := ?v10a) (show _ = some _ by simp only [List.getElem?_toArray, List.getElem?_cons_succ, List.getElem?_cons_zero]; exact rfl) (by kernel_rfl) (by kernel_rfl) (by kernel_rfl) (fun _ _ _ h => h) (Or.inl ⟨by rfl, ?hy10a⟩) (e3) ?r10a
                        case hy10a => (intro w hSw; (try dsimp only at hSw); go_simp; try with_reducible rfl)
                        (try simp only [Act.put]); (try simp only [List.setIfInBounds_toArray]); (repeat (first | simp only [List.set_cons_succ] | simp only [List.set_cons_zero]))
                        refine wpAnyH_ready (rs := [5]) (by kernel_rfl) (by simp) ?_
                        refine AllReadyH.cons (show _ = some _ by simp only [List.getElem?_toArray, List.getElem?_cons_succ, List.getElem?_cons_zero]; exact rfl) (fun K hK => ?_) AllReadyH.nil
                        go_simp
                        (try go_wp2_with fail)
                        refine hK.out _ _ e3 (fun hHeld2 => ?_)
                        clear hK K
                        (try simp only [Act.put]); (try simp only [List.setIfInBounds_toArray]); (repeat (first | simp only [List.set_cons_succ] | simp only [List.set_cons_zero]))
                        refine wpAnyH_ready (rs := [11]) (by kernel_rfl) (by simp) ?_
                        refine AllReadyH.cons (show _ = some _ by simp only [List.getElem?_toArray, List.getElem?_cons_succ, List.getElem?_cons_zero]; exact rfl) (fun K hK => ?_) AllReadyH.nil
                        refine step_append_any (by rfl) _ _ rfl w.heap.size _ (Y k).length (Y k) (BS j) rfl hrow3 hrr (B j) (BN j) (BC j) rfl hsB3 hcB hbn hB3d.size ?_
                        intro va vc w5 hown5 hgrow5 hat5
                        have hB5 : Below w.heap.size w w5 := hB3d.grown hgrow5 hB3d.size (fun b hb => (hrow3.lt b hb).1)
                        have e5 := ((ho.later hB5).cell od rfl j hlt).2.2.2
                        have hI5 := hap _ w5 hgrow5 hown5 hat5
                        have cH5 := (hHr w5 hgrow5).cell k hk4'
                        have fH5 := (hHr w5 hgrow5).fz k
                        have hB6 : Below w.heap.size w (w5.setCell ⟨G + 1 + 1, k, none⟩ (.slice va ((Y k).length + BN j) vc)) := hB5.setCell (by show w.heap.size ≤ G + 1 + 1; omega) _
                        have e6 := ((ho.later hB6).cell od rfl j hlt).2.2.2
                        refine hK.out _ _ e5 (fun hHeld3 => ?_)
                        clear hK K
                        (try simp only [Act.put]); (try simp only [List.setIfInBounds_toArray]); (repeat (first | simp only [List.set_cons_succ] | simp only [List.set_cons_zero]))
                        refine wpAnyH_take (i := 12) (v := ?v12a) (show _ = some _ by simp only [List.getElem?_toArray, List.getElem?_cons_succ, List.getElem?_cons_zero]; exact rfl) (by kernel_rfl) (by kernel_rfl) (by kernel_rfl) (fun _ _ _ h => h) (Or.inl ⟨by rfl, ?hy12a⟩) (e5) ?r12a
                        case hy12a => (intro w hSw; (try dsimp only at hSw); go_simp; try with_reducible rfl)
                        (try simp only [Act.put]); (try simp only [List.setIfInBounds_toArray]); (repeat (first | simp only [List.set_cons_succ] | simp only [List.set_cons_zero]))
                        refine wpAnyH_ready (rs := [13]) (by kernel_rfl) (by simp) ?_
                        refine AllReadyH.cons (show _ = some _ by simp only [List.getElem?_toArray, List.getElem?_cons_succ, List.getElem?_cons_zero]; exact rfl) (fun K hK => ?_) AllReadyH.nil
                        go_simp
                        (try go_wp2_with fail)
                        refine hK.out _ _ e6 (fun hHeld4 => ?_)
                        clear hK K
                        (try simp only [Act.put]); (try simp only [List.setIfInBounds_toArray]); (repeat (first | simp only [List.set_cons_succ] | simp only [List.set_cons_zero]))
                        refine wpAnyH_done (by kernel_rfl) ?_ _
                        refine NoPanic.normal ?_
                        go_wp2
                        refine ⟨⟨j + 1, P, _, _, _, by omega, by go_num, hI5, fun i hi q hq => ?_, fun i hi => ?_, hB6⟩, by simp [intOf]; omega⟩
                        · by_cases hik : i = k
                          · subst hik; rw [upd_same, upd_same, hXY i hi q hq]
                          · rw [upd_other _ _ _ _ hik, upd_other _ _ _ _ hik]; exact hXY i hi q hq
                        · by_cases hik : i = k
                          · subst hik; rw [upd_same, List.length_append, hlB]; have := hYl i hi; omega
                          · rw [upd_other _ _ _ _ hik]; exact Nat.le_trans (hYl i hi) (tot_le BN j)
                  --K1END
                · by_cases hk2 : kd = 2
                  · --K2
                    subst hk2
                    obtain ⟨ha, hc', hHv, hHs, hHc, hHm, hHn, hHb⟩ := own_shape (hI.row k hk4') (hI.rng k hk4')
                    have hlY : (Y k).length ≤ 100000 := by have h1 := hYl k hk4'; have h3 := tot_mono BN j n (by omega); omega
                    have cH : wr.cell? ⟨G + 1 + 1, k, none⟩ = some (.slice ha (Y k).length hc') := by have h := hI.h.cell k hk4'; rw [hHv] at h; exact h
                    have hcr := refSum_any ha _ hc' (Y k) wr hHs hHn (by omega)
                    have hRl : (sumOf (Y k)).length = 32 := sumOf_length _
                    have hgd := guard25
                    have u25 := Tryd.underlying25
                    have fin : ∀ w4 : World, Below wr.heap.size wr w4 → ∃ (P' : Nat → Option Nat) (H' : Nat → Value) (X' Y' : Nat → List Int), Inv w4 w.heap.size G (G + 1) (G + 1 + 1) P' (fun k => (P' k).isSome) H' X' Y' ∧ (∀ k, k < 4 → ∀ r, P' k = some r → X' k = Y' k) ∧ (∀ k, k < 4 → (Y' k).length ≤ tot BN (j + 1)) ∧ Below w.heap.size w w4 := fun w4 hb => ⟨P, H, X, Y, hI.next hb, hXY, fun i hi => Nat.le_trans (hYl i hi) (tot_le BN j), hbr.trans (hb.mono hbr.size)⟩
                    cases hPk : P k with
                    | none =>
                      have hcs : ∀ w1, Below wr.heap.size wr w1 → Calls Tryd.prog 18 #[.pointer none] w1 fun e w' => e = .returned (.agg (nums .u8 (List.replicate 32 0))) ∧ Below w1.heap.size w1 w' := fun w1 _ => sum_nil w1
                      obtain ⟨Z, eZ⟩ : ∃ x : List Int, x = List.replicate 32 0 := ⟨_, rfl⟩
                      rw [← eZ] at hcs
                      obtain ⟨R, eR⟩ : ∃ x, x = sumOf (Y k) := ⟨_, rfl⟩
                      rw [← eR] at hRl hcr
                      clear eR
                      have heq : ∀ W : World, (Op.equalIn 10000 25 (.agg (nums .u8 Z)) (.agg (Z.map (Value.int .u8)).toArray)).run Tryd.prog W = .ok true W := eq25 Z (by rw [eZ]; simp)
                      have i25 : (Tryd.prog.info? 25).map (·.size) = some (Z.map (Value.int .u8)).length := by rw [eZ]; kernel_rfl
                      go_wp2_with fail
                      go_at_call 16
                      refine (hp1 wr).mono ?_
                      rintro e w' ⟨rfl, rfl⟩
                      go_wp2_with fail
                      go_at_call 16
                      refine (hp2 wr).mono ?_
                      rintro e w' ⟨rfl, rfl⟩
                      go_wp2_with fail
                      go_at_call 11
                      refine hcr.mono ?_
                      rintro e w1 ⟨rfl, hb1⟩
                      go_wp2_with (first | (refine law_store rfl 25 _ _ rfl w1.heap.size .u8 R rfl rfl 25 _ (Arr.new w1 .u8 25 (List.replicate 32 0)) (by simp [hRl]) (by rw [hRl]; kernel_rfl) ?_; intro w2 ho2 hA2; have hB2 : Below wr.heap.size wr w2 := ho2.below (hb1.alloc hb1.size _) hb1.size; have cT2 : w2.cell? ⟨G + 1, k, none⟩ = some (.bool false) := (by have h := (hI.next hB2).t.cell k hk4'; rw [hPk] at h; exact h); have cS2 : w2.cell? ⟨G, k, none⟩ = some (.pointer none) := (by have h := (hI.next hB2).s.cell k hk4'; rw [hPk] at h; exact h)) | (refine law_store rfl 25 _ _ rfl w1.heap.size .u8 (List.replicate 32 0) rfl rfl 25 _ hA2 (by simp [hRl]) (by kernel_rfl) ?_; intro w3 ho3 hA3; have hB3 : Below wr.heap.size wr w3 := ho3.below hB2 hb1.size; have cS3 : w3.cell? ⟨G, k, none⟩ = some (.pointer none) := (by have h := (hI.next hB3).s.cell k hk4'; rw [hPk] at h; exact h)))
                      rw [← eZ] at hA3
                      clear eZ
                      have hr3 : w3.rangeAt w1.heap.size 0 (Z.map (Value.int .u8)) := arr_range hA3
                      have hr3d : w3.drew.rangeAt w1.heap.size 0 (Z.map (Value.int .u8)) := hr3
                      have cS3d : w3.drew.cell? ⟨G, k, none⟩ = some (.pointer none) := cS3
                      have hB3d : Below wr.heap.size wr w3.drew := hB3.drew
                      have hcs3 := hcs w3.drew hB3d
                      obtain ⟨gm, egm⟩ : ∃ g, g = w1.heap.size := ⟨_, rfl⟩
                      rw [← egm] at hr3 hr3d
                      rw [← egm]
                      clear egm hcs hcr
                      go_region_held3 (fun w' => w'.cell? ⟨G, k, none⟩ = some (.pointer none) ∧ w'.rangeAt gm 0 (Z.map (Value.int .u8))) (first | exact ⟨cS5, hr5⟩ | exact ⟨cS3d, hr3d⟩ | assumption) ((first | (go_at_call 18; refine hcs3.mono ?_; rintro e w5 ⟨rfl, hb5⟩; have hr5 : w5.rangeAt gm 0 (Z.map (Value.int .u8)) := range_next hr3d hb5; have cS5 : w5.cell? ⟨G, k, none⟩ = some (.pointer none) := cell_later hb5 cS3d)))
                      go_wp2
                      obtain ⟨P', H', X', Y', f1, f2, f3, f4⟩ := fin w5 (hB3d.trans (hb5.mono hB3d.size))
                      exact ⟨⟨j + 1, P', H', X', Y', by omega, by go_num, f1, f2, f3, f4⟩, by simp [intOf]; omega⟩
                    | some r0 =>
                      obtain ⟨_, s0, b0, hS0, hH0⟩ := hI.st k hk4' r0 hPk
                      have hcs : ∀ w1, Below wr.heap.size wr w1 → Calls Tryd.prog 18 #[.pointer (some ⟨r0, 0, none⟩)] w1 fun e w' => e = .returned (.agg (nums .u8 (sumOf (Y k)))) ∧ Below w1.heap.size w1 w' := fun w1 hb => by
                        have h := sum_any r0 s0 b0 (X k) _ w1 (hS0.next hb) hH0 (by rw [hXY k hk4' r0 hPk]; omega) (hT.later (hbr.trans (hb.mono hbr.size)) hT.sz)
                        rw [hXY k hk4' r0 hPk] at h
                        exact h
                      obtain ⟨R, eR⟩ : ∃ x, x = sumOf (Y k) := ⟨_, rfl⟩
                      rw [← eR] at hRl hcr hcs
                      clear eR
                      have heq : ∀ W : World, (Op.equalIn 10000 25 (.agg (nums .u8 R)) (.agg (R.map (Value.int .u8)).toArray)).run Tryd.prog W = .ok true W := eq25 R hRl
                      have i25 : (Tryd.prog.info? 25).map (·.size) = some (R.map (Value.int .u8)).length := by rw [List.length_map, hRl]; kernel_rfl
                      go_wp2_with fail
                      go_at_call 16
                      refine (hp1 wr).mono ?_
                      rintro e w' ⟨rfl, rfl⟩
                      go_wp2_with fail
                      go_at_call 16
                      refine (hp2 wr).mono ?_
                      rintro e w' ⟨rfl, rfl⟩
                      go_wp2_with fail
                      go_at_call 11
                      refine hcr.mono ?_
                      rintro e w1 ⟨rfl, hb1⟩
                      go_wp2_with (refine law_store rfl 25 _ _ rfl w1.heap.size .u8 R rfl rfl 25 _ (Arr.new w1 .u8 25 (List.replicate 32 0)) (by simp [hRl]) (by rw [hRl]; kernel_rfl) ?_; intro w2 ho2 hA2; have hB2 : Below wr.heap.size wr w2 := ho2.below (hb1.alloc hb1.size _) hb1.size; have cT2 : w2.cell? ⟨G + 1, k, none⟩ = some (.bool true) := (by have h := (hI.next hB2).t.cell k hk4'; rw [hPk] at h; exact h); have cS2 : w2.cell? ⟨G, k, none⟩ = some (.pointer (some ⟨r0, 0, none⟩)) := (by have h := (hI.next hB2).s.cell k hk4'; rw [hPk] at h; exact h))
                      have hr2 : w2.rangeAt w1.heap.size 0 (R.map (Value.int .u8)) := arr_range hA2
                      have hr2d : w2.drew.rangeAt w1.heap.size 0 (R.map (Value.int .u8)) := hr2
                      have cS2d : w2.drew.cell? ⟨G, k, none⟩ = some (.pointer (some ⟨r0, 0, none⟩)) := cS2
                      have hB2d : Below wr.heap.size wr w2.drew := hB2.drew
                      have hcs2 := hcs w2.drew hB2d
                      obtain ⟨gm, egm⟩ : ∃ g, g = w1.heap.size := ⟨_, rfl⟩
                      rw [← egm] at hr2 hr2d
                      rw [← egm]
                      clear egm hcs hcr
                      go_region_held3 (fun w' => w'.cell? ⟨G, k, none⟩ = some (.pointer (some ⟨r0, 0, none⟩)) ∧ w'.rangeAt gm 0 (R.map (Value.int .u8))) (first | exact ⟨cS5, hr5⟩ | exact ⟨cS2d, hr2d⟩ | assumption) ((first | (go_at_call 18; refine hcs2.mono ?_; rintro e w5 ⟨rfl, hb5⟩; have hr5 : w5.rangeAt gm 0 (R.map (Value.int .u8)) := range_next hr2d hb5; have cS5 : w5.cell? ⟨G, k, none⟩ = some (.pointer (some ⟨r0, 0, none⟩)) := cell_later hb5 cS2d)))
                      go_wp2
                      obtain ⟨P', H', X', Y', f1, f2, f3, f4⟩ := fin w5 (hB2d.trans (hb5.mono hB2d.size))
                      exact ⟨⟨j + 1, P', H', X', Y', by omega, by go_num, f1, f2, f3, f4⟩, by simp [intOf]; omega⟩
                    --K2END
                  · by_cases hk3 : kd = 3
                    · --K3
                      subst hk3
                      obtain ⟨ha, hc', hHv, hHs, hHc, hHm, hHn, hHb⟩ := own_shape (hI.row k hk4') (hI.rng k hk4')
                      have hlY : (Y k).length ≤ 140737488355328 := by have h1 := hYl k hk4'; have h2 : ∀ a b, a ≤ b → tot BN a ≤ tot BN b := tot_mono BN; have h3 := h2 j n (by omega); have h4 := HMT.out; omega
                      have cS0 := hI.s.cell k hk4'
                      have fin : ∀ (q : Option Nat) (w1 w3 : World) (v : Value), q.isSome = (P k).isSome → Below wr.heap.size wr w1 → (∀ r', q = some r' → wr.heap.size ≤ r' ∧ ∃ s b, Sta w1 r' s b (X k).length ∧ Hold s b (X k).length (X k)) → w3.ownsRow (w1.setCell ⟨G, t, none⟩ (ptr q)).heap.size 5 1 v (Y k).length (u8s (Y k)) → Below (w1.setCell ⟨G, t, none⟩ (ptr q)).heap.size (w1.setCell ⟨G, t, none⟩ (ptr q)) w3 →
                          ∃ (P' : Nat → Option Nat) (H' : Nat → Value) (X' Y' : Nat → List Int), Inv ((w3.setCell ⟨G + 1 + 1, t, none⟩ v).setCell ⟨G + 1, t, none⟩ (.bool (P k).isSome)) w.heap.size G (G + 1) (G + 1 + 1) P' (fun k => (P' k).isSome) H' X' Y' ∧ (∀ k, k < 4 → ∀ r, P' k = some r → X' k = Y' k) ∧ (∀ k, k < 4 → (Y' k).length ≤ tot BN (j + 1)) ∧ Below w.heap.size w ((w3.setCell ⟨G + 1 + 1, t, none⟩ v).setCell ⟨G + 1, t, none⟩ (.bool (P k).isSome)) := by
                        intro q w1 w3 v hqs hb1 hq hv hb3
                        have hI1 := (hI.next hb1).putS ht4 q (X k) (fun r' hr' => by
                          obtain ⟨h1, h2⟩ := hq r' hr'
                          refine ⟨Nat.le_trans hbr.size h1, h2, fun i hi _ he => ?_⟩
                          obtain ⟨_, s, b, hs, _⟩ := hI.st i hi r' he
                          have := hs.lt
                          omega)
                        have hI2 := hI1.next hb3
                        have hB1 : Below w.heap.size w w1 := hbr.trans (hb1.mono hbr.size)
                        have hB2 : Below w.heap.size w (w1.setCell ⟨G, t, none⟩ (ptr q)) := hB1.setCell hGw _
                        have hB3 : Below w.heap.size w w3 := hB2.trans (hb3.mono hB2.size)
                        have hI3 := (hI2.putH ht4 v (Y k) (own_mono hv hB2.size) (hI.rng k hk4') (fun i hi _ g hg he => by
                          have h1 := hv.lt g hg
                          have h2 := (hI1.row i hi).lt g he
                          omega)).putT ht4 (P k).isSome
                        refine ⟨upd P t q, upd H t v, upd X t (X k), upd Y t (Y k), ?_, fun i hi r hr => ?_, fun i hi => ?_, (hB3.setCell (by simp; omega) _).setCell (by simp; omega) _⟩
                        · have e : (upd (fun k => (P k).isSome) t (P k).isSome) = fun i => (upd P t q i).isSome := by
                            funext i
                            unfold upd
                            split
                            · exact hqs.symm
                            · rfl
                          rw [e] at hI3
                          exact hI3
                        · by_cases hit : i = t
                          · subst hit
                            rw [upd_same] at hr
                            rw [upd_same, upd_same]
                            rw [hr] at hqs
                            cases hPk : P k with
                            | none => rw [hPk] at hqs; cases hqs
                            | some r0 => exact hXY k hk4' r0 hPk
                          · rw [upd_other _ _ _ _ hit] at hr
                            rw [upd_other _ _ _ _ hit, upd_other _ _ _ _ hit]
                            exact hXY i hi r hr
                        · by_cases hit : i = t
                          · subst hit; rw [upd_same]; exact Nat.le_trans (hYl k hk4') (tot_le BN j)
                          · rw [upd_other _ _ _ _ hit]; exact Nat.le_trans (hYl i hi) (tot_le BN j)
                      cases hPk : P k with
                      | none =>
                        rw [hPk] at fin
                        have cS : wr.cell? ⟨G, k, none⟩ = some (.pointer none) := by have h := cS0; rw [hPk] at h; exact h
                        go_wp2_with fail
                        go_at_call 16
                        refine (hp1 wr).mono ?_
                        rintro e w' ⟨rfl, rfl⟩
                        go_wp2_with fail
                        go_at_call 16
                        refine (hp2 wr).mono ?_
                        rintro e w' ⟨rfl, rfl⟩
                        go_wp2_with fail
                        go_at_call 19
                        refine (copy_nil wr).mono ?_
                        rintro e w1 ⟨rfl, rfl⟩
                        have hb1 := Below.refl wr.heap.size wr
                        have hI1 := hI.next hb1
                        have cSt := hI1.s.cell t ht4
                        have fSt := hI1.s.fz t
                        have hr2 : Row4 (wr.setCell ⟨G, t, none⟩ (.pointer none)) G 33 _ := hI1.s.set t ht4 (.pointer none)
                        have cS2 := hr2.cell t ht4
                        rw [upd_same] at cS2
                        have ho2 := On.setCell wr ⟨G, t, none⟩ (.pointer none)
                        have cT2 := (hI1.t.on ho2 (block_ne hI1.t hI1.s (by decide))).cell k hk4'
                        rw [hPk] at cT2
                        have cT2' : (wr.setCell ⟨G, t, none⟩ (.pointer none)).cell? ⟨G + 1, k, none⟩ = some (.bool false) := cT2
                        have cH2 := (hI1.h.on ho2 (block_ne hI1.h hI1.s (by decide))).cell k hk4'
                        rw [hHv] at cH2
                        have hHs2 : Shows (wr.setCell ⟨G, t, none⟩ (.pointer none)) ha (Y k).length (Y k) := by
                          obtain ⟨ha', hc'', e1, h1, _⟩ := own_shape ((row_far ((hI1.row k hk4')) (fun q hq _ => ho2.block q hq) hI1.s (by decide)) : (wr.setCell ⟨G, t, none⟩ (.pointer none)).ownsRow w.heap.size 5 1 (H k) (Y k).length (u8s (Y k))) (hI.rng k hk4')
                          rw [hHv] at e1
                          cases e1
                          exact h1
                        have fin2 := fun w3 v => fin none wr w3 v rfl hb1 (fun r' h => by cases h)
                        obtain ⟨w2, ew2⟩ : ∃ x, x = wr.setCell ⟨G, t, none⟩ (.pointer none) := ⟨_, rfl⟩
                        have fin3 : ∀ w3 v, w3.ownsRow w2.heap.size 5 1 v (Y k).length (u8s (Y k)) → Below w2.heap.size w2 w3 → _ := fun w3 v h1 h2 => fin2 w3 v (by rw [ew2] at h1; exact h1) (by rw [ew2] at h2; exact h2)
                        have hT2 : Row4 w2 (G + 1) 4 (fun k => .bool (P k).isSome) := by rw [ew2]; exact hI1.t.on ho2 (block_ne hI1.t hI1.s (by decide))
                        have hH2 : Row4 w2 (G + 1 + 1) 22 H := by rw [ew2]; exact hI1.h.on ho2 (block_ne hI1.h hI1.s (by decide))
                        go_wp2_with fail
                        rw [← ew2] at cS2 cT2 cT2' cH2 hHs2
                        rw [← ew2]
                        clear ew2 fin fin2
                        go_quiet (fail)
                        go_wp2_with fail
                        go_at_call 20
                        refine (copyBytes_any ha _ hc' (Y k) (w2.drewN nq) ⟨hHs2.len, hHs2.bare, hHs2.cell, hHs2.rng⟩ hHn hlY).mono ?_
                        rintro e w3 ⟨v, rfl, hv, hb3'⟩
                        have hb3 : Below w2.heap.size w2 w3 := (below_drewN0 w2 nq).trans hb3'
                        obtain ⟨va, vc, rfl, _⟩ := own_shape hv (hI.rng k hk4')
                        have cH3 := (hH2.next hb3).cell t ht4
                        have fH3 := (hH2.next hb3).fz t
                        have hH3 := hH2.next hb3
                        have hT3 := (hT2.next hb3).on (On.setCell w3 ⟨G + 1 + 1, t, none⟩ (.slice va (Y k).length vc)) (by show G + 1 ≠ G + 1 + 1; omega)
                        have cT3k : (w3.setCell ⟨G + 1 + 1, t, none⟩ (.slice va (Y k).length vc)).cell? ⟨G + 1, k, none⟩ = some (.bool false) := by have h := hT3.cell k hk4'; rw [hPk] at h; exact h
                        have cT3t := hT3.cell t ht4
                        have fT3t := hT3.fz t
                        obtain ⟨P', H', X', Y', f1, f2, f3, f4⟩ := fin3 w3 _ hv hb3
                        go_wp2
                        exact ⟨⟨j + 1, P', H', X', Y', by omega, by go_num, f1, f2, f3, f4⟩, by simp [intOf]; omega⟩
                      | some r0 =>
                        rw [hPk] at fin
                        have cS : wr.cell? ⟨G, k, none⟩ = some (.pointer (some ⟨r0, 0, none⟩)) := by have h := cS0; rw [hPk] at h; exact h
                        obtain ⟨_, s0, b0, hS0, hH0⟩ := hI.st k hk4' r0 hPk
                        go_wp2_with fail
                        go_at_call 16
                        refine (hp1 wr).mono ?_
                        rintro e w' ⟨rfl, rfl⟩
                        go_wp2_with fail
                        go_at_call 16
                        refine (hp2 wr).mono ?_
                        rintro e w' ⟨rfl, rfl⟩
                        go_wp2_with fail
                        go_at_call 19
                        refine (copy_any r0 s0 b0 _ wr hS0).mono ?_
                        rintro e w1 ⟨r1, rfl, hr1, hS1, hb1⟩
                        have hI1 := hI.next hb1
                        have cSt := hI1.s.cell t ht4
                        have fSt := hI1.s.fz t
                        have hr2 : Row4 (w1.setCell ⟨G, t, none⟩ (.pointer (some ⟨r1, 0, none⟩))) G 33 _ := hI1.s.set t ht4 (.pointer (some ⟨r1, 0, none⟩))
                        have cS2 := hr2.cell t ht4
                        rw [upd_same] at cS2
                        have ho2 := On.setCell w1 ⟨G, t, none⟩ (.pointer (some ⟨r1, 0, none⟩))
                        have cT2 := (hI1.t.on ho2 (block_ne hI1.t hI1.s (by decide))).cell k hk4'
                        rw [hPk] at cT2
                        have cT2' : (w1.setCell ⟨G, t, none⟩ (.pointer (some ⟨r1, 0, none⟩))).cell? ⟨G + 1, k, none⟩ = some (.bool true) := cT2
                        have cH2 := (hI1.h.on ho2 (block_ne hI1.h hI1.s (by decide))).cell k hk4'
                        rw [hHv] at cH2
                        have hHs2 : Shows (w1.setCell ⟨G, t, none⟩ (.pointer (some ⟨r1, 0, none⟩))) ha (Y k).length (Y k) := by
                          obtain ⟨ha', hc'', e1, h1, _⟩ := own_shape ((row_far ((hI1.row k hk4')) (fun q hq _ => ho2.block q hq) hI1.s (by decide)) : (w1.setCell ⟨G, t, none⟩ (.pointer (some ⟨r1, 0, none⟩))).ownsRow w.heap.size 5 1 (H k) (Y k).length (u8s (Y k))) (hI.rng k hk4')
                          rw [hHv] at e1
                          cases e1
                          exact h1
                        have fin2 := fun w3 v => fin (some r1) w1 w3 v rfl hb1 (fun r' h => by cases h; exact ⟨hr1, s0, b0, hS1, hH0⟩)
                        obtain ⟨w2, ew2⟩ : ∃ x, x = w1.setCell ⟨G, t, none⟩ (.pointer (some ⟨r1, 0, none⟩)) := ⟨_, rfl⟩
                        have fin3 : ∀ w3 v, w3.ownsRow w2.heap.size 5 1 v (Y k).length (u8s (Y k)) → Below w2.heap.size w2 w3 → _ := fun w3 v h1 h2 => fin2 w3 v (by rw [ew2] at h1; exact h1) (by rw [ew2] at h2; exact h2)
                        have hT2 : Row4 w2 (G + 1) 4 (fun k => .bool (P k).isSome) := by rw [ew2]; exact hI1.t.on ho2 (block_ne hI1.t hI1.s (by decide))
                        have hH2 : Row4 w2 (G + 1 + 1) 22 H := by rw [ew2]; exact hI1.h.on ho2 (block_ne hI1.h hI1.s (by decide))
                        go_wp2_with fail
                        rw [← ew2] at cS2 cT2 cT2' cH2 hHs2
                        rw [← ew2]
                        clear ew2 fin fin2
                        go_quiet (fail)
                        go_wp2_with fail
                        go_at_call 20
                        refine (copyBytes_any ha _ hc' (Y k) (w2.drewN nq) ⟨hHs2.len, hHs2.bare, hHs2.cell, hHs2.rng⟩ hHn hlY).mono ?_
                        rintro e w3 ⟨v, rfl, hv, hb3'⟩
                        have hb3 : Below w2.heap.size w2 w3 := (below_drewN0 w2 nq).trans hb3'
                        obtain ⟨va, vc, rfl, _⟩ := own_shape hv (hI.rng k hk4')
                        have cH3 := (hH2.next hb3).cell t ht4
                        have fH3 := (hH2.next hb3).fz t
                        have hH3 := hH2.next hb3
                        have hT3 := (hT2.next hb3).on (On.setCell w3 ⟨G + 1 + 1, t, none⟩ (.slice va (Y k).length vc)) (by show G + 1 ≠ G + 1 + 1; omega)
                        have cT3k : (w3.setCell ⟨G + 1 + 1, t, none⟩ (.slice va (Y k).length vc)).cell? ⟨G + 1, k, none⟩ = some (.bool true) := by have h := hT3.cell k hk4'; rw [hPk] at h; exact h
                        have cT3t := hT3.cell t ht4
                        have fT3t := hT3.fz t
                        obtain ⟨P', H', X', Y', f1, f2, f3, f4⟩ := fin3 w3 _ hv hb3
                        go_wp2
                        exact ⟨⟨j + 1, P', H', X', Y', by omega, by go_num, f1, f2, f3, f4⟩, by simp [intOf]; omega⟩
                      --K3END
                    · by_cases hk4 : kd = 4
                      · subst hk4
                        go_wp2_with fail
                        go_at_call 16
                        refine (hp1 wr).mono ?_
                        rintro e w' ⟨rfl, rfl⟩
                        go_wp2_with fail
                        go_at_call 16
                        refine (hp2 wr).mono ?_
                        rintro e w' ⟨rfl, rfl⟩
                        go_wp2_with fail
                        go_at_call 15
                        refine (new_any wr (hT.later hbr hT.sz)).mono ?_
                        rintro e w1 ⟨r, rfl, hr1, hS1, hb1⟩
                        have hI1 := hI.next hb1
                        have cS := hI1.s.cell k hk4'
                        have fS := hI1.s.fz k
                        have cT := hI1.t.cell k hk4'
                        have fT := hI1.t.fz k
                        have cH := hI1.h.cell k hk4'
                        have fH := hI1.h.fz k
                        have hB1 : Below w.heap.size w w1 := hbr.trans (hb1.mono hbr.size)
                        have hI2 := hI1.putS hk4' (some r) [] (fun q hq => by
                          cases hq
                          refine ⟨Nat.le_trans hbr.size hr1, ⟨H0, _, hS1, hold_new⟩, fun i hi _ he => ?_⟩
                          obtain ⟨_, s, b, hs, _⟩ := hI.st i hi r he
                          have := hs.lt
                          omega)
                        have hI3 := (hI2.putH hk4' (.slice none 0 0) [] (World.ownsRow_nil _ _ _ _) (by simp) (fun i hi _ g hg => by cases hg)).putT hk4' true
                        go_wp2
                        refine ⟨⟨j + 1, upd P k (some r), upd H k (.slice none 0 0), upd X k [], upd Y k [], by omega, by go_num, ?_, fun i hi q hq => ?_, fun i hi => ?_, ((hB1.setCell (by simp; omega) _).setCell (by simp; omega) _).setCell (by simp; omega) _⟩, by simp [intOf]; omega⟩
                        · have e : (upd (fun k => (P k).isSome) k true) = fun i => (upd P k (some r) i).isSome := by
                            funext i
                            unfold upd
                            split <;> rfl
                          rw [e] at hI3
                          exact hI3
                        · by_cases hik : i = k
                          · subst hik; rw [upd_same, upd_same]
                          · rw [upd_other _ _ _ _ hik] at hq
                            rw [upd_other _ _ _ _ hik, upd_other _ _ _ _ hik]
                            exact hXY i hi q hq
                        · by_cases hik : i = k
                          · subst hik; rw [upd_same]; simp
                          · rw [upd_other _ _ _ _ hik]; exact Nat.le_trans (hYl i hi) (tot_le BN j)
                      · have b1 : (kd == 1) = false := by simp [hk1]
                        have b2 : (kd == 2) = false := by simp [hk2]
                        have b3 : (kd == 3) = false := by simp [hk3]
                        have b4 : (kd == 4) = false := by simp [hk4]
                        go_wp2_with fail
                        go_at_call 16
                        refine (hp1 wr).mono ?_
                        rintro e w' ⟨rfl, rfl⟩
                        go_wp2_with fail
                        go_at_call 16
                        refine (hp2 wr).mono ?_
                        rintro e w' ⟨rfl, rfl⟩
                        go_wp2
                        exact ⟨⟨j + 1, P, H, X, Y, by omega, by go_num, hI, hXY, fun k hk => Nat.le_trans (hYl k hk) (tot_le BN j), hbr⟩, by simp [intOf]; omega⟩
              · have hjn : n = j := by omega
                subst hjn
                clear hI hXY hYl
                go_wp2_with (go_at_call 8; refine (works_any wr (hT.later hbr hT.sz)).mono ?_; rintro e w' ⟨rfl, hb⟩)
                go_ret
                exact ⟨rfl, hbr.trans (hb.mono hbr.size)⟩
end Go.Proofs.YtmnembhcfkcmnaaDoor
