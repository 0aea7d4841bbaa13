/- Copies of bytes are new memory that holds the same bytes, and two lists of bytes are compared by what they hold. -/
import Derived.Test.YtjhkicfndbceoaaRows
import Derived.WalkKit
import Derived.WalkSpells
import Derived.WalkLawsBesides
import Derived.Laws.AppendOwnNone
import Derived.Laws.CopyOwn
namespace Go.Proofs.Ytjhkicfndbceoaa
open Go.RowKit

theorem Try.info5 : (Try.prog.info? 5).map (fun i => (i.zero, i.size, i.bytes)) = some (some (.int .u8 0), 1, 1) := by kernel_rfl

/-- In the world w a slice at ao, of length n, shows the bytes xs. -/
structure Shows (w : World) (ao : Option Addr) (n : Nat) (xs : List Int) : Prop where
  len : xs.length = n
  bare : ao = none → n = 0
  cell : ∀ ad, ao = some ad → ∀ j, j < n → w.cell? (ad.add j) = some (.int .u8 (xs.getD j 0))
  rng : ∀ x ∈ xs, 0 ≤ x ∧ x ≤ 255

def u8s (xs : List Int) : List Value := xs.map (Value.int .u8)
theorem u8s_length (xs : List Int) : (u8s xs).length = xs.length := by simp [u8s]
theorem u8s_append (xs ys : List Int) : u8s (xs ++ ys) = u8s xs ++ u8s ys := by simp [u8s]

/-- The block g is a row of the bytes xs, none of them frozen. -/
def RowIs (w : World) (g : Nat) (xs : List Int) : Prop := w.heap[g]? = some (.cells (u8s xs).toArray 5 (0, 0))

/-- What is owned is shown. -/
theorem shows_of_own {w : World} {base : Nat} {v : Value} {n : Nat} {xs : List Int} (h : w.ownsRow base 5 1 v n (u8s xs)) (hr : ∀ x ∈ xs, 0 ≤ x ∧ x ≤ 255) :
    ∃ ao c, v = .slice ao n c ∧ Shows w ao n xs ∧ n ≤ c := by
  have h0 := h
  obtain ⟨h1, h2⟩ := h
  have hl : xs.length = n := by simpa [u8s_length] using h1
  rcases h2 with ⟨rfl, rfl⟩ | ⟨g, cap, cur, rfl, hg, hh, hn, hm, hsz, ht⟩
  · exact ⟨none, 0, rfl, ⟨hl, fun _ => rfl, fun ad h => (by cases h), hr⟩, Nat.le_refl _⟩
  · refine ⟨some ⟨g, 0, none⟩, cap, rfl, ⟨hl, fun h => (by cases h), ?_, hr⟩, hn⟩
    intro ad had j hj
    cases had
    have := h0.cellAt j (by omega)
    have hadd : (⟨g, 0, none⟩ : Addr).add j = ⟨g, j, none⟩ := by unfold Addr.add; split <;> simp_all
    rw [hadd, this]
    simp [u8s, List.getD, List.getElem?_eq_getElem (show j < xs.length by omega)]

theorem Shows.later {w w' : World} {ao : Option Addr} {n : Nat} {xs : List Int} (h : Shows w ao n xs) (hb : Below w.heap.size w w') : Shows w' ao n xs :=
  ⟨h.len, h.bare, fun ad had j hj => cell_later hb (h.cell ad had j hj), h.rng⟩

theorem Shows.cells {w : World} {ad : Addr} {n : Nat} {xs : List Int} (h : Shows w (some ad) n xs) : ∀ j u, (u8s xs)[j]? = some u → w.cell? (ad.add j) = some u := by
  intro j u hj
  have hl := h.len
  have hjn : j < xs.length := by
    have := (List.getElem?_eq_some_iff.1 hj).1
    simpa [u8s_length] using this
  rw [h.cell ad rfl j (by omega)]
  simp [u8s, List.getElem?_eq_getElem hjn] at hj
  rw [← hj]
  simp [List.getD, List.getElem?_eq_getElem hjn]

theorem szB : (Try.prog.info? 5).map (·.size) = some 1 := by kernel_rfl

theorem u8s_one (xs : List Int) : ∀ u ∈ u8s xs, u.oneCell' = true := by
  intro u hu; obtain ⟨x, _, rfl⟩ := List.mem_map.1 hu; rfl

/-- 'append(v, x...)', v the call's own, x any bytes. -/
theorem law_append {w : World} {ops : Array Oper} {rest : List Oper} {o : Oper} {a : Act} {Q : Exit → Act → World → Prop} (hgd : o.guard = none) (s x : Operand)
    (ho : o.op = .call { callee := .builtin .append, args := #[s, x], argTypes := #[24, 24] }) (base : Nat) (v : Value) (n : Nat) (xs : List Int) (hv : a.eval s = v) (hown : w.ownsRow base 5 1 v n (u8s xs))
    (ao : Option Addr) (m c : Nat) (ys : List Int) (hx : a.eval x = .slice ao m c) (hs : Shows w ao m ys) (hc : ao = none → c = 0) (hbig : n + m ≤ 140737488355328) (hbase : base ≤ w.heap.size)
    (h : ∀ v' w', w'.ownsRow base 5 1 v' (n + m) (u8s (xs ++ ys)) → w.grownBy w' v.ownBlock → (v' = .slice none 0 0 → v = .slice none 0 0) → wpList Try.prog ops Q rest (a.put o.dst v') w') : wpList Try.prog ops Q (o :: rest) a w := by
  obtain ⟨i0, hi, hz0, hz1, hz2⟩ := info_parts Try.info5
  have hl := hs.len
  cases ao with
  | none =>
    have hm := hs.bare rfl
    have hc0 := hc rfl
    subst hm hc0
    have hy : ys = [] := List.eq_nil_of_length_eq_zero hl
    subst hy
    exact wpList_append_own_none hgd s x 24 ho base 5 i0 1 Try.underlying24 hi v n (u8s xs) hv hown hx (h v w (by simpa using hown) (World.grownBy.refl _ _) id)
  | some ad =>
    refine wpList_append_own w hgd s x 24 ho base 5 i0 (.int .u8 0) 1 1 Try.underlying24 hi hz0 hz1 hz2 rfl (by decide) v n (u8s xs) hv hown ad m c (u8s ys) hx (by simp [u8s_length, hl]) hs.cells (u8s_one ys) (by unfold maxLen; omega) (by omega) hbase ?_
    intro v' w' h1 h2 h3
    exact h v' w' (by rw [u8s_append]; exact h1) h2 (fun e => (h3.1 e).1)

/-- 'copy(out, x)', out a row of the call's own, as long as x or longer. -/
theorem law_copy {w : World} {ops : Array Oper} {rest : List Oper} {o : Oper} {a : Act} {Q : Exit → Act → World → Prop} (hgd : o.guard = none) (d s : Operand)
    (ho : o.op = .call { callee := .builtin .copy, args := #[d, s], argTypes := #[24, 24] }) (g N : Nat) (cur : List Int) (hd : a.eval d = .slice (some ⟨g, 0, none⟩) N N) (hcur : cur.length = N)
    (HH : RowIs w g cur) (ao : Option Addr) (n c : Nat) (xs : List Int) (hx : a.eval s = .slice ao n c) (hs : Shows w ao n xs) (hn : n ≤ N) (B : Nat) (w0 : World) (HB : Below B w0 w) (hBg : B ≤ g) (res : List Int) (hres : Hid (res = xs ++ cur.drop n))
    (h : ∀ w', RowIs w' g res → Below B w0 w' → wpList Try.prog ops Q rest (a.put o.dst (goInt n)) w') : wpList Try.prog ops Q (o :: rest) a w := by
  have hl := hs.len
  have e1 : (u8s xs).length = n := by simp [u8s_length, hl]
  have e2 : splice (u8s cur) 0 (u8s xs) = u8s (xs ++ cur.drop n) := by simp [splice, u8s, hl]
  refine wpList_copy_splice hgd d s 24 24 ho 5 Try.underlying24 szB _ ao N N n c hd hx g 0 (u8s cur) 5 HH (u8s xs) ?_ ?_ ?_ (u8s_one xs) B w0 HB hBg ?_
  · rw [e1]; exact (Nat.min_eq_left hn).symm
  · intro hp
    refine ⟨rfl, ?_⟩
    cases ao with
    | none => have := hs.bare rfl; omega
    | some ad => exact ⟨ad, rfl, hs.cells⟩
  · simp [u8s_length, hl]; omega
  · intro w' h1 h2
    rw [e2, ← hres.out] at h1
    rw [e1]
    exact h w' h1 h2

theorem made_heap {w : World} {base g N : Nat} (h : w.ownsRow base 5 1 (.slice (some ⟨g, 0, none⟩) N N) N (madeCells #[Value.int .u8 0] N).toList) :
    RowIs w g (List.replicate N 0) := by
  show w.heap[g]? = some (.cells (u8s (List.replicate N 0)).toArray 5 (0, 0))
  obtain ⟨_, h2⟩ := h
  rcases h2 with ⟨h3, _⟩ | ⟨g', cap, cur, h3, hg, hh, hn, hm, hsz, ht⟩
  · cases h3
  · cases h3
    rw [hh]
    have : cur.toList = u8s (List.replicate N 0) := by
      rw [List.take_of_length_le (by simp; omega)] at ht
      rw [ht, toList_madeCells_one]
      simp [u8s]
    rw [← this]

/-- 'make([]byte, N)'. -/
theorem law_make {w : World} {ops : Array Oper} {rest : List Oper} {o : Oper} {a : Act} {Q : Exit → Act → World → Prop} (hg : o.guard = none) (l c : Operand) (hop : o.op = Op.makeSlice 24 l c)
    (L C : Int) (N : Nat) (hl : a.eval l = .int .i64 L) (hc : a.eval c = .int .i64 C) (hL : L = (N : Int)) (hC : C = (N : Int)) (hbig : N ≤ 281474976710656)
    (zs : List Int) (hzs : Hid (zs = List.replicate N 0)) (hK : ∀ w', RowIs w' w.heap.size zs → Below w.heap.size w w' → w.heap.size < w'.heap.size → wpList Try.prog ops Q rest (a.put o.dst (.slice (some ⟨w.heap.size, 0, none⟩) N N)) w') :
    wpList Try.prog ops Q (o :: rest) a w := by
  obtain ⟨i0, hi, hz0, hz1, hz2⟩ := info_parts Try.info5
  refine wpList_make_full w hg l c 24 hop w.heap.size 5 i0 (.int .u8 0) 1 Try.underlying24 hi hz0 hz1 .i64 .i64 L C N hl hc hL hC (by rw [hz2]; omega) (by unfold maxLen; omega) (Nat.le_refl _) ?_
  intro w' h1 h2
  have h1' : w'.ownsRow w.heap.size 5 1 (.slice (some ⟨w.heap.size, 0, none⟩) N N) N (madeCells #[Value.int .u8 0] N).toList := by rw [Nat.mul_one] at h1; exact h1
  have hh := made_heap h1'
  rw [← hzs.out] at hh
  exact hK w' hh ((Below.refl _ w).grown h2 (Nat.le_refl _) (by intro k hk; cases hk)) (lt_of_block hh)

set_option maxHeartbeats 400000 in
set_option maxRecDepth 100000 in
theorem copyBytes_any (ao : Option Addr) (n c : Nat) (xs : List Int) (w : World) (hs : Shows w ao n xs) (hc : ao = none → c = 0) (hbig : n ≤ 140737488355328) :
    Calls Try.prog 17 #[.slice ao n c] w fun e w' => ∃ v, e = .returned v ∧ w'.ownsRow w.heap.size 5 1 v n (u8s xs) ∧ Below w.heap.size w w' := by
  obtain ⟨i0, hi, hz0, hz1, hz2⟩ := info_parts Try.info5
  have hl := hs.len
  cases ao with
  | none =>
    have hn0 := hs.bare rfl
    subst hn0
    have hc0 := hc rfl
    subst hc0
    have hx : xs = [] := List.eq_nil_of_length_eq_zero hl
    subst hx
    go_enter Try.func17, Try.ntmps17
    go_wp2_with (at_builtin; refine wpList_append_own_none rfl _ _ 24 rfl w.heap.size 5 i0 1 Try.underlying24 hi _ _ _ rfl (World.ownsRow_nil _ _ _ _) rfl ?_)
    go_ret
    exact ⟨_, rfl, World.ownsRow_nil _ _ _ _, Below.refl _ _⟩
  | some ad =>
    have HL : Hid (xs.length = n) := hl
    clear hl
    go_enter Try.func17, Try.ntmps17
    go_wp2_with (at_builtin; refine wpList_append_own _ rfl _ _ 24 rfl w.heap.size 5 i0 (.int .u8 0) 1 1 Try.underlying24 hi hz0 hz1 hz2 rfl (by decide) _ _ _ rfl (World.ownsRow_nil _ _ _ _) ad n c (u8s xs) rfl ?qc1 ?qc2 ?qc3 ?qc4 ?qc5 ?qc6 ?_)
    case qc1 => have := HL.out; simp [u8s_length]; omega
    case qc2 =>
      intro j u hj
      exact hs.cells j u hj
    case qc3 => intro u hu; obtain ⟨x, _, rfl⟩ := List.mem_map.1 hu; rfl
    case qc4 => unfold maxLen; omega
    case qc5 => omega
    case qc6 => simp
    intro v' w1 hown hgrow hnil
    go_wp2
    go_ret
    refine ⟨v', rfl, by simpa using hown, ?_⟩
    exact (Below.refl _ w).grown hgrow (by simp) (by intro k hk; simp [Value.ownBlock] at hk)

/-- What 'string(b)' makes of a slice. -/
theorem run_string_of (ao : Option Addr) (n c : Nat) (xs : List Int) (w : World) (hs : Shows w ao n xs) :
    (convert 24 9 (.slice ao n c)).run Try.prog w = .ok (.string (strOfNums xs)) w := by
  cases ao with
  | none =>
    have hn0 := hs.bare rfl
    have hl := hs.len
    subst hn0
    have hx : xs = [] := List.eq_nil_of_length_eq_zero hl
    subst hx
    exact run_convert_bytes_nil w 24 5 Try.underlying24 Try.underlying5 0 c 9 Try.underlying9
  | some ad =>
    rw [run_convert_bytes_string w 24 9 5 _ n c Try.underlying24 Try.underlying5 Try.underlying9]
    have hl := run_loadCells_list (P := Try.prog) w ad (u8s xs) hs.cells
    have hlen : (u8s xs).length = n := by simpa [u8s_length] using hs.len
    rw [hlen] at hl
    rw [run_bytesToString w ad n c xs hl, foldl_push_bytes]
    simp [strOfNums, ByteArray.empty, ByteArray.emptyWithCapacity]
    rfl

theorem strOfNums_inj {xs ys : List Int} (hx : ∀ x ∈ xs, 0 ≤ x ∧ x ≤ 255) (hy : ∀ x ∈ ys, 0 ≤ x ∧ x ≤ 255) (h : strOfNums xs = strOfNums ys) : xs = ys := by
  have h1 : (xs.map fun n => UInt8.ofNat n.toNat) = (ys.map fun n => UInt8.ofNat n.toNat) := by
    have := congrArg (fun s => s.data.toList) h
    simpa [strOfNums] using this
  clear h
  induction xs generalizing ys with
  | nil => cases ys with
    | nil => rfl
    | cons y ys => simp at h1
  | cons x xs ih => cases ys with
    | nil => simp at h1
    | cons y ys =>
      simp only [List.map_cons, List.cons.injEq] at h1
      have a := hx x (by simp)
      have b := hy y (by simp)
      have e : (UInt8.ofNat x.toNat).toNat = (UInt8.ofNat y.toNat).toNat := by rw [h1.1]
      simp only [UInt8.toNat_ofNat'] at e
      have e2 : x = y := by omega
      rw [e2, ih (fun z hz => hx z (by simp [hz])) (fun z hz => hy z (by simp [hz])) h1.2]

theorem strEq_iff {xs ys : List Int} (hx : ∀ x ∈ xs, 0 ≤ x ∧ x ≤ 255) (hy : ∀ x ∈ ys, 0 ≤ x ∧ x ≤ 255) : ((strOfNums xs).toList == (strOfNums ys).toList) = decide (xs = ys) := by
  by_cases h : xs = ys
  · subst h; simp
  · have : (strOfNums xs).toList ≠ (strOfNums ys).toList := fun e => h (strOfNums_inj hx hy (ByteArray.ext (by
      have e2 := congrArg (fun l => (⟨l.toArray⟩ : ByteArray)) e
      simpa [ByteArray.toList_eq] using e2)))
    simp [h, this]

set_option maxHeartbeats 400000 in
theorem eqBytes_any (ao bo : Option Addr) (n m c d : Nat) (xs ys : List Int) (w : World) (hx : Shows w ao n xs) (hy : Shows w bo m ys) :
    Calls Try.prog 12 #[.slice ao n c, .slice bo m d] w fun e w' => e = .returned (.bool (decide (xs = ys))) ∧ w = w' := by
  have k1 := run_string_of ao n c xs w hx
  have k2 := run_string_of bo m d ys w hy
  go_enter Try.func12, Try.ntmps12
  go_wp2
  go_ret
  exact ⟨by rw [← strEq_iff hx.rng hy.rng]; rfl, rfl⟩

end Go.Proofs.Ytjhkicfndbceoaa
