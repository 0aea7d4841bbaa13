import Derived.Test.YtndfhmlcfaaaiaaGreatDoorUni
import Derived.Laws.AppendOwnNone
import Derived.Laws.CopyOwn
import Derived.Laws.BitsAllLaws
/- Copies of bytes are new memory that holds the same bytes, and two lists of bytes are compared by what they hold. -/
namespace Go.Proofs.YtndfhmlcfaaaiaaGreatDoor
open Go.RowKit

theorem Tryz.info5 : (Tryz.prog.info? 5).map (fun i => (i.zero, i.size, i.bytes)) = some (some (.int .u8 0), 1, 1) := by kernel_rfl

/-- In the world w a slice at ao, of length n, shows the bytes xs. -/
structure Shows (w : World) (ao : Option Addr) (n : Nat) (xs : List Int) : Prop where
  len : xs.length = n
  bare : ao = none → n = 0
  cell : ∀ ad, ao = some ad → ∀ j, j < n → w.cell? (ad.add j) = some (.int .u8 (xs.getD j 0))
  rng : ∀ x ∈ xs, 0 ≤ x ∧ x ≤ 255

def u8s (xs : List Int) : List Value := xs.map (Value.int .u8)
theorem u8s_length (xs : List Int) : (u8s xs).length = xs.length := by simp [u8s]
theorem u8s_append (xs ys : List Int) : u8s (xs ++ ys) = u8s xs ++ u8s ys := by simp [u8s]

/-- The block g is a row of the bytes xs, none of them frozen. -/
def RowIs (w : World) (g : Nat) (xs : List Int) : Prop := w.heap[g]? = some (.cells (u8s xs).toArray 5 (0, 0))

/-- What is owned is shown. -/
theorem shows_of_own {w : World} {base : Nat} {v : Value} {n : Nat} {xs : List Int} (h : w.ownsRow base 5 1 v n (u8s xs)) (hr : ∀ x ∈ xs, 0 ≤ x ∧ x ≤ 255) :
    ∃ ao c, v = .slice ao n c ∧ Shows w ao n xs ∧ n ≤ c := by
  have h0 := h
  obtain ⟨h1, h2⟩ := h
  have hl : xs.length = n := by simpa [u8s_length] using h1
  rcases h2 with ⟨rfl, rfl⟩ | ⟨g, cap, cur, rfl, hg, hh, hn, hm, hsz, ht⟩
  · exact ⟨none, 0, rfl, ⟨hl, fun _ => rfl, fun ad h => (by cases h), hr⟩, Nat.le_refl _⟩
  · refine ⟨some ⟨g, 0, none⟩, cap, rfl, ⟨hl, fun h => (by cases h), ?_, hr⟩, hn⟩
    intro ad had j hj
    cases had
    have := h0.cellAt j (by omega)
    have hadd : (⟨g, 0, none⟩ : Addr).add j = ⟨g, j, none⟩ := by unfold Addr.add; split <;> simp_all
    rw [hadd, this]
    simp [u8s, List.getD, List.getElem?_eq_getElem (show j < xs.length by omega)]

theorem Shows.later {w w' : World} {ao : Option Addr} {n : Nat} {xs : List Int} (h : Shows w ao n xs) (hb : Below w.heap.size w w') : Shows w' ao n xs :=
  ⟨h.len, h.bare, fun ad had j hj => cell_later hb (h.cell ad had j hj), h.rng⟩

theorem Shows.cells {w : World} {ad : Addr} {n : Nat} {xs : List Int} (h : Shows w (some ad) n xs) : ∀ j u, (u8s xs)[j]? = some u → w.cell? (ad.add j) = some u := by
  intro j u hj
  have hl := h.len
  have hjn : j < xs.length := by
    have := (List.getElem?_eq_some_iff.1 hj).1
    simpa [u8s_length] using this
  rw [h.cell ad rfl j (by omega)]
  simp [u8s, List.getElem?_eq_getElem hjn] at hj
  rw [← hj]
  simp [List.getD, List.getElem?_eq_getElem hjn]

theorem sz5 : (Tryz.prog.info? 5).map (·.size) = some 1 := by kernel_rfl

theorem u8s_one (xs : List Int) : ∀ u ∈ u8s xs, u.oneCell' = true := by
  intro u hu; obtain ⟨x, _, rfl⟩ := List.mem_map.1 hu; rfl

/-- 'append(v, x...)', v the call's own, x any bytes. -/
theorem law_append {w : World} {ops : Array Oper} {rest : List Oper} {o : Oper} {a : Act} {Q : Exit → Act → World → Prop} (hgd : o.guard = none) (s x : Operand)
    (ho : o.op = .call { callee := .builtin .append, args := #[s, x], argTypes := #[151, 151] }) (base : Nat) (v : Value) (n : Nat) (xs : List Int) (hv : a.eval s = v) (hown : w.ownsRow base 5 1 v n (u8s xs))
    (ao : Option Addr) (m c : Nat) (ys : List Int) (hx : a.eval x = .slice ao m c) (hs : Shows w ao m ys) (hc : ao = none → c = 0) (hbig : n + m ≤ 140737488355328) (hbase : base ≤ w.heap.size)
    (h : ∀ v' w', w'.ownsRow base 5 1 v' (n + m) (u8s (xs ++ ys)) → w.grownBy w' v.ownBlock → (v' = .slice none 0 0 → v = .slice none 0 0) → wpList Tryz.prog ops Q rest (a.put o.dst v') w') : wpList Tryz.prog ops Q (o :: rest) a w := by
  obtain ⟨i0, hi, hz0, hz1, hz2⟩ := info_parts Tryz.info5
  have hl := hs.len
  cases ao with
  | none =>
    have hm := hs.bare rfl
    have hc0 := hc rfl
    subst hm hc0
    have hy : ys = [] := List.eq_nil_of_length_eq_zero hl
    subst hy
    exact wpList_append_own_none hgd s x 151 ho base 5 i0 1 Tryz.underlying151 hi v n (u8s xs) hv hown hx (h v w (by simpa using hown) (World.grownBy.refl _ _) id)
  | some ad =>
    refine wpList_append_own w hgd s x 151 ho base 5 i0 (.int .u8 0) 1 1 Tryz.underlying151 hi hz0 hz1 hz2 rfl (by decide) v n (u8s xs) hv hown ad m c (u8s ys) hx (by simp [u8s_length, hl]) hs.cells (u8s_one ys) (by unfold maxLen; omega) (by omega) hbase ?_
    intro v' w' h1 h2 h3
    exact h v' w' (by rw [u8s_append]; exact h1) h2 (fun e => (h3.1 e).1)

/-- 'copy(out, x)', out a row of the call's own, as long as x or longer. -/
theorem law_copy {w : World} {ops : Array Oper} {rest : List Oper} {o : Oper} {a : Act} {Q : Exit → Act → World → Prop} (hgd : o.guard = none) (d s : Operand)
    (ho : o.op = .call { callee := .builtin .copy, args := #[d, s], argTypes := #[151, 151] }) (g N : Nat) (cur : List Int) (hd : a.eval d = .slice (some ⟨g, 0, none⟩) N N) (hcur : cur.length = N)
    (HH : RowIs w g cur) (ao : Option Addr) (n c : Nat) (xs : List Int) (hx : a.eval s = .slice ao n c) (hs : Shows w ao n xs) (hn : n ≤ N) (B : Nat) (w0 : World) (HB : Below B w0 w) (hBg : B ≤ g) (res : List Int) (hres : Hid (res = xs ++ cur.drop n))
    (h : ∀ w', RowIs w' g res → Below B w0 w' → wpList Tryz.prog ops Q rest (a.put o.dst (goInt n)) w') : wpList Tryz.prog ops Q (o :: rest) a w := by
  have hl := hs.len
  have e1 : (u8s xs).length = n := by simp [u8s_length, hl]
  have e2 : splice (u8s cur) 0 (u8s xs) = u8s (xs ++ cur.drop n) := by simp [splice, u8s, hl]
  refine wpList_copy_splice hgd d s 151 151 ho 5 Tryz.underlying151 sz5 _ ao N N n c hd hx g 0 (u8s cur) 5 HH (u8s xs) ?_ ?_ ?_ (u8s_one xs) B w0 HB hBg ?_
  · rw [e1]; exact (Nat.min_eq_left hn).symm
  · intro hp
    refine ⟨rfl, ?_⟩
    cases ao with
    | none => have := hs.bare rfl; omega
    | some ad => exact ⟨ad, rfl, hs.cells⟩
  · simp [u8s_length, hl]; omega
  · intro w' h1 h2
    rw [e2, ← hres.out] at h1
    rw [e1]
    exact h w' h1 h2

theorem made_heap {w : World} {base g N : Nat} (h : w.ownsRow base 5 1 (.slice (some ⟨g, 0, none⟩) N N) N (madeCells #[Value.int .u8 0] N).toList) :
    RowIs w g (List.replicate N 0) := by
  show w.heap[g]? = some (.cells (u8s (List.replicate N 0)).toArray 5 (0, 0))
  obtain ⟨_, h2⟩ := h
  rcases h2 with ⟨h3, _⟩ | ⟨g', cap, cur, h3, hg, hh, hn, hm, hsz, ht⟩
  · cases h3
  · cases h3
    rw [hh]
    have : cur.toList = u8s (List.replicate N 0) := by
      rw [List.take_of_length_le (by simp; omega)] at ht
      rw [ht, toList_madeCells_one]
      simp [u8s]
    rw [← this]

/-- 'make([]byte, N)'. -/
theorem law_make {w : World} {ops : Array Oper} {rest : List Oper} {o : Oper} {a : Act} {Q : Exit → Act → World → Prop} (hg : o.guard = none) (l c : Operand) (hop : o.op = Op.makeSlice 151 l c)
    (L C : Int) (N : Nat) (hl : a.eval l = .int .i64 L) (hc : a.eval c = .int .i64 C) (hL : L = (N : Int)) (hC : C = (N : Int)) (hbig : N ≤ 281474976710656)
    (zs : List Int) (hzs : Hid (zs = List.replicate N 0)) (hK : ∀ w', RowIs w' w.heap.size zs → Below w.heap.size w w' → w.heap.size < w'.heap.size → wpList Tryz.prog ops Q rest (a.put o.dst (.slice (some ⟨w.heap.size, 0, none⟩) N N)) w') :
    wpList Tryz.prog ops Q (o :: rest) a w := by
  obtain ⟨i0, hi, hz0, hz1, hz2⟩ := info_parts Tryz.info5
  refine wpList_make_full w hg l c 151 hop w.heap.size 5 i0 (.int .u8 0) 1 Tryz.underlying151 hi hz0 hz1 .i64 .i64 L C N hl hc hL hC (by rw [hz2]; omega) (by unfold maxLen; omega) (Nat.le_refl _) ?_
  intro w' h1 h2
  have h1' : w'.ownsRow w.heap.size 5 1 (.slice (some ⟨w.heap.size, 0, none⟩) N N) N (madeCells #[Value.int .u8 0] N).toList := by rw [Nat.mul_one] at h1; exact h1
  have hh := made_heap h1'
  rw [← hzs.out] at hh
  exact hK w' hh ((Below.refl _ w).grown h2 (Nat.le_refl _) (by intro k hk; cases hk)) (lt_of_block hh)

set_option maxHeartbeats 400000 in
set_option maxRecDepth 100000 in
theorem clone_any (ao : Option Addr) (n c : Nat) (xs : List Int) (w : World) (hs : Shows w ao n xs) (hbig : n ≤ 140737488355328) :
    Calls Tryz.prog 117 #[.slice ao n c] w fun e w' => ∃ v, e = .returned v ∧ w'.ownsRow w.heap.size 5 1 v n (u8s xs) ∧ (v = .slice none 0 0 ↔ ao = none) ∧ Below w.heap.size w w' := by
  have q22 : ∀ (w : World) (a : Option Addr) (n c n' c' : Nat), (binOp .eql 151 (.slice a n c) (.slice none n' c')).run Tryz.prog w = .ok (.bool a.isNone) w := fun w a n c n' c' => Lib.run_eql_slice_nil w _ _ a n c n' c' Tryz.underlying151
  obtain ⟨i0, hi, hz0, hz1, hz2⟩ := info_parts Tryz.info5
  have hl := hs.len
  cases ao with
  | none =>
    have hn0 := hs.bare rfl
    subst hn0
    have hx : xs = [] := List.eq_nil_of_length_eq_zero hl
    subst hx
    go_enter Tryz.func117, Tryz.ntmps117
    go_wp2
    go_ret
    exact ⟨_, rfl, World.ownsRow_nil _ _ _ _, by simp, Below.refl _ _⟩
  | some ad =>
    have HL : Hid (xs.length = n) := hl
    clear hl
    go_enter Tryz.func117, Tryz.ntmps117
    go_wp2_with (at_builtin; refine wpList_append_own _ rfl _ _ 151 rfl w.heap.size 5 i0 (.int .u8 0) 1 1 Tryz.underlying151 hi hz0 hz1 hz2 rfl (by decide) _ _ _ rfl (World.ownsRow_made w #[] 0 (Nat.le_refl _) (Nat.zero_le _) rfl) ad n c (u8s xs) rfl ?qc1 ?qc2 ?qc3 ?qc4 ?qc5 ?qc6 ?_)
    case qc1 => have := HL.out; simp [u8s_length]; omega
    case qc2 =>
      intro j u hj
      exact Lib.cell?_alloc_some _ (hs.cells j u hj)
    case qc3 => intro u hu; obtain ⟨x, _, rfl⟩ := List.mem_map.1 hu; rfl
    case qc4 => unfold maxLen; omega
    case qc5 => omega
    case qc6 => simp
    intro v' w1 hown hgrow hnil
    go_wp2
    go_ret
    refine ⟨v', rfl, by simpa using hown, ?_, ?_⟩
    · simpa using hnil
    · exact ((Below.refl _ w).alloc (Nat.le_refl _) _).grown hgrow (by simp) (by intro k hk; simp [Value.ownBlock] at hk; omega)

/-- What 'string(b)' makes of a slice. -/
theorem run_string_of (ao : Option Addr) (n c : Nat) (xs : List Int) (w : World) (hs : Shows w ao n xs) :
    (convert 151 9 (.slice ao n c)).run Tryz.prog w = .ok (.string (strOfNums xs)) w := by
  cases ao with
  | none =>
    have hn0 := hs.bare rfl
    have hl := hs.len
    subst hn0
    have hx : xs = [] := List.eq_nil_of_length_eq_zero hl
    subst hx
    exact run_convert_bytes_nil w 151 5 Tryz.underlying151 Tryz.underlying5 0 c 9 Tryz.underlying9
  | some ad =>
    rw [run_convert_bytes_string w 151 9 5 _ n c Tryz.underlying151 Tryz.underlying5 Tryz.underlying9]
    have hl := run_loadCells_list (P := Tryz.prog) w ad (u8s xs) hs.cells
    have hlen : (u8s xs).length = n := by simpa [u8s_length] using hs.len
    rw [hlen] at hl
    rw [run_bytesToString w ad n c xs hl, foldl_push_bytes]
    simp [strOfNums, ByteArray.empty, ByteArray.emptyWithCapacity]
    rfl

theorem strOfNums_inj {xs ys : List Int} (hx : ∀ x ∈ xs, 0 ≤ x ∧ x ≤ 255) (hy : ∀ x ∈ ys, 0 ≤ x ∧ x ≤ 255) (h : strOfNums xs = strOfNums ys) : xs = ys := by
  have h1 : (xs.map fun n => UInt8.ofNat n.toNat) = (ys.map fun n => UInt8.ofNat n.toNat) := by
    have := congrArg (fun s => s.data.toList) h
    simpa [strOfNums] using this
  clear h
  induction xs generalizing ys with
  | nil => cases ys with
    | nil => rfl
    | cons y ys => simp at h1
  | cons x xs ih => cases ys with
    | nil => simp at h1
    | cons y ys =>
      simp only [List.map_cons, List.cons.injEq] at h1
      have a := hx x (by simp)
      have b := hy y (by simp)
      have e : (UInt8.ofNat x.toNat).toNat = (UInt8.ofNat y.toNat).toNat := by rw [h1.1]
      simp only [UInt8.toNat_ofNat'] at e
      have e2 : x = y := by omega
      rw [e2, ih (fun z hz => hx z (by simp [hz])) (fun z hz => hy z (by simp [hz])) h1.2]

theorem strEq_iff {xs ys : List Int} (hx : ∀ x ∈ xs, 0 ≤ x ∧ x ≤ 255) (hy : ∀ x ∈ ys, 0 ≤ x ∧ x ≤ 255) : ((strOfNums xs).toList == (strOfNums ys).toList) = decide (xs = ys) := by
  by_cases h : xs = ys
  · subst h; simp
  · have : (strOfNums xs).toList ≠ (strOfNums ys).toList := fun e => h (strOfNums_inj hx hy (ByteArray.ext (by
      have e2 := congrArg (fun l => (⟨l.toArray⟩ : ByteArray)) e
      simpa [ByteArray.toList_eq] using e2)))
    simp [h, this]

end Go.Proofs.YtndfhmlcfaaaiaaGreatDoor


/- The numbers of two, four and eight bytes are put behind any bytes, in new memory. -/
namespace Go.Proofs.YtndfhmlcfaaaiaaGreatDoor
open Go.RowKit

/-- The k lowest bytes of v, the highest first. -/
def be : Nat → Int → List Int
  | 0, _ => []
  | k + 1, v => (v / 256 ^ k) % 256 :: be k v

theorem be_length (k : Nat) (v : Int) : (be k v).length = k := by
  induction k with
  | zero => rfl
  | succ k ih => simp [be, ih]

theorem be_rng (k : Nat) (v : Int) : ∀ x ∈ be k v, 0 ≤ x ∧ x ≤ 255 := by
  induction k with
  | zero => intro x hx; simp [be] at hx
  | succ k ih =>
    intro x hx
    simp only [be, List.mem_cons] at hx
    rcases hx with rfl | hx
    · omega
    · exact ih x hx

theorem own_of_heap {w : World} {base g N : Nat} {xs : List Int} (h : RowIs w g xs) (hl : xs.length = N) (hm : N ≤ maxLen) (hb : base ≤ g) :
    w.ownsRow base 5 1 (.slice (some ⟨g, 0, none⟩) N N) N (u8s xs) :=
  ⟨by simp [u8s_length, hl], .inr ⟨g, N, _, rfl, hb, h, Nat.le_refl _, hm, by simp [u8s_length, hl], List.take_of_length_le (by simp [u8s_length, hl])⟩⟩

theorem set_mid (xs zs ys : List Int) (k : Nat) (y : Int) (hz : zs.length = k + 1) : (xs ++ zs ++ ys).set (xs.length + k) y = xs ++ zs.take k ++ (y :: ys) := by
  induction xs with
  | nil =>
    simp only [List.nil_append, List.length_nil, Nat.zero_add]
    induction zs generalizing k with
    | nil => simp at hz
    | cons z zs ih =>
      cases k with
      | zero =>
        have : zs = [] := List.eq_nil_of_length_eq_zero (by simpa using hz)
        subst this
        simp
      | succ k => simp [ih k (by simpa using hz)]
  | cons x xs ih =>
    have : (x :: xs).length + k = (xs.length + k) + 1 := by simp; omega
    rw [this]
    simp only [List.cons_append, List.set_cons_succ]
    rw [ih]

/-- A number written at the last free place of a row. -/
theorem row_step {w : World} {g n j k : Nat} {xs zs : List Int} {v : Int} (hl : xs.length = n) (hz : zs.length = k + 1)
    (h : RowIs w g (xs ++ zs ++ be j v)) :
    ∃ zs' : List Int, zs'.length = k ∧ RowIs (w.setCell ⟨g, n + k, none⟩ (.int .u8 ((v / 256 ^ j) % 256))) g (xs ++ zs' ++ be (j + 1) v) := by
  refine ⟨zs.take k, by simp; omega, ?_⟩
  unfold RowIs at h ⊢
  rw [heap_setCell_same w g (n + k) _ 5 _ h]
  congr 2
  subst hl
  have := congrArg u8s (set_mid xs zs (be j v) k ((v / 256 ^ j) % 256) hz)
  simp only [u8s, List.map_set] at this
  simp only [be, u8s]
  rw [← this]
  simp


set_option maxHeartbeats 400000 in
set_option maxRecDepth 100000 in
theorem len64_16 (w : World) : Calls Tryz.prog 130 #[.int .u64 65535] w fun e w' => e = .returned (.int .i64 16) ∧ w = w' := by
  go_enter Tryz.func130, Tryz.ntmps130
  go_wp2
  go_ret
  exact ⟨by kernel_rfl, rfl⟩

set_option maxHeartbeats 400000 in
set_option maxRecDepth 100000 in
theorem len64_32 (w : World) : Calls Tryz.prog 130 #[.int .u64 4294967295] w fun e w' => e = .returned (.int .i64 32) ∧ w = w' := by
  go_enter Tryz.func130, Tryz.ntmps130
  go_wp2
  go_ret
  exact ⟨by kernel_rfl, rfl⟩

set_option maxHeartbeats 400000 in
set_option maxRecDepth 100000 in
theorem len64_64 (w : World) : Calls Tryz.prog 130 #[.int .u64 18446744073709551615] w fun e w' => e = .returned (.int .i64 64) ∧ w = w' := by
  go_enter Tryz.func130, Tryz.ntmps130
  go_wp2
  go_ret
  exact ⟨by kernel_rfl, rfl⟩

set_option maxHeartbeats 1000000 in
set_option maxRecDepth 100000 in
theorem put32_any (ao : Option Addr) (n c : Nat) (xs : List Int) (v : Int) (w : World) (hs : Shows w ao n xs) (hbig : n ≤ 140737488355300) (hv0 : 0 ≤ v) (hv1 : v ≤ 4294967295) :
    Calls Tryz.prog 119 #[.slice ao n c, .int .u32 v] w fun e w' => ∃ u, e = .returned u ∧ w'.ownsRow w.heap.size 5 1 u (n + 4) (u8s (xs ++ be 4 v)) ∧ Below w.heap.size w w' := by
  have HL : Hid (xs.length = n) := hs.len
  go_enter Tryz.func119, Tryz.ntmps119
  obtain ⟨cur, HC⟩ : ∃ cur : List Int, Hid (cur = List.replicate (n + 4) 0) := ⟨_, rfl⟩
  have HD : Hid (xs ++ List.replicate 4 0 ++ be 0 v = xs ++ cur.drop n) := by show _ = _; rw [HC.out]; simp [be, List.drop_replicate]
  obtain ⟨row0, HE⟩ : ∃ row0 : List Int, Hid (row0 = xs ++ List.replicate 4 0 ++ be 0 v) := ⟨xs ++ List.replicate 4 0 ++ be 0 v, (rfl : _ = _)⟩
  have HD' : Hid (row0 = xs ++ cur.drop n) := HE.out.trans HD.out
  have HC' : Hid (cur.length = n + 4) := by show _ = _; rw [HC.out]; simp
  go_wp2_with (first | (go_at_call 130; refine (len64_32 _).mono ?_; rintro e w' ⟨rfl, rfl⟩) | (at_make; refine law_make rfl _ _ rfl _ _ (n + 4) rfl rfl (by omega) (by omega) (by omega) cur HC ?_))
  intro w1 HH HB hz1
  have hs1 := hs.later HB
  go_wp2_with (refine law_copy rfl _ _ rfl w.heap.size (n + 4) cur rfl HC'.out HH ao n c xs rfl hs1 (by omega) w.heap.size w HB (Nat.le_refl _) row0 HD' ?_)
  intro w2 HH2 HB2
  rw [HE.out] at HH2
  clear HH HB HC HC' HD HD' HE hs1
  go_wp2
  go_loopw [7, 1] (fun i x wr => ∃ (j : Nat) (q y : Int), j ≤ 4 ∧ i = .int .i64 q ∧ Hid (q = (n : Int) + 3 - j) ∧ x = .int .u32 y ∧ Hid (y = v / 256 ^ j) ∧ ∃ zs : List Int, Hid (zs.length = 4 - j) ∧ RowIs wr w.heap.size (xs ++ zs ++ be j v) ∧ Below w.heap.size w wr) (fun i _ _ => (intOf i + 1 - n).toNat)
  case atStart => exact ⟨0, _, _, by omega, rfl, by show _ = _; simp; try omega, rfl, by show _ = _; simp, List.replicate 4 0, by show _ = _; simp, HH2, HB2⟩
  case round =>
    obtain ⟨j, q, y, hj, rfl, HQ, rfl, HY, zs, HZ, HR, HBr⟩ := hrel
    have hy : 0 ≤ y ∧ y ≤ 4294967295 := by
      have e := HY.out
      have h1 : v / 256 ^ j ≤ v := Int.ediv_le_self _ hv0
      have h2 : 0 ≤ v / 256 ^ j := Int.ediv_nonneg hv0 (by have : (0:Int) < 256 ^ j := Int.pow_pos (by decide); omega)
      omega
    obtain ⟨hy0, hy1⟩ := hy
    by_cases hlt : j < 4
    · obtain ⟨k, hk⟩ : ∃ k : Nat, j + k + 1 = 4 := ⟨3 - j, by omega⟩
      obtain ⟨ix, hix⟩ : ∃ ix : Nat, q = ix := ⟨q.toNat, by have := HQ.out; omega⟩
      subst hix
      have hlo : n ≤ ix := by have := HQ.out; omega
      have hhi : ix < n + 4 := by have := HQ.out; omega
      have hfz : wr.frozen? ⟨w.heap.size, ix, none⟩ = false := frozen_of_row _ _ _ _ _ HR
      have hix2 : ix = n + k := by have := HQ.out; omega
      obtain ⟨cv, hcv⟩ : ∃ cv, wr.cell? ⟨w.heap.size, ix, none⟩ = some cv := by
        have h1 := cell_of_row wr w.heap.size ix _ 5 (0, 0) HR
        have h2 : ix < (u8s (xs ++ zs ++ be j v)).toArray.size := by
          have := HL.out; have := HZ.out; have := be_length j v
          simp [u8s_length]; omega
        exact ⟨_, h1.trans (Array.getElem?_eq_getElem h2)⟩
      have HX : Hid (ix = n + k) := hix2
      have HK : Hid (j + k + 1 = 4) := hk
      clear hix2 hk
      go_wp2
      go_roundw
      case rel =>
        obtain ⟨zs', hz', hrow⟩ := row_step (v := v) HL.out (show zs.length = k + 1 by have := HZ.out; have := HK.out; omega) HR
        refine ⟨j + 1, _, _, by omega, rfl, ?_, rfl, ?_, zs', ?_, ?_, ?_⟩
        · show _ = _; have := HQ.out; omega
        · show _ = _; rw [HY.out, Int.pow_succ, Int.ediv_ediv_of_nonneg (by have : (0 : Int) < 256 ^ j := Int.pow_pos (by decide); omega)]
        · show _ = _; have := HK.out; omega
        · rw [HX.out, HY.out]; exact hrow
        · exact HBr.setCell (Nat.le_refl _) _
      case measure => simp [intOf]; omega
    · have hj2 : j = 4 := by omega
      subst hj2
      have hq : q < n := by have := HQ.out; omega
      go_wp2
      go_ret
      have hzz : zs = [] := List.eq_nil_of_length_eq_zero (by have := HZ.out; omega)
      subst hzz
      have hlen : (xs ++ [] ++ be 4 v).length = n + 4 := by have := HL.out; have := be_length 4 v; simp; omega
      have hown := own_of_heap (base := w.heap.size) HR hlen (by unfold maxLen; omega) (Nat.le_refl _)
      rw [List.append_nil] at hown
      exact ⟨_, rfl, hown, HBr⟩

set_option maxHeartbeats 1000000 in
set_option maxRecDepth 100000 in
theorem put64_any (ao : Option Addr) (n c : Nat) (xs : List Int) (v : Int) (w : World) (hs : Shows w ao n xs) (hbig : n ≤ 140737488355300) (hv0 : 0 ≤ v) (hv1 : v ≤ 18446744073709551615) :
    Calls Tryz.prog 131 #[.slice ao n c, .int .u64 v] w fun e w' => ∃ u, e = .returned u ∧ w'.ownsRow w.heap.size 5 1 u (n + 8) (u8s (xs ++ be 8 v)) ∧ Below w.heap.size w w' := by
  have HL : Hid (xs.length = n) := hs.len
  go_enter Tryz.func131, Tryz.ntmps131
  obtain ⟨cur, HC⟩ : ∃ cur : List Int, Hid (cur = List.replicate (n + 8) 0) := ⟨_, rfl⟩
  have HD : Hid (xs ++ List.replicate 8 0 ++ be 0 v = xs ++ cur.drop n) := by show _ = _; rw [HC.out]; simp [be, List.drop_replicate]
  obtain ⟨row0, HE⟩ : ∃ row0 : List Int, Hid (row0 = xs ++ List.replicate 8 0 ++ be 0 v) := ⟨xs ++ List.replicate 8 0 ++ be 0 v, (rfl : _ = _)⟩
  have HD' : Hid (row0 = xs ++ cur.drop n) := HE.out.trans HD.out
  have HC' : Hid (cur.length = n + 8) := by show _ = _; rw [HC.out]; simp
  go_wp2_with (first | (go_at_call 130; refine (len64_64 _).mono ?_; rintro e w' ⟨rfl, rfl⟩) | (at_make; refine law_make rfl _ _ rfl _ _ (n + 8) rfl rfl (by omega) (by omega) (by omega) cur HC ?_))
  intro w1 HH HB hz1
  have hs1 := hs.later HB
  go_wp2_with (refine law_copy rfl _ _ rfl w.heap.size (n + 8) cur rfl HC'.out HH ao n c xs rfl hs1 (by omega) w.heap.size w HB (Nat.le_refl _) row0 HD' ?_)
  intro w2 HH2 HB2
  rw [HE.out] at HH2
  clear HH HB HC HC' HD HD' HE hs1
  go_wp2
  go_loopw [7, 1] (fun i x wr => ∃ (j : Nat) (q y : Int), j ≤ 8 ∧ i = .int .i64 q ∧ Hid (q = (n : Int) + 7 - j) ∧ x = .int .u64 y ∧ Hid (y = v / 256 ^ j) ∧ ∃ zs : List Int, Hid (zs.length = 8 - j) ∧ RowIs wr w.heap.size (xs ++ zs ++ be j v) ∧ Below w.heap.size w wr) (fun i _ _ => (intOf i + 1 - n).toNat)
  case atStart => exact ⟨0, _, _, by omega, rfl, by show _ = _; simp; try omega, rfl, by show _ = _; simp, List.replicate 8 0, by show _ = _; simp, HH2, HB2⟩
  case round =>
    obtain ⟨j, q, y, hj, rfl, HQ, rfl, HY, zs, HZ, HR, HBr⟩ := hrel
    have hy : 0 ≤ y ∧ y ≤ 18446744073709551615 := by
      have e := HY.out
      have h1 : v / 256 ^ j ≤ v := Int.ediv_le_self _ hv0
      have h2 : 0 ≤ v / 256 ^ j := Int.ediv_nonneg hv0 (by have : (0:Int) < 256 ^ j := Int.pow_pos (by decide); omega)
      omega
    obtain ⟨hy0, hy1⟩ := hy
    by_cases hlt : j < 8
    · obtain ⟨k, hk⟩ : ∃ k : Nat, j + k + 1 = 8 := ⟨7 - j, by omega⟩
      obtain ⟨ix, hix⟩ : ∃ ix : Nat, q = ix := ⟨q.toNat, by have := HQ.out; omega⟩
      subst hix
      have hlo : n ≤ ix := by have := HQ.out; omega
      have hhi : ix < n + 8 := by have := HQ.out; omega
      have hfz : wr.frozen? ⟨w.heap.size, ix, none⟩ = false := frozen_of_row _ _ _ _ _ HR
      have hix2 : ix = n + k := by have := HQ.out; omega
      obtain ⟨cv, hcv⟩ : ∃ cv, wr.cell? ⟨w.heap.size, ix, none⟩ = some cv := by
        have h1 := cell_of_row wr w.heap.size ix _ 5 (0, 0) HR
        have h2 : ix < (u8s (xs ++ zs ++ be j v)).toArray.size := by
          have := HL.out; have := HZ.out; have := be_length j v
          simp [u8s_length]; omega
        exact ⟨_, h1.trans (Array.getElem?_eq_getElem h2)⟩
      have HX : Hid (ix = n + k) := hix2
      have HK : Hid (j + k + 1 = 8) := hk
      clear hix2 hk
      go_wp2
      go_roundw
      case rel =>
        obtain ⟨zs', hz', hrow⟩ := row_step (v := v) HL.out (show zs.length = k + 1 by have := HZ.out; have := HK.out; omega) HR
        refine ⟨j + 1, _, _, by omega, rfl, ?_, rfl, ?_, zs', ?_, ?_, ?_⟩
        · show _ = _; have := HQ.out; omega
        · show _ = _; rw [HY.out, Int.pow_succ, Int.ediv_ediv_of_nonneg (by have : (0 : Int) < 256 ^ j := Int.pow_pos (by decide); omega)]
        · show _ = _; have := HK.out; omega
        · rw [HX.out, HY.out]; exact hrow
        · exact HBr.setCell (Nat.le_refl _) _
      case measure => simp [intOf]; omega
    · have hj2 : j = 8 := by omega
      subst hj2
      have hq : q < n := by have := HQ.out; omega
      go_wp2
      go_ret
      have hzz : zs = [] := List.eq_nil_of_length_eq_zero (by have := HZ.out; omega)
      subst hzz
      have hlen : (xs ++ [] ++ be 8 v).length = n + 8 := by have := HL.out; have := be_length 8 v; simp; omega
      have hown := own_of_heap (base := w.heap.size) HR hlen (by unfold maxLen; omega) (Nat.le_refl _)
      rw [List.append_nil] at hown
      exact ⟨_, rfl, hown, HBr⟩

set_option maxHeartbeats 400000 in
theorem Put32_any (ao : Option Addr) (n c : Nat) (xs : List Int) (v : Int) (w : World) (hs : Shows w ao n xs) (hbig : n ≤ 140737488355300) (hv0 : 0 ≤ v) (hv1 : v ≤ 4294967295) :
    Calls Tryz.prog 109 #[.slice ao n c, .int .u32 v] w fun e w' => ∃ u, e = .returned u ∧ w'.ownsRow w.heap.size 5 1 u (n + 4) (u8s (xs ++ be 4 v)) ∧ Below w.heap.size w w' := by
  go_enter Tryz.func109, Tryz.ntmps109
  go_wp2_with (go_at_call 119; refine (put32_any ao n c xs v w hs hbig hv0 hv1).mono ?_; rintro e w' ⟨u, rfl, h1, h2⟩)
  go_ret
  exact ⟨_, rfl, h1, h2⟩

set_option maxHeartbeats 400000 in
theorem Put64_any (ao : Option Addr) (n c : Nat) (xs : List Int) (v : Int) (w : World) (hs : Shows w ao n xs) (hbig : n ≤ 140737488355300) (hv0 : 0 ≤ v) (hv1 : v ≤ 18446744073709551615) :
    Calls Tryz.prog 115 #[.slice ao n c, .int .u64 v] w fun e w' => ∃ u, e = .returned u ∧ w'.ownsRow w.heap.size 5 1 u (n + 8) (u8s (xs ++ be 8 v)) ∧ Below w.heap.size w w' := by
  go_enter Tryz.func115, Tryz.ntmps115
  go_wp2_with (go_at_call 131; refine (put64_any ao n c xs v w hs hbig hv0 hv1).mono ?_; rintro e w' ⟨u, rfl, h1, h2⟩)
  go_ret
  exact ⟨_, rfl, h1, h2⟩

end Go.Proofs.YtndfhmlcfaaaiaaGreatDoor


/- What a reader answers, and what is left, whatever is asked of it. -/
namespace Go.Proofs.YtndfhmlcfaaaiaaGreatDoor
open Go.RowKit

/-- The reader in block r: the bytes xs are left, at ao; its error is e. -/
structure Rd (w : World) (r : Nat) (ao : Option Addr) (n c : Nat) (xs : List Int) (e : Int) : Prop where
  blk : w.heap[r]? = some (.cells #[.slice ao n c, .int .i64 e] 168 (0, 0))
  sh : Shows w ao n xs
  cap : n ≤ c
  big : c ≤ maxLen
  bare : ao = none → c = 0
  apart : ∀ ad, ao = some ad → ad.block ≠ r

theorem Rd.c0 {w : World} {r : Nat} {ao : Option Addr} {n c : Nat} {xs : List Int} {e : Int} (h : Rd w r ao n c xs e) : w.cell? ⟨r, 0, none⟩ = some (.slice ao n c) := by
  rw [cell_of_row w r 0 _ 168 _ h.blk]; rfl
theorem Rd.c1 {w : World} {r : Nat} {ao : Option Addr} {n c : Nat} {xs : List Int} {e : Int} (h : Rd w r ao n c xs e) : w.cell? ⟨r, 1, none⟩ = some (.int .i64 e) := by
  rw [cell_of_row w r 1 _ 168 _ h.blk]; rfl
theorem Rd.fz {w : World} {r : Nat} {ao : Option Addr} {n c : Nat} {xs : List Int} {e : Int} (h : Rd w r ao n c xs e) (j : Nat) : w.frozen? ⟨r, j, none⟩ = false := frozen_of_row w r j _ 168 h.blk

theorem cell?_of_other {w : World} {a p : Addr} {u : Value} (h : p.block ≠ a.block) : (w.setCell a u).cell? p = w.cell? p := World.cell?_of_block (heap_setCell_other w a p.block u h)

theorem Shows.beside {w : World} {ao : Option Addr} {n : Nat} {xs : List Int} (h : Shows w ao n xs) {a : Addr} (hne : ∀ ad, ao = some ad → ad.block ≠ a.block) (u : Value) : Shows (w.setCell a u) ao n xs :=
  ⟨h.len, h.bare, fun ad had j hj => by
    rw [cell?_of_other (by have := hne ad had; unfold Addr.add; split <;> simpa using this)]
    exact h.cell ad had j hj, h.rng⟩

/-- Behind an error that is set. -/
theorem Rd.fail {w : World} {r : Nat} {ao : Option Addr} {n c : Nat} {xs : List Int} {e : Int} (h : Rd w r ao n c xs e) (f : Int) : Rd (w.setCell ⟨r, 1, none⟩ (.int .i64 f)) r ao n c xs f :=
  ⟨by rw [heap_setCell_same w r 1 _ 168 _ h.blk]; rfl, h.sh.beside (fun ad had => h.apart ad had) _, h.cap, h.big, h.bare, h.apart⟩

/-- Where 'rest[k:]' begins. -/
def fromAt (ao : Option Addr) (c k : Nat) : Option Addr := if c = k then ao else ao.map (·.add k)

theorem add_add (ad : Addr) (i j : Nat) : (ad.add i).add j = ad.add (i + j) := by
  unfold Addr.add
  by_cases hi : i = 0
  · subst hi; simp
  · by_cases hj : j = 0
    · subst hj; simp [hi]
    · simp [hi, hj, Nat.add_assoc]

theorem Shows.drop {w : World} {ao : Option Addr} {n c k : Nat} {xs : List Int} (h : Shows w ao n xs) (hk : k ≤ n) (hc : n ≤ c) : Shows w (fromAt ao c k) (n - k) (xs.drop k) := by
  have hl := h.len
  refine ⟨by simp; omega, ?_, ?_, fun x hx => h.rng x (List.mem_of_mem_drop hx)⟩
  · intro e
    unfold fromAt at e
    split at e
    · omega
    · cases ao with
      | none => have := h.bare rfl; omega
      | some ad => simp at e
  · intro ad had j hj
    unfold fromAt at had
    split at had
    · omega
    · cases ao with
      | none => simp at had
      | some a0 =>
        simp only [Option.map_some, Option.some.injEq] at had
        subst had
        rw [add_add, h.cell a0 rfl (k + j) (by omega)]
        simp [List.getD]

theorem Shows.take {w : World} {ao : Option Addr} {n k : Nat} {xs : List Int} (h : Shows w ao n xs) (hk : k ≤ n) : Shows w ao k (xs.take k) := by
  have hl := h.len
  refine ⟨by simp; omega, fun e => by have := h.bare e; omega, fun ad had j hj => ?_, fun x hx => h.rng x (List.mem_of_mem_take hx)⟩
  rw [h.cell ad had j (by omega)]
  simp [List.getD, hj]

/-- Behind k bytes that were read. -/
theorem Rd.took {w : World} {r : Nat} {ao : Option Addr} {n c : Nat} {xs : List Int} {e : Int} (h : Rd w r ao n c xs e) {k : Nat} (hk : k ≤ n) : Rd (w.setCell ⟨r, 0, none⟩ (.slice (fromAt ao c k) (n - k) (c - k))) r (fromAt ao c k) (n - k) (c - k) (xs.drop k) e := by
  have hap : ∀ ad, fromAt ao c k = some ad → ad.block ≠ r := by
    intro ad had
    unfold fromAt at had
    split at had
    · exact h.apart ad had
    · cases ao with
      | none => simp at had
      | some a0 =>
        simp only [Option.map_some, Option.some.injEq] at had
        subst had
        have := h.apart a0 rfl
        unfold Addr.add
        split <;> simpa using this
  refine ⟨by rw [heap_setCell_same w r 0 _ 168 _ h.blk]; rfl, (h.sh.drop hk h.cap).beside hap _, by have := h.cap; omega, by have := h.big; omega, ?_, hap⟩
  intro e
  unfold fromAt at e
  split at e
  · omega
  · cases ao with
    | none => have := h.bare rfl; omega
    | some a0 => simp at e

set_option maxHeartbeats 400000 in
theorem take_err (r : Nat) (ao : Option Addr) (n c : Nat) (xs : List Int) (e k : Int) (w : World) (h : Rd w r ao n c xs e) (he : (e != 0) = true) :
    Calls Tryz.prog 132 #[.pointer (some ⟨r, 0, none⟩), .int .i64 k] w fun x w' => x = .returned (.slice none 0 0) ∧ w = w' := by
  have c0 := h.c0; have c1 := h.c1; have f0 := h.fz 0; have f1 := h.fz 1
  go_enter Tryz.func132, Tryz.ntmps132
  go_wp2
  go_ret
  exact ⟨rfl, rfl⟩

set_option maxHeartbeats 400000 in
theorem take_neg (r : Nat) (ao : Option Addr) (n c : Nat) (xs : List Int) (k : Int) (w : World) (h : Rd w r ao n c xs 0) (hk : k < 0) :
    Calls Tryz.prog 132 #[.pointer (some ⟨r, 0, none⟩), .int .i64 k] w fun x w' => x = .returned (.slice none 0 0) ∧ w.setCell ⟨r, 1, none⟩ (.int .i64 2) = w' := by
  have c0 := h.c0; have c1 := h.c1; have f0 := h.fz 0; have f1 := h.fz 1
  go_enter Tryz.func132, Tryz.ntmps132
  go_wp2
  go_ret
  exact ⟨rfl, rfl⟩

set_option maxHeartbeats 400000 in
theorem take_short (r : Nat) (ao : Option Addr) (n c : Nat) (xs : List Int) (k : Int) (w : World) (h : Rd w r ao n c xs 0) (hk : (n : Int) < k) :
    Calls Tryz.prog 132 #[.pointer (some ⟨r, 0, none⟩), .int .i64 k] w fun x w' => x = .returned (.slice none 0 0) ∧ w.setCell ⟨r, 1, none⟩ (.int .i64 10) = w' := by
  have c0 := h.c0; have c1 := h.c1; have f0 := h.fz 0; have f1 := h.fz 1
  go_enter Tryz.func132, Tryz.ntmps132
  go_wp2
  go_ret
  exact ⟨rfl, rfl⟩

set_option maxHeartbeats 400000 in
theorem take_ok (r : Nat) (ao : Option Addr) (n c : Nat) (xs : List Int) (k : Nat) (w : World) (h : Rd w r ao n c xs 0) (hk : k ≤ n) :
    Calls Tryz.prog 132 #[.pointer (some ⟨r, 0, none⟩), .int .i64 k] w fun x w' => x = .returned (.slice ao k c) ∧ w.setCell ⟨r, 0, none⟩ (.slice (fromAt ao c k) (n - k) (c - k)) = w' := by
  have c0 := h.c0; have c1 := h.c1; have f0 := h.fz 0; have f1 := h.fz 1
  have hcap := h.cap
  have hbig := h.big
  unfold maxLen at hbig
  go_enter Tryz.func132, Tryz.ntmps132
  go_wp2
  all_goals go_ret
  all_goals (refine ⟨rfl, ?_⟩; simp [fromAt, *])

/-- The number that bytes are, the highest first. -/
def beval (xs : List Int) : Int := xs.foldl (fun a b => 256 * a + b) 0

theorem beval_snoc (xs : List Int) (x : Int) : beval (xs ++ [x]) = 256 * beval xs + x := by simp [beval]

theorem beval_from (xs : List Int) (h : ∀ x ∈ xs, 0 ≤ x ∧ x ≤ 255) : ∀ a : Int, 0 ≤ a → 0 ≤ xs.foldl (fun a b => 256 * a + b) a ∧ xs.foldl (fun a b => 256 * a + b) a + 1 ≤ (a + 1) * 256 ^ xs.length := by
  induction xs with
  | nil => intro a ha; simp; omega
  | cons x xs ih =>
    intro a ha
    have hx := h x (by simp)
    have := ih (fun z hz => h z (by simp [hz])) (256 * a + x) (by omega)
    simp only [List.foldl_cons, List.length_cons]
    refine ⟨this.1, Int.le_trans this.2 ?_⟩
    rw [Int.pow_succ, Int.mul_comm (256 ^ xs.length) 256, ← Int.mul_assoc]
    exact Int.mul_le_mul_of_nonneg_right (by omega) (Int.le_of_lt (Int.pow_pos (by decide)))

theorem beval_bd (xs : List Int) (h : ∀ x ∈ xs, 0 ≤ x ∧ x ≤ 255) : 0 ≤ beval xs ∧ beval xs < 256 ^ xs.length := by
  have := beval_from xs h 0 (by omega)
  unfold beval
  omega

theorem pow256_le (j m : Nat) (h : j ≤ m) : (256 : Int) ^ j ≤ 256 ^ m := by
  have := Nat.pow_le_pow_right (show 0 < 256 by decide) h
  have e1 : ((256 ^ j : Nat) : Int) = (256 : Int) ^ j := Int.natCast_pow 256 j
  have e2 : ((256 ^ m : Nat) : Int) = (256 : Int) ^ m := Int.natCast_pow 256 m
  omega

theorem or_step (y x : Int) (hy0 : 0 ≤ y) (hy1 : y < 72057594037927936) (hx0 : 0 ≤ x) (hx1 : x ≤ 255) : bits .or .u64 (IntKind.u64.wrap (y * 256)) (IntKind.u64.wrap x) = 256 * y + x := by
  rw [IntKind.wrap_u64, IntKind.wrap_u64, Int.emod_eq_of_lt (by omega) (by omega), Int.emod_eq_of_lt (by omega) (by omega)]
  rw [u64_or _ _ (by omega) (by omega) (by omega) (by omega)]
  have e : (y * 256).toNat = 2 ^ 8 * y.toNat := by omega
  rw [e, ← Nat.two_pow_add_eq_or_of_lt (by omega)]
  omega

set_option maxHeartbeats 400000 in
theorem number_of_nil (p : Value) (k : Int) (w w2 : World) (ht : Calls Tryz.prog 132 #[p, .int .i64 k] w fun x w' => x = .returned (.slice none 0 0) ∧ w2 = w') :
    Calls Tryz.prog 118 #[p, .int .i64 k] w fun x w' => x = .returned (.int .u64 0) ∧ w2 = w' := by
  go_enter Tryz.func118, Tryz.ntmps118
  go_wp2_with (go_at_call 132; refine ht.mono ?_; rintro e w' ⟨rfl, rfl⟩)
  refine wp_loop_rounds 1 ?_
  rw [rounds_succ]
  go_wp2
  go_ret
  exact ⟨rfl, rfl⟩

set_option maxHeartbeats 400000 in
theorem number_of_some (p : Value) (k : Nat) (hk8 : k ≤ 8) (ao : Option Addr) (c : Nat) (xs : List Int) (w w2 : World) (hs : Shows w2 ao k xs) (ht : Calls Tryz.prog 132 #[p, .int .i64 k] w fun x w' => x = .returned (.slice ao k c) ∧ w2 = w') :
    Calls Tryz.prog 118 #[p, .int .i64 k] w fun x w' => x = .returned (.int .u64 (beval xs)) ∧ w2 = w' := by
  have HL : Hid (xs.length = k) := hs.len
  go_enter Tryz.func118, Tryz.ntmps118
  go_wp2_with (go_at_call 132; refine ht.mono ?_; rintro e w' ⟨rfl, rfl⟩)
  go_loop [5, 12] (fun v i => ∃ (j : Nat) (y : Int), j ≤ k ∧ i = .int .i64 j ∧ v = .int .u64 y ∧ Hid (y = beval (xs.take j))) (fun _ i => k - (intOf i).toNat)
  case atStart => exact ⟨0, 0, by omega, rfl, rfl, rfl⟩
  case round =>
    obtain ⟨j, y, hj, rfl, rfl, HY⟩ := hrel
    by_cases hlt : j < k
    · obtain ⟨ad, had⟩ : ∃ ad, ao = some ad := by
        cases ao with
        | none => have := hs.bare rfl; omega
        | some ad => exact ⟨ad, rfl⟩
      subst had
      have hcx : w2.cell? (ad.add j) = some (.int .u8 (xs.getD j 0)) := hs.cell ad rfl j hlt
      obtain ⟨x, HX⟩ : ∃ x, Hid (x = xs.getD j 0) := ⟨xs.getD j 0, (rfl : _ = _)⟩
      rw [← HX.out] at hcx
      have hxl := HL.out
      have hx : 0 ≤ x ∧ x ≤ 255 := by
        have e : xs.getD j 0 = xs[j]'(by omega) := by simp [List.getD, List.getElem?_eq_getElem (show j < xs.length by omega)]
        rw [HX.out, e]
        exact hs.rng _ (List.getElem_mem _)
      have hy : 0 ≤ y ∧ y < 72057594037927936 := by
        have h1 := beval_bd (xs.take j) (fun z hz => hs.rng z (List.mem_of_mem_take hz))
        have h2 := pow256_le j 7 (by omega)
        have h3 : (xs.take j).length = j := by simp; omega
        rw [h3, ← HY.out] at h1
        omega
      have HS : Hid (256 * y + x = beval (xs.take (j + 1))) := by
        show _ = _
        rw [List.take_succ_eq_append_getElem (by omega), beval_snoc, HY.out, HX.out]
        simp [List.getD, List.getElem?_eq_getElem (show j < xs.length by omega)]
      have HO : Hid (bits .or .u64 (IntKind.u64.wrap (y * 256)) (IntKind.u64.wrap x) = 256 * y + x) := or_step y x hy.1 hy.2 hx.1 hx.2
      clear hxl hx hy
      go_wp2
      go_round
      case rel => exact ⟨j + 1, _, by omega, by go_num, rfl, HO.out.trans HS.out⟩
      case measure => simp [intOf]; omega
    · have hjk : j = k := by omega
      subst hjk
      go_wp2
      go_ret
      refine ⟨?_, rfl⟩
      have := HL.out
      have e := HY.out
      rw [List.take_of_length_le (by omega)] at e
      rw [← e]
      rfl
set_option maxHeartbeats 400000 in
theorem u32_of (p : Value) (y : Int) (hy0 : 0 ≤ y) (hy1 : y ≤ 4294967295) (w w2 : World) (ht : Calls Tryz.prog 118 #[p, .int .i64 4] w fun x w' => x = .returned (.int .u64 y) ∧ w2 = w') :
    Calls Tryz.prog 104 #[p] w fun x w' => x = .returned (.int .u32 y) ∧ w2 = w' := by
  go_enter Tryz.func104, Tryz.ntmps104
  go_wp2_with (go_at_call 118; refine ht.mono ?_; rintro e w' ⟨rfl, rfl⟩)
  go_ret
  exact ⟨rfl, rfl⟩

set_option maxHeartbeats 400000 in
theorem u64_of (p : Value) (y : Int) (w w2 : World) (ht : Calls Tryz.prog 118 #[p, .int .i64 8] w fun x w' => x = .returned (.int .u64 y) ∧ w2 = w') :
    Calls Tryz.prog 103 #[p] w fun x w' => x = .returned (.int .u64 y) ∧ w2 = w' := by
  go_enter Tryz.func103, Tryz.ntmps103
  go_wp2_with (go_at_call 118; refine ht.mono ?_; rintro e w' ⟨rfl, rfl⟩)
  go_ret
  exact ⟨rfl, rfl⟩

/-- What a value that is owned looks like. -/
theorem own_shape {w : World} {base : Nat} {v : Value} {n : Nat} {xs : List Int} (h : w.ownsRow base 5 1 v n (u8s xs)) (hr : ∀ x ∈ xs, 0 ≤ x ∧ x ≤ 255) :
    ∃ ao c, v = .slice ao n c ∧ Shows w ao n xs ∧ n ≤ c ∧ c ≤ maxLen ∧ (ao = none → c = 0) ∧ ∀ ad, ao = some ad → base ≤ ad.block ∧ ad.block < w.heap.size := by
  obtain ⟨ao, c, hv, hs, hc⟩ := shows_of_own h hr
  refine ⟨ao, c, hv, hs, hc, ?_⟩
  rcases h.2 with ⟨h3, _⟩ | ⟨g, cap, cur, h3, hg, hh, hn, hm, hsz, ht⟩
  · rw [hv] at h3; cases h3
    exact ⟨Nat.zero_le _, fun _ => rfl, fun ad h => (by cases h)⟩
  · rw [hv] at h3; cases h3
    exact ⟨hm, fun h => (by cases h), fun ad h => by cases h; exact ⟨hg, lt_of_block hh⟩⟩

set_option maxHeartbeats 400000 in
theorem read_any (ao : Option Addr) (n c : Nat) (xs : List Int) (w : World) (hs : Shows w ao n xs) (hbig : n ≤ 140737488355328) :
    Calls Tryz.prog 102 #[.slice ao n c] w fun e w' => ∃ r ao' c', e = .returned (.pointer (some ⟨r, 0, none⟩)) ∧ Rd w' r ao' n c' xs 0 ∧ Below w.heap.size w w' ∧ w.heap.size ≤ r ∧ r < w'.heap.size ∧ ∀ ad, ao' = some ad → w.heap.size ≤ ad.block ∧ ad.block < w'.heap.size := by
  go_enter Tryz.func102, Tryz.ntmps102
  go_wp2_with (go_at_call 117; refine (clone_any ao n c xs w hs hbig).mono ?_; rintro e w' ⟨v, rfl, hown, _, hb⟩; obtain ⟨ao', c', rfl, hsh, hcap, hmax, hbare, hblk⟩ := own_shape hown hs.rng)
  go_ret
  have hb2 : Below w'.heap.size w' (w'.alloc (.cells #[.slice ao' n c', .int .i64 0] 168)) := (Below.refl _ _).alloc (Nat.le_refl _) _
  refine ⟨w'.heap.size, ao', c', rfl, ⟨heap_alloc_new _ _, hsh.later hb2, hcap, hmax, hbare, fun ad had => ?_⟩, ?_, hb.size, by simp, fun ad had => ?_⟩
  · have := (hblk ad had).2; omega
  · exact hb.alloc hb.size _
  · have := hblk ad had; simp; omega

end Go.Proofs.YtndfhmlcfaaaiaaGreatDoor

