import Derived.Test.YtndfhmlcfaaaiaaGreatDoorAry
/- Numbers put into bytes and read out of them. -/
namespace Go.Proofs.YtndfhmlcfaaaiaaGreatDoor
open Go.RowKit

theorem shows_none (w : World) : Shows w none 0 [] := ⟨rfl, fun _ => rfl, fun ad h => (by cases h), fun x hx => (by cases hx)⟩
theorem shows_of_own' {w : World} {base : Nat} {v : Value} {n : Nat} {bs : List B} (hn : 0 < n) (h : w.ownsRow base 5 1 v n (u8s (v8s bs))) :
    ∃ ad c, v = .slice (some ad) n c ∧ Shows w (some ad) n (v8s bs) := by
  obtain ⟨ao, c, rfl, hs, _⟩ := shows_of_own h (v8s_rng bs)
  cases ao with
  | none => have := hs.bare rfl; omega
  | some ad => exact ⟨ad, c, rfl, hs⟩
theorem put64_nil (n : Nat) (hn : n < 18446744073709551616) (w : World) :
    Calls Tryz.prog 115 #[.slice none 0 0, .int .u64 (n : Int)] w fun e w' => ∃ ad c, e = .returned (.slice (some ad) 8 c) ∧ Shows w' (some ad) 8 (v8s (beb 8 n)) ∧ Below w.heap.size w w' :=
  (Put64_any none 0 0 [] n w (shows_none w) (by omega) (by omega) (by omega)).mono fun e w' ⟨u, he, hown, hb⟩ => by
    rw [List.nil_append, be_v8s] at hown
    obtain ⟨ad, c, rfl, hs⟩ := shows_of_own' (by omega) hown
    exact ⟨ad, c, he, hs, hb⟩
theorem put32_nil (n : Nat) (hn : n < 4294967296) (w : World) :
    Calls Tryz.prog 109 #[.slice none 0 0, .int .u32 (n : Int)] w fun e w' => ∃ ad c, e = .returned (.slice (some ad) 4 c) ∧ Shows w' (some ad) 4 (v8s (beb 4 n)) ∧ Below w.heap.size w w' :=
  (Put32_any none 0 0 [] n w (shows_none w) (by omega) (by omega) (by omega)).mono fun e w' ⟨u, he, hown, hb⟩ => by
    rw [List.nil_append, be_v8s] at hown
    obtain ⟨ad, c, rfl, hs⟩ := shows_of_own' (by omega) hown
    exact ⟨ad, c, he, hs, hb⟩
theorem put32_on (n : Nat) (hn : n < 4294967296) (ad : Addr) (m c : Nat) (bs : List B) (hm : m ≤ 1000) (w : World) (hs : Shows w (some ad) m (v8s bs)) :
    Calls Tryz.prog 109 #[.slice (some ad) m c, .int .u32 (n : Int)] w fun e w' => ∃ ad c, e = .returned (.slice (some ad) (m + 4) c) ∧ Shows w' (some ad) (m + 4) (v8s (bs ++ beb 4 n)) ∧ Below w.heap.size w w' :=
  (Put32_any (some ad) m c (v8s bs) n w hs (by omega) (by omega) (by omega)).mono fun e w' ⟨u, he, hown, hb⟩ => by
    rw [be_v8s, ← v8s_append] at hown
    obtain ⟨ad, c, rfl, hs⟩ := shows_of_own' (by omega) hown
    exact ⟨ad, c, he, hs, hb⟩
theorem Rd.k_of {r : Nat} {ao : Option Addr} {n c : Nat} {bs : List B} {w : World} (h : Rd w r ao n c (v8s bs) 0) {k : Nat} (hn : k ≤ n) :
    Shows (w.setCell ⟨r, 0, none⟩ (.slice (fromAt ao c k) (n - k) (c - k))) ao k (v8s (bs.take k)) := by
  have := (h.sh.take hn).beside (a := ⟨r, 0, none⟩) (fun ad e => h.apart ad e) (.slice (fromAt ao c k) (n - k) (c - k))
  rwa [show (v8s bs).take k = v8s (bs.take k) by simp [v8s]] at this
theorem Rd.rest_of {r : Nat} {ao : Option Addr} {n c : Nat} {bs : List B} {w : World} (h : Rd w r ao n c (v8s bs) 0) {k : Nat} (hn : k ≤ n) :
    Rd (w.setCell ⟨r, 0, none⟩ (.slice (fromAt ao c k) (n - k) (c - k))) r (fromAt ao c k) (n - k) (c - k) (v8s (bs.drop k)) 0 := by
  have := h.took hn
  rwa [show (v8s bs).drop k = v8s (bs.drop k) by simp [v8s]] at this
/-- Four bytes are read. -/
theorem read32 (r : Nat) (ao : Option Addr) (n c : Nat) (bs : List B) (w : World) (h : Rd w r ao n c (v8s bs) 0) (hn : 4 ≤ n) :
    Calls Tryz.prog 104 #[.pointer (some ⟨r, 0, none⟩)] w fun x w' => x = .returned (.int .u32 ((nub (bs.take 4) : Nat) : Int)) ∧ (∃ ao' c', Rd w' r ao' (n - 4) c' (v8s (bs.drop 4)) 0) ∧ Fr (fun k => k = r) w w' := by
  have hl := h.sh.len
  rw [v8s_length] at hl
  have hlt := nub_lt (bs.take 4)
  rw [List.length_take, Nat.min_eq_left (by omega)] at hlt
  have h1 := number_of_some (.pointer (some ⟨r, 0, none⟩)) 4 (by omega) ao c (v8s (bs.take 4)) w _ (h.k_of hn) (take_ok r ao n c (v8s bs) 4 w h hn)
  rw [beval_v8s] at h1
  refine (u32_of _ _ (by omega) (by omega) _ _ h1).mono fun x w' ⟨hx, hw⟩ => ?_
  subst hw
  exact ⟨hx, ⟨_, _, h.rest_of hn⟩, (Fr.refl _ _).setCell _ _ (.inl rfl)⟩
/-- Eight bytes are read. -/
theorem read64 (r : Nat) (ao : Option Addr) (n c : Nat) (bs : List B) (w : World) (h : Rd w r ao n c (v8s bs) 0) (hn : 8 ≤ n) :
    Calls Tryz.prog 103 #[.pointer (some ⟨r, 0, none⟩)] w fun x w' => x = .returned (.int .u64 ((nub (bs.take 8) : Nat) : Int)) ∧ Fr (fun k => k = r) w w' := by
  have hl := h.sh.len
  rw [v8s_length] at hl
  have h1 := number_of_some (.pointer (some ⟨r, 0, none⟩)) 8 (by omega) ao c (v8s (bs.take 8)) w _ (h.k_of hn) (take_ok r ao n c (v8s bs) 8 w h hn)
  rw [beval_v8s] at h1
  refine (u64_of _ _ _ _ h1).mono fun x w' ⟨hx, hw⟩ => ?_
  subst hw
  exact ⟨hx, (Fr.refl _ _).setCell _ _ (.inl rfl)⟩
theorem below_fr {w w1 w2 : World} {r : Nat} (hb : Below w.heap.size w w1) (hr : w.heap.size ≤ r) (hf : Fr (fun k => k = r) w1 w2) : Below w.heap.size w w2 :=
  hb.trans (hf.below (fun k e => by omega) hb.size)
set_option maxRecDepth 100000 in
set_option maxHeartbeats 1000000 in
theorem genIn_any (s : Sec) (w : World) : Calls Tryz.prog 78 #[.agg (sb s).toArray] w fun e w' => e = .returned (.int .u64 ((gin s : Nat) : Int)) ∧ Below w.heap.size w w' := by
  have hA := Blk.new w 26 (sb s)
  have hB := (Below.refl w.heap.size w).alloc (Nat.le_refl _) (.cells (sb s).toArray 26)
  have hs := hA.shows 8 8 (by rw [s.h]; omega)
  have hp := fun W => part64 W w.heap.size 8 16 (by omega) (by omega) (by omega)
  go_enter Tryz.func78, Tryz.ntmps78
  go_wp2_with (first
    | (go_at_call 102; refine (read_any _ _ _ _ _ hs (by omega)).mono ?_; rintro e w1 ⟨r, ao, c, rfl, hR, hb1, hr1, -, -⟩)
    | (go_at_call 103; refine (read64 r ao 8 c _ _ hR (by omega)).mono ?_; rintro e w2 ⟨rfl, hf⟩))
  go_ret
  refine ⟨?_, hB.trans (below_fr hb1 hr1 hf |>.mono (by simp))⟩
  rw [gin, List.take_of_length_le (by rw [seg_length _ _ _ (by rw [s.h]; omega)]; omega)]
  rfl
set_option maxRecDepth 100000 in
set_option maxHeartbeats 1000000 in
theorem idxIn_any (s : Sec) (w : World) : Calls Tryz.prog 106 #[.agg (sb s).toArray] w fun e w' => e = .returned (.int .u32 ((xin s : Nat) : Int)) ∧ Below w.heap.size w w' := by
  have hA := Blk.new w 26 (sb s)
  have hB := (Below.refl w.heap.size w).alloc (Nat.le_refl _) (.cells (sb s).toArray 26)
  have hs := hA.shows 24 4 (by rw [s.h]; omega)
  have hp := fun W => part64 W w.heap.size 24 28 (by omega) (by omega) (by omega)
  go_enter Tryz.func106, Tryz.ntmps106
  go_wp2_with (first
    | (go_at_call 102; refine (read_any _ _ _ _ _ hs (by omega)).mono ?_; rintro e w1 ⟨r, ao, c, rfl, hR, hb1, hr1, -, -⟩)
    | (go_at_call 104; refine (read32 r ao 4 c _ _ hR (by omega)).mono ?_; rintro e w2 ⟨rfl, -, hf⟩))
  go_ret
  refine ⟨?_, hB.trans (below_fr hb1 hr1 hf |>.mono (by simp))⟩
  rw [xin, List.take_of_length_le (by rw [seg_length _ _ _ (by rw [s.h]; omega)]; omega)]
  rfl
end Go.Proofs.YtndfhmlcfaaaiaaGreatDoor

/- A frame is made. -/
namespace Go.Proofs.YtndfhmlcfaaaiaaGreatDoor
open Go.RowKit

/-- What lies in memory while a frame is made: its title, its page, the answer's room, the bytes so far. -/
structure FS (w v : World) (b : Nat) (T X : List Value) (cur : List B) : Prop where
  t : Blk v b 154 T
  x : Blk v (b + 1) 66 X
  r : Blk v (b + 1 + 1) 26 (sb zs)
  s : Blk v (b + 1 + 1 + 1) 26 (bys cur)
  below : Below b w v
  tabs : Tabs v
  two : 2 ≤ b
section
variable {w v v' : World} {b : Nat} {T X : List Value} {cur cur' : List B}
theorem FS.next (h : FS w v b T X cur) (hb : Below v.heap.size v v') : FS w v' b T X cur :=
  ⟨h.t.next hb, h.x.next hb, h.r.next hb, h.s.next hb, h.below.trans (hb.mono (Nat.le_of_lt h.t.lt)), h.tabs.next hb, h.two⟩
theorem FS.drew (h : FS w v b T X cur) : FS w v.drew b T X cur := h.next ⟨rfl, rfl, rfl, Nat.le_refl _, fun _ _ => rfl⟩
theorem FS.fr (h : FS w v b T X cur) (hf : Fr (fun k => k = b + 1 + 1 + 1) v v') (hs : Blk v' (b + 1 + 1 + 1) 26 (bys cur')) : FS w v' b T X cur' := by
  have h2 := h.two
  exact ⟨h.t.fr hf (by omega), h.x.fr hf (by omega), h.r.fr hf (by omega), hs, h.below.trans (hf.below (fun k e => by omega) (Nat.le_of_lt h.t.lt)), h.tabs.fr hf (fun k e => by omega), h2⟩
theorem FS.over (h : FS w v b T X cur) (hv : v' = v.setRow (b + 1 + 1 + 1) (bys cur').toArray) (hs : Blk v' (b + 1 + 1 + 1) 26 (bys cur')) : FS w v' b T X cur' :=
  h.fr (by rw [hv]; exact (Fr.refl _ _).setRow _ _ (.inl rfl)) hs
theorem FS.set (h : FS w v b T X cur) (i : Nat) (x : B) : FS w (v.setCell ⟨b + 1 + 1 + 1, i, none⟩ (.int .u8 (v8 x))) b T X (cur.set i x) :=
  h.fr ((Fr.refl _ _).setCell _ _ (.inl rfl)) (by have := h.s.set i (.int .u8 (v8 x)); rwa [bys_set] at this)
end
section
variable {w : World} {ops : Array Oper} {rest : List Oper} {o : Oper} {a : Act} {Q : Exit → Act → World → Prop}
theorem run_mark (w : World) : (Builtin.firstCells 1 4 (.string ⟨#[99, 105, 98, 111]⟩)).run Tryz.prog w = .ok (bys mrk).toArray w := by kernel_rfl
/-- 'copy(s[:], mark)'. -/
theorem law_mark (hgd : o.guard = none) (d : Operand) (ho : o.op = .call { callee := .builtin .copy, args := #[d, .const (.string ⟨#[99, 105, 98, 111]⟩)], argTypes := #[151, 9] }) (g : Nat) (hd : a.eval d = .slice (some ⟨g, 0, none⟩) 512 512)
    (t : TypeId) (cur : List B) (hl : cur.length = 512) (hg : Blk w g t (bys cur))
    (h : ∀ w', w' = w.setRow g (bys (over cur 0 mrk)).toArray → Blk w' g t (bys (over cur 0 mrk)) → wpList Tryz.prog ops Q rest (a.put o.dst (.int .i64 4)) w') : wpList Tryz.prog ops Q (o :: rest) a w := by
  have hst := run_storeCells_at Tryz.prog g 0 t (bys mrk) 0 (bys cur).toArray w hg (by simp [bys_length, hl, mrk]) (bys_one' _)
  have e : (((bys cur).toArray.toList.take (0 + 0) ++ bys mrk ++ (bys cur).toArray.toList.drop (0 + 0 + (bys mrk).length)).toArray : Array Value) = (bys (over cur 0 mrk)).toArray := by
    rw [bys_length]
    simp [over, bys_append, bys_drop]
  rw [e] at hst
  have hrun : (Builtin.copy_ #[151, 9] o.type #[.slice (some ⟨g, 0, none⟩) 512 512, .string ⟨#[99, 105, 98, 111]⟩]).run Tryz.prog w = .ok (.int .i64 4) (w.setRow g (bys (over cur 0 mrk)).toArray) := by
    have hlen : (Builtin.lenOf (.string ⟨#[99, 105, 98, 111]⟩)).run Tryz.prog w = .ok 4 w := by kernel_rfl
    have hsz : (sizeOf 5).run Tryz.prog w = .ok 1 w := by kernel_rfl
    simp only [Builtin.copy_, Sem.run_bind, run_underlying Tryz.underlying151, Result.andThen_ok, List.getElem?_toArray, List.getElem?_cons_zero, List.getElem?_cons_succ, hlen, hsz, show Nat.min 4 512 = 4 from rfl, run_mark, hst]
    rfl
  have hc : a.eval (.const (.string ⟨#[99, 105, 98, 111]⟩)) = .string ⟨#[99, 105, 98, 111]⟩ := rfl
  refine wpList_plain hgd fun K hK => ?_
  unfold Oper.wp execOp
  simp only [ho, resolve, invoke, builtin, Sem.run_bind, Sem.run_pure, Result.andThen_ok, List.map_toArray, List.map_cons, List.map_nil, hd, hc, hrun]
  exact hK _ _ (h _ rfl (setRow_heap w g _ _ t _ hg))
end

/-- A sector is handed back. -/
theorem ret64 {fn : Func} {p : Tmp} (h : fn.results = #[.cell p 26]) (tmps : Array Value) (w : World) (g : Nat) (s : Sec) (h2 : tmps.getD p undef = .pointer (some ⟨g, 0, none⟩)) (hB : Blk w g 26 (sb s)) :
    (results fn tmps).run Tryz.prog w = .ok (.agg (sb s).toArray) w := by
  have hp' : tmps[p]?.getD undef = .pointer (some ⟨g, 0, none⟩) := by simpa using h2
  simp [results, h, hp', asAddr, run_loadVar_row w g 26 26 (sb s).toArray (0, 0) _ hB Tryz.underlying26 rfl (by rw [List.size_toArray, sb_length]; kernel_rfl)]
/-- So many zeros. -/
def zr (n : Nat) : List B := List.replicate n 0#8
theorem zr_length (n : Nat) : (zr n).length = n := List.length_replicate
theorem zs_parts : zs.l = [] ++ (zr 4 ++ (zr 4 ++ (zr 8 ++ (zr 8 ++ (zr 4 ++ (zr 4 ++ zr 480)))))) := by
  simp only [zs, zr, List.replicate_append_replicate, List.nil_append]
theorem set_kind (k : B) (z : List B) : (mrk ++ (zr 4 ++ z)).set 4 k = (mrk ++ [k, 0#8, 0#8, 0#8]) ++ z := by
  simp [mrk, zr, List.replicate]
/-- The bytes of a frame, as they come. -/
structure Stages (k : B) (g s ix : Nat) (x : Pg) (c0 c1 c2 c3 c4 c5 c6 : List B) : Prop where
  e0 : over zs.l 0 mrk = c0
  e1 : c0.set 4 k = c1
  e2 : over c1 8 (beb 8 g) = c2
  e3 : over c2 16 (beb 8 s) = c3
  e4 : over c3 24 (beb 4 ix) = c4
  e5 : over c4 32 x.l = c5
  e6 : over c5 28 (beb 4 (chk k g s ix x)) = c6
  b : c5 = bare k g s ix x
  f : c6 = (frm k g s ix x).l
  l0 : c0.length = 512
  l1 : c1.length = 512
  l2 : c2.length = 512
  l3 : c3.length = 512
  l4 : c4.length = 512
  l5 : c5.length = 512
theorem stages (k : B) (g s ix : Nat) (x : Pg) : ∃ c0 c1 c2 c3 c4 c5 c6, Stages k g s ix x c0 c1 c2 c3 c4 c5 c6 := by
  have hx := x.h
  refine ⟨mrk ++ (zr 4 ++ (zr 8 ++ (zr 8 ++ (zr 4 ++ (zr 4 ++ zr 480))))), (mrk ++ [k, 0#8, 0#8, 0#8]) ++ (zr 8 ++ (zr 8 ++ (zr 4 ++ (zr 4 ++ zr 480)))),
    (mrk ++ [k, 0#8, 0#8, 0#8]) ++ (beb 8 g ++ (zr 8 ++ (zr 4 ++ (zr 4 ++ zr 480)))), (mrk ++ [k, 0#8, 0#8, 0#8] ++ beb 8 g) ++ (beb 8 s ++ (zr 4 ++ (zr 4 ++ zr 480))),
    (mrk ++ [k, 0#8, 0#8, 0#8] ++ beb 8 g ++ beb 8 s) ++ (beb 4 ix ++ (zr 4 ++ zr 480)), (mrk ++ [k, 0#8, 0#8, 0#8] ++ beb 8 g ++ beb 8 s ++ beb 4 ix ++ zr 4) ++ (x.l ++ []),
    (mrk ++ [k, 0#8, 0#8, 0#8] ++ beb 8 g ++ beb 8 s ++ beb 4 ix) ++ (beb 4 (chk k g s ix x) ++ x.l), ?_⟩
  constructor
  · rw [zs_parts, over_mid [] (zr 4) _ mrk 0 rfl (by rw [zr_length]; rfl)]; rfl
  · exact set_kind k _
  · rw [over_mid _ (zr 8) _ (beb 8 g) 8 (by simp [mrk]) (by rw [zr_length, beb_length])]
  · rw [← List.append_assoc _ (beb 8 g), over_mid _ (zr 8) _ (beb 8 s) 16 (by simp [mrk, beb_length]) (by rw [zr_length, beb_length])]
  · rw [← List.append_assoc _ (beb 8 s), over_mid _ (zr 4) _ (beb 4 ix) 24 (by simp [mrk, beb_length]) (by rw [zr_length, beb_length])]
  · rw [← List.append_assoc _ (beb 4 ix), ← List.append_assoc _ (zr 4), ← List.append_nil (zr 480), over_mid _ (zr 480) _ x.l 32 (by simp [mrk, beb_length, zr_length]) (by rw [zr_length, hx])]
  · rw [List.append_assoc _ (zr 4), over_mid _ (zr 4) _ _ 28 (by simp [mrk, beb_length]) (by rw [zr_length, beb_length]), List.append_nil]
  · simp [bare, hd28, zr, List.replicate, List.append_assoc]
  · simp [frm, hd28, List.append_assoc]
  all_goals simp [mrk, beb_length, zr_length, hx]

def tc (K : Int) (g s : Nat) (I : Int) : List Value := [.int .u8 K, .int .u64 (g : Int), .int .u64 (s : Int), .int .i64 I]
set_option maxRecDepth 100000 in
set_option maxHeartbeats 4000000 in
theorem frame_any (k : B) (K : Int) (g s ix : Nat) (I : Int) (x : Pg) (w : World) (hW : Tabs w) (hK : K = v8 k) (hg : g < 18446744073709551616) (hs : s < 18446744073709551616) (hI : I = (ix : Int)) (hix : ix < 4294967296) :
    Calls Tryz.prog 101 #[.agg (tc K g s I).toArray, .agg (bys x.l).toArray] w fun e w' => e = .returned (.agg (sb (frm k g s ix x)).toArray) ∧ Below w.heap.size w w' := by
  obtain ⟨c0, c1, c2, c3, c4, c5, c6, hT⟩ := stages k g s ix x
  obtain ⟨fs, hfs⟩ : ∃ fs, fs = frm k g s ix x := ⟨_, rfl⟩
  have h6 : bys c6 = sb fs := by rw [hfs, sb, hT.f]
  rw [← hfs]
  clear hfs
  have hz := zero39
  obtain ⟨b, hb⟩ : ∃ b, b = w.heap.size := ⟨_, rfl⟩
  have hF : FS w ((((w.alloc (.cells (tc K g s I).toArray 154)).alloc (.cells (bys x.l).toArray 66)).alloc (.cells (sb zs).toArray 26)).alloc (.cells (sb zs).toArray 26)) b (tc K g s I) (bys x.l) zs.l := by
    have h1 := Blk.new w 154 (tc K g s I)
    have h2 := Blk.new (w.alloc (.cells (tc K g s I).toArray 154)) 66 (bys x.l)
    have h3 := Blk.new ((w.alloc (.cells (tc K g s I).toArray 154)).alloc (.cells (bys x.l).toArray 66)) 26 (sb zs)
    have h4 := Blk.new (((w.alloc (.cells (tc K g s I).toArray 154)).alloc (.cells (bys x.l).toArray 66)).alloc (.cells (sb zs).toArray 26)) 26 (sb zs)
    simp only [World.size_alloc, ← hb] at h1 h2 h3 h4
    have hbl : Below b w ((((w.alloc (.cells (tc K g s I).toArray 154)).alloc (.cells (bys x.l).toArray 66)).alloc (.cells (sb zs).toArray 26)).alloc (.cells (sb zs).toArray 26)) := by
      rw [hb]
      exact ((((Below.refl _ w).alloc (Nat.le_refl _) _).alloc (by simp) _).alloc (by simp; omega) _).alloc (by simp; omega) _
    exact ⟨((h1.alloc _).alloc _).alloc _, (h2.alloc _).alloc _, h3.alloc _, h4, hbl, (((hW.alloc _).alloc _).alloc _).alloc _, by rw [hb]; exact hW.two⟩
  have hw1 := fun W => whole64 W (b + 1 + 1 + 1)
  have hw2 := fun W => whole31 W (b + 1)
  have hw8 := fun W => from64 W (b + 1 + 1 + 1) 8 (by omega)
  have hw16 := fun W => from64 W (b + 1 + 1 + 1) 16 (by omega)
  have hw24 := fun W => from64 W (b + 1 + 1 + 1) 24 (by omega)
  have hw28 := fun W => from64 W (b + 1 + 1 + 1) 28 (by omega)
  have hw32 := fun W => from64 W (b + 1 + 1 + 1) 32 (by omega)
  have hcv : IntKind.u32.wrap (ix : Int) = (ix : Int) := by rw [IntKind.wrap_u32']; omega
  have hx := x.h
  subst hI
  subst hK
  rw [hb] at hF hw1 hw2 hw8 hw16 hw24 hw28 hw32
  go_enter Tryz.func101, Tryz.ntmps101
  go_wp2_with (refine law_mark rfl _ rfl (w.heap.size + 1 + 1 + 1) rfl 26 zs.l zs.h hF.s ?_; intro w1 e1 k1; rw [hT.e0] at e1 k1; have hF1 := hF.over e1 k1; clear e1 k1 hF; have hc0 := Blk.cell hF1.t 0 _ rfl; have f4 := Blk.fz hF1.s 4; have hc4 := hF1.s.cell 4 _ (bys_get c0 4 (by rw [hT.l0]; omega)))
  have hF2 := hF1.set 4 k
  rw [hT.e1] at hF2
  rw [← hb] at hF2 ⊢
  rw [← hb] at hw1 hw2 hw8 hw16 hw24 hw28 hw32
  obtain ⟨v0, hv0⟩ : ∃ v, v = w1.setCell ⟨b + 1 + 1 + 1, 4, none⟩ (.int .u8 (v8 k)) := ⟨_, rfl⟩
  rw [← hv0] at hF2 ⊢
  clear hv0 hF1 hc0 f4 hc4
  have hF := hF2
  clear hF2
  have HB : Hid (b = w.heap.size) := hb
  clear hb
  refine wp_region_to (fun v => FS w v b (tc (v8 k) g s ix) (bys x.l) c1) 4 (by kernel_rfl) ?_
  have hS0 := hF.drew
  clear hF
  refine wpTo_take (i := 0) (v := ?v0r4) (show _ = some _ by simp only [List.getElem?_toArray, List.getElem?_cons_zero]; exact rfl) (by kernel_rfl) (by kernel_rfl) (by kernel_rfl) (by kernel_rfl) (by exact fun _ _ _ h => h) (Or.inl ⟨by rfl, ?hy0r4⟩) hS0 ?r0r4
  case hy0r4 => (intro w hSw; (try dsimp only at hSw); go_simp; try with_reducible rfl)
  (try simp only [Act.put]); (try simp only [List.setIfInBounds_toArray]); (repeat (first | simp only [List.set_cons_succ] | simp only [List.set_cons_zero]))
  refine wpTo_take (i := 1) (v := ?v1r4) (show _ = some _ by simp only [List.getElem?_toArray, List.getElem?_cons_succ, List.getElem?_cons_zero]; exact rfl) (by kernel_rfl) (by kernel_rfl) (by kernel_rfl) (by kernel_rfl) (by exact fun _ _ _ h => h) (Or.inl ⟨by rfl, ?hy1r4⟩) hS0 ?r1r4
  case hy1r4 => (intro w hSw; (try dsimp only at hSw); go_simp; try with_reducible rfl)
  (try simp only [Act.put]); (try simp only [List.setIfInBounds_toArray]); (repeat (first | simp only [List.set_cons_succ] | simp only [List.set_cons_zero]))
  refine wpTo_take (i := 2) (v := ?v2r4) (show _ = some _ by simp only [List.getElem?_toArray, List.getElem?_cons_succ, List.getElem?_cons_zero]; exact rfl) (by kernel_rfl) (by kernel_rfl) (by kernel_rfl) (by kernel_rfl) (by exact fun _ _ _ h => h) (Or.inl ⟨by rfl, ?hy2r4⟩) hS0 ?r2r4
  case hy2r4 => (intro w hSw; (try dsimp only at hSw); have hc1 := Blk.cell hSw.t 1 _ rfl; go_simp; try with_reducible rfl)
  (try simp only [Act.put]); (try simp only [List.setIfInBounds_toArray]); (repeat (first | simp only [List.set_cons_succ] | simp only [List.set_cons_zero]))
  refine wpTo_one (i := 3) (by kernel_rfl) (show _ = some _ by simp only [List.getElem?_toArray, List.getElem?_cons_succ, List.getElem?_cons_zero]; exact rfl) (fun K hK => ?_)
  go_simp
  go_at_call 115; refine (put64_nil g hg _).mono ?_; rintro e v1 ⟨ad, c, rfl, hsh, kb⟩
  (try simp only [])
  refine hK.out _ _ (FS.next hS0 kb) (fun hS1 => ?_)
  clear hK K
  (try simp only [Act.put]); (try simp only [List.setIfInBounds_toArray]); (repeat (first | simp only [List.set_cons_succ] | simp only [List.set_cons_zero]))
  refine wpTo_last (by kernel_rfl) (show _ = some _ by simp only [List.getElem?_toArray, List.getElem?_cons_succ, List.getElem?_cons_zero]; exact rfl) (by kernel_rfl) (fun K hK => ?_)
  rw [if_pos (by rfl)]
  refine copy_in _ _ rfl (b + 1 + 1 + 1) 8 504 504 rfl ad 8 c rfl 26 c1 hS1.s (beb 8 g) hsh (by omega) (by rw [hT.l1]; omega) (fun w' hw' hb' => ?_)
  rw [hT.e2] at hw' hb'
  have hF := hS1.over hw' hb'
  clear hw' hb' hsh kb hS0 hS1
  refine hK.out _ _ ?_
  clear hK K
  (try simp only [Act.put]); (try simp only [List.setIfInBounds_toArray]); (repeat (first | simp only [List.set_cons_succ] | simp only [List.set_cons_zero]))
  go_wp2_with fail
  refine wp_region_to (fun v => FS w v b (tc (v8 k) g s ix) (bys x.l) c2) 4 (by kernel_rfl) ?_
  have hS0 := hF.drew
  clear hF
  refine wpTo_take (i := 0) (v := ?v0r5) (show _ = some _ by simp only [List.getElem?_toArray, List.getElem?_cons_zero]; exact rfl) (by kernel_rfl) (by kernel_rfl) (by kernel_rfl) (by kernel_rfl) (by exact fun _ _ _ h => h) (Or.inl ⟨by rfl, ?hy0r5⟩) hS0 ?r0r5
  case hy0r5 => (intro w hSw; (try dsimp only at hSw); go_simp; try with_reducible rfl)
  (try simp only [Act.put]); (try simp only [List.setIfInBounds_toArray]); (repeat (first | simp only [List.set_cons_succ] | simp only [List.set_cons_zero]))
  refine wpTo_take (i := 1) (v := ?v1r5) (show _ = some _ by simp only [List.getElem?_toArray, List.getElem?_cons_succ, List.getElem?_cons_zero]; exact rfl) (by kernel_rfl) (by kernel_rfl) (by kernel_rfl) (by kernel_rfl) (by exact fun _ _ _ h => h) (Or.inl ⟨by rfl, ?hy1r5⟩) hS0 ?r1r5
  case hy1r5 => (intro w hSw; (try dsimp only at hSw); go_simp; try with_reducible rfl)
  (try simp only [Act.put]); (try simp only [List.setIfInBounds_toArray]); (repeat (first | simp only [List.set_cons_succ] | simp only [List.set_cons_zero]))
  refine wpTo_take (i := 2) (v := ?v2r5) (show _ = some _ by simp only [List.getElem?_toArray, List.getElem?_cons_succ, List.getElem?_cons_zero]; exact rfl) (by kernel_rfl) (by kernel_rfl) (by kernel_rfl) (by kernel_rfl) (by exact fun _ _ _ h => h) (Or.inl ⟨by rfl, ?hy2r5⟩) hS0 ?r2r5
  case hy2r5 => (intro w hSw; (try dsimp only at hSw); have hc2 := Blk.cell hSw.t 2 _ rfl; go_simp; try with_reducible rfl)
  (try simp only [Act.put]); (try simp only [List.setIfInBounds_toArray]); (repeat (first | simp only [List.set_cons_succ] | simp only [List.set_cons_zero]))
  refine wpTo_one (i := 3) (by kernel_rfl) (show _ = some _ by simp only [List.getElem?_toArray, List.getElem?_cons_succ, List.getElem?_cons_zero]; exact rfl) (fun K hK => ?_)
  go_simp
  go_at_call 115; refine (put64_nil s hs _).mono ?_; rintro e v1 ⟨ad, c, rfl, hsh, kb⟩
  (try simp only [])
  refine hK.out _ _ (FS.next hS0 kb) (fun hS1 => ?_)
  clear hK K
  (try simp only [Act.put]); (try simp only [List.setIfInBounds_toArray]); (repeat (first | simp only [List.set_cons_succ] | simp only [List.set_cons_zero]))
  refine wpTo_last (by kernel_rfl) (show _ = some _ by simp only [List.getElem?_toArray, List.getElem?_cons_succ, List.getElem?_cons_zero]; exact rfl) (by kernel_rfl) (fun K hK => ?_)
  rw [if_pos (by rfl)]
  refine copy_in _ _ rfl (b + 1 + 1 + 1) 16 496 496 rfl ad 8 c rfl 26 c2 hS1.s (beb 8 s) hsh (by omega) (by rw [hT.l2]; omega) (fun w' hw' hb' => ?_)
  rw [hT.e3] at hw' hb'
  have hF := hS1.over hw' hb'
  clear hw' hb' hsh kb hS0 hS1
  refine hK.out _ _ ?_
  clear hK K
  (try simp only [Act.put]); (try simp only [List.setIfInBounds_toArray]); (repeat (first | simp only [List.set_cons_succ] | simp only [List.set_cons_zero]))
  go_wp2_with fail
  refine wp_region_to (fun v => FS w v b (tc (v8 k) g s ix) (bys x.l) c3) 5 (by kernel_rfl) ?_
  have hS0 := hF.drew
  clear hF
  refine wpTo_take (i := 0) (v := ?v0r6) (show _ = some _ by simp only [List.getElem?_toArray, List.getElem?_cons_zero]; exact rfl) (by kernel_rfl) (by kernel_rfl) (by kernel_rfl) (by kernel_rfl) (by exact fun _ _ _ h => h) (Or.inl ⟨by rfl, ?hy0r6⟩) hS0 ?r0r6
  case hy0r6 => (intro w hSw; (try dsimp only at hSw); go_simp; try with_reducible rfl)
  (try simp only [Act.put]); (try simp only [List.setIfInBounds_toArray]); (repeat (first | simp only [List.set_cons_succ] | simp only [List.set_cons_zero]))
  refine wpTo_take (i := 1) (v := ?v1r6) (show _ = some _ by simp only [List.getElem?_toArray, List.getElem?_cons_succ, List.getElem?_cons_zero]; exact rfl) (by kernel_rfl) (by kernel_rfl) (by kernel_rfl) (by kernel_rfl) (by exact fun _ _ _ h => h) (Or.inl ⟨by rfl, ?hy1r6⟩) hS0 ?r1r6
  case hy1r6 => (intro w hSw; (try dsimp only at hSw); go_simp; try with_reducible rfl)
  (try simp only [Act.put]); (try simp only [List.setIfInBounds_toArray]); (repeat (first | simp only [List.set_cons_succ] | simp only [List.set_cons_zero]))
  refine wpTo_take (i := 2) (v := ?v2r6) (show _ = some _ by simp only [List.getElem?_toArray, List.getElem?_cons_succ, List.getElem?_cons_zero]; exact rfl) (by kernel_rfl) (by kernel_rfl) (by kernel_rfl) (by kernel_rfl) (by exact fun _ _ _ h => h) (Or.inl ⟨by rfl, ?hy2r6⟩) hS0 ?r2r6
  case hy2r6 => (intro w hSw; (try dsimp only at hSw); have hc3 := Blk.cell hSw.t 3 _ rfl; go_simp; try with_reducible rfl)
  (try simp only [Act.put]); (try simp only [List.setIfInBounds_toArray]); (repeat (first | simp only [List.set_cons_succ] | simp only [List.set_cons_zero]))
  refine wpTo_take (i := 3) (v := ?v3r6) (show _ = some _ by simp only [List.getElem?_toArray, List.getElem?_cons_succ, List.getElem?_cons_zero]; exact rfl) (by kernel_rfl) (by kernel_rfl) (by kernel_rfl) (by kernel_rfl) (by exact fun _ _ _ h => h) (Or.inl ⟨by rfl, ?hy3r6⟩) hS0 ?r3r6
  case hy3r6 => (intro w hSw; (try dsimp only at hSw); go_simp; try with_reducible rfl)
  (try simp only [Act.put]); (try simp only [List.setIfInBounds_toArray]); (repeat (first | simp only [List.set_cons_succ] | simp only [List.set_cons_zero]))
  refine wpTo_one (i := 4) (by kernel_rfl) (show _ = some _ by simp only [List.getElem?_toArray, List.getElem?_cons_succ, List.getElem?_cons_zero]; exact rfl) (fun K hK => ?_)
  go_simp
  go_at_call 109; refine (put32_nil ix hix _).mono ?_; rintro e v1 ⟨ad, c, rfl, hsh, kb⟩
  (try simp only [])
  refine hK.out _ _ (FS.next hS0 kb) (fun hS1 => ?_)
  clear hK K
  (try simp only [Act.put]); (try simp only [List.setIfInBounds_toArray]); (repeat (first | simp only [List.set_cons_succ] | simp only [List.set_cons_zero]))
  refine wpTo_last (by kernel_rfl) (show _ = some _ by simp only [List.getElem?_toArray, List.getElem?_cons_succ, List.getElem?_cons_zero]; exact rfl) (by kernel_rfl) (fun K hK => ?_)
  rw [if_pos (by rfl)]
  refine copy_in _ _ rfl (b + 1 + 1 + 1) 24 488 488 rfl ad 4 c rfl 26 c3 hS1.s (beb 4 ix) hsh (by omega) (by rw [hT.l3]; omega) (fun w' hw' hb' => ?_)
  rw [hT.e4] at hw' hb'
  have hF := hS1.over hw' hb'
  clear hw' hb' hsh kb hS0 hS1
  refine hK.out _ _ ?_
  clear hK K
  (try simp only [Act.put]); (try simp only [List.setIfInBounds_toArray]); (repeat (first | simp only [List.set_cons_succ] | simp only [List.set_cons_zero]))
  go_wp2_with fail
  refine wp_region_to (fun v => FS w v b (tc (v8 k) g s ix) (bys x.l) c4) 2 (by kernel_rfl) ?_
  have hS0 := hF.drew
  clear hF
  refine wpTo_take (i := 0) (v := ?v0r7) (show _ = some _ by simp only [List.getElem?_toArray, List.getElem?_cons_zero]; exact rfl) (by kernel_rfl) (by kernel_rfl) (by kernel_rfl) (by kernel_rfl) (by exact fun _ _ _ h => h) (Or.inl ⟨by rfl, ?hy0r7⟩) hS0 ?r0r7
  case hy0r7 => (intro w hSw; (try dsimp only at hSw); go_simp; try with_reducible rfl)
  (try simp only [Act.put]); (try simp only [List.setIfInBounds_toArray]); (repeat (first | simp only [List.set_cons_succ] | simp only [List.set_cons_zero]))
  refine wpTo_take (i := 1) (v := ?v1r7) (show _ = some _ by simp only [List.getElem?_toArray, List.getElem?_cons_succ, List.getElem?_cons_zero]; exact rfl) (by kernel_rfl) (by kernel_rfl) (by kernel_rfl) (by kernel_rfl) (by exact fun _ _ _ h => h) (Or.inl ⟨by rfl, ?hy1r7⟩) hS0 ?r1r7
  case hy1r7 => (intro w hSw; (try dsimp only at hSw); go_simp; try with_reducible rfl)
  (try simp only [Act.put]); (try simp only [List.setIfInBounds_toArray]); (repeat (first | simp only [List.set_cons_succ] | simp only [List.set_cons_zero]))
  refine wpTo_last (by kernel_rfl) (show _ = some _ by simp only [List.getElem?_toArray, List.getElem?_cons_succ, List.getElem?_cons_zero]; exact rfl) (by kernel_rfl) (fun K hK => ?_)
  rw [if_pos (by rfl)]
  refine copy_in _ _ rfl (b + 1 + 1 + 1) 32 480 480 rfl ⟨b + 1, 0, none⟩ 480 480 rfl 26 c4 hS0.s x.l (by have := hS0.x.shows 0 480 (by rw [hx]; omega); rwa [show seg x.l 0 480 = x.l from (by unfold seg; rw [List.drop_zero, List.take_of_length_le (by omega)])] at this) (by omega) (by rw [hT.l4]; omega) (fun w' hw' hb' => ?_)
  rw [hT.e5] at hw' hb'
  have hF := hS0.over hw' hb'
  clear hw' hb' hS0
  refine hK.out _ _ ?_
  clear hK K
  (try simp only [Act.put]); (try simp only [List.setIfInBounds_toArray]); (repeat (first | simp only [List.set_cons_succ] | simp only [List.set_cons_zero]))
  have hl5 := hT.l5
  have hlen : (bys c5).length = 512 := by rw [bys_length, hl5]
  have hchk : ∀ W : World, Tabs W → Calls Tryz.prog 116 #[.agg (bys c5).toArray] W fun e w' => e = .returned (.int .u32 ((chk k g s ix x : Nat) : Int)) ∧ Below W.heap.size W w' := fun W hW => by
    have := check_any ⟨c5, hl5⟩ W hW
    rw [show v32 (crc (⟨c5, hl5⟩ : Sec).l) = ((chk k g s ix x : Nat) : Int) by show v32 (crc c5) = _; rw [hT.b]; rfl] at this
    exact this
  obtain ⟨ch, hch⟩ : ∃ ch, ch = chk k g s ix x := ⟨_, rfl⟩
  have hch2 : ch < 4294967296 := by rw [hch]; exact (crc _).isLt
  have hE6 := hT.e6
  rw [← hch] at hchk hE6
  clear hch
  go_wp2_with fail
  refine wp_region_to (fun v => FS w v b (tc (v8 k) g s ix) (bys x.l) c5) 4 (by kernel_rfl) ?_
  have hS0 := hF.drew
  clear hF
  refine wpTo_take (i := 0) (v := ?v0r8) (show _ = some _ by simp only [List.getElem?_toArray, List.getElem?_cons_zero]; exact rfl) (by kernel_rfl) (by kernel_rfl) (by kernel_rfl) (by kernel_rfl) (by exact fun _ _ _ h => h) (Or.inl ⟨by rfl, ?hy0r8⟩) hS0 ?r0r8
  case hy0r8 => (intro w hSw; (try dsimp only at hSw); go_simp; try with_reducible rfl)
  (try simp only [Act.put]); (try simp only [List.setIfInBounds_toArray]); (repeat (first | simp only [List.set_cons_succ] | simp only [List.set_cons_zero]))
  refine wpTo_take (i := 1) (show _ = some _ by simp only [List.getElem?_toArray, List.getElem?_cons_succ, List.getElem?_cons_zero]; exact rfl) (by kernel_rfl) (by kernel_rfl) (by kernel_rfl) (by kernel_rfl) (by exact fun _ _ _ h => h) (yieldsIf_load_mid (by rfl) 26 (.tmp 5) rfl (b + 1 + 1 + 1) 0 rfl (bys c5) _ (fun v h => (FS.s h).whole) Tryz.underlying26 rfl (by rw [hlen]; kernel_rfl)) hS0 ?_
  (try simp only [Act.put]); (try simp only [List.setIfInBounds_toArray]); (repeat (first | simp only [List.set_cons_succ] | simp only [List.set_cons_zero]))
  refine wpTo_one (i := 2) (by kernel_rfl) (show _ = some _ by simp only [List.getElem?_toArray, List.getElem?_cons_succ, List.getElem?_cons_zero]; exact rfl) (fun K hK => ?_)
  go_simp
  go_at_call 116; refine (hchk _ hS0.tabs).mono ?_; rintro e v1 ⟨rfl, kb⟩
  (try simp only [])
  refine hK.out _ _ (FS.next hS0 kb) (fun hS1 => ?_)
  clear hK K
  (try simp only [Act.put]); (try simp only [List.setIfInBounds_toArray]); (repeat (first | simp only [List.set_cons_succ] | simp only [List.set_cons_zero]))
  refine wpTo_one (i := 3) (by kernel_rfl) (show _ = some _ by simp only [List.getElem?_toArray, List.getElem?_cons_succ, List.getElem?_cons_zero]; exact rfl) (fun K hK => ?_)
  go_simp
  go_at_call 109; refine (put32_nil ch hch2 _).mono ?_; rintro e v2 ⟨ad, c, rfl, hsh, kb⟩
  (try simp only [])
  refine hK.out _ _ (FS.next hS1 kb) (fun hS2 => ?_)
  clear hK K
  (try simp only [Act.put]); (try simp only [List.setIfInBounds_toArray]); (repeat (first | simp only [List.set_cons_succ] | simp only [List.set_cons_zero]))
  refine wpTo_last (by kernel_rfl) (show _ = some _ by simp only [List.getElem?_toArray, List.getElem?_cons_succ, List.getElem?_cons_zero]; exact rfl) (by kernel_rfl) (fun K hK => ?_)
  rw [if_pos (by rfl)]
  refine copy_in _ _ rfl (b + 1 + 1 + 1) 28 484 484 rfl ad 4 c rfl 26 c5 hS2.s (beb 4 ch) hsh (by omega) (by rw [hl5]; omega) (fun w' hw' hb' => ?_)
  rw [hE6] at hw' hb'
  have hF := hS2.over hw' hb'
  clear hw' hb' hsh hS0 hS1 hS2
  refine hK.out _ _ ?_
  clear hK K
  (try simp only [Act.put]); (try simp only [List.setIfInBounds_toArray]); (repeat (first | simp only [List.set_cons_succ] | simp only [List.set_cons_zero]))
  have hS6 := hF.s
  rw [h6] at hS6
  have hr := hF.r
  have hbl := hF.below
  have hbz := HB.out
  clear hF h6 hE6 hchk
  go_wp2_with (first | (refine load_sec rfl _ rfl (b + 1 + 1 + 1) fs hS6 rfl ?_) | (refine store_sec rfl _ _ rfl (b + 1 + 1) zs fs hr rfl rfl ?_; intro hA1))
  refine bodyPost_ret (ret64 rfl _ _ (b + 1 + 1) fs rfl hA1) rfl ⟨rfl, ?_⟩
  rw [hbz] at hbl ⊢
  exact hbl.trans (Fr.below (X := fun k => k = w.heap.size + 1 + 1) ((Fr.refl _ _).setRow _ _ (.inl rfl)) (fun k e => by omega) hbl.size)
end Go.Proofs.YtndfhmlcfaaaiaaGreatDoor
