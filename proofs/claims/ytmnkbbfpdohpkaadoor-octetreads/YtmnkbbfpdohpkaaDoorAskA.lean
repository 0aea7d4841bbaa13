/- Every answer of a reader, whatever is asked of it and however it stands. -/
import Derived.Test.YtmnkbbfpdohpkaaDoorText
namespace Go.Proofs.YtmnkbbfpdohpkaaDoor
open Go.RowKit

/-- The bytes read, what is left, and the error, where n bytes are asked for. -/
def mO (n : Int) (xs : List Int) (e : Int) : List Int := if e ≠ 0 then [] else if n < 0 then [] else if (xs.length : Int) < n then [] else xs.take n.toNat
def mL (n : Int) (xs : List Int) (e : Int) : List Int := if e ≠ 0 then xs else if n < 0 then xs else if (xs.length : Int) < n then xs else xs.drop n.toNat
def mE (n : Int) (xs : List Int) (e : Int) : Int := if e ≠ 0 then e else if n < 0 then 2 else if (xs.length : Int) < n then 10 else 0

theorem m_err {n : Int} {xs : List Int} {e : Int} (h : e ≠ 0) : mO n xs e = [] ∧ mL n xs e = xs ∧ mE n xs e = e := by simp [mO, mL, mE, h]
theorem m_neg {n : Int} {xs : List Int} (h : n < 0) : mO n xs 0 = [] ∧ mL n xs 0 = xs ∧ mE n xs 0 = 2 := by simp [mO, mL, mE, h]
theorem m_short {n : Int} {xs : List Int} (h : (xs.length : Int) < n) : mO n xs 0 = [] ∧ mL n xs 0 = xs ∧ mE n xs 0 = 10 := by
  have : ¬ n < 0 := by omega
  simp [mO, mL, mE, h, this]
theorem m_ok {n : Nat} {xs : List Int} (h : n ≤ xs.length) : mO n xs 0 = xs.take n ∧ mL n xs 0 = xs.drop n ∧ mE n xs 0 = 0 := by
  have h1 : ¬ (xs.length : Int) < (n : Int) := by omega
  have h2 : ¬ (n : Int) < 0 := by omega
  simp [mO, mL, mE, h1, h2]

theorem beval_nil : beval [] = 0 := rfl

/-- A number of wd bytes, however the reader stands. -/
theorem num_all (f : FuncId) (k : IntKind) (wd : Nat) (hwd : wd ≤ 8) (r : Nat) (ao : Option Addr) (n c : Nat) (xs : List Int) (e : Int) (w : World) (h : Rd w r ao n c xs e)
    (hof : ∀ (y : Int) (w2 : World), 0 ≤ y → y < 256 ^ wd → Calls Tryd.prog 57 #[.pointer (some ⟨r, 0, none⟩), .int .i64 wd] w (fun x w' => x = .returned (.int .u64 y) ∧ w2 = w') → Calls Tryd.prog f #[.pointer (some ⟨r, 0, none⟩)] w fun x w' => x = .returned (.int k y) ∧ w2 = w') :
    Calls Tryd.prog f #[.pointer (some ⟨r, 0, none⟩)] w fun x w' => x = .returned (.int k (beval (mO wd xs e))) ∧ (∃ ao' n' c', Rd w' r ao' n' c' (mL wd xs e) (mE wd xs e)) ∧ Only r w w' := by
  have hp : (0 : Int) < 256 ^ wd := Int.pow_pos (by decide)
  have hl := h.sh.len
  by_cases he : e = 0
  · subst he
    by_cases hn : wd ≤ n
    · obtain ⟨e1, e2, e3⟩ := m_ok (n := wd) (xs := xs) (by omega)
      rw [e1, e2, e3]
      have hb := num_bd h wd hn
      refine (hof _ _ hb.1 hb.2 (num_at wd hwd r ao n c xs w h hn)).mono ?_
      rintro x w' ⟨rfl, hw⟩
      exact ⟨rfl, ⟨_, _, _, h.takes hn hw⟩, hw ▸ Only.set r 0 _ w⟩
    · obtain ⟨e1, e2, e3⟩ := m_short (n := wd) (xs := xs) (by omega)
      rw [e1, e2, e3, beval_nil]
      refine (hof 0 _ (by omega) hp (number_of_nil _ _ _ _ (take_short r ao n c xs wd w h (by omega)))).mono ?_
      rintro x w' ⟨rfl, rfl⟩
      exact ⟨rfl, ⟨_, _, _, h.fail 10⟩, Only.set r 1 _ w⟩
  · obtain ⟨e1, e2, e3⟩ := m_err (n := wd) (xs := xs) he
    rw [e1, e2, e3, beval_nil]
    refine (hof 0 _ (by omega) hp (number_of_nil _ _ _ _ (take_err r ao n c xs e wd w h (by simpa using he)))).mono ?_
    rintro x w' ⟨rfl, rfl⟩
    exact ⟨rfl, ⟨_, _, _, h⟩, Only.refl r w⟩

theorem u8_all (r : Nat) (ao : Option Addr) (n c : Nat) (xs : List Int) (e : Int) (w : World) (h : Rd w r ao n c xs e) :
    Calls Tryd.prog 33 #[.pointer (some ⟨r, 0, none⟩)] w fun x w' => x = .returned (.int .u8 (beval (mO 1 xs e))) ∧ (∃ ao' n' c', Rd w' r ao' n' c' (mL 1 xs e) (mE 1 xs e)) ∧ Only r w w' :=
  num_all 33 .u8 1 (by omega) r ao n c xs e w h (fun y w2 h0 h1 => u8_of _ y h0 (by omega) w w2)
theorem u16_all (r : Nat) (ao : Option Addr) (n c : Nat) (xs : List Int) (e : Int) (w : World) (h : Rd w r ao n c xs e) :
    Calls Tryd.prog 34 #[.pointer (some ⟨r, 0, none⟩)] w fun x w' => x = .returned (.int .u16 (beval (mO 2 xs e))) ∧ (∃ ao' n' c', Rd w' r ao' n' c' (mL 2 xs e) (mE 2 xs e)) ∧ Only r w w' :=
  num_all 34 .u16 2 (by omega) r ao n c xs e w h (fun y w2 h0 h1 => u16_of _ y h0 (by omega) w w2)
theorem u32_all (r : Nat) (ao : Option Addr) (n c : Nat) (xs : List Int) (e : Int) (w : World) (h : Rd w r ao n c xs e) :
    Calls Tryd.prog 35 #[.pointer (some ⟨r, 0, none⟩)] w fun x w' => x = .returned (.int .u32 (beval (mO 4 xs e))) ∧ (∃ ao' n' c', Rd w' r ao' n' c' (mL 4 xs e) (mE 4 xs e)) ∧ Only r w w' :=
  num_all 35 .u32 4 (by omega) r ao n c xs e w h (fun y w2 h0 h1 => u32_of _ y h0 (by omega) w w2)
theorem u64_all (r : Nat) (ao : Option Addr) (n c : Nat) (xs : List Int) (e : Int) (w : World) (h : Rd w r ao n c xs e) :
    Calls Tryd.prog 36 #[.pointer (some ⟨r, 0, none⟩)] w fun x w' => x = .returned (.int .u64 (beval (mO 8 xs e))) ∧ (∃ ao' n' c', Rd w' r ao' n' c' (mL 8 xs e) (mE 8 xs e)) ∧ Only r w w' :=
  num_all 36 .u64 8 (by omega) r ao n c xs e w h (fun y w2 _ _ => u64_of _ y w w2)

set_option maxHeartbeats 400000 in
theorem raw_of_nil (p : Value) (k : Int) (w w2 : World) (ht : Calls Tryd.prog 58 #[p, .int .i64 k] w fun x w' => x = .returned (.slice none 0 0) ∧ w2 = w') :
    Calls Tryd.prog 37 #[p, .int .i64 k] w fun x w' => x = .returned (.slice none 0 0) ∧ w2 = w' := by
  have hnil : Calls Tryd.prog 51 #[.slice none 0 0] w2 fun x w' => x = .returned (.slice none 0 0) ∧ w2 = w' := by
    have q22 : ∀ (w : World) (a : Option Addr) (n c n' c' : Nat), (binOp .eql 22 (.slice a n c) (.slice none n' c')).run Tryd.prog w = .ok (.bool a.isNone) w := fun w a n c n' c' => Lib.run_eql_slice_nil w _ _ a n c n' c' Tryd.underlying22
    go_enter Tryd.func51, Tryd.ntmps51
    go_wp2
    go_ret
    exact ⟨rfl, rfl⟩
  go_enter Tryd.func37, Tryd.ntmps37
  go_wp2_with (first | (go_at_call 58; refine ht.mono ?_; rintro e w' ⟨rfl, rfl⟩) | (go_at_call 51; refine hnil.mono ?_; rintro e w' ⟨rfl, rfl⟩))
  go_ret
  exact ⟨rfl, rfl⟩

theorem raw_all (k : Int) (r : Nat) (ao : Option Addr) (n c : Nat) (xs : List Int) (e : Int) (w : World) (h : Rd w r ao n c xs e) (hbig : n ≤ 140737488355328) :
    Calls Tryd.prog 37 #[.pointer (some ⟨r, 0, none⟩), .int .i64 k] w fun x w' => ∃ v, x = .returned v ∧ w'.ownsRow w.heap.size 5 1 v (mO k xs e).length (u8s (mO k xs e)) ∧ (∃ ao' n' c', Rd w' r ao' n' c' (mL k xs e) (mE k xs e)) ∧ Only r w w' := by
  have hl := h.sh.len
  by_cases he : e = 0
  · subst he
    by_cases hk0 : k < 0
    · obtain ⟨e1, e2, e3⟩ := m_neg (xs := xs) hk0
      rw [e1, e2, e3]
      refine (raw_of_nil _ _ _ _ (take_neg r ao n c xs k w h hk0)).mono ?_
      rintro x w' ⟨rfl, rfl⟩
      exact ⟨_, rfl, World.ownsRow_nil _ _ _ _, ⟨_, _, _, h.fail 2⟩, Only.set r 1 _ w⟩
    · obtain ⟨m, rfl⟩ : ∃ m : Nat, k = m := ⟨k.toNat, by omega⟩
      by_cases hn : m ≤ n
      · obtain ⟨e1, e2, e3⟩ := m_ok (n := m) (xs := xs) (by omega)
        rw [e1, e2, e3]
        refine (raw_at r ao n c xs m w h hn hbig).mono ?_
        rintro x w' ⟨v, rfl, hown, hrd, hon⟩
        have : (xs.take m).length = m := by simp; omega
        rw [this]
        exact ⟨_, rfl, hown, ⟨_, _, _, hrd⟩, hon⟩
      · obtain ⟨e1, e2, e3⟩ := m_short (n := m) (xs := xs) (by omega)
        rw [e1, e2, e3]
        refine (raw_of_nil _ _ _ _ (take_short r ao n c xs m w h (by omega))).mono ?_
        rintro x w' ⟨rfl, rfl⟩
        exact ⟨_, rfl, World.ownsRow_nil _ _ _ _, ⟨_, _, _, h.fail 10⟩, Only.set r 1 _ w⟩
  · obtain ⟨e1, e2, e3⟩ := m_err (n := k) (xs := xs) he
    rw [e1, e2, e3]
    refine (raw_of_nil _ _ _ _ (take_err r ao n c xs e k w h (by simpa using he))).mono ?_
    rintro x w' ⟨rfl, rfl⟩
    exact ⟨_, rfl, World.ownsRow_nil _ _ _ _, ⟨_, _, _, h⟩, Only.refl r w⟩

set_option maxHeartbeats 400000 in
theorem text_fail (r : Nat) (ao : Option Addr) (n c : Nat) (v3 : Value) (w w2 w3 : World) (y e3 : Int) (hy0 : 0 ≤ y) (hy1 : y ≤ 65535) (c0 : w.cell? ⟨r, 0, none⟩ = some (.slice ao n c))
    (h16 : Calls Tryd.prog 34 #[.pointer (some ⟨r, 0, none⟩)] w fun x w' => x = .returned (.int .u16 y) ∧ w2 = w')
    (htk : Calls Tryd.prog 58 #[.pointer (some ⟨r, 0, none⟩), .int .i64 y] w2 fun x w' => x = .returned (.slice none 0 0) ∧ w3 = w')
    (d0 : w3.cell? ⟨r, 0, none⟩ = some v3) (d1 : w3.cell? ⟨r, 1, none⟩ = some (.int .i64 e3)) (he : (e3 != 0) = true) (f0 : w3.frozen? ⟨r, 0, none⟩ = false) :
    Calls Tryd.prog 38 #[.pointer (some ⟨r, 0, none⟩)] w fun x w' => x = .returned (.string (strOfNums [])) ∧ w3.setCell ⟨r, 0, none⟩ (.slice ao n c) = w' := by
  have k3 := run_convert_bytes_nil w3 22 5 Tryd.underlying22 Tryd.underlying5 0 0 9 Tryd.underlying9
  go_enter Tryd.func38, Tryd.ntmps38
  go_wp2_with (first | (go_at_call 34; refine h16.mono ?_; rintro e w' ⟨rfl, rfl⟩) | (go_at_call 58; refine htk.mono ?_; rintro e w' ⟨rfl, rfl⟩))
  go_ret
  exact ⟨rfl, rfl⟩

theorem Rd.reset {w : World} {r : Nat} {aX : Option Addr} {nX cX : Nat} {xX : List Int} {e : Int} (h : Rd w r aX nX cX xX e) {ao : Option Addr} {n c : Nat} {xs : List Int} (hs : Shows w ao n xs) (h1 : n ≤ c) (h2 : c ≤ maxLen) (h3 : ao = none → c = 0) (h4 : ∀ ad, ao = some ad → ad.block ≠ r) :
    Rd (w.setCell ⟨r, 0, none⟩ (.slice ao n c)) r ao n c xs e :=
  ⟨by rw [heap_setCell_same w r 0 _ 82 _ h.blk]; rfl, hs.beside (fun ad had => h4 ad had) _, h1, h2, h3, h4⟩

/-- A text, however the reader stands: its bytes, what is left, the error. -/
def tM (xs : List Int) : Nat := (beval (xs.take 2)).toNat
def tO (xs : List Int) (e : Int) : List Int := if e ≠ 0 then [] else if xs.length < 2 then [] else if xs.length < 2 + tM xs then [] else (xs.drop 2).take (tM xs)
def tL (xs : List Int) (e : Int) : List Int := if e ≠ 0 then xs else if xs.length < 2 then xs else if xs.length < 2 + tM xs then xs else (xs.drop 2).drop (tM xs)
def tE (xs : List Int) (e : Int) : Int := if e ≠ 0 then e else if xs.length < 2 then 10 else if xs.length < 2 + tM xs then 10 else 0

theorem text_all (r : Nat) (ao : Option Addr) (n c : Nat) (xs : List Int) (e : Int) (w : World) (h : Rd w r ao n c xs e) :
    Calls Tryd.prog 38 #[.pointer (some ⟨r, 0, none⟩)] w fun x w' => x = .returned (.string (strOfNums (tO xs e))) ∧ (∃ ao' n' c', Rd w' r ao' n' c' (tL xs e) (tE xs e)) ∧ Only r w w' := by
  have hl := h.sh.len
  by_cases he : e = 0
  · subst he
    by_cases h2 : 2 ≤ n
    · have hb := num_bd h 2 h2
      have hm : beval (xs.take 2) = (tM xs : Nat) := by unfold tM; omega
      by_cases hn : 2 + tM xs ≤ n
      · have e1 : tO xs 0 = (xs.drop 2).take (tM xs) := by unfold tO; rw [if_neg (by simp), if_neg (by omega), if_neg (by omega)]
        have e2 : tL xs 0 = (xs.drop 2).drop (tM xs) := by unfold tL; rw [if_neg (by simp), if_neg (by omega), if_neg (by omega)]
        have e3 : tE xs 0 = 0 := by unfold tE; rw [if_neg (by simp), if_neg (by omega), if_neg (by omega)]
        rw [e1, e2, e3]
        refine (text_at r ao n c (tM xs) xs w h h2 hm hn).mono ?_
        rintro x w' ⟨rfl, ⟨ao', c', hrd⟩, hon⟩
        exact ⟨rfl, ⟨_, _, _, hrd⟩, hon⟩
      · have e1 : tO xs 0 = [] := by unfold tO; rw [if_neg (by simp), if_neg (by omega), if_pos (by omega)]
        have e2 : tL xs 0 = xs := by unfold tL; rw [if_neg (by simp), if_neg (by omega), if_pos (by omega)]
        have e3 : tE xs 0 = 10 := by unfold tE; rw [if_neg (by simp), if_neg (by omega), if_pos (by omega)]
        rw [e1, e2, e3]
        have hrd2 := h.took h2
        have hrd3 := hrd2.fail 10
        have hsh3 : Shows _ ao n xs := (h.sh.beside (fun ad had => h.apart ad had) (a := ⟨r, 0, none⟩) (.slice (fromAt ao c 2) (n - 2) (c - 2))).beside (fun ad had => h.apart ad had) (a := ⟨r, 1, none⟩) (.int .i64 10)
        refine (text_fail r ao n c _ w _ _ (beval (xs.take 2)) 10 hb.1 (by omega) h.c0 (u16_at r ao n c xs w h h2) (take_short r _ _ _ _ _ _ hrd2 (by omega)) hrd3.c0 hrd3.c1 rfl (hrd3.fz 0)).mono ?_
        rintro x w' ⟨rfl, rfl⟩
        exact ⟨rfl, ⟨_, _, _, hrd3.reset hsh3 h.cap h.big h.bare h.apart⟩, ((Only.set r 0 _ w).trans (Only.set r 1 _ _)).trans (Only.set r 0 _ _)⟩
    · have e1 : tO xs 0 = [] := by unfold tO; rw [if_neg (by simp), if_pos (by omega)]
      have e2 : tL xs 0 = xs := by unfold tL; rw [if_neg (by simp), if_pos (by omega)]
      have e3 : tE xs 0 = 10 := by unfold tE; rw [if_neg (by simp), if_pos (by omega)]
      rw [e1, e2, e3]
      have hrd2 := h.fail 10
      have h16 := u16_of _ 0 (by omega) (by omega) _ _ (number_of_nil _ _ _ _ (take_short r ao n c xs 2 w h (by omega)))
      refine (text_fail r ao n c _ w _ _ 0 10 (by omega) (by omega) h.c0 h16 (take_err r ao n c xs 10 0 _ hrd2 rfl) hrd2.c0 hrd2.c1 rfl (hrd2.fz 0)).mono ?_
      rintro x w' ⟨rfl, rfl⟩
      exact ⟨rfl, ⟨_, _, _, hrd2.reset hrd2.sh h.cap h.big h.bare h.apart⟩, (Only.set r 1 _ w).trans (Only.set r 0 _ _)⟩
  · have e1 : tO xs e = [] := by unfold tO; rw [if_pos he]
    have e2 : tL xs e = xs := by unfold tL; rw [if_pos he]
    have e3 : tE xs e = e := by unfold tE; rw [if_pos he]
    rw [e1, e2, e3]
    have hne : (e != 0) = true := by simpa using he
    have h16 := u16_of _ 0 (by omega) (by omega) _ _ (number_of_nil _ _ _ _ (take_err r ao n c xs e 2 w h hne))
    refine (text_fail r ao n c _ w _ _ 0 e (by omega) (by omega) h.c0 h16 (take_err r ao n c xs e 0 _ h hne) h.c0 h.c1 hne (h.fz 0)).mono ?_
    rintro x w' ⟨rfl, rfl⟩
    exact ⟨rfl, ⟨_, _, _, h.reset h.sh h.cap h.big h.bare h.apart⟩, Only.set r 0 _ _⟩

end Go.Proofs.YtmnkbbfpdohpkaaDoor
