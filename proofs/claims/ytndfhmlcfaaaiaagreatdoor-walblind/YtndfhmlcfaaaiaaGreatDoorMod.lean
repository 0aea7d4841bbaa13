/- Records in a log, as mathematics: where they lie, what they write, what a failure of the power leaves of them. -/
import Derived.Test.YtndfhmlcfaaaiaaGreatDoorFrm
import Derived.Test.YtndfhmlcfaaaiaaGreatDoorLies
namespace Go.Proofs.YtndfhmlcfaaaiaaGreatDoor
/-- An image: of which page, and what. -/
abbrev Im := Nat × Pg
/-- A page that begins with these bytes. -/
def pgOf (l : List B) : Pg := ⟨(l ++ zp.l).take 480, by rw [List.length_take, List.length_append, zp.h]; omega⟩
def nmB (w : List Im) : List B := w.flatMap fun x => beb 4 x.1
theorem nmB_length (w : List Im) : (nmB w).length = 4 * w.length := by
  induction w with
  | nil => rfl
  | cons x w ih =>
    have : nmB (x :: w) = beb 4 x.1 ++ nmB w := rfl
    rw [this, List.length_append, ih, beb_length, List.length_cons]
    omega
def nmIn (x : Pg) (j : Nat) : Nat := nub (seg x.l (4 * j) 4)
theorem nmIn_lt (x : Pg) (j : Nat) (h : j < 120) : nmIn x j < 4294967296 := by
  have := nub_lt (seg x.l (4 * j) 4)
  rw [seg_length _ _ _ (by rw [x.h]; omega)] at this
  exact this
theorem seg_nm (w : List Im) (z : List B) : ∀ j, (h : j < w.length) → seg (nmB w ++ z) (4 * j) 4 = beb 4 w[j].1 := by
  induction w with
  | nil => intro j h; simp at h
  | cons x w ih =>
    intro j h
    have e : nmB (x :: w) = beb 4 x.1 ++ nmB w := rfl
    rw [e, List.append_assoc]
    cases j with
    | zero =>
      have := seg_mid [] (beb 4 x.1) (nmB w ++ z) 0 4 rfl (by rw [beb_length])
      simpa using this
    | succ j =>
      have h2 := ih j (by simpa using h)
      unfold seg at h2 ⊢
      rw [show 4 * (j + 1) = (beb 4 x.1).length + 4 * j by rw [beb_length]; omega, List.drop_append, List.drop_of_length_le (by omega), List.nil_append, Nat.add_sub_cancel_left]
      simpa using h2
theorem nmIn_pgOf (w : List Im) (j : Nat) (hw : w.length ≤ 120) (h : j < w.length) : nmIn (pgOf (nmB w)) j = w[j].1 % 4294967296 := by
  unfold nmIn pgOf
  have h1 := nmB_length w
  have e : seg ((nmB w ++ zp.l).take 480) (4 * j) 4 = seg (nmB w ++ zp.l) (4 * j) 4 := by
    unfold seg
    rw [List.drop_take, List.take_take, Nat.min_eq_left (by omega)]
  show nub (seg ((nmB w ++ zp.l).take 480) (4 * j) 4) = _
  rw [e, seg_nm w _ j h, nub_beb]

def hdF (L H g : Nat) : Sec := frm 1#8 g 0 0 (pgOf (beb 4 L ++ beb 4 H))
def hmF (g p : Nat) (x : Pg) : Sec := frm 5#8 g 0 p x
/-- The i-th frame of a record. -/
def rf (g s : Nat) (w : List Im) (i : Nat) : Sec :=
  if i = 0 then frm 2#8 g s w.length (pgOf (nmB w)) else if i ≤ w.length then frm 3#8 g s (i - 1) (w.getD (i - 1) (0, zp)).2 else frm 4#8 g s w.length zp
def nam (H : Nat) (w : List Im) : Prop := (∀ x ∈ w, x.1 < H) ∧ (w.map (·.1)).Nodup
def okR (L H u : Nat) (w : List Im) : Prop := w ≠ [] ∧ w.length ≤ 120 ∧ u + w.length + 2 ≤ L ∧ nam H w
def isR (F : Nat → Sec) (g s u : Nat) (w : List Im) : Prop := ∀ i, i < w.length + 2 → F (2 + u + i) = rf g s w i
/-- What a record at that place must be. -/
def cand (F : Nat → Sec) (u n : Nat) : List Im := (List.range n).map fun k => (nmIn (pin (F (2 + u))) k, pin (F (2 + u + 1 + k)))
theorem cand_length (F : Nat → Sec) (u n : Nat) : (cand F u n).length = n := by simp [cand]
theorem cand_of {F : Nat → Sec} {L H g s u : Nat} {w : List Im} (hH : H ≤ 4294967296) (ho : okR L H u w) (hi : isR F g s u w) : xin (F (2 + u)) = w.length ∧ cand F u w.length = w := by
  obtain ⟨h1, h2, h3, h4, h5⟩ := ho
  have e0 := hi 0 (by omega)
  rw [Nat.add_zero] at e0
  refine ⟨?_, ?_⟩
  · rw [e0, rf, if_pos rfl, xin_frm, Nat.mod_eq_of_lt (by omega)]
  · refine List.ext_getElem (cand_length _ _ _) fun j hj hj2 => ?_
    have e1 := hi (1 + j) (by omega)
    rw [rf, if_neg (by omega), if_pos (by omega)] at e1
    simp only [cand, List.getElem_map, List.getElem_range]
    rw [e0, rf, if_pos rfl, pin_frm, nmIn_pgOf w j h2 hj2, show 2 + u + 1 + j = 2 + u + (1 + j) by omega, e1, pin_frm, show 1 + j - 1 = j by omega]
    have := h4 w[j] (List.getElem_mem _)
    rw [Nat.mod_eq_of_lt (by omega)]
    simp [List.getD, List.getElem?_eq_getElem hj2]
theorem isR_unique {F : Nat → Sec} {L H g s u : Nat} {w w' : List Im} (hH : H ≤ 4294967296) (ho : okR L H u w) (hi : isR F g s u w) (ho' : okR L H u w') (hi' : isR F g s u w') : w = w' := by
  have h1 := cand_of hH ho hi
  have h2 := cand_of hH ho' hi'
  rw [← h1.2, ← h2.2, ← h1.1, ← h2.1]

/-- Records one behind the other, from number s and place u on. -/
def Lie (F : Nat → Sec) (L H g : Nat) : Nat → Nat → List (List Im) → Prop
  | _, _, [] => True
  | s, u, w :: ws => okR L H u w ∧ isR F g s u w ∧ Lie F L H g (s + 1) (u + (w.length + 2)) ws
def tot : List (List Im) → Nat
  | [] => 0
  | w :: ws => w.length + 2 + tot ws
theorem tot_snoc (ws : List (List Im)) (w : List Im) : tot (ws ++ [w]) = tot ws + (w.length + 2) := by
  induction ws with
  | nil => simp [tot]
  | cons a ws ih => simp only [List.cons_append, tot, ih]; omega
theorem Lie.room {F : Nat → Sec} {L H g : Nat} : ∀ {ws : List (List Im)} {s u : Nat}, u ≤ L → Lie F L H g s u ws → u + tot ws ≤ L
  | [], _, _, hu, _ => by simpa [tot] using hu
  | w :: ws, s, u, hu, h => by
    have := Lie.room (ws := ws) (by have := h.1.2.2.1; omega) h.2.2
    simp only [tot]
    omega
theorem Lie.congr {F G : Nat → Sec} {L H g : Nat} : ∀ {ws : List (List Im)} {s u : Nat}, Lie F L H g s u ws → (∀ i, 2 + u ≤ i → i < 2 + u + tot ws → G i = F i) → Lie G L H g s u ws
  | [], _, _, _, _ => trivial
  | w :: ws, s, u, h, he => ⟨h.1, fun i hi => by rw [he (2 + u + i) (by omega) (by simp only [tot]; omega)]; exact h.2.1 i hi, Lie.congr h.2.2 (fun i h1 h2 => he i (by omega) (by simp only [tot]; omega))⟩
theorem Lie.snoc {F : Nat → Sec} {L H g : Nat} {w : List Im} : ∀ {ws : List (List Im)} {s u : Nat}, Lie F L H g s u ws → okR L H (u + tot ws) w → isR F g (s + ws.length) (u + tot ws) w → Lie F L H g s u (ws ++ [w])
  | [], s, u, _, ho, hi => ⟨by simpa [tot] using ho, by simpa [tot] using hi, trivial⟩
  | a :: ws, s, u, h, ho, hi => ⟨h.1, h.2.1, Lie.snoc h.2.2 (by simpa [tot, Nat.add_assoc] using ho) (by simpa [tot, Nat.add_assoc, Nat.add_comm, Nat.add_left_comm] using hi)⟩
/-- No record follows. -/
def NoR (F : Nat → Sec) (L H g s u : Nat) : Prop := ∀ w, okR L H u w → ¬ isR F g s u w
theorem Lie.unique {F : Nat → Sec} {L H g : Nat} (hH : H ≤ 4294967296) : ∀ {ws ws' : List (List Im)} {s u : Nat}, Lie F L H g s u ws → NoR F L H g (s + ws.length) (u + tot ws) → Lie F L H g s u ws' → NoR F L H g (s + ws'.length) (u + tot ws') → ws = ws'
  | [], [], _, _, _, _, _, _ => rfl
  | [], w :: ws', s, u, _, hn, h, _ => absurd h.2.1 (hn w (by simpa [tot] using h.1))
  | w :: ws, [], s, u, h, _, _, hn => absurd h.2.1 (hn w (by simpa [tot] using h.1))
  | w :: ws, w' :: ws', s, u, h, hn, h', hn' => by
    have e := isR_unique hH h.1 h.2.1 h'.1 h'.2.1
    subst e
    rw [Lie.unique hH h.2.2 (by simpa [tot, Nat.add_assoc, Nat.add_comm, Nat.add_left_comm] using hn) h'.2.2 (by simpa [tot, Nat.add_assoc, Nat.add_comm, Nat.add_left_comm] using hn')]

/-- What records have written. -/
def ov1 (W : Nat → Option Pg) (w : List Im) : Nat → Option Pg := w.foldl (fun W x => upd W x.1 (some x.2)) W
def ov (ws : List (List Im)) : Nat → Option Pg := ws.foldl ov1 fun _ => none
theorem ov_snoc (ws : List (List Im)) (w : List Im) : ov (ws ++ [w]) = ov1 (ov ws) w := by simp [ov]
theorem ov_nil : ov [] = fun _ => none := rfl
theorem ov1_snoc (W : Nat → Option Pg) (w : List Im) (x : Im) : ov1 W (w ++ [x]) = upd (ov1 W w) x.1 (some x.2) := by simp [ov1]
/-- Pages with images on them. -/
def on1 (pg : Nat → Pg) (w : List Im) : Nat → Pg := w.foldl (fun P x => upd P x.1 x.2) pg
theorem ov1_cases (W : Nat → Option Pg) (pg : Nat → Pg) (p : Nat) : ∀ (w : List Im), (W p = none ∧ ov1 W w p = none ∧ on1 pg w p = pg p) ∨ ov1 W w p = some (on1 pg w p) ∨ (ov1 W w p = W p ∧ on1 pg w p = pg p) := by
  intro w
  induction w generalizing W pg with
  | nil => exact Or.inr (Or.inr ⟨rfl, rfl⟩)
  | cons x w ih =>
    have h := ih (upd W x.1 (some x.2)) (upd pg x.1 x.2)
    have e1 : ov1 W (x :: w) = ov1 (upd W x.1 (some x.2)) w := rfl
    have e2 : on1 pg (x :: w) = on1 (upd pg x.1 x.2) w := rfl
    rw [e1, e2]
    by_cases hp : p = x.1
    · subst hp
      simp only [upd_same] at h
      rcases h with h | h | h
      · exact absurd h.1 (by simp)
      · exact Or.inr (Or.inl h)
      · rw [h.1, h.2]; exact Or.inr (Or.inl rfl)
    · simp only [upd_ne _ _ _ _ hp] at h
      exact h
theorem ov1_low (W : Nat → Option Pg) (H : Nat) (hW : ∀ p, H ≤ p → W p = none) : ∀ (w : List Im), (∀ x ∈ w, x.1 < H) → ∀ p, H ≤ p → ov1 W w p = none := by
  intro w
  induction w generalizing W with
  | nil => intro _ p hp; exact hW p hp
  | cons x w ih =>
    intro hw p hp
    refine ih (upd W x.1 (some x.2)) (fun q hq => ?_) (fun y hy => hw y (by simp [hy])) p hp
    have := hw x (by simp)
    rw [upd_ne _ _ _ _ (by omega)]
    exact hW q hq
theorem ov_low {F : Nat → Sec} {L H g : Nat} : ∀ {ws : List (List Im)} (W : Nat → Option Pg) {s u : Nat}, (∀ p, H ≤ p → W p = none) → Lie F L H g s u ws → ∀ p, H ≤ p → ws.foldl ov1 W p = none
  | [], _, _, _, hW, _, p, hp => hW p hp
  | w :: _, W, _, _, hW, h, p, hp => ov_low (ov1 W w) (fun q hq => ov1_low W H hW w h.1.2.2.2.1 q hq) h.2.2 p hp

/-- What lies flushed is the pages pg: head g holds, the records ws lie in the log, all else is at home. -/
structure Rep (F : Nat → Sec) (L H g : Nat) (ws : List (List Im)) (pg : Nat → Pg) : Prop where
  g1 : 1 ≤ g
  g2 : g < 18446744073709551000
  head : F (g % 2) = hdF L H g
  other : isF (F ((g + 1) % 2)) → gin (F ((g + 1) % 2)) < g
  lie : Lie F L H g 0 0 ws
  fresh : ∀ i, i < L → isF (F (2 + i)) → gin (F (2 + i)) ≤ g ∧ (kin (F (2 + i)) = 4#8 → gin (F (2 + i)) = g → sin (F (2 + i)) < ws.length)
  homes : ∀ p, p < H → ∃ g' x, F (2 + L + p) = hmF g' p x ∧ (ov ws p = none → x = pg p)
  over : ∀ p x, ov ws p = some x → x = pg p
section
variable {F G : Nat → Sec} {L H g : Nat} {ws : List (List Im)} {pg : Nat → Pg}
theorem Rep.len (h : Rep F L H g ws pg) : tot ws ≤ L := by simpa using Lie.room (Nat.zero_le _) h.lie
theorem Lie.len : ∀ {ws : List (List Im)} {s u : Nat}, Lie F L H g s u ws → ws.length ≤ tot ws
  | [], _, _, _ => Nat.zero_le _
  | _ :: _, _, _, h => by have := Lie.len h.2.2; simp only [tot, List.length_cons]; omega
theorem Rep.noR (h : Rep F L H g ws pg) (hL : L ≤ 4000) : NoR F L H g (0 + ws.length) (0 + tot ws) := by
  intro w ho hi
  obtain ⟨h1, h2, h3, h4⟩ := ho
  have e := hi (w.length + 1) (by omega)
  have hl := Lie.len h.lie
  have ht := h.len
  have hg2 := h.g2
  rw [rf, if_neg (by omega), if_neg (by omega)] at e
  have h5 := h.fresh (0 + tot ws + (w.length + 1)) (by omega)
  rw [show 2 + (0 + tot ws + (w.length + 1)) = 2 + (0 + tot ws) + (w.length + 1) by omega, e] at h5
  have h6 := h5 (isF_frm _ _ _ _ _ (by omega) (by omega) (by omega))
  rw [gin_frm, kin_frm, sin_frm, Nat.mod_eq_of_lt (by omega : g < 18446744073709551616), Nat.mod_eq_of_lt (by omega : 0 + ws.length < 18446744073709551616)] at h6
  have := h6.2 rfl rfl
  omega
/-- Behind the list and the images of a Commit that is under way, or some of them, all is as before. -/
theorem Rep.parts (h : Rep F L H g ws pg) (w : List Im) (hr : tot ws + w.length + 2 ≤ L) (hG : ∀ i, G i = F i ∨ ∃ j, j ≤ w.length ∧ i = 2 + tot ws + j ∧ G i = rf g ws.length w j) : Rep G L H g ws pg := by
  have hg2 := h.g2
  have hl := Lie.len h.lie
  have out : ∀ i, i < 2 + tot ws → G i = F i := fun i hi => by
    rcases hG i with e | ⟨j, _, e, _⟩
    · exact e
    · omega
  have hin : ∀ i, 2 + L ≤ i → G i = F i := fun i hi => by
    rcases hG i with e | ⟨j, _, e, _⟩
    · exact e
    · omega
  refine ⟨h.g1, h.g2, by rw [out _ (by omega)]; exact h.head, by rw [out _ (by omega)]; exact h.other, h.lie.congr (fun i h1 h2 => out i (by omega)), ?_, ?_, h.over⟩
  · intro i hi hf
    rcases hG (2 + i) with e | ⟨j, hj, e, e2⟩
    · rw [e] at hf ⊢; exact h.fresh i hi hf
    · rw [e2]
      unfold rf
      by_cases h0 : j = 0
      · rw [if_pos h0, gin_frm, kin_frm, Nat.mod_eq_of_lt (by omega)]
        exact ⟨Nat.le_refl _, fun h => absurd h (by decide)⟩
      · rw [if_neg h0, if_pos hj, gin_frm, kin_frm, Nat.mod_eq_of_lt (by omega)]
        exact ⟨Nat.le_refl _, fun h => absurd h (by decide)⟩
  · intro p hp
    rw [hin _ (by omega)]
    exact h.homes p hp
/-- Behind the end, too: the Commit is done. -/
theorem Rep.whole (h : Rep F L H g ws pg) (hL : L ≤ 4000) (w : List Im) (ho : okR L H (tot ws) w) (hF : ∀ j, j ≤ w.length → F (2 + tot ws + j) = rf g ws.length w j) :
    Rep (upd F (2 + tot ws + (w.length + 1)) (rf g ws.length w (w.length + 1))) L H g (ws ++ [w]) (on1 pg w) := by
  have hg2 := h.g2
  have hl := Lie.len h.lie
  have hr := ho.2.2.1
  have hw := ho.2.1
  have out : ∀ i, i ≠ 2 + tot ws + (w.length + 1) → upd F (2 + tot ws + (w.length + 1)) (rf g ws.length w (w.length + 1)) i = F i := fun i hi => upd_ne _ _ _ _ hi
  have hcase := fun p => ov1_cases (ov ws) pg p w
  refine ⟨h.g1, h.g2, by rw [out _ (by omega)]; exact h.head, by rw [out _ (by omega)]; exact h.other, ?_, ?_, ?_, ?_⟩
  · refine Lie.snoc (h.lie.congr (fun i h1 h2 => out i (by omega))) (by simpa using ho) ?_
    intro i hi
    rw [Nat.zero_add, Nat.zero_add]
    by_cases e : i = w.length + 1
    · subst e
      rw [upd_same]
    · rw [out _ (by omega)]
      exact hF i (by omega)
  · intro i hi hf
    by_cases e : 2 + i = 2 + tot ws + (w.length + 1)
    · rw [e, upd_same, rf, if_neg (by omega), if_neg (by omega), gin_frm, kin_frm, sin_frm, Nat.mod_eq_of_lt (by omega), Nat.mod_eq_of_lt (by omega)]
      exact ⟨Nat.le_refl _, fun _ _ => by simp⟩
    · rw [out _ e] at hf ⊢
      have := h.fresh i hi hf
      refine ⟨this.1, fun h1 h2 => ?_⟩
      have := this.2 h1 h2
      simp
      omega
  · intro p hp
    rw [out _ (by omega), ov_snoc]
    obtain ⟨g', x, h1, h2⟩ := h.homes p hp
    refine ⟨g', x, h1, fun hn => ?_⟩
    rcases hcase p with ⟨a, b, c⟩ | a | ⟨a, b⟩
    · rw [c]; exact h2 a
    · rw [a] at hn; cases hn
    · rw [b]; exact h2 (by rw [← a]; exact hn)
  · intro p x hx
    rw [ov_snoc] at hx
    rcases hcase p with ⟨a, b, c⟩ | a | ⟨a, b⟩
    · rw [b] at hx; cases hx
    · rw [a] at hx; exact (Option.some.inj hx).symm
    · rw [b]; exact h.over p x (by rw [← a]; exact hx)
/-- While a Checkpoint brings pages home all is as before. -/
theorem Rep.home (h : Rep F L H g ws pg) (hG : ∀ i, G i = F i ∨ ∃ p x, p < H ∧ i = 2 + L + p ∧ ov ws p = some x ∧ G i = hmF g p x) : Rep G L H g ws pg := by
  have out : ∀ i, i < 2 + L → G i = F i := fun i hi => by
    rcases hG i with e | ⟨p, x, _, e, _⟩
    · exact e
    · omega
  have ht := h.len
  refine ⟨h.g1, h.g2, ?_, ?_, h.lie.congr (fun i h1 h2 => out i (by omega)), ?_, ?_, h.over⟩
  · by_cases hL : g % 2 < 2 + L
    · rw [out _ hL]; exact h.head
    · omega
  · rw [out _ (by omega)]; exact h.other
  · intro i hi
    rw [out _ (by omega)]
    exact h.fresh i hi
  · intro p hp
    rcases hG (2 + L + p) with e | ⟨q, x, _, e, hx, e2⟩
    · rw [e]; exact h.homes p hp
    · have : q = p := by omega
      subst this
      exact ⟨g, x, e2, fun hn => by rw [hn] at hx; cases hx⟩
/-- Behind the new head all is at home, and the log empty. -/
theorem Rep.begun (h : Rep F L H g ws pg) (hg : g + 1 < 18446744073709551000) (hF : ∀ p x, p < H → ov ws p = some x → F (2 + L + p) = hmF g p x) : Rep (upd F ((g + 1) % 2) (hdF L H (g + 1))) L H (g + 1) [] pg := by
  have out : ∀ i, i ≠ (g + 1) % 2 → upd F ((g + 1) % 2) (hdF L H (g + 1)) i = F i := fun i hi => upd_ne _ _ _ _ hi
  refine ⟨by omega, hg, upd_same _ _ _, ?_, trivial, ?_, ?_, fun p x hx => by cases hx⟩
  · intro hf
    rw [show (g + 1 + 1) % 2 = g % 2 by omega, out _ (by omega), h.head, hdF, gin_frm]
    omega
  · intro i hi hf
    rw [out _ (by omega)] at hf ⊢
    have h1 := h.fresh i hi hf
    exact ⟨by omega, fun _ h2 => by omega⟩
  · intro p hp
    rw [out _ (by omega)]
    obtain ⟨g', x, h1, h2⟩ := h.homes p hp
    cases hv : ov ws p with
    | none => exact ⟨g', x, h1, fun _ => h2 hv⟩
    | some y => exact ⟨g, y, hF p y hp hv, fun _ => h.over p y hv⟩
end
end Go.Proofs.YtndfhmlcfaaaiaaGreatDoor
