/- OctetOne: the call. -/
import Derived.Test.YtmnkbbfpdohpkabDoorOneA
import Derived.Test.YtmnkbbfpdohpkabDoorNumbersA
import Derived.Deep.QuietTactic
import Derived.BigQuiet
import Derived.Lib.ItoaLen
namespace Go.Proofs.YtmnkbbfpdohpkabDoor
open Go.RowKit

/-- All that was there is there. -/
def Keep (w0 w : World) : Prop := Below w0.heap.size w0 w
theorem Keep.step {w0 w w' : World} (h : Keep w0 w) (hb : Below w.heap.size w w') : Keep w0 w' := Below.trans h (hb.mono h.size)

structure Env (w0 : World) : Prop where
  tab : Tab w0
  pos : 0 < w0.heap.size
  pow : Pow w0
  err : ∃ te pe, w0.cell? ⟨2, 0, none⟩ = some (.iface te pe)

theorem unhex_ok {w0 : World} (s : ByteArray) (w : World) (hk : Keep w0 w) (hA : uhE (nums s) = 0) (hs : s.size ≤ 140737488355328) :
    Calls Tryd.prog 5 #[.string s] w fun e w' => ∃ ao c, e = .returned (.tuple #[.slice ao (uhL (nums s)).length c, .int .i64 0]) ∧ Shows w' ao (uhL (nums s)).length (uhL (nums s)) ∧ Keep w0 w' := by
  refine (unhex_any s w hs).mono ?_
  rintro e w1 ⟨u, rfl, hown, hb⟩
  obtain ⟨ao, c, rfl, hsh, -, -, -, -⟩ := own_shape hown (uhL_rng _)
  exact ⟨ao, c, by rw [hA], hsh, hk.step hb⟩

theorem unhex_bad {w0 : World} (s : ByteArray) (w : World) (hk : Keep w0 w) (hA : ¬ uhE (nums s) = 0) (hs : s.size ≤ 140737488355328) :
    Calls Tryd.prog 5 #[.string s] w fun e w' => ∃ ao c k, e = .returned (.tuple #[.slice ao 0 c, .int .i64 k]) ∧ ¬ k = 0 ∧ Keep w0 w' := by
  refine (unhex_any s w hs).mono ?_
  rintro e w1 ⟨u, rfl, hown, hb⟩
  rw [uhL_bad _ hA] at hown
  obtain ⟨ao, c, rfl, -, -, -, -, -⟩ := own_shape hown (by simp)
  exact ⟨ao, c, _, rfl, hA, hk.step hb⟩

theorem hex_to {w0 : World} (E : Env w0) (ao : Option Addr) (n c : Nat) (xs : List Int) (hh : ByteArray) (he : strOfNums (hexl xs) = hh) (w : World) (hk : Keep w0 w) (hx : Shows w ao n xs) (hn : n ≤ 70368744177600) :
    Calls Tryd.prog 6 #[.slice ao n c] w fun e w' => e = .returned (.string hh) ∧ Keep w0 w' := by
  have hz := E.pos
  refine (hex_any ao n c xs w hx hn (E.tab.later hk) (by have := hk.size; omega)).mono ?_
  rintro e w1 ⟨rfl, hb⟩
  exact ⟨by rw [he], hk.step hb⟩

theorem num_ok {w0 : World} (E : Env w0) (s : ByteArray) (u : Nat) (w : World) (hk : Keep w0 w) (hB : nE s.data.toList = 0) (hu : nV s.data.toList = u) (hs : s.size ≤ 281474976710656) :
    Calls Tryd.prog 7 #[.string s] w fun e w' => e = .returned (.tuple #[.int .u64 u, .int .i64 0]) ∧ Keep w0 w' := by
  obtain ⟨te, pe, hE⟩ := E.err
  refine (number_any s w hs te pe (cell_later hk hE)).mono ?_
  rintro e w1 ⟨rfl, hb⟩
  exact ⟨by rw [hB, hu], hk.step hb⟩

theorem num_bad {w0 : World} (E : Env w0) (s : ByteArray) (w : World) (hk : Keep w0 w) (hB : ¬ nE s.data.toList = 0) (hs : s.size ≤ 281474976710656) :
    Calls Tryd.prog 7 #[.string s] w fun e w' => ∃ k, e = .returned (.tuple #[.int .u64 0, .int .i64 k]) ∧ ¬ k = 0 ∧ Keep w0 w' := by
  obtain ⟨te, pe, hE⟩ := E.err
  refine (number_any s w hs te pe (cell_later hk hE)).mono ?_
  rintro e w1 ⟨rfl, hb⟩
  exact ⟨_, by rw [nV_bad _ hB], hB, hk.step hb⟩

theorem dig_to {w0 : World} (E : Env w0) (u : Nat) (hu : u < 18446744073709551616) (d : ByteArray) (hd : (⟨(Lib.decDigits u).toArray⟩ : ByteArray) = d) (w : World) (hk : Keep w0 w) :
    Calls Tryd.prog 8 #[.int .u64 u] w fun e w' => e = .returned (.string d) ∧ Keep w0 w' := by
  refine (digits_any u hu w (E.pow.later hk)).mono ?_
  rintro e w1 ⟨rfl, hb⟩
  exact ⟨by rw [hd], hk.step hb⟩

theorem copy_to {w0 : World} (ao : Option Addr) (n c : Nat) (xs : List Int) (w : World) (hk : Keep w0 w) (hx : Shows w0 ao n xs) (hc : ao = none → c = 0) (hn : n ≤ 140737488355328) :
    Calls Tryd.prog 9 #[.slice ao n c] w fun e w' => ∃ bo d, e = .returned (.slice bo n d) ∧ Shows w' bo n xs ∧ Keep w0 w' := by
  refine (copyBytes_any ao n c xs w (hx.later hk) hc hn).mono ?_
  rintro e w1 ⟨v, rfl, hown, hb⟩
  obtain ⟨bo, d, rfl, hsh, -, -, -, -⟩ := own_shape hown hx.rng
  exact ⟨bo, d, rfl, hsh, hk.step hb⟩

theorem eq_to (ao bo : Option Addr) (n m c d : Nat) (xs : List Int) (w : World) (hx : Shows w ao n xs) (hy : Shows w bo m xs) :
    Calls Tryd.prog 10 #[.slice ao n c, .slice bo m d] w fun e w' => e = .returned (.bool true) ∧ w = w' := by
  have := eqBytes_any ao bo n m c d xs xs w hx hy
  simpa using this

theorem works_to {w0 : World} (E : Env w0) (w : World) (hk : Keep w0 w) : Calls Tryd.prog 4 #[] w fun e w' => e = .returned (.bool true) ∧ Keep w0 w' := by
  have hz := E.pos
  refine (works_any w (E.tab.later hk) (by have := hk.size; omega)).mono ?_
  rintro e w1 ⟨rfl, hb⟩
  exact ⟨rfl, hk.step hb⟩

theorem keep_box (w : World) (o : Obj) (k : Nat) : Keep w ((w.alloc o).drewN k) := ((Below.refl _ w).alloc (Nat.le_refl _) o).trans ⟨rfl, rfl, rfl, Nat.le_refl _, fun _ _ => rfl⟩

set_option maxHeartbeats 2000000 in
set_option maxRecDepth 100000 in
theorem one_111 (s : ByteArray) (ao : Option Addr) (n c : Nat) (xs : List Int) (m u : Nat) (w : World) (E : Env w) (hx : Shows w ao n xs) (hc : ao = none → c = 0) (hs : (s.size : Int) ≤ 65536) (hn : (n : Int) ≤ 65536) (hm : m < 18446744073709551616) (hu : u < 18446744073709551616) (hA : uhE (nums s) = 0) (hB : nE s.data.toList = 0) (hC : (u : Int) < m) :
    Calls Tryd.prog 3 #[.agg #[.string s, .slice ao n c, .int .u64 m, .int .u64 u]] w fun e w' => e = .returned (.bool true) ∧ Below w.heap.size w w' := by
  obtain ⟨hh, HH⟩ : ∃ hh, Hid (strOfNums (hexl xs) = hh) := ⟨_, rfl⟩
  obtain ⟨dm, DM⟩ : ∃ d : ByteArray, Hid ((⟨(Lib.decDigits m).toArray⟩ : ByteArray) = d) := ⟨_, rfl⟩
  obtain ⟨dn, DN⟩ : ∃ d : ByteArray, Hid ((⟨(Lib.decDigits u).toArray⟩ : ByteArray) = d) := ⟨_, rfl⟩
  have HA : Hid _ := hA
  have HB : Hid _ := hB
  have HX : Hid (Shows w ao n xs) := hx
  have hxl := hx.len
  have hnh : nums hh = hexl xs := by rw [← HH.out]; exact nums_str _ (hexl_rng xs)
  have hhl : (hh.size : Int) = 2 * n := by
    have h1 := nums_length hh
    rw [hnh, hexl_length] at h1
    omega
  obtain ⟨q1, q2⟩ := uh_hexl xs hx.rng
  rw [← hnh] at q1 q2
  have HQ1 : Hid (uhE (nums hh) = 0) := q1
  have HQ2 : Hid (uhL (nums hh) = xs) := q2
  have em : dm.data.toList = Lib.decDigits m := by rw [← DM.out]
  have en : dn.data.toList = Lib.decDigits u := by rw [← DN.out]
  have HM1 : Hid (nE dm.data.toList = 0 ∧ nV dm.data.toList = m) := by rw [em]; exact nE_dec m hm
  have HN1 : Hid (nE dn.data.toList = 0 ∧ nV dn.data.toList = u) := by rw [en]; exact nE_dec u hu
  have sm : dm.size = Lib.nDigits m := by rw [← Lib.decDigits_length, ← em]; simp
  have sn : dn.size = Lib.nDigits u := by rw [← Lib.decDigits_length, ← en]; simp
  have sm2 := Lib.nDigits_le20 m hm
  have sn2 := Lib.nDigits_le20 u hu
  have hmono : m ≤ u → dm.size ≤ dn.size := fun h => by rw [sm, sn]; exact dec_mono u m h
  have hm20 : dm.size ≤ 20 := by omega
  have hn20 : dn.size ≤ 20 := by omega
  have HHA : Hid (strOfNums (hexl (uhL (nums s))) = s) := by show _ = _; rw [hexl_uh _ hA, str_nums]
  have hul : (uhL (nums s)).length ≤ 65536 := by
    have h1 := congrArg List.length (hexl_uh _ hA)
    rw [hexl_length, nums_length] at h1
    omega
  obtain ⟨v, hv1, hv2, hv3⟩ := dec_nV _ hB
  have HV1 : Hid (nV s.data.toList = v) := hv1
  have HV3 : Hid ((⟨(Lib.decDigits v).toArray⟩ : ByteArray) = s) := by show _ = _; rw [hv3]
  clear hv1 hv3
  clear hA hB hx hnh q1 q2 em en sm sn sm2 sn2 hmono
  go_enter Tryd.func3, Tryd.ntmps3
  go_wp2_with fail
  go_quiet (fail)
  go_wp2_with fail
  go_at_call 5
  refine (unhex_ok s _ (keep_box w _ _) HA.out (by omega)).mono ?_
  rintro e w1 ⟨ao1, c1, rfl, hx1, hk1⟩
  go_wp2_with fail
  go_at_call 6
  refine (hex_to E _ _ _ _ s HHA.out w1 hk1 hx1 (by omega)).mono ?_
  rintro e w2 ⟨rfl, hk2⟩
  go_wp2_with fail
  go_at_call 7
  refine (num_ok E s v w2 hk2 HB.out HV1.out (by omega)).mono ?_
  rintro e w3 ⟨rfl, hk3⟩
  go_wp2_with fail
  go_at_call 8
  refine (dig_to E v hv2 s HV3.out w3 hk3).mono ?_
  rintro e w4 ⟨rfl, hk4⟩
  go_wp2_with fail
  go_at_call 9
  refine (copy_to ao n c xs w4 hk4 HX.out hc (by omega)).mono ?_
  rintro e w5 ⟨ao5, c5, rfl, hx5, hk5⟩
  go_wp2_with fail
  go_at_call 6
  refine (hex_to E _ _ _ _ hh HH.out w5 hk5 hx5 (by omega)).mono ?_
  rintro e w6 ⟨rfl, hk6⟩
  go_wp2_with fail
  go_at_call 5
  refine (unhex_ok hh w6 hk6 HQ1.out (by omega)).mono ?_
  rintro e w7 ⟨ao7, c7, rfl, hx7, hk7⟩
  rw [HQ2.out] at hx7 ⊢
  rw [hxl] at hx7
  go_wp2_with fail
  go_at_call 10
  refine (eq_to _ _ _ _ _ _ xs w7 hx7 (HX.out.later hk7)).mono ?_
  rintro e w' ⟨rfl, rfl⟩
  go_wp2_with fail
  go_at_call 8
  refine (dig_to E u hu dn DN.out w7 hk7).mono ?_
  rintro e w8 ⟨rfl, hk8⟩
  go_wp2_with fail
  go_at_call 7
  refine (num_ok E dn u w8 hk8 HN1.out.1 HN1.out.2 (by omega)).mono ?_
  rintro e w9 ⟨rfl, hk9⟩
  go_wp2_with fail
  go_at_call 8
  refine (dig_to E m hm dm DM.out w9 hk9).mono ?_
  rintro e w10 ⟨rfl, hk10⟩
  go_wp2_with fail
  go_at_call 7
  refine (num_ok E dm m w10 hk10 HM1.out.1 HM1.out.2 (by omega)).mono ?_
  rintro e w11 ⟨rfl, hk11⟩
  go_wp2_with fail
  go_at_call 4
  refine (works_to E w11 hk11).mono ?_
  rintro e w14 ⟨rfl, hk14⟩
  go_wp2
  go_ret
  exact ⟨rfl, hk14⟩

set_option maxHeartbeats 2000000 in
set_option maxRecDepth 100000 in
theorem one_110 (s : ByteArray) (ao : Option Addr) (n c : Nat) (xs : List Int) (m u : Nat) (w : World) (E : Env w) (hx : Shows w ao n xs) (hc : ao = none → c = 0) (hs : (s.size : Int) ≤ 65536) (hn : (n : Int) ≤ 65536) (hm : m < 18446744073709551616) (hu : u < 18446744073709551616) (hA : uhE (nums s) = 0) (hB : nE s.data.toList = 0) (hC : ¬ (u : Int) < m) :
    Calls Tryd.prog 3 #[.agg #[.string s, .slice ao n c, .int .u64 m, .int .u64 u]] w fun e w' => e = .returned (.bool true) ∧ Below w.heap.size w w' := by
  obtain ⟨hh, HH⟩ : ∃ hh, Hid (strOfNums (hexl xs) = hh) := ⟨_, rfl⟩
  obtain ⟨dm, DM⟩ : ∃ d : ByteArray, Hid ((⟨(Lib.decDigits m).toArray⟩ : ByteArray) = d) := ⟨_, rfl⟩
  obtain ⟨dn, DN⟩ : ∃ d : ByteArray, Hid ((⟨(Lib.decDigits u).toArray⟩ : ByteArray) = d) := ⟨_, rfl⟩
  have HA : Hid _ := hA
  have HB : Hid _ := hB
  have HX : Hid (Shows w ao n xs) := hx
  have hxl := hx.len
  have hnh : nums hh = hexl xs := by rw [← HH.out]; exact nums_str _ (hexl_rng xs)
  have hhl : (hh.size : Int) = 2 * n := by
    have h1 := nums_length hh
    rw [hnh, hexl_length] at h1
    omega
  obtain ⟨q1, q2⟩ := uh_hexl xs hx.rng
  rw [← hnh] at q1 q2
  have HQ1 : Hid (uhE (nums hh) = 0) := q1
  have HQ2 : Hid (uhL (nums hh) = xs) := q2
  have em : dm.data.toList = Lib.decDigits m := by rw [← DM.out]
  have en : dn.data.toList = Lib.decDigits u := by rw [← DN.out]
  have HM1 : Hid (nE dm.data.toList = 0 ∧ nV dm.data.toList = m) := by rw [em]; exact nE_dec m hm
  have HN1 : Hid (nE dn.data.toList = 0 ∧ nV dn.data.toList = u) := by rw [en]; exact nE_dec u hu
  have sm : dm.size = Lib.nDigits m := by rw [← Lib.decDigits_length, ← em]; simp
  have sn : dn.size = Lib.nDigits u := by rw [← Lib.decDigits_length, ← en]; simp
  have sm2 := Lib.nDigits_le20 m hm
  have sn2 := Lib.nDigits_le20 u hu
  have hmono : m ≤ u → dm.size ≤ dn.size := fun h => by rw [sm, sn]; exact dec_mono u m h
  have hm20 : dm.size ≤ 20 := by omega
  have hn20 : dn.size ≤ 20 := by omega
  have hlen : (dm.size : Int) ≤ dn.size := by have := hmono (by omega); omega
  have HHA : Hid (strOfNums (hexl (uhL (nums s))) = s) := by show _ = _; rw [hexl_uh _ hA, str_nums]
  have hul : (uhL (nums s)).length ≤ 65536 := by
    have h1 := congrArg List.length (hexl_uh _ hA)
    rw [hexl_length, nums_length] at h1
    omega
  obtain ⟨v, hv1, hv2, hv3⟩ := dec_nV _ hB
  have HV1 : Hid (nV s.data.toList = v) := hv1
  have HV3 : Hid ((⟨(Lib.decDigits v).toArray⟩ : ByteArray) = s) := by show _ = _; rw [hv3]
  clear hv1 hv3
  clear hA hB hx hnh q1 q2 em en sm sn sm2 sn2 hmono
  go_enter Tryd.func3, Tryd.ntmps3
  go_wp2_with fail
  go_quiet (fail)
  go_wp2_with fail
  go_at_call 5
  refine (unhex_ok s _ (keep_box w _ _) HA.out (by omega)).mono ?_
  rintro e w1 ⟨ao1, c1, rfl, hx1, hk1⟩
  go_wp2_with fail
  go_at_call 6
  refine (hex_to E _ _ _ _ s HHA.out w1 hk1 hx1 (by omega)).mono ?_
  rintro e w2 ⟨rfl, hk2⟩
  go_wp2_with fail
  go_at_call 7
  refine (num_ok E s v w2 hk2 HB.out HV1.out (by omega)).mono ?_
  rintro e w3 ⟨rfl, hk3⟩
  go_wp2_with fail
  go_at_call 8
  refine (dig_to E v hv2 s HV3.out w3 hk3).mono ?_
  rintro e w4 ⟨rfl, hk4⟩
  go_wp2_with fail
  go_at_call 9
  refine (copy_to ao n c xs w4 hk4 HX.out hc (by omega)).mono ?_
  rintro e w5 ⟨ao5, c5, rfl, hx5, hk5⟩
  go_wp2_with fail
  go_at_call 6
  refine (hex_to E _ _ _ _ hh HH.out w5 hk5 hx5 (by omega)).mono ?_
  rintro e w6 ⟨rfl, hk6⟩
  go_wp2_with fail
  go_at_call 5
  refine (unhex_ok hh w6 hk6 HQ1.out (by omega)).mono ?_
  rintro e w7 ⟨ao7, c7, rfl, hx7, hk7⟩
  rw [HQ2.out] at hx7 ⊢
  rw [hxl] at hx7
  go_wp2_with fail
  go_at_call 10
  refine (eq_to _ _ _ _ _ _ xs w7 hx7 (HX.out.later hk7)).mono ?_
  rintro e w' ⟨rfl, rfl⟩
  go_wp2_with fail
  go_at_call 8
  refine (dig_to E u hu dn DN.out w7 hk7).mono ?_
  rintro e w8 ⟨rfl, hk8⟩
  go_wp2_with fail
  go_at_call 7
  refine (num_ok E dn u w8 hk8 HN1.out.1 HN1.out.2 (by omega)).mono ?_
  rintro e w9 ⟨rfl, hk9⟩
  go_wp2_with fail
  go_at_call 8
  refine (dig_to E m hm dm DM.out w9 hk9).mono ?_
  rintro e w10 ⟨rfl, hk10⟩
  go_wp2_with fail
  go_at_call 7
  refine (num_ok E dm m w10 hk10 HM1.out.1 HM1.out.2 (by omega)).mono ?_
  rintro e w11 ⟨rfl, hk11⟩
  go_wp2_with fail
  go_at_call 8
  refine (dig_to E m hm dm DM.out w11 hk11).mono ?_
  rintro e w12 ⟨rfl, hk12⟩
  go_wp2_with fail
  go_at_call 8
  refine (dig_to E u hu dn DN.out w12 hk12).mono ?_
  rintro e w13 ⟨rfl, hk13⟩
  go_wp2_with fail
  go_at_call 4
  refine (works_to E w13 hk13).mono ?_
  rintro e w14 ⟨rfl, hk14⟩
  go_wp2
  go_ret
  exact ⟨rfl, hk14⟩

set_option maxHeartbeats 2000000 in
set_option maxRecDepth 100000 in
theorem one_101 (s : ByteArray) (ao : Option Addr) (n c : Nat) (xs : List Int) (m u : Nat) (w : World) (E : Env w) (hx : Shows w ao n xs) (hc : ao = none → c = 0) (hs : (s.size : Int) ≤ 65536) (hn : (n : Int) ≤ 65536) (hm : m < 18446744073709551616) (hu : u < 18446744073709551616) (hA : uhE (nums s) = 0) (hB : ¬ nE s.data.toList = 0) (hC : (u : Int) < m) :
    Calls Tryd.prog 3 #[.agg #[.string s, .slice ao n c, .int .u64 m, .int .u64 u]] w fun e w' => e = .returned (.bool true) ∧ Below w.heap.size w w' := by
  obtain ⟨hh, HH⟩ : ∃ hh, Hid (strOfNums (hexl xs) = hh) := ⟨_, rfl⟩
  obtain ⟨dm, DM⟩ : ∃ d : ByteArray, Hid ((⟨(Lib.decDigits m).toArray⟩ : ByteArray) = d) := ⟨_, rfl⟩
  obtain ⟨dn, DN⟩ : ∃ d : ByteArray, Hid ((⟨(Lib.decDigits u).toArray⟩ : ByteArray) = d) := ⟨_, rfl⟩
  have HA : Hid _ := hA
  have HB : Hid _ := hB
  have HX : Hid (Shows w ao n xs) := hx
  have hxl := hx.len
  have hnh : nums hh = hexl xs := by rw [← HH.out]; exact nums_str _ (hexl_rng xs)
  have hhl : (hh.size : Int) = 2 * n := by
    have h1 := nums_length hh
    rw [hnh, hexl_length] at h1
    omega
  obtain ⟨q1, q2⟩ := uh_hexl xs hx.rng
  rw [← hnh] at q1 q2
  have HQ1 : Hid (uhE (nums hh) = 0) := q1
  have HQ2 : Hid (uhL (nums hh) = xs) := q2
  have em : dm.data.toList = Lib.decDigits m := by rw [← DM.out]
  have en : dn.data.toList = Lib.decDigits u := by rw [← DN.out]
  have HM1 : Hid (nE dm.data.toList = 0 ∧ nV dm.data.toList = m) := by rw [em]; exact nE_dec m hm
  have HN1 : Hid (nE dn.data.toList = 0 ∧ nV dn.data.toList = u) := by rw [en]; exact nE_dec u hu
  have sm : dm.size = Lib.nDigits m := by rw [← Lib.decDigits_length, ← em]; simp
  have sn : dn.size = Lib.nDigits u := by rw [← Lib.decDigits_length, ← en]; simp
  have sm2 := Lib.nDigits_le20 m hm
  have sn2 := Lib.nDigits_le20 u hu
  have hmono : m ≤ u → dm.size ≤ dn.size := fun h => by rw [sm, sn]; exact dec_mono u m h
  have hm20 : dm.size ≤ 20 := by omega
  have hn20 : dn.size ≤ 20 := by omega
  have HHA : Hid (strOfNums (hexl (uhL (nums s))) = s) := by show _ = _; rw [hexl_uh _ hA, str_nums]
  have hul : (uhL (nums s)).length ≤ 65536 := by
    have h1 := congrArg List.length (hexl_uh _ hA)
    rw [hexl_length, nums_length] at h1
    omega
  clear hA hB hx hnh q1 q2 em en sm sn sm2 sn2 hmono
  go_enter Tryd.func3, Tryd.ntmps3
  go_wp2_with fail
  go_quiet (fail)
  go_wp2_with fail
  go_at_call 5
  refine (unhex_ok s _ (keep_box w _ _) HA.out (by omega)).mono ?_
  rintro e w1 ⟨ao1, c1, rfl, hx1, hk1⟩
  go_wp2_with fail
  go_at_call 6
  refine (hex_to E _ _ _ _ s HHA.out w1 hk1 hx1 (by omega)).mono ?_
  rintro e w2 ⟨rfl, hk2⟩
  go_wp2_with fail
  go_at_call 7
  refine (num_bad E s w2 hk2 HB.out (by omega)).mono ?_
  rintro e w4 ⟨k2, rfl, hkk2, hk4⟩
  go_wp2_with fail
  go_at_call 9
  refine (copy_to ao n c xs w4 hk4 HX.out hc (by omega)).mono ?_
  rintro e w5 ⟨ao5, c5, rfl, hx5, hk5⟩
  go_wp2_with fail
  go_at_call 6
  refine (hex_to E _ _ _ _ hh HH.out w5 hk5 hx5 (by omega)).mono ?_
  rintro e w6 ⟨rfl, hk6⟩
  go_wp2_with fail
  go_at_call 5
  refine (unhex_ok hh w6 hk6 HQ1.out (by omega)).mono ?_
  rintro e w7 ⟨ao7, c7, rfl, hx7, hk7⟩
  rw [HQ2.out] at hx7 ⊢
  rw [hxl] at hx7
  go_wp2_with fail
  go_at_call 10
  refine (eq_to _ _ _ _ _ _ xs w7 hx7 (HX.out.later hk7)).mono ?_
  rintro e w' ⟨rfl, rfl⟩
  go_wp2_with fail
  go_at_call 8
  refine (dig_to E u hu dn DN.out w7 hk7).mono ?_
  rintro e w8 ⟨rfl, hk8⟩
  go_wp2_with fail
  go_at_call 7
  refine (num_ok E dn u w8 hk8 HN1.out.1 HN1.out.2 (by omega)).mono ?_
  rintro e w9 ⟨rfl, hk9⟩
  go_wp2_with fail
  go_at_call 8
  refine (dig_to E m hm dm DM.out w9 hk9).mono ?_
  rintro e w10 ⟨rfl, hk10⟩
  go_wp2_with fail
  go_at_call 7
  refine (num_ok E dm m w10 hk10 HM1.out.1 HM1.out.2 (by omega)).mono ?_
  rintro e w11 ⟨rfl, hk11⟩
  go_wp2_with fail
  go_at_call 4
  refine (works_to E w11 hk11).mono ?_
  rintro e w14 ⟨rfl, hk14⟩
  go_wp2
  go_ret
  exact ⟨rfl, hk14⟩

set_option maxHeartbeats 2000000 in
set_option maxRecDepth 100000 in
theorem one_100 (s : ByteArray) (ao : Option Addr) (n c : Nat) (xs : List Int) (m u : Nat) (w : World) (E : Env w) (hx : Shows w ao n xs) (hc : ao = none → c = 0) (hs : (s.size : Int) ≤ 65536) (hn : (n : Int) ≤ 65536) (hm : m < 18446744073709551616) (hu : u < 18446744073709551616) (hA : uhE (nums s) = 0) (hB : ¬ nE s.data.toList = 0) (hC : ¬ (u : Int) < m) :
    Calls Tryd.prog 3 #[.agg #[.string s, .slice ao n c, .int .u64 m, .int .u64 u]] w fun e w' => e = .returned (.bool true) ∧ Below w.heap.size w w' := by
  obtain ⟨hh, HH⟩ : ∃ hh, Hid (strOfNums (hexl xs) = hh) := ⟨_, rfl⟩
  obtain ⟨dm, DM⟩ : ∃ d : ByteArray, Hid ((⟨(Lib.decDigits m).toArray⟩ : ByteArray) = d) := ⟨_, rfl⟩
  obtain ⟨dn, DN⟩ : ∃ d : ByteArray, Hid ((⟨(Lib.decDigits u).toArray⟩ : ByteArray) = d) := ⟨_, rfl⟩
  have HA : Hid _ := hA
  have HB : Hid _ := hB
  have HX : Hid (Shows w ao n xs) := hx
  have hxl := hx.len
  have hnh : nums hh = hexl xs := by rw [← HH.out]; exact nums_str _ (hexl_rng xs)
  have hhl : (hh.size : Int) = 2 * n := by
    have h1 := nums_length hh
    rw [hnh, hexl_length] at h1
    omega
  obtain ⟨q1, q2⟩ := uh_hexl xs hx.rng
  rw [← hnh] at q1 q2
  have HQ1 : Hid (uhE (nums hh) = 0) := q1
  have HQ2 : Hid (uhL (nums hh) = xs) := q2
  have em : dm.data.toList = Lib.decDigits m := by rw [← DM.out]
  have en : dn.data.toList = Lib.decDigits u := by rw [← DN.out]
  have HM1 : Hid (nE dm.data.toList = 0 ∧ nV dm.data.toList = m) := by rw [em]; exact nE_dec m hm
  have HN1 : Hid (nE dn.data.toList = 0 ∧ nV dn.data.toList = u) := by rw [en]; exact nE_dec u hu
  have sm : dm.size = Lib.nDigits m := by rw [← Lib.decDigits_length, ← em]; simp
  have sn : dn.size = Lib.nDigits u := by rw [← Lib.decDigits_length, ← en]; simp
  have sm2 := Lib.nDigits_le20 m hm
  have sn2 := Lib.nDigits_le20 u hu
  have hmono : m ≤ u → dm.size ≤ dn.size := fun h => by rw [sm, sn]; exact dec_mono u m h
  have hm20 : dm.size ≤ 20 := by omega
  have hn20 : dn.size ≤ 20 := by omega
  have hlen : (dm.size : Int) ≤ dn.size := by have := hmono (by omega); omega
  have HHA : Hid (strOfNums (hexl (uhL (nums s))) = s) := by show _ = _; rw [hexl_uh _ hA, str_nums]
  have hul : (uhL (nums s)).length ≤ 65536 := by
    have h1 := congrArg List.length (hexl_uh _ hA)
    rw [hexl_length, nums_length] at h1
    omega
  clear hA hB hx hnh q1 q2 em en sm sn sm2 sn2 hmono
  go_enter Tryd.func3, Tryd.ntmps3
  go_wp2_with fail
  go_quiet (fail)
  go_wp2_with fail
  go_at_call 5
  refine (unhex_ok s _ (keep_box w _ _) HA.out (by omega)).mono ?_
  rintro e w1 ⟨ao1, c1, rfl, hx1, hk1⟩
  go_wp2_with fail
  go_at_call 6
  refine (hex_to E _ _ _ _ s HHA.out w1 hk1 hx1 (by omega)).mono ?_
  rintro e w2 ⟨rfl, hk2⟩
  go_wp2_with fail
  go_at_call 7
  refine (num_bad E s w2 hk2 HB.out (by omega)).mono ?_
  rintro e w4 ⟨k2, rfl, hkk2, hk4⟩
  go_wp2_with fail
  go_at_call 9
  refine (copy_to ao n c xs w4 hk4 HX.out hc (by omega)).mono ?_
  rintro e w5 ⟨ao5, c5, rfl, hx5, hk5⟩
  go_wp2_with fail
  go_at_call 6
  refine (hex_to E _ _ _ _ hh HH.out w5 hk5 hx5 (by omega)).mono ?_
  rintro e w6 ⟨rfl, hk6⟩
  go_wp2_with fail
  go_at_call 5
  refine (unhex_ok hh w6 hk6 HQ1.out (by omega)).mono ?_
  rintro e w7 ⟨ao7, c7, rfl, hx7, hk7⟩
  rw [HQ2.out] at hx7 ⊢
  rw [hxl] at hx7
  go_wp2_with fail
  go_at_call 10
  refine (eq_to _ _ _ _ _ _ xs w7 hx7 (HX.out.later hk7)).mono ?_
  rintro e w' ⟨rfl, rfl⟩
  go_wp2_with fail
  go_at_call 8
  refine (dig_to E u hu dn DN.out w7 hk7).mono ?_
  rintro e w8 ⟨rfl, hk8⟩
  go_wp2_with fail
  go_at_call 7
  refine (num_ok E dn u w8 hk8 HN1.out.1 HN1.out.2 (by omega)).mono ?_
  rintro e w9 ⟨rfl, hk9⟩
  go_wp2_with fail
  go_at_call 8
  refine (dig_to E m hm dm DM.out w9 hk9).mono ?_
  rintro e w10 ⟨rfl, hk10⟩
  go_wp2_with fail
  go_at_call 7
  refine (num_ok E dm m w10 hk10 HM1.out.1 HM1.out.2 (by omega)).mono ?_
  rintro e w11 ⟨rfl, hk11⟩
  go_wp2_with fail
  go_at_call 8
  refine (dig_to E m hm dm DM.out w11 hk11).mono ?_
  rintro e w12 ⟨rfl, hk12⟩
  go_wp2_with fail
  go_at_call 8
  refine (dig_to E u hu dn DN.out w12 hk12).mono ?_
  rintro e w13 ⟨rfl, hk13⟩
  go_wp2_with fail
  go_at_call 4
  refine (works_to E w13 hk13).mono ?_
  rintro e w14 ⟨rfl, hk14⟩
  go_wp2
  go_ret
  exact ⟨rfl, hk14⟩

set_option maxHeartbeats 2000000 in
set_option maxRecDepth 100000 in
theorem one_011 (s : ByteArray) (ao : Option Addr) (n c : Nat) (xs : List Int) (m u : Nat) (w : World) (E : Env w) (hx : Shows w ao n xs) (hc : ao = none → c = 0) (hs : (s.size : Int) ≤ 65536) (hn : (n : Int) ≤ 65536) (hm : m < 18446744073709551616) (hu : u < 18446744073709551616) (hA : ¬ uhE (nums s) = 0) (hB : nE s.data.toList = 0) (hC : (u : Int) < m) :
    Calls Tryd.prog 3 #[.agg #[.string s, .slice ao n c, .int .u64 m, .int .u64 u]] w fun e w' => e = .returned (.bool true) ∧ Below w.heap.size w w' := by
  obtain ⟨hh, HH⟩ : ∃ hh, Hid (strOfNums (hexl xs) = hh) := ⟨_, rfl⟩
  obtain ⟨dm, DM⟩ : ∃ d : ByteArray, Hid ((⟨(Lib.decDigits m).toArray⟩ : ByteArray) = d) := ⟨_, rfl⟩
  obtain ⟨dn, DN⟩ : ∃ d : ByteArray, Hid ((⟨(Lib.decDigits u).toArray⟩ : ByteArray) = d) := ⟨_, rfl⟩
  have HA : Hid _ := hA
  have HB : Hid _ := hB
  have HX : Hid (Shows w ao n xs) := hx
  have hxl := hx.len
  have hnh : nums hh = hexl xs := by rw [← HH.out]; exact nums_str _ (hexl_rng xs)
  have hhl : (hh.size : Int) = 2 * n := by
    have h1 := nums_length hh
    rw [hnh, hexl_length] at h1
    omega
  obtain ⟨q1, q2⟩ := uh_hexl xs hx.rng
  rw [← hnh] at q1 q2
  have HQ1 : Hid (uhE (nums hh) = 0) := q1
  have HQ2 : Hid (uhL (nums hh) = xs) := q2
  have em : dm.data.toList = Lib.decDigits m := by rw [← DM.out]
  have en : dn.data.toList = Lib.decDigits u := by rw [← DN.out]
  have HM1 : Hid (nE dm.data.toList = 0 ∧ nV dm.data.toList = m) := by rw [em]; exact nE_dec m hm
  have HN1 : Hid (nE dn.data.toList = 0 ∧ nV dn.data.toList = u) := by rw [en]; exact nE_dec u hu
  have sm : dm.size = Lib.nDigits m := by rw [← Lib.decDigits_length, ← em]; simp
  have sn : dn.size = Lib.nDigits u := by rw [← Lib.decDigits_length, ← en]; simp
  have sm2 := Lib.nDigits_le20 m hm
  have sn2 := Lib.nDigits_le20 u hu
  have hmono : m ≤ u → dm.size ≤ dn.size := fun h => by rw [sm, sn]; exact dec_mono u m h
  have hm20 : dm.size ≤ 20 := by omega
  have hn20 : dn.size ≤ 20 := by omega
  obtain ⟨v, hv1, hv2, hv3⟩ := dec_nV _ hB
  have HV1 : Hid (nV s.data.toList = v) := hv1
  have HV3 : Hid ((⟨(Lib.decDigits v).toArray⟩ : ByteArray) = s) := by show _ = _; rw [hv3]
  clear hv1 hv3
  clear hA hB hx hnh q1 q2 em en sm sn sm2 sn2 hmono
  go_enter Tryd.func3, Tryd.ntmps3
  go_wp2_with fail
  go_quiet (fail)
  go_wp2_with fail
  go_at_call 5
  refine (unhex_bad s _ (keep_box w _ _) HA.out (by omega)).mono ?_
  rintro e w2 ⟨ao1, c1, k1, rfl, hkk1, hk2⟩
  go_wp2_with fail
  go_at_call 7
  refine (num_ok E s v w2 hk2 HB.out HV1.out (by omega)).mono ?_
  rintro e w3 ⟨rfl, hk3⟩
  go_wp2_with fail
  go_at_call 8
  refine (dig_to E v hv2 s HV3.out w3 hk3).mono ?_
  rintro e w4 ⟨rfl, hk4⟩
  go_wp2_with fail
  go_at_call 9
  refine (copy_to ao n c xs w4 hk4 HX.out hc (by omega)).mono ?_
  rintro e w5 ⟨ao5, c5, rfl, hx5, hk5⟩
  go_wp2_with fail
  go_at_call 6
  refine (hex_to E _ _ _ _ hh HH.out w5 hk5 hx5 (by omega)).mono ?_
  rintro e w6 ⟨rfl, hk6⟩
  go_wp2_with fail
  go_at_call 5
  refine (unhex_ok hh w6 hk6 HQ1.out (by omega)).mono ?_
  rintro e w7 ⟨ao7, c7, rfl, hx7, hk7⟩
  rw [HQ2.out] at hx7 ⊢
  rw [hxl] at hx7
  go_wp2_with fail
  go_at_call 10
  refine (eq_to _ _ _ _ _ _ xs w7 hx7 (HX.out.later hk7)).mono ?_
  rintro e w' ⟨rfl, rfl⟩
  go_wp2_with fail
  go_at_call 8
  refine (dig_to E u hu dn DN.out w7 hk7).mono ?_
  rintro e w8 ⟨rfl, hk8⟩
  go_wp2_with fail
  go_at_call 7
  refine (num_ok E dn u w8 hk8 HN1.out.1 HN1.out.2 (by omega)).mono ?_
  rintro e w9 ⟨rfl, hk9⟩
  go_wp2_with fail
  go_at_call 8
  refine (dig_to E m hm dm DM.out w9 hk9).mono ?_
  rintro e w10 ⟨rfl, hk10⟩
  go_wp2_with fail
  go_at_call 7
  refine (num_ok E dm m w10 hk10 HM1.out.1 HM1.out.2 (by omega)).mono ?_
  rintro e w11 ⟨rfl, hk11⟩
  go_wp2_with fail
  go_at_call 4
  refine (works_to E w11 hk11).mono ?_
  rintro e w14 ⟨rfl, hk14⟩
  go_wp2
  go_ret
  exact ⟨rfl, hk14⟩

set_option maxHeartbeats 2000000 in
set_option maxRecDepth 100000 in
theorem one_010 (s : ByteArray) (ao : Option Addr) (n c : Nat) (xs : List Int) (m u : Nat) (w : World) (E : Env w) (hx : Shows w ao n xs) (hc : ao = none → c = 0) (hs : (s.size : Int) ≤ 65536) (hn : (n : Int) ≤ 65536) (hm : m < 18446744073709551616) (hu : u < 18446744073709551616) (hA : ¬ uhE (nums s) = 0) (hB : nE s.data.toList = 0) (hC : ¬ (u : Int) < m) :
    Calls Tryd.prog 3 #[.agg #[.string s, .slice ao n c, .int .u64 m, .int .u64 u]] w fun e w' => e = .returned (.bool true) ∧ Below w.heap.size w w' := by
  obtain ⟨hh, HH⟩ : ∃ hh, Hid (strOfNums (hexl xs) = hh) := ⟨_, rfl⟩
  obtain ⟨dm, DM⟩ : ∃ d : ByteArray, Hid ((⟨(Lib.decDigits m).toArray⟩ : ByteArray) = d) := ⟨_, rfl⟩
  obtain ⟨dn, DN⟩ : ∃ d : ByteArray, Hid ((⟨(Lib.decDigits u).toArray⟩ : ByteArray) = d) := ⟨_, rfl⟩
  have HA : Hid _ := hA
  have HB : Hid _ := hB
  have HX : Hid (Shows w ao n xs) := hx
  have hxl := hx.len
  have hnh : nums hh = hexl xs := by rw [← HH.out]; exact nums_str _ (hexl_rng xs)
  have hhl : (hh.size : Int) = 2 * n := by
    have h1 := nums_length hh
    rw [hnh, hexl_length] at h1
    omega
  obtain ⟨q1, q2⟩ := uh_hexl xs hx.rng
  rw [← hnh] at q1 q2
  have HQ1 : Hid (uhE (nums hh) = 0) := q1
  have HQ2 : Hid (uhL (nums hh) = xs) := q2
  have em : dm.data.toList = Lib.decDigits m := by rw [← DM.out]
  have en : dn.data.toList = Lib.decDigits u := by rw [← DN.out]
  have HM1 : Hid (nE dm.data.toList = 0 ∧ nV dm.data.toList = m) := by rw [em]; exact nE_dec m hm
  have HN1 : Hid (nE dn.data.toList = 0 ∧ nV dn.data.toList = u) := by rw [en]; exact nE_dec u hu
  have sm : dm.size = Lib.nDigits m := by rw [← Lib.decDigits_length, ← em]; simp
  have sn : dn.size = Lib.nDigits u := by rw [← Lib.decDigits_length, ← en]; simp
  have sm2 := Lib.nDigits_le20 m hm
  have sn2 := Lib.nDigits_le20 u hu
  have hmono : m ≤ u → dm.size ≤ dn.size := fun h => by rw [sm, sn]; exact dec_mono u m h
  have hm20 : dm.size ≤ 20 := by omega
  have hn20 : dn.size ≤ 20 := by omega
  have hlen : (dm.size : Int) ≤ dn.size := by have := hmono (by omega); omega
  obtain ⟨v, hv1, hv2, hv3⟩ := dec_nV _ hB
  have HV1 : Hid (nV s.data.toList = v) := hv1
  have HV3 : Hid ((⟨(Lib.decDigits v).toArray⟩ : ByteArray) = s) := by show _ = _; rw [hv3]
  clear hv1 hv3
  clear hA hB hx hnh q1 q2 em en sm sn sm2 sn2 hmono
  go_enter Tryd.func3, Tryd.ntmps3
  go_wp2_with fail
  go_quiet (fail)
  go_wp2_with fail
  go_at_call 5
  refine (unhex_bad s _ (keep_box w _ _) HA.out (by omega)).mono ?_
  rintro e w2 ⟨ao1, c1, k1, rfl, hkk1, hk2⟩
  go_wp2_with fail
  go_at_call 7
  refine (num_ok E s v w2 hk2 HB.out HV1.out (by omega)).mono ?_
  rintro e w3 ⟨rfl, hk3⟩
  go_wp2_with fail
  go_at_call 8
  refine (dig_to E v hv2 s HV3.out w3 hk3).mono ?_
  rintro e w4 ⟨rfl, hk4⟩
  go_wp2_with fail
  go_at_call 9
  refine (copy_to ao n c xs w4 hk4 HX.out hc (by omega)).mono ?_
  rintro e w5 ⟨ao5, c5, rfl, hx5, hk5⟩
  go_wp2_with fail
  go_at_call 6
  refine (hex_to E _ _ _ _ hh HH.out w5 hk5 hx5 (by omega)).mono ?_
  rintro e w6 ⟨rfl, hk6⟩
  go_wp2_with fail
  go_at_call 5
  refine (unhex_ok hh w6 hk6 HQ1.out (by omega)).mono ?_
  rintro e w7 ⟨ao7, c7, rfl, hx7, hk7⟩
  rw [HQ2.out] at hx7 ⊢
  rw [hxl] at hx7
  go_wp2_with fail
  go_at_call 10
  refine (eq_to _ _ _ _ _ _ xs w7 hx7 (HX.out.later hk7)).mono ?_
  rintro e w' ⟨rfl, rfl⟩
  go_wp2_with fail
  go_at_call 8
  refine (dig_to E u hu dn DN.out w7 hk7).mono ?_
  rintro e w8 ⟨rfl, hk8⟩
  go_wp2_with fail
  go_at_call 7
  refine (num_ok E dn u w8 hk8 HN1.out.1 HN1.out.2 (by omega)).mono ?_
  rintro e w9 ⟨rfl, hk9⟩
  go_wp2_with fail
  go_at_call 8
  refine (dig_to E m hm dm DM.out w9 hk9).mono ?_
  rintro e w10 ⟨rfl, hk10⟩
  go_wp2_with fail
  go_at_call 7
  refine (num_ok E dm m w10 hk10 HM1.out.1 HM1.out.2 (by omega)).mono ?_
  rintro e w11 ⟨rfl, hk11⟩
  go_wp2_with fail
  go_at_call 8
  refine (dig_to E m hm dm DM.out w11 hk11).mono ?_
  rintro e w12 ⟨rfl, hk12⟩
  go_wp2_with fail
  go_at_call 8
  refine (dig_to E u hu dn DN.out w12 hk12).mono ?_
  rintro e w13 ⟨rfl, hk13⟩
  go_wp2_with fail
  go_at_call 4
  refine (works_to E w13 hk13).mono ?_
  rintro e w14 ⟨rfl, hk14⟩
  go_wp2
  go_ret
  exact ⟨rfl, hk14⟩

set_option maxHeartbeats 2000000 in
set_option maxRecDepth 100000 in
theorem one_001 (s : ByteArray) (ao : Option Addr) (n c : Nat) (xs : List Int) (m u : Nat) (w : World) (E : Env w) (hx : Shows w ao n xs) (hc : ao = none → c = 0) (hs : (s.size : Int) ≤ 65536) (hn : (n : Int) ≤ 65536) (hm : m < 18446744073709551616) (hu : u < 18446744073709551616) (hA : ¬ uhE (nums s) = 0) (hB : ¬ nE s.data.toList = 0) (hC : (u : Int) < m) :
    Calls Tryd.prog 3 #[.agg #[.string s, .slice ao n c, .int .u64 m, .int .u64 u]] w fun e w' => e = .returned (.bool true) ∧ Below w.heap.size w w' := by
  obtain ⟨hh, HH⟩ : ∃ hh, Hid (strOfNums (hexl xs) = hh) := ⟨_, rfl⟩
  obtain ⟨dm, DM⟩ : ∃ d : ByteArray, Hid ((⟨(Lib.decDigits m).toArray⟩ : ByteArray) = d) := ⟨_, rfl⟩
  obtain ⟨dn, DN⟩ : ∃ d : ByteArray, Hid ((⟨(Lib.decDigits u).toArray⟩ : ByteArray) = d) := ⟨_, rfl⟩
  have HA : Hid _ := hA
  have HB : Hid _ := hB
  have HX : Hid (Shows w ao n xs) := hx
  have hxl := hx.len
  have hnh : nums hh = hexl xs := by rw [← HH.out]; exact nums_str _ (hexl_rng xs)
  have hhl : (hh.size : Int) = 2 * n := by
    have h1 := nums_length hh
    rw [hnh, hexl_length] at h1
    omega
  obtain ⟨q1, q2⟩ := uh_hexl xs hx.rng
  rw [← hnh] at q1 q2
  have HQ1 : Hid (uhE (nums hh) = 0) := q1
  have HQ2 : Hid (uhL (nums hh) = xs) := q2
  have em : dm.data.toList = Lib.decDigits m := by rw [← DM.out]
  have en : dn.data.toList = Lib.decDigits u := by rw [← DN.out]
  have HM1 : Hid (nE dm.data.toList = 0 ∧ nV dm.data.toList = m) := by rw [em]; exact nE_dec m hm
  have HN1 : Hid (nE dn.data.toList = 0 ∧ nV dn.data.toList = u) := by rw [en]; exact nE_dec u hu
  have sm : dm.size = Lib.nDigits m := by rw [← Lib.decDigits_length, ← em]; simp
  have sn : dn.size = Lib.nDigits u := by rw [← Lib.decDigits_length, ← en]; simp
  have sm2 := Lib.nDigits_le20 m hm
  have sn2 := Lib.nDigits_le20 u hu
  have hmono : m ≤ u → dm.size ≤ dn.size := fun h => by rw [sm, sn]; exact dec_mono u m h
  have hm20 : dm.size ≤ 20 := by omega
  have hn20 : dn.size ≤ 20 := by omega
  clear hA hB hx hnh q1 q2 em en sm sn sm2 sn2 hmono
  go_enter Tryd.func3, Tryd.ntmps3
  go_wp2_with fail
  go_quiet (fail)
  go_wp2_with fail
  go_at_call 5
  refine (unhex_bad s _ (keep_box w _ _) HA.out (by omega)).mono ?_
  rintro e w2 ⟨ao1, c1, k1, rfl, hkk1, hk2⟩
  go_wp2_with fail
  go_at_call 7
  refine (num_bad E s w2 hk2 HB.out (by omega)).mono ?_
  rintro e w4 ⟨k2, rfl, hkk2, hk4⟩
  go_wp2_with fail
  go_at_call 9
  refine (copy_to ao n c xs w4 hk4 HX.out hc (by omega)).mono ?_
  rintro e w5 ⟨ao5, c5, rfl, hx5, hk5⟩
  go_wp2_with fail
  go_at_call 6
  refine (hex_to E _ _ _ _ hh HH.out w5 hk5 hx5 (by omega)).mono ?_
  rintro e w6 ⟨rfl, hk6⟩
  go_wp2_with fail
  go_at_call 5
  refine (unhex_ok hh w6 hk6 HQ1.out (by omega)).mono ?_
  rintro e w7 ⟨ao7, c7, rfl, hx7, hk7⟩
  rw [HQ2.out] at hx7 ⊢
  rw [hxl] at hx7
  go_wp2_with fail
  go_at_call 10
  refine (eq_to _ _ _ _ _ _ xs w7 hx7 (HX.out.later hk7)).mono ?_
  rintro e w' ⟨rfl, rfl⟩
  go_wp2_with fail
  go_at_call 8
  refine (dig_to E u hu dn DN.out w7 hk7).mono ?_
  rintro e w8 ⟨rfl, hk8⟩
  go_wp2_with fail
  go_at_call 7
  refine (num_ok E dn u w8 hk8 HN1.out.1 HN1.out.2 (by omega)).mono ?_
  rintro e w9 ⟨rfl, hk9⟩
  go_wp2_with fail
  go_at_call 8
  refine (dig_to E m hm dm DM.out w9 hk9).mono ?_
  rintro e w10 ⟨rfl, hk10⟩
  go_wp2_with fail
  go_at_call 7
  refine (num_ok E dm m w10 hk10 HM1.out.1 HM1.out.2 (by omega)).mono ?_
  rintro e w11 ⟨rfl, hk11⟩
  go_wp2_with fail
  go_at_call 4
  refine (works_to E w11 hk11).mono ?_
  rintro e w14 ⟨rfl, hk14⟩
  go_wp2
  go_ret
  exact ⟨rfl, hk14⟩

set_option maxHeartbeats 2000000 in
set_option maxRecDepth 100000 in
theorem one_000 (s : ByteArray) (ao : Option Addr) (n c : Nat) (xs : List Int) (m u : Nat) (w : World) (E : Env w) (hx : Shows w ao n xs) (hc : ao = none → c = 0) (hs : (s.size : Int) ≤ 65536) (hn : (n : Int) ≤ 65536) (hm : m < 18446744073709551616) (hu : u < 18446744073709551616) (hA : ¬ uhE (nums s) = 0) (hB : ¬ nE s.data.toList = 0) (hC : ¬ (u : Int) < m) :
    Calls Tryd.prog 3 #[.agg #[.string s, .slice ao n c, .int .u64 m, .int .u64 u]] w fun e w' => e = .returned (.bool true) ∧ Below w.heap.size w w' := by
  obtain ⟨hh, HH⟩ : ∃ hh, Hid (strOfNums (hexl xs) = hh) := ⟨_, rfl⟩
  obtain ⟨dm, DM⟩ : ∃ d : ByteArray, Hid ((⟨(Lib.decDigits m).toArray⟩ : ByteArray) = d) := ⟨_, rfl⟩
  obtain ⟨dn, DN⟩ : ∃ d : ByteArray, Hid ((⟨(Lib.decDigits u).toArray⟩ : ByteArray) = d) := ⟨_, rfl⟩
  have HA : Hid _ := hA
  have HB : Hid _ := hB
  have HX : Hid (Shows w ao n xs) := hx
  have hxl := hx.len
  have hnh : nums hh = hexl xs := by rw [← HH.out]; exact nums_str _ (hexl_rng xs)
  have hhl : (hh.size : Int) = 2 * n := by
    have h1 := nums_length hh
    rw [hnh, hexl_length] at h1
    omega
  obtain ⟨q1, q2⟩ := uh_hexl xs hx.rng
  rw [← hnh] at q1 q2
  have HQ1 : Hid (uhE (nums hh) = 0) := q1
  have HQ2 : Hid (uhL (nums hh) = xs) := q2
  have em : dm.data.toList = Lib.decDigits m := by rw [← DM.out]
  have en : dn.data.toList = Lib.decDigits u := by rw [← DN.out]
  have HM1 : Hid (nE dm.data.toList = 0 ∧ nV dm.data.toList = m) := by rw [em]; exact nE_dec m hm
  have HN1 : Hid (nE dn.data.toList = 0 ∧ nV dn.data.toList = u) := by rw [en]; exact nE_dec u hu
  have sm : dm.size = Lib.nDigits m := by rw [← Lib.decDigits_length, ← em]; simp
  have sn : dn.size = Lib.nDigits u := by rw [← Lib.decDigits_length, ← en]; simp
  have sm2 := Lib.nDigits_le20 m hm
  have sn2 := Lib.nDigits_le20 u hu
  have hmono : m ≤ u → dm.size ≤ dn.size := fun h => by rw [sm, sn]; exact dec_mono u m h
  have hm20 : dm.size ≤ 20 := by omega
  have hn20 : dn.size ≤ 20 := by omega
  have hlen : (dm.size : Int) ≤ dn.size := by have := hmono (by omega); omega
  clear hA hB hx hnh q1 q2 em en sm sn sm2 sn2 hmono
  go_enter Tryd.func3, Tryd.ntmps3
  go_wp2_with fail
  go_quiet (fail)
  go_wp2_with fail
  go_at_call 5
  refine (unhex_bad s _ (keep_box w _ _) HA.out (by omega)).mono ?_
  rintro e w2 ⟨ao1, c1, k1, rfl, hkk1, hk2⟩
  go_wp2_with fail
  go_at_call 7
  refine (num_bad E s w2 hk2 HB.out (by omega)).mono ?_
  rintro e w4 ⟨k2, rfl, hkk2, hk4⟩
  go_wp2_with fail
  go_at_call 9
  refine (copy_to ao n c xs w4 hk4 HX.out hc (by omega)).mono ?_
  rintro e w5 ⟨ao5, c5, rfl, hx5, hk5⟩
  go_wp2_with fail
  go_at_call 6
  refine (hex_to E _ _ _ _ hh HH.out w5 hk5 hx5 (by omega)).mono ?_
  rintro e w6 ⟨rfl, hk6⟩
  go_wp2_with fail
  go_at_call 5
  refine (unhex_ok hh w6 hk6 HQ1.out (by omega)).mono ?_
  rintro e w7 ⟨ao7, c7, rfl, hx7, hk7⟩
  rw [HQ2.out] at hx7 ⊢
  rw [hxl] at hx7
  go_wp2_with fail
  go_at_call 10
  refine (eq_to _ _ _ _ _ _ xs w7 hx7 (HX.out.later hk7)).mono ?_
  rintro e w' ⟨rfl, rfl⟩
  go_wp2_with fail
  go_at_call 8
  refine (dig_to E u hu dn DN.out w7 hk7).mono ?_
  rintro e w8 ⟨rfl, hk8⟩
  go_wp2_with fail
  go_at_call 7
  refine (num_ok E dn u w8 hk8 HN1.out.1 HN1.out.2 (by omega)).mono ?_
  rintro e w9 ⟨rfl, hk9⟩
  go_wp2_with fail
  go_at_call 8
  refine (dig_to E m hm dm DM.out w9 hk9).mono ?_
  rintro e w10 ⟨rfl, hk10⟩
  go_wp2_with fail
  go_at_call 7
  refine (num_ok E dm m w10 hk10 HM1.out.1 HM1.out.2 (by omega)).mono ?_
  rintro e w11 ⟨rfl, hk11⟩
  go_wp2_with fail
  go_at_call 8
  refine (dig_to E m hm dm DM.out w11 hk11).mono ?_
  rintro e w12 ⟨rfl, hk12⟩
  go_wp2_with fail
  go_at_call 8
  refine (dig_to E u hu dn DN.out w12 hk12).mono ?_
  rintro e w13 ⟨rfl, hk13⟩
  go_wp2_with fail
  go_at_call 4
  refine (works_to E w13 hk13).mono ?_
  rintro e w14 ⟨rfl, hk14⟩
  go_wp2
  go_ret
  exact ⟨rfl, hk14⟩
end Go.Proofs.YtmnkbbfpdohpkabDoor
