/- OctetWrites: the call, where the arguments are not too long. -/
import Derived.Test.YtmnkbbfpdohpkaaDoorWritesA
namespace Go.Proofs.YtmnkbbfpdohpkaaDoor
open Go.RowKit

set_option maxHeartbeats 2000000 in
set_option maxRecDepth 100000 in
theorem writes_walk (ao : Option Addr) (n c : Nat) (xs : List Int) (v : Int) (s : ByteArray) (w : World) (hs : Shows w ao n xs) (hc : ao = none → c = 0) (ht : Tab w) (h0 : 0 < w.heap.size) (hv0 : 0 ≤ v) (hv1 : v ≤ 18446744073709551615) (hn : (n : Int) ≤ 131072) (hm : (s.size : Int) ≤ 131072) :
    Calls Tryd.prog 3 #[.slice ao n c, .int .u64 v, .string s] w fun e w' => e = .returned (.bool true) ∧ Below w.heap.size w w' := by
  have hm16 : 0 ≤ v % 65536 ∧ v % 65536 ≤ 65535 := by omega
  have hm32 : 0 ≤ v % 4294967296 ∧ v % 4294967296 ≤ 4294967295 := by omega
  go_enter Tryd.func3, Tryd.ntmps3
  go_wp2_with (first
    | (go_at_call 10; go_must (refine (roomy_any ao n c xs w hs hc (by omega)).mono ?_; rintro e w1 ⟨g, cap, rfl, hown1, hb1⟩; have hs1 := shows_first hown1 hs.len (by omega) hs.rng; have hz1 := hb1.size))
    | (go_at_call 11; go_must (refine (Put16_any _ n cap xs (v % 65536) w1 hs1 (by omega) hm16.1 hm16.2).mono ?_; rintro e w2 ⟨u2, rfl, hown2, hb2⟩; rw [be2_mod] at hown2; have hz2 := hb2.size; have hs2 := hs1.later hb2))
    | (go_at_call 12; go_must (refine (Put32_any _ n cap xs (v % 4294967296) w2 hs2 (by omega) hm32.1 hm32.2).mono ?_; rintro e w3 ⟨u3, rfl, hown3, hb3⟩; rw [be4_mod] at hown3; have hz3 := hb3.size; have hs3 := hs2.later hb3))
    | (go_at_call 13; go_must (refine (Put64_any _ n cap xs v w3 hs3 (by omega) hv0 hv1).mono ?_; rintro e w4 ⟨u4, rfl, hown4, hb4⟩; have hz4 := hb4.size; have hs4 := hs3.later hb4))
    | (go_at_call 14; go_must (refine (putText_all _ n cap xs s w4 hs4 (by omega)).mono ?_; rintro e w5 ⟨u5, rfl, hown5, hb5⟩; have hz5 := hb5.size; have hw5 : Below w.heap.size w w5 := hb1.trans ((hb2.mono (by omega)).trans ((hb3.mono (by omega)).trans ((hb4.mono (by omega)).trans (hb5.mono (by omega)))))))
    | (go_at_call 15; go_must (refine (refPutText_all ao n c xs s w5 (hs.later hw5) hc (by omega)).mono ?_; rintro e w6 ⟨u6, rfl, hown6, hb6⟩; have hz6 := hb6.size; have hw6 : Below w.heap.size w w6 := hw5.trans (hb6.mono (by omega)))))
  have hxl := hs.len
  have hs8 := txt_rng xs s hs.rng
  obtain ⟨ao2, c2, rfl, hsh2, -, -, -, -⟩ := own_shape hown2 (app_rng hs.rng (be_rng _ _))
  obtain ⟨ao3, c3, rfl, hsh3, -, -, -, -⟩ := own_shape hown3 (app_rng hs.rng (be_rng _ _))
  obtain ⟨ao4, c4, rfl, hsh4, -, -, -, -⟩ := own_shape hown4 (app_rng hs.rng (be_rng _ _))
  obtain ⟨ao5, c5, rfl, hsh5, -, -, -, -⟩ := own_shape hown5 hs8
  obtain ⟨ao6, c6, rfl, hsh6, -, -, -, -⟩ := own_shape hown6 hs8
  have hb56 : Below w5.heap.size w5 w6 := hb6
  have hb46 : Below w4.heap.size w4 w6 := hb5.trans (hb6.mono hz5)
  have hb36 : Below w3.heap.size w3 w6 := hb4.trans (hb46.mono hz4)
  have hb26 : Below w2.heap.size w2 w6 := hb3.trans (hb36.mono hz3)
  have hb16 : Below w1.heap.size w1 w6 := hb2.trans (hb26.mono hz2)
  go_at_call 17
  refine (refPut_2 ao n c xs v w6 (hs.later hw6) hc (by omega)).mono ?_
  rintro e w7 ⟨u7, rfl, hown7, hb7⟩
  obtain ⟨ao7, c7, rfl, hsh7, -, -, -, -⟩ := own_shape hown7 (app_rng hs.rng (be_rng _ _))
  have hz7 := hb7.size
  have hw7 : Below w.heap.size w w7 := hw6.trans (hb7.mono (by omega))
  have hb27 : Below w2.heap.size w2 w7 := hb26.trans (hb7.mono (by omega))
  go_wp2_with (go_at_call 16; refine (eqB_true _ _ _ _ _ _ _ w7 (hsh2.later hb27) hsh7).mono ?_; rintro e w' ⟨rfl, rfl⟩)
  go_at_call 17
  refine (refPut_4 ao n c xs v w7 (hs.later hw7) hc (by omega)).mono ?_
  rintro e w8 ⟨u8, rfl, hown8, hb8⟩
  obtain ⟨ao8, c8, rfl, hsh8, -, -, -, -⟩ := own_shape hown8 (app_rng hs.rng (be_rng _ _))
  have hz8 := hb8.size
  have hb68 : Below w6.heap.size w6 w8 := hb7.trans (hb8.mono hz7)
  have hw8 : Below w.heap.size w w8 := hw7.trans (hb8.mono (by omega))
  have hb38 : Below w3.heap.size w3 w8 := hb36.trans (hb68.mono (by omega))
  go_wp2_with (go_at_call 16; refine (eqB_true _ _ _ _ _ _ _ w8 (hsh3.later hb38) hsh8).mono ?_; rintro e w' ⟨rfl, rfl⟩)
  go_at_call 17
  refine (refPut_8 ao n c xs v w8 (hs.later hw8) hc (by omega)).mono ?_
  rintro e w9 ⟨u9, rfl, hown9, hb9⟩
  obtain ⟨ao9, c9, rfl, hsh9, -, -, -, -⟩ := own_shape hown9 (app_rng hs.rng (be_rng _ _))
  have hz9 := hb9.size
  have hb69 : Below w6.heap.size w6 w9 := hb68.trans (hb9.mono (by omega))
  have hw9 : Below w.heap.size w w9 := hw8.trans (hb9.mono (by omega))
  have hb49 : Below w4.heap.size w4 w9 := hb46.trans (hb69.mono (by omega))
  have hb59 : Below w5.heap.size w5 w9 := hb56.trans (hb69.mono (by omega))
  have hb39 : Below w3.heap.size w3 w9 := hb36.trans (hb69.mono (by omega))
  have hb29 : Below w2.heap.size w2 w9 := hb26.trans (hb69.mono (by omega))
  have hb19 : Below w1.heap.size w1 w9 := hb16.trans (hb69.mono (by omega))
  go_wp2_with fail
  go_at_call 16
  refine (eqB_true _ _ _ _ _ _ _ w9 (hsh4.later hb49) hsh9).mono ?_
  rintro e w' ⟨rfl, rfl⟩
  go_wp2_with fail
  go_at_call 16
  refine (eqB_true _ _ _ _ _ _ _ w9 (hsh5.later hb59) (hsh6.later hb69)).mono ?_
  rintro e w' ⟨rfl, rfl⟩
  have hl2 : (xs ++ be 2 v).length = n + 2 := by simp [be_length, hxl]
  have hl4 : (xs ++ be 4 v).length = n + 4 := by simp [be_length, hxl]
  have hl8 : (xs ++ be 8 v).length = n + 8 := by simp [be_length, hxl]
  have hin : w1.ownsRow w.heap.size 5 1 (.slice (some ⟨g, 0, none⟩) n cap) xs.length (u8s xs) := by rw [hxl]; exact own_first hown1 hxl (by omega)
  have hz14 : w1.heap.size ≤ w9.heap.size := hb19.size
  have hap : Calls Tryd.prog 19 #[.slice (some ⟨w9.heap.size, 0, none⟩) 5 5] (w9.alloc (.cells #[.slice ao2 (n + 2) c2, .slice (some ⟨g, 0, none⟩) n cap, .slice ao3 (n + 4) c3, .slice ao4 (n + 8) c4, .slice ao5 (txt xs s).length c5] 22)) fun r w' => r = .returned (.bool true) ∧ Below w.heap.size (w9.alloc (.cells #[.slice ao2 (n + 2) c2, .slice (some ⟨g, 0, none⟩) n cap, .slice ao3 (n + 4) c3, .slice ao4 (n + 8) c4, .slice ao5 (txt xs s).length c5] 22)) w' := by
    refine apart_five w.heap.size _ _ _ _ _ (xs ++ be 2 v) xs (xs ++ be 4 v) (xs ++ be 8 v) (txt xs s) w9 w1.heap.size w2.heap.size w3.heap.size w4.heap.size w5.heap.size ?_ (own_below hin hb19) ?_ ?_ (own_below hown5 hb59) (fun x hx => (hown2.lt x hx).2) (fun x hx => (hin.lt x hx).2) (fun x hx => (hown3.lt x hx).2) (fun x hx => (hown4.lt x hx).2) (fun x hx => (hown5.lt x hx).2) (by omega) (by omega) (by omega) (by omega) (by omega) (by omega) ⟨app_rng hs.rng (be_rng _ _), by omega⟩ ⟨hs.rng, by omega⟩ ⟨app_rng hs.rng (be_rng _ _), by omega⟩ ⟨app_rng hs.rng (be_rng _ _), by omega⟩ ⟨hs8, txt_len xs s (by omega)⟩
    · rw [hl2]; exact own_below hown2 hb29
    · rw [hl4]; exact own_below hown3 hb39
    · rw [hl8]; exact own_below hown4 hb49
  go_wp2_with (first
    | (go_at_call 18; go_must (refine (kept_any g n cap w.heap.size c ao xs w9 (own_below hown1 hb19) (hs.later hw9) (by omega)).mono ?_; rintro e w' ⟨rfl, rfl⟩))
    | (go_at_call 19; go_must (refine hap.mono ?_; rintro e w10 ⟨rfl, hb10⟩; have hw10 : Below w.heap.size w w10 := (hw9.alloc hw9.size _).trans hb10; have hz10 := hw10.size))
    | (go_at_call 9; go_must (refine (works_any w10 (ht.later hw10) (by omega)).mono ?_; rintro e w11 ⟨rfl, hb11⟩)))
  go_ret
  exact ⟨rfl, hw10.trans (hb11.mono hz10)⟩
end Go.Proofs.YtmnkbbfpdohpkaaDoor
