/- Digits read as a number: the program's way and the document's. -/
import Derived.Test.YtmnkbbfpdohpkabDoorNum
import Derived.Shelf.Pu.ParseUintPublic10
import Derived.Ground.MpProg
namespace Go.Proofs.YtmnkbbfpdohpkabDoor
open Go.RowKit Go.Shelf

shelf_lay LaysPu.n14 Mp 14 at Tryd as laysPu14

theorem parse_ok (s : ByteArray) (hmax : s.size ≤ 9223372036854775806) (u : Nat) (h : Lib.parseUintB 64 s.data.toList = .ok u) (w : World) :
    Calls Tryd.prog 17 #[.string s, .int .i64 10, .int .i64 64] w fun e w' => e = .returned (.tuple #[.int .u64 u, .nilIface]) ∧ Below w.heap.size w w' := by
  refine (Any.strconv_ParseUint_10_at64_ok laysPu14 s hmax u h w).mono ?_
  rintro e w' ⟨rfl, rfl | rfl⟩
  · exact ⟨rfl, Below.refl _ _⟩
  · exact ⟨rfl, Lib.bytesWorld_below w _ s⟩

theorem parse_range (s : ByteArray) (hlim : s.size ≤ 281474976710656) (h : Lib.parseUintB 64 s.data.toList = .range) (te : TypeId) (pe : Value) (w : World) (hv : w.cell? ⟨2, 0, none⟩ = some (.iface te pe)) :
    Calls Tryd.prog 17 #[.string s, .int .i64 10, .int .i64 64] w fun e w' => ∃ t v, e = .returned (.tuple #[.int .u64 18446744073709551615, .iface t v]) ∧ Below w.heap.size w w' := by
  refine (Any.strconv_ParseUint_10_at64_range laysPu14 s hlim h _ w hv (Or.inr ⟨te, pe, rfl⟩)).mono ?_
  rintro e w' ⟨N, rfl, _, _, hb⟩
  exact ⟨_, _, rfl, hb⟩

def badB (l : List UInt8) : Bool := l.any (fun c => decide (c.toNat < 48) || decide (57 < c.toNat))
def leadB (l : List UInt8) : Bool := decide (l[0]? = some 48) && decide (1 < l.length)
def nE (l : List UInt8) : Int := if l = [] then 10 else if badB l || leadB l then 11 else if 18446744073709551615 < valFrom 0 l then 12 else 0
def nV (l : List UInt8) : Int := if nE l = 0 then valFrom 0 l else 0

theorem badB_false {l : List UInt8} : badB l = false ↔ digs l := by
  unfold badB digs
  rw [List.any_eq_false]
  constructor
  · intro h c hc
    have := h c hc
    simp at this
    omega
  · intro h c hc
    have := h c hc
    simp; omega

theorem badB_at {l : List UInt8} (j : Nat) (h : j < l.length) (hb : l[j].toNat < 48 ∨ 57 < l[j].toNat) : badB l = true := by
  unfold badB
  rw [List.any_eq_true]
  exact ⟨l[j], List.getElem_mem _, by simpa using hb⟩

theorem nE_bad {l : List UInt8} (h0 : l ≠ []) (h : badB l = true ∨ leadB l = true) : nE l = 11 ∧ nV l = 0 := by
  have e : nE l = 11 := by
    unfold nE
    rw [if_neg h0, if_pos]
    rcases h with h | h <;> simp [h]
  exact ⟨e, by unfold nV; rw [e]; rfl⟩

theorem nE_good {l : List UInt8} (h0 : l ≠ []) (h1 : badB l = false) (h2 : leadB l = false) (h3 : valFrom 0 l ≤ 18446744073709551615) : nE l = 0 ∧ nV l = valFrom 0 l := by
  have e : nE l = 0 := by
    unfold nE
    rw [if_neg h0, if_neg (by simp [h1, h2]), if_neg (by omega)]
  exact ⟨e, by unfold nV; rw [e]; rfl⟩

theorem nE_wide {l : List UInt8} (h0 : l ≠ []) (h1 : badB l = false) (h2 : leadB l = false) (h3 : 18446744073709551615 < valFrom 0 l) : nE l = 12 ∧ nV l = 0 := by
  have e : nE l = 12 := by
    unfold nE
    rw [if_neg h0, if_neg (by simp [h1, h2]), if_pos h3]
  exact ⟨e, by unfold nV; rw [e]; rfl⟩

theorem at_data (s : ByteArray) (j : Nat) (h : j < s.size) : s.data.toList[j]'(by simpa using h) = s[j] := by
  show _ = s.data[j]
  simp

set_option maxHeartbeats 1000000 in
set_option maxRecDepth 100000 in
theorem number_any (s : ByteArray) (w : World) (hbig : s.size ≤ 281474976710656) (te : TypeId) (pe : Value) (hv : w.cell? ⟨2, 0, none⟩ = some (.iface te pe)) :
    Calls Tryd.prog 7 #[.string s] w fun e w' => e = .returned (.tuple #[.int .u64 (nV s.data.toList), .int .i64 (nE s.data.toList)]) ∧ Below w.heap.size w w' := by
  by_cases h0 : s = ⟨#[]⟩
  · subst h0
    go_enter Tryd.func7, Tryd.ntmps7
    go_wp2
    go_ret2
    exact ⟨rfl, Below.refl _ _⟩
  · have hne : s.data.toList ≠ [] := by
      intro e
      apply h0
      apply ByteArray.ext
      apply Array.ext'
      simpa using e
    have hpos : 0 < s.size := by
      rcases Nat.eq_zero_or_pos s.size with h | h
      · exact absurd (List.eq_nil_of_length_eq_zero (by simpa using h)) hne
      · exact h
    have hnil : s.toList.isEmpty = false := by
      rw [ByteArray.toList_eq]
      cases hd : s.data.toList with
      | nil => exact absurd hd hne
      | cons => rfl
    have HNE : Hid (s.data.toList ≠ []) := hne
    have hlen : s.data.toList.length = s.size := by simp
    have hposi : (0 : Int) < s.size := by omega
    have hb0 := s[0].toNat_lt
    have e0 : s.data.toList[0]? = some s[0] := by rw [List.getElem?_eq_getElem (by omega), at_data s 0 hpos]
    have HL : Hid (s.data.toList.length = s.size) := hlen
    by_cases hld : s[0].toNat = 48 ∧ 1 < s.size
    · have hB : leadB s.data.toList = true := by
        unfold leadB
        rw [e0, hlen]
        have : s[0] = 48 := UInt8.toNat_inj.1 hld.1
        simp [this, hld.2]
      have HB : Hid (nE s.data.toList = 11 ∧ nV s.data.toList = 0) := nE_bad hne (Or.inr hB)
      have h1 := hld.1
      have h2 : (1 : Int) < s.size := by omega
      clear hB e0 hlen hne h0
      go_enter Tryd.func7, Tryd.ntmps7
      go_wp2
      go_ret2
      exact ⟨by rw [HB.out.1, HB.out.2]; rfl, Below.refl _ _⟩
    · have hB : leadB s.data.toList = false := by
        unfold leadB
        rw [e0, hlen]
        by_cases h1 : s[0].toNat = 48
        · simp; intro _; omega
        · have : ¬ s[0] = 48 := fun e => h1 (by rw [e]; rfl)
          simp [this]
      have HB : Hid (leadB s.data.toList = false) := hB
      have hcase : (s[0].toNat = 48 ∧ (s.size : Int) ≤ 1) ∨ ¬ s[0].toNat = 48 := by omega
      clear hB e0 hlen hne h0 hld
      rcases hcase with ⟨h48, hsz1⟩ | h48
      all_goals
        go_enter Tryd.func7, Tryd.ntmps7
        go_wp2
        go_loop [18] (fun i => ∃ j : Nat, j ≤ s.size ∧ i = .int .i64 j ∧ Hid (digs (s.data.toList.take j))) (fun i => s.size - (intOf i).toNat)
        case atStart => exact ⟨0, by omega, rfl, by show digs _; simp [digs]⟩
        case round =>
          obtain ⟨j, hj, rfl, HA⟩ := hrel
          by_cases hlt : j < s.size
          · have hjs : (j : Int) < s.size := by omega
            have hb := s[j].toNat_lt
            have hjl : j < s.data.toList.length := by have := HL.out; omega
            have HJ : Hid (s.data.toList[j] = s[j]) := at_data s j hlt
            have HJL : Hid (j < s.data.toList.length) := hjl
            by_cases hlo : s[j].toNat < 48
            · have HB2 : Hid (nE s.data.toList = 11 ∧ nV s.data.toList = 0) := nE_bad HNE.out (Or.inl (badB_at j hjl (by rw [HJ.out]; omega)))
              clear HJ hjl
              go_wp2
              go_ret2
              exact ⟨by rw [HB2.out.1, HB2.out.2]; rfl, Below.refl _ _⟩
            · by_cases hhi : 57 < s[j].toNat
              · have HB2 : Hid (nE s.data.toList = 11 ∧ nV s.data.toList = 0) := nE_bad HNE.out (Or.inl (badB_at j hjl (by rw [HJ.out]; omega)))
                clear HJ hjl
                go_wp2
                go_ret2
                exact ⟨by rw [HB2.out.1, HB2.out.2]; rfl, Below.refl _ _⟩
              · clear HJ hjl
                go_wp2
                go_round
                case rel =>
                  refine ⟨j + 1, by omega, by go_num, ?_⟩
                  show digs _
                  rw [List.take_succ_eq_append_getElem HJL.out]
                  intro c hc
                  rcases List.mem_append.1 hc with h | h
                  · exact HA.out c h
                  · rw [List.mem_singleton.1 h, at_data s j hlt]; omega
                case measure => simp [intOf]; omega
          · have hjs : j = s.size := by omega
            subst hjs
            have hdg : digs s.data.toList := by
              have := HA.out
              rw [List.take_of_length_le (by have := HL.out; omega)] at this
              exact this
            have hpv := parse_val s.data.toList hdg 0
            have hpb : Lib.parseUintB 64 s.data.toList = Lib.parseUintM (2 ^ 64 - 1) 0 s.data.toList := if_neg HNE.out
            by_cases hval : valFrom 0 s.data.toList ≤ 18446744073709551615
            · rw [if_pos (Or.inl hval)] at hpv
              have hok := parse_ok s (by omega) _ (hpb.trans hpv) w
              have HG : Hid (nE s.data.toList = 0 ∧ nV s.data.toList = valFrom 0 s.data.toList) := nE_good HNE.out (badB_false.2 hdg) HB.out hval
              clear hpv hpb hdg
              go_wp2_with (go_at_call 17; refine hok.mono ?_; rintro e w' ⟨rfl, hbw⟩)
              go_ret2
              exact ⟨by rw [HG.out.1, HG.out.2]; rfl, hbw⟩
            · rw [if_neg (by intro h; rcases h with h | h; exact hval h; exact HNE.out h)] at hpv
              have hok := parse_range s hbig (hpb.trans hpv) te pe w hv
              have HG : Hid (nE s.data.toList = 12 ∧ nV s.data.toList = 0) := nE_wide HNE.out (badB_false.2 hdg) HB.out (by omega)
              clear hpv hpb hdg
              go_wp2_with (go_at_call 17; refine hok.mono ?_; rintro e w' ⟨ty, vy, rfl, hbw⟩)
              go_ret2
              exact ⟨by rw [HG.out.1, HG.out.2]; rfl, hbw⟩
end Go.Proofs.YtmnkbbfpdohpkabDoor
