/- The document's answer: the constants, the words of a block. -/
import Derived.Test.YtmnembhcfkcmnaaDoorMixed
import Derived.Deep.RegionHeld3
namespace Go.Proofs.YtmnembhcfkcmnaaDoor
open Go.RowKit

set_option maxHeartbeats 1000000 in
set_option maxRecDepth 100000 in
theorem constant_any (t : Nat) (ht : t < 64) (w : World) : Calls Tryd.prog 31 #[.int .i64 (t : Int)] w fun e w' => e = .returned (.int .u32 (kTab.getD t 0)) ∧ Below w.heap.size w w' := by
  have hc : (w.alloc (.cells #[.int .u32 1116352408, .int .u32 1899447441, .int .u32 3049323471, .int .u32 3921009573, .int .u32 961987163, .int .u32 1508970993, .int .u32 2453635748, .int .u32 2870763221, .int .u32 3624381080, .int .u32 310598401, .int .u32 607225278, .int .u32 1426881987, .int .u32 1925078388, .int .u32 2162078206, .int .u32 2614888103, .int .u32 3248222580, .int .u32 3835390401, .int .u32 4022224774, .int .u32 264347078, .int .u32 604807628, .int .u32 770255983, .int .u32 1249150122, .int .u32 1555081692, .int .u32 1996064986, .int .u32 2554220882, .int .u32 2821834349, .int .u32 2952996808, .int .u32 3210313671, .int .u32 3336571891, .int .u32 3584528711, .int .u32 113926993, .int .u32 338241895, .int .u32 666307205, .int .u32 773529912, .int .u32 1294757372, .int .u32 1396182291, .int .u32 1695183700, .int .u32 1986661051, .int .u32 2177026350, .int .u32 2456956037, .int .u32 2730485921, .int .u32 2820302411, .int .u32 3259730800, .int .u32 3345764771, .int .u32 3516065817, .int .u32 3600352804, .int .u32 4094571909, .int .u32 275423344, .int .u32 430227734, .int .u32 506948616, .int .u32 659060556, .int .u32 883997877, .int .u32 958139571, .int .u32 1322822218, .int .u32 1537002063, .int .u32 1747873779, .int .u32 1955562222, .int .u32 2024104815, .int .u32 2227730452, .int .u32 2361852424, .int .u32 2428436474, .int .u32 2756734187, .int .u32 3204031479, .int .u32 3329325298] 44)).cell? ⟨w.heap.size, t, none⟩ = some (.int .u32 (kTab.getD t 0)) := (Arr.new w .u32 44 kTab).cell t (by rw [kTab_length]; exact ht)
  have t0 : (0 : Int) ≤ (t : Int) := by omega
  have t1 : (t : Int) < 64 := by omega
  obtain ⟨k, ek⟩ : ∃ k, k = kTab.getD t 0 := ⟨_, rfl⟩
  rw [← ek] at hc
  rw [← ek]
  clear ek
  go_enter Tryd.func31, Tryd.ntmps31
  go_wp2
  go_ret
  exact ⟨rfl, (Below.refl _ w).alloc (Nat.le_refl _) _⟩

theorem or_shift (p b : Int) (M k : Nat) (hM : M = 2 ^ k) (hp0 : 0 ≤ p) (hp : p < 4294967296) (hp2 : p % (M : Int) = 0) (hb0 : 0 ≤ b) (hb : b < (M : Int)) (hm : M ≤ 4294967296) : bits .or .u32 p b = p + b := by
  rw [u32_or _ _ hp0 hp hb0 (by omega)]
  have e0 : ((p.toNat % M : Nat) : Int) = p % (M : Int) := by rw [Int.natCast_emod, Int.toNat_of_nonneg hp0]
  have e1 : p.toNat % 2 ^ k = 0 := by rw [← hM]; rw [hp2] at e0; exact_mod_cast e0
  have e2 : b.toNat < 2 ^ k := by rw [← hM]; omega
  rw [nat_join k p.toNat b.toNat e1 e2]
  omega
theorem or_four (a b c d : Int) (ha : 0 ≤ a ∧ a ≤ 255) (hb : 0 ≤ b ∧ b ≤ 255) (hc : 0 ≤ c ∧ c ≤ 255) (hd : 0 ≤ d ∧ d ≤ 255) :
    bits .or .u32 (bits .or .u32 (bits .or .u32 (a * 16777216 % 4294967296) (b * 65536 % 4294967296)) (c * 256 % 4294967296)) d = ((a * 256 + b) * 256 + c) * 256 + d := by
  have e1 : a * 16777216 % 4294967296 = a * 16777216 := by omega
  have e2 : b * 65536 % 4294967296 = b * 65536 := by omega
  have e3 : c * 256 % 4294967296 = c * 256 := by omega
  rw [e1, e2, e3, or_shift (a * 16777216) (b * 65536) 16777216 24 (by decide) (by omega) (by omega) (by omega) (by omega) (by omega) (by decide)]
  rw [or_shift _ (c * 256) 65536 16 (by decide) (by omega) (by omega) (by omega) (by omega) (by omega) (by decide)]
  rw [or_shift _ d 256 8 (by decide) (by omega) (by omega) (by omega) (by omega) (by omega) (by decide)]
  omega
theorem add_block (ad : Addr) (i : Nat) : (ad.add i).block = ad.block := by unfold Addr.add; split <;> rfl
theorem cell_beside {w : World} {g i : Nat} {p : Addr} {v u : Value} (h : w.cell? p = some u) (hn : p.block ≠ g) : (w.setCell ⟨g, i, none⟩ v).drew.cell? p = some u := (cell?_of_other (a := ⟨g, i, none⟩) hn).trans h
end Go.Proofs.YtmnembhcfkcmnaaDoor
