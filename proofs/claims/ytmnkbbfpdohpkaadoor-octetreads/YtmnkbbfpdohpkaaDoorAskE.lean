/- Two readers side by side: what is done to the one leaves the other as it was. -/
import Derived.Test.YtmnkbbfpdohpkaaDoorAskD
namespace Go.Proofs.YtmnkbbfpdohpkaaDoor
open Go.RowKit

/-- Of what was there nothing but the blocks r and q has turned. -/
structure Two (r q : Nat) (w w' : World) : Prop where
  os : w'.os = w.os
  tape : w'.tape = w.tape
  output : w'.output = w.output
  size : w.heap.size ≤ w'.heap.size
  block : ∀ k, k < w.heap.size → k ≠ r → k ≠ q → w'.heap[k]? = w.heap[k]?

theorem Two.trans {r q : Nat} {a b c : World} (h : Two r q a b) (k : Two r q b c) : Two r q a c :=
  ⟨k.os.trans h.os, k.tape.trans h.tape, k.output.trans h.output, Nat.le_trans h.size k.size, fun i hi hr hq => (k.block i (Nat.lt_of_lt_of_le hi h.size) hr hq).trans (h.block i hi hr hq)⟩
theorem Two.left {r q : Nat} {w w' : World} (h : Only r w w') : Two r q w w' := ⟨h.os, h.tape, h.output, h.size, fun k hk hr _ => h.block k hk hr⟩
theorem Two.right {r q : Nat} {w w' : World} (h : Only q w w') : Two r q w w' := ⟨h.os, h.tape, h.output, h.size, fun k hk _ hq => h.block k hk hq⟩
theorem Two.of_below {r q : Nat} {w w' : World} (h : Below w.heap.size w w') : Two r q w w' := ⟨h.os, h.tape, h.output, h.size, fun k hk _ _ => h.block k hk⟩
theorem Two.below {r q B : Nat} {w0 w w' : World} (h : Two r q w w') (hb : Below B w0 w) (hr : B ≤ r) (hq : B ≤ q) (hB : B ≤ w.heap.size) : Below B w0 w' :=
  hb.trans ⟨h.os, h.tape, h.output, h.size, fun k hk => h.block k (by omega) (by omega) (by omega)⟩

section
variable {w w' : World} {r q s p : Nat} {ao bo co : Option Addr} {n c N bc m d M dc : Nat} {xs ys zs us : List Int} {e f e1 e2 : Int} {k j : Nat}

theorem u8_not_rd (h : Rd w r ao n c xs e) {ad : Addr} {x : Int} (hc : w.cell? ad = some (.int .u8 x)) : ad.block ≠ r := by
  intro hb
  obtain ⟨b, o, sp⟩ := ad
  dsimp only at hb
  subst hb
  unfold World.cell? at hc
  simp only [h.blk] at hc
  match o, hc with
  | 0, hc => simp at hc
  | 1, hc => simp at hc
  | o + 2, hc => simp at hc

theorem u8_not_rr (h : RR w q bo N bc ys k e) {ad : Addr} {x : Int} (hc : w.cell? ad = some (.int .u8 x)) : ad.block ≠ q := by
  intro hb
  obtain ⟨b, o, sp⟩ := ad
  dsimp only at hb
  subst hb
  unfold World.cell? at hc
  simp only [h.blk] at hc
  match o, hc with
  | 0, hc => simp at hc
  | 1, hc => simp at hc
  | 2, hc => simp at hc
  | o + 3, hc => simp at hc

theorem rd_ne_rr (h : Rd w r ao n c xs e) (h2 : RR w q bo N bc ys k f) : r ≠ q := by
  intro hh
  subst hh
  have := h.blk.symm.trans h2.blk
  simp at this

/-- Bytes are shown still where every block that holds one of them stands. -/
theorem Shows.stand (hs : Shows w ao n xs) (hst : ∀ (a : Addr) (x : Int), w.cell? a = some (.int .u8 x) → w'.heap[a.block]? = w.heap[a.block]?) : Shows w' ao n xs :=
  ⟨hs.len, hs.bare, fun ad had i hi => (World.cell?_of_block (hst _ _ (hs.cell ad had i hi))).trans (hs.cell ad had i hi), hs.rng⟩

theorem Rd.two (h : Rd w s ao n c xs e) (hr : Rd w r bo N bc ys e1) (hq : RR w q co m d zs k e2) (ht : Two r q w w') (hne : s ≠ r) : Rd w' s ao n c xs e :=
  ⟨(ht.block s (lt_of_block h.blk) hne (rd_ne_rr h hq)).trans h.blk, h.sh.stand (fun a _ hc => ht.block a.block (block_lt_of_cell hc) (u8_not_rd hr hc) (u8_not_rr hq hc)), h.cap, h.big, h.bare, h.apart⟩
theorem RR.two (h : RR w p ao n c xs k e) (hr : Rd w r bo N bc ys e1) (hq : RR w q co m d zs j e2) (ht : Two r q w w') (hne : p ≠ q) : RR w' p ao n c xs k e :=
  ⟨(ht.block p (lt_of_block h.blk) (fun hh => rd_ne_rr hr h hh.symm) hne).trans h.blk, h.sh.stand (fun a _ hc => ht.block a.block (block_lt_of_cell hc) (u8_not_rd hr hc) (u8_not_rr hq hc)), h.plc, h.cap, h.big, h.bare, h.apart, h.lim⟩
theorem Rd.only_rr (h : Rd w r ao n c xs e) (hq : RR w q bo N bc ys k f) (ho : Only q w w') : Rd w' r ao n c xs e :=
  ⟨(ho.block r (lt_of_block h.blk) (rd_ne_rr h hq)).trans h.blk, h.sh.stand (fun a _ hc => ho.block a.block (block_lt_of_cell hc) (u8_not_rr hq hc)), h.cap, h.big, h.bare, h.apart⟩
theorem RR.only_rd (h : RR w q bo N bc ys k f) (hr : Rd w r ao n c xs e) (ho : Only r w w') : RR w' q bo N bc ys k f :=
  ⟨(ho.block q (lt_of_block h.blk) (fun hh => rd_ne_rr hr h hh.symm)).trans h.blk, h.sh.stand (fun a _ hc => ho.block a.block (block_lt_of_cell hc) (u8_not_rd hr hc)), h.plc, h.cap, h.big, h.bare, h.apart, h.lim⟩
end

/-- The document's Left, told as what the reader has. -/
theorem rleft_n (q : Nat) (bo : Option Addr) (N bc : Nat) (ys : List Int) (k n : Nat) (e : Int) (w : World) (h : RR w q bo N bc ys k e) (hn : (ys.drop k).length = n) :
    Calls Tryd.prog 55 #[.pointer (some ⟨q, 0, none⟩)] w fun x w' => x = .returned (.int .i64 n) ∧ Below w.heap.size w w' := by
  have hl := h.sh.len
  have hk := h.plc
  have e1 : (N : Int) - k = n := by rw [List.length_drop] at hn; omega
  have := rleft q bo N bc ys k e w h
  rw [e1] at this
  exact this

/-- How two readers stand alike. -/
def Alike2 (w : World) (r q : Nat) (bo : Option Addr) (N bc : Nat) (ys : List Int) : Prop := ∃ ao n c e k, Rd w r ao n c (ys.drop k) e ∧ RR w q bo N bc ys k e ∧ n ≤ 140737488355328

theorem wrap_u (x : Int) (h0 : 0 ≤ x) (h1 : x < 18446744073709551616) : IntKind.u64.wrap x = x := by rw [IntKind.wrap_u64]; omega

theorem mO_bd {w : World} {r : Nat} {ao : Option Addr} {n c : Nat} {xs : List Int} {e : Int} (h : Rd w r ao n c xs e) (wd : Nat) : 0 ≤ beval (mO wd xs e) ∧ beval (mO wd xs e) < 256 ^ wd := by
  have hb := beval_bd (mO wd xs e) (mO_rng h.sh.rng)
  have := pow256_le _ wd (mO_len (m := wd) (xs := xs) (e := e))
  omega

end Go.Proofs.YtmnkbbfpdohpkaaDoor
