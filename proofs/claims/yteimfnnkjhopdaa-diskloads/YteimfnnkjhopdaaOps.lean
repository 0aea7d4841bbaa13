/- A list of ops that came in. -/
import Derived.Test.YteimfnnkjhopdaaActs
namespace Go.Proofs.Yteimfnnkjhopdaa
open Go.RowKit

/-- An op that came in. -/
structure OpD where
  a : Int
  i : Int
  t : ByteArray
  ko : Option Addr
  kn : Nat
  kc : Nat
  ks : List Int
def OpD.none : OpD := ⟨0, 0, ⟨#[]⟩, Option.none, 0, 0, []⟩
structure OpD.Good (o : OpD) (w : World) : Prop where
  text : o.t.size ≤ maxLen
  ints : Ints w o.ko o.kn o.ks
  len : o.kn ≤ maxLen
  wf : (Lit.int .i64 o.i).wf = true
  bare : o.ko = Option.none → o.kc = 0
structure Ops (w : World) (oo : Option Addr) (n : Nat) (O : Nat → OpD) : Prop where
  bare : oo = Option.none → n = 0
  cell : ∀ ad, oo = some ad → ∀ i, i < n → w.cell? (ad.add (i * 4)) = some (.int .i64 (O i).a) ∧ w.cell? ⟨(ad.add (i * 4)).block, (ad.add (i * 4)).off + 1, none⟩ = some (.int .i64 (O i).i) ∧ w.cell? ⟨(ad.add (i * 4)).block, (ad.add (i * 4)).off + 2, none⟩ = some (.string (O i).t) ∧ w.cell? ⟨(ad.add (i * 4)).block, (ad.add (i * 4)).off + 3, none⟩ = some (.slice (O i).ko (O i).kn (O i).kc)
  good : ∀ i, i < n → (O i).Good w
theorem OpD.Good.next {o : OpD} {w w' : World} (h : o.Good w) (hb : Below w.heap.size w w') : o.Good w' := ⟨h.text, h.ints.next hb, h.len, h.wf, h.bare⟩
theorem Ops.next {w w' : World} {oo : Option Addr} {n : Nat} {O : Nat → OpD} (h : Ops w oo n O) (hb : Below w.heap.size w w') : Ops w' oo n O :=
  ⟨h.bare, fun ad had i hi => by obtain ⟨h1, h2, h3, h4⟩ := h.cell ad had i hi; exact ⟨cell_later hb h1, cell_later hb h2, cell_later hb h3, cell_later hb h4⟩, fun i hi => (h.good i hi).next hb⟩
theorem ints_side {w0 w : World} {ao : Option Addr} {n : Nat} {xs : List Int} {r f m : Nat} (h : Ints w0 ao n xs) (hB : Below w0.heap.size w0 w) (hfp : ∀ k, fp r f m k → w0.heap.size ≤ k) : IntsS w ao n xs r f m :=
  ⟨h.next hB, fun ad had h0 hx => by subst had; have h1 := h.lt h0; have h2 := hfp _ hx; omega⟩
theorem wf_lt {i : Int} (h : (Lit.int .i64 i).wf = true) : -9223372036854775808 ≤ i ∧ i < 9223372036854775808 := by
  simp [Lit.wf, IntKind.min, IntKind.max, IntKind.signed, IntKind.bits] at h
  omega
end Go.Proofs.Yteimfnnkjhopdaa
