/- Shares as they lie in memory: a list of them, read. -/
import Derived.Test.YtineieoghlbchaaDoorEvalA
import Derived.Test.YtineieoghlbchaaDoorRoom
namespace Go.Proofs.YtineieoghlbchaaDoor
open Go.RowKit

/-- A share: its place, where its bytes lie, and what they are. -/
structure Sh where
  x : B
  ao : Option Addr
  n : Nat
  c : Nat
  ys : List B
def Sh.y (s : Sh) : Value := .slice s.ao s.n s.c

/-- A share's bytes are shown. -/
structure ShOk (w : World) (s : Sh) : Prop where
  sh : Shows w s.ao s.n (s.ys.map v8)
  bare : s.ao = none → s.c = 0
  le : s.n ≤ s.c
  max : s.c ≤ maxLen
theorem ShOk.later {w w' : World} {s : Sh} (h : ShOk w s) (hb : Below w.heap.size w w') : ShOk w' s := ⟨h.sh.later hb, h.bare, h.le, h.max⟩
theorem ShOk.len {w : World} {s : Sh} (h : ShOk w s) : s.ys.length = s.n := by have := h.sh.len; rwa [List.length_map] at this

/-- In the world w a slice at ao, of length n, shows the shares L. -/
structure Shs (w : World) (ao : Option Addr) (n : Nat) (L : List Sh) : Prop where
  len : L.length = n
  bare : ao = none → n = 0
  cx : ∀ ad, ao = some ad → ∀ (i : Nat) s, L[i]? = some s → w.cell? (ad.add (i * 2)) = some (.int .u8 (v8 s.x))
  cy : ∀ ad, ao = some ad → ∀ (i : Nat) s, L[i]? = some s → w.cell? ⟨(ad.add (i * 2)).block, (ad.add (i * 2)).off + 1, none⟩ = some (.slice s.ao s.n s.c)
  ok : ∀ s ∈ L, ShOk w s
theorem Shs.later {w w' : World} {ao : Option Addr} {n : Nat} {L : List Sh} (h : Shs w ao n L) (hb : Below w.heap.size w w') : Shs w' ao n L :=
  ⟨h.len, h.bare, fun ad had i s hi => cell_later hb (h.cx ad had i s hi), fun ad had i s hi => cell_later hb (h.cy ad had i s hi), fun s hs => (h.ok s hs).later hb⟩
theorem Shs.adr {w : World} {ao : Option Addr} {n : Nat} {L : List Sh} (h : Shs w ao n L) (hn : 0 < n) : ∃ ad, ao = some ad := by
  cases ao with
  | none => have := h.bare rfl; omega
  | some ad => exact ⟨ad, rfl⟩
theorem Shs.get {w : World} {ao : Option Addr} {n : Nat} {L : List Sh} (h : Shs w ao n L) (i : Nat) (hi : i < n) : ∃ s, L[i]? = some s :=
  ⟨_, List.getElem?_eq_getElem (by have := h.len; omega)⟩
end Go.Proofs.YtineieoghlbchaaDoor
