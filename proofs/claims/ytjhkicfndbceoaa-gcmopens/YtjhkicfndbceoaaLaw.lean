/- What the statements' walks share: a key, a nonce and two rows of bytes that came in as one struct. -/
import Derived.Test.YtjhkicfndbceoaaWorks
import Derived.Test.YtjhkicfndbceoaaApartB
namespace Go.Proofs.Ytjhkicfndbceoaa
open Go.RowKit

/-- The cells of what came in. -/
def sc (key nonce : List B) (a b : Value) : List Value := bys key ++ (bys nonce ++ [a, b])
section
variable {key nonce : List B} {a b : Value}
theorem sc_length (hk : key.length = 32) (hn : nonce.length = 12) : (sc key nonce a b).length = 46 := by simp [sc, bys_length, hk, hn]
theorem sc_key (hk : key.length = 32) : ((sc key nonce a b).drop 0).take 32 = bys key := by
  unfold sc
  rw [List.drop_zero, List.take_append_of_le_length (by rw [bys_length]; omega), List.take_of_length_le (by rw [bys_length]; omega)]
theorem sc_non (hk : key.length = 32) (hn : nonce.length = 12) : ((sc key nonce a b).drop 32).take 12 = bys nonce := by
  unfold sc
  rw [List.drop_append_of_le_length (by rw [bys_length]; omega), List.drop_eq_nil_of_le (by rw [bys_length]; omega), List.nil_append, List.take_append_of_le_length (by rw [bys_length]; omega), List.take_of_length_le (by rw [bys_length]; omega)]
theorem sc_44 (hk : key.length = 32) (hn : nonce.length = 12) : (sc key nonce a b)[44]? = some a := by
  unfold sc
  rw [List.getElem?_append_right (by rw [bys_length]; omega), List.getElem?_append_right (by rw [bys_length, bys_length]; omega), bys_length, bys_length, hk, hn]
  rfl
theorem sc_45 (hk : key.length = 32) (hn : nonce.length = 12) : (sc key nonce a b)[45]? = some b := by
  unfold sc
  rw [List.getElem?_append_right (by rw [bys_length]; omega), List.getElem?_append_right (by rw [bys_length, bys_length]; omega), bys_length, bys_length, hk, hn]
  rfl
end
/-- What came in lies in block g. -/
structure LwS (w v : World) (g : Nat) (key nonce : List B) (a b : Value) : Prop where
  blk : Blk v g 26 (sc key nonce a b)
  k : Below w.heap.size w v
  hk : key.length = 32
  hn : nonce.length = 12
section
variable {w v v' : World} {g : Nat} {key nonce : List B} {a b : Value}
theorem LwS.call (h : LwS w v g key nonce a b) (hb : Below v.heap.size v v') : LwS w v' g key nonce a b := ⟨h.blk.next hb, h.k.trans (hb.mono h.k.size), h.hk, h.hn⟩
theorem LwS.drew (h : LwS w v g key nonce a b) : LwS w v.drew g key nonce a b := h.call ((Below.refl _ v).drew)
theorem LwS.ky (h : LwS w v g key nonce a b) : v.rangeAt g 0 (bys key) := by
  have := h.blk.range 0 32
  rwa [sc_key h.hk] at this
theorem LwS.non (h : LwS w v g key nonce a b) : v.rangeAt g 32 (bys nonce) := by
  have := h.blk.range 32 12
  rwa [sc_non h.hk h.hn] at this
theorem LwS.va (h : LwS w v g key nonce a b) : v.cell? ⟨g, 44, none⟩ = some a := h.blk.cell 44 _ (sc_44 h.hk h.hn)
theorem LwS.vb (h : LwS w v g key nonce a b) : v.cell? ⟨g, 45, none⟩ = some b := h.blk.cell 45 _ (sc_45 h.hk h.hn)
theorem LwS.new (w : World) (key nonce : List B) (a b : Value) (hk : key.length = 32) (hn : nonce.length = 12) : LwS w (w.alloc (.cells (sc key nonce a b).toArray 26)) w.heap.size key nonce a b :=
  ⟨Blk.new w 26 _, (Below.refl _ w).alloc (Nat.le_refl _) _, hk, hn⟩
end
end Go.Proofs.Ytjhkicfndbceoaa
