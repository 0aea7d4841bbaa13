/- WalNil: where there is no log and no disk all is refused. -/
import Derived.Test.YtndfhmlcfaaaiaaDoorFrame8
namespace Go.Proofs.YtndfhmlcfaaaiaaDoor
open Go.RowKit

set_option maxRecDepth 100000 in
set_option maxHeartbeats 600000 in
theorem nil_walk (w : World) (log : Int) (o : Op8) (hT : Tabs w) (hg : o.Good w) :
    Calls Tryd.prog 3 #[.int .i64 log, .agg o.cells.toArray] w fun e w' => e = .returned (.bool true) ∧ Below w.heap.size w w' := by
  have hz31 := zero31
  have hO := Blk.new w 25 o.cells
  have kb : Below w.heap.size w (w.alloc (.cells o.cells.toArray 25)) := (Below.refl w.heap.size w).alloc (Nat.le_refl _) _
  have hg1 := hg.next kb
  have hT1 := hT.next kb
  have o1 : o.cells[1]? = some (.int .i64 o.i) := rfl
  obtain ⟨b, hb⟩ : ∃ b, b = w.heap.size := ⟨_, rfl⟩
  have HB : Hid (b = w.heap.size) := hb
  rw [← hb] at hO kb ⊢
  clear hb hg hT
  go_enter Tryd.func3, Tryd.ntmps3
  go_wp2_with fail
  go_at_call 7; refine (open_nil _).mono ?_; rintro e w1 ⟨rfl, rfl⟩
  go_upto_region 3 with fail
  rw [← HB.out]
  obtain ⟨w0, hw0⟩ : ∃ u, u = w.alloc (.cells o.cells.toArray 25) := ⟨_, rfl⟩
  rw [← hw0] at hO kb hg1 hT1 ⊢
  clear hw0
  have c1 := hO.cell 1 _ o1
  go_upto_region 4 with (first
    | (go_at_call 8; refine (read8_nil _ _).mono ?_; rintro e w2 ⟨rfl, kb2⟩
       have hN := Blk.new w2 31 (pb zp))
    | (refine store_pg rfl _ _ rfl w2.heap.size zp zp hN rfl rfl ?_; intro hP))
  have kc := boxed_pg w2 zp
  have hO3 := (hO.next kb2).next kc
  have hg3 := (hg1.next kb2).next kc
  have hT3 := (hT1.next kb2).next kc
  have hs0 := kb.size
  have hbl : b < w0.heap.size := hO.lt
  have hB3 := (kb.trans (kb2.mono (by omega))).trans (kc.mono (by have := kb2.size; omega))
  obtain ⟨P, hPe⟩ : ∃ P, P = w2.heap.size := ⟨_, rfl⟩
  obtain ⟨w3, hw3⟩ : ∃ u, u = (w2.alloc (.cells (pb zp).toArray 31)).setRow w2.heap.size (pb zp).toArray := ⟨_, rfl⟩
  rw [← hw3] at hP hO3 hg3 hT3 hB3 ⊢
  rw [← hPe] at hP ⊢
  clear hw3 hPe kc hN hO hg1 hT1 kb kb2 c1
  have hqz := fun W => eq31 zp zp W
  rw [decide_eq_true rfl] at hqz
  have hgu := guard31
  have him := images_any w3 o.a o.i o.po o.pn o.pc o.Ps o.so o.sn o.sc o.S hg3.ints hg3.strs hg3.len
  obtain ⟨cs, hcs⟩ : ∃ cs, cs = oc8 o.a o.i o.po o.pn o.pc o.so o.sn o.sc := ⟨_, rfl⟩
  have hO4 : Blk w3 b 25 cs := by rw [hcs]; exact hO3
  have hcl : cs.length = 4 := by rw [hcs]; rfl
  rw [← hcs] at him
  clear hcs hO3
  go_wp2_with (first
    | (go_at_call 9; refine (format_nil _ _).mono ?_; rintro e v1 ⟨rfl, rfl⟩)
    | (refine load_want (by rfl) 31 _ rfl P 0 rfl (pb zp) _ hP.whole Tryd.underlying31 rfl (by rw [pb_length]; kernel_rfl) ?_)
    | (refine load_want (by rfl) 25 _ rfl b 0 rfl cs _ hO4.whole Tryd.underlying25 rfl (by rw [hcl]; kernel_rfl) ?_)
    | (go_at_call 11; refine him.mono ?_; rintro e w4 ⟨v, rfl, hown, kb4⟩)
    | (go_at_call 10; refine (com_nil _ _).mono ?_; rintro e v1 ⟨rfl, rfl⟩)
    | (go_at_call 12; refine (ckp_nil _).mono ?_; rintro e v1 ⟨rfl, rfl⟩)
    | (go_at_call 13; refine (pages_nil _).mono ?_; rintro e v1 ⟨rfl, rfl⟩)
    | (go_at_call 14; refine (room_nil _).mono ?_; rintro e v1 ⟨rfl, rfl⟩)
    | (go_at_call 15; refine (gen_nil _).mono ?_; rintro e v1 ⟨rfl, rfl⟩)
    | (go_at_call 16; refine (works_any _ (hT3.next kb4)).mono ?_; rintro e w5 ⟨rfl, kb5⟩))
  go_ret
  have h3 := hB3.size
  have h4 := kb4.size
  exact ⟨rfl, (hB3.trans (kb4.mono (by have := hO4.lt; omega))).trans (kb5.mono (by have := hO4.lt; omega))⟩
end Go.Proofs.YtndfhmlcfaaaiaaDoor
