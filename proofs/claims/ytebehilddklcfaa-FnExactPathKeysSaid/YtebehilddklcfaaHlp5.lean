/-
  Contracts of the laws' helpers on packets: equal ones are found equal; marking and looking for marks.
-/
import Derived.Test.YtebehilddklcfaaHlp
import Derived.Test.YtebehilddklcfaaPq
import Derived.Test.YtebehilddklcfaaLawB
namespace Go.Proofs.Ytebehilddklcfaa
open Go.RowKit
namespace Hlp5
open Il Pm Pq LawB

/-- A block holds these cells. -/
def Blk (w : World) (b : Nat) (cs : Array Value) (t : TypeId) : Prop := w.heap[b]? = some (.cells cs t (0, 0))
theorem Blk.below {w w' : World} {b B : Nat} {cs : Array Value} {t : TypeId} (h : Blk w b cs t) (hb : Below B w w') (hB : w.heap.size ≤ B) : Blk w' b cs t :=
  (hb.block b (by have := (Array.getElem?_eq_some_iff.1 h).1; omega)).trans h

/-- []int{x} -/
theorem ints_lit1 (w : World) (x : Int) : Ints w.heap.size (w.heap.size + 1) (w.alloc (.cells #[.int .i64 x] 3)) (some ⟨w.heap.size, 0, none⟩) 1 1 [x] := by
  have hh : (w.alloc (.cells #[.int .i64 x] 3)).heap[w.heap.size]? = some (.cells #[.int .i64 x] 3 (0, 0)) := heap_alloc_new _ _
  refine ⟨rfl, Nat.le_refl _, by unfold maxLen; omega, fun _ => ⟨_, 0, rfl, Nat.le_refl _, by omega, by simp, fun j hj => ?_⟩⟩
  rw [Nat.zero_add, cell_of_row _ _ j _ _ _ hh]
  obtain rfl : j = 0 := by omega
  rfl

theorem samePacket (p : Pkt) (A B A2 B2 : Option Addr) (c d c2 d2 l1 h1 l2 h2 l3 h3 l4 h4 : Nat) (w : World) (i1 : Ints l1 h1 w A p.hd.length c p.hd) (i2 : Ints l2 h2 w B p.bd.length d p.bd) (i3 : Ints l3 h3 w A2 p.hd.length c2 p.hd) (i4 : Ints l4 h4 w B2 p.bd.length d2 p.bd) :
    Calls Try.prog 36 #[.agg #[.int .i64 p.el, .slice A p.hd.length c, .int .i64 p.tag, .slice B p.bd.length d], .agg #[.int .i64 p.el, .slice A2 p.hd.length c2, .int .i64 p.tag, .slice B2 p.bd.length d2]] w (BoolB true w) := by
  have h0 : Below w.heap.size w (w.alloc (.cells #[.int .i64 p.el, .slice A p.hd.length c, .int .i64 p.tag, .slice B p.bd.length d] 27)) := (Below.refl _ _).alloc (Nat.le_refl _) _
  have hb0 := h0.alloc h0.size (.cells #[.int .i64 p.el, .slice A2 p.hd.length c2, .int .i64 p.tag, .slice B2 p.bd.length d2] 27)
  have I1 := Lib.hid (i1.below hb0 (Nat.le_refl _))
  have I2 := Lib.hid (i2.below hb0 (Nat.le_refl _))
  have I3 := Lib.hid (i3.below hb0 (Nat.le_refl _))
  have I4 := Lib.hid (i4.below hb0 (Nat.le_refl _))
  have B0 := Lib.hid hb0
  clear i1 i2 i3 i4 h0 hb0
  obtain ⟨el, hd, tag, bd⟩ := p
  dsimp only at *
  go_enter Try.func36, Try.ntmps36
  go_wp2_with fail
  ((with_reducible refine (Hlp.sameInts _ _ _ _ _ _ _ _ _ _ _ _ _ I1.out I3.out).mono ?_); rintro e w1 ⟨rfl, nn, rfl⟩)
  rw [decide_eq_true rfl]
  go_wp2_with fail
  ((with_reducible refine (Hlp.sameInts _ _ _ _ _ _ _ _ _ _ _ _ _ (I2.out.drewN _) (I4.out.drewN _)).mono ?_); rintro e w1 ⟨rfl, nm, rfl⟩)
  rw [decide_eq_true rfl]
  go_wp2
  go_ret
  exact ⟨rfl, B0.out.os, B0.out.tape, B0.out.output, B0.out.size, B0.out.block⟩

end Hlp5
end Go.Proofs.Ytebehilddklcfaa
