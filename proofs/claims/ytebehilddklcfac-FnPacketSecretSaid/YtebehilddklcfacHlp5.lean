/-
  Contracts of the laws' helpers on packets: equal ones are found equal; marking and looking for marks.
-/
import Derived.Test.YtebehilddklcfacHlp
import Derived.Test.YtebehilddklcfacPq
import Derived.Test.YtebehilddklcfacLawB
namespace Go.Proofs.Ytebehilddklcfac
open Go.RowKit
namespace Hlp5
open Il Pm Pq LawB

/-- A block holds these cells. -/
def Blk (w : World) (b : Nat) (cs : Array Value) (t : TypeId) : Prop := w.heap[b]? = some (.cells cs t (0, 0))
theorem Blk.below {w w' : World} {b B : Nat} {cs : Array Value} {t : TypeId} (h : Blk w b cs t) (hb : Below B w w') (hB : w.heap.size ≤ B) : Blk w' b cs t :=
  (hb.block b (by have := (Array.getElem?_eq_some_iff.1 h).1; omega)).trans h

/-- []int{x} -/
theorem ints_lit1 (w : World) (x : Int) : Ints w.heap.size (w.heap.size + 1) (w.alloc (.cells #[.int .i64 x] 3)) (some ⟨w.heap.size, 0, none⟩) 1 1 [x] := by
  have hh : (w.alloc (.cells #[.int .i64 x] 3)).heap[w.heap.size]? = some (.cells #[.int .i64 x] 3 (0, 0)) := heap_alloc_new _ _
  refine ⟨rfl, Nat.le_refl _, by unfold maxLen; omega, fun _ => ⟨_, 0, rfl, Nat.le_refl _, by omega, by simp, fun j hj => ?_⟩⟩
  rw [Nat.zero_add, cell_of_row _ _ j _ _ _ hh]
  obtain rfl : j = 0 := by omega
  rfl

theorem samePacket (p : Pkt) (A B A2 B2 : Option Addr) (c d c2 d2 l1 h1 l2 h2 l3 h3 l4 h4 : Nat) (w : World) (i1 : Ints l1 h1 w A p.hd.length c p.hd) (i2 : Ints l2 h2 w B p.bd.length d p.bd) (i3 : Ints l3 h3 w A2 p.hd.length c2 p.hd) (i4 : Ints l4 h4 w B2 p.bd.length d2 p.bd) :
    Calls Try.prog 11 #[.agg #[.int .i64 p.el, .slice A p.hd.length c, .int .i64 p.tag, .slice B p.bd.length d], .agg #[.int .i64 p.el, .slice A2 p.hd.length c2, .int .i64 p.tag, .slice B2 p.bd.length d2]] w (BoolB true w) := by
  have h0 : Below w.heap.size w (w.alloc (.cells #[.int .i64 p.el, .slice A p.hd.length c, .int .i64 p.tag, .slice B p.bd.length d] 27)) := (Below.refl _ _).alloc (Nat.le_refl _) _
  have hb0 := h0.alloc h0.size (.cells #[.int .i64 p.el, .slice A2 p.hd.length c2, .int .i64 p.tag, .slice B2 p.bd.length d2] 27)
  have I1 := Lib.hid (i1.below hb0 (Nat.le_refl _))
  have I2 := Lib.hid (i2.below hb0 (Nat.le_refl _))
  have I3 := Lib.hid (i3.below hb0 (Nat.le_refl _))
  have I4 := Lib.hid (i4.below hb0 (Nat.le_refl _))
  have B0 := Lib.hid hb0
  clear i1 i2 i3 i4 h0 hb0
  obtain ⟨el, hd, tag, bd⟩ := p
  dsimp only at *
  go_enter Try.func11, Try.ntmps11
  go_wp2_with fail
  ((with_reducible refine (Hlp.sameInts _ _ _ _ _ _ _ _ _ _ _ _ _ I1.out I3.out).mono ?_); rintro e w1 ⟨rfl, nn, rfl⟩)
  rw [decide_eq_true rfl]
  go_wp2_with fail
  ((with_reducible refine (Hlp.sameInts _ _ _ _ _ _ _ _ _ _ _ _ _ (I2.out.drewN _) (I4.out.drewN _)).mono ?_); rintro e w1 ⟨rfl, nm, rfl⟩)
  rw [decide_eq_true rfl]
  go_wp2
  go_ret
  exact ⟨rfl, B0.out.os, B0.out.tape, B0.out.output, B0.out.size, B0.out.block⟩

/-- Only blocks b1 and b2 of those that were there have been written. -/
structure Kept2 (b1 b2 : Nat) (w w' : World) : Prop where
  os : w'.os = w.os
  tape : w'.tape = w.tape
  output : w'.output = w.output
  size : w.heap.size ≤ w'.heap.size
  block : ∀ b, b < w.heap.size → b ≠ b1 → b ≠ b2 → w'.heap[b]? = w.heap[b]?
theorem ints_kept2 {lo hi b1 b2 : Nat} {w w' : World} {A : Option Addr} {n c : Nat} {xs : List Int} (h : Ints lo hi w A n c xs) (hk : Kept2 b1 b2 w w') (hd : (hi ≤ b1 ∨ b1 < lo) ∧ (hi ≤ b2 ∨ b2 < lo)) : Ints lo hi w' A n c xs :=
  h.keep hk.size fun b q1 q2 q3 => hk.block b q3 (by omega) (by omega)
theorem own_kept2 {lo hi b1 b2 : Nat} {w w' : World} {A : Option Addr} {n c : Nat} {xs : List Int} (h : Il.Own lo hi w A n c xs) (hk : Kept2 b1 b2 w w') (hd : (hi ≤ b1 ∨ b1 < lo) ∧ (hi ≤ b2 ∨ b2 < lo)) : Il.Own lo hi w' A n c xs :=
  h.keep hk.size fun b q1 q2 q3 => hk.block b q3 (by omega) (by omega)
/-- A packet that was there ahead of a place lies as it lay, where only blocks from that place on have been written. -/
theorem lies_kept2 {b1 b2 g1 g2 M : Nat} {w w' : World} {A B : Option Addr} {c d : Nat} {p : Pkt} (h : Lies w g1 g2 A c B d p) (hk : Kept2 b1 b2 w w') (l1 : 0 < p.hd.length → g1 < M) (l2 : 0 < p.bd.length → g2 < M) (e1 : M ≤ b1) (e2 : M ≤ b2) : Lies w' g1 g2 A c B d p := by
  refine ⟨⟨⟨h.1.1.1, h.1.1.2.1, h.1.1.2.2.1, fun hn => ?_⟩, ?_⟩, ⟨⟨h.2.1.1.1, h.2.1.1.2.1, h.2.1.1.2.2.1, fun hn => ?_⟩, ?_⟩, h.2.2⟩
  · obtain ⟨b, off, e, q1, q2, q3, q4⟩ := h.1.1.2.2.2 hn
    have := l1 hn
    exact ⟨b, off, e, q1, q2, Nat.lt_of_lt_of_le q3 hk.size, fun j hj => (World.cell?_of_block (hk.block b q3 (by omega) (by omega))).trans (q4 j hj)⟩
  · intro b off hn e j hj
    obtain ⟨b', off', e', q1, q2, q3, q4⟩ := h.1.1.2.2.2 hn
    have := l1 hn
    have hbb : b = b' := by rw [e'] at e; simp at e; exact e.1.symm
    subst hbb
    exact (World.frozen?_of_block (hk.block b q3 (by omega) (by omega))).trans (h.1.2 b off hn e j hj)
  · obtain ⟨b, off, e, q1, q2, q3, q4⟩ := h.2.1.1.2.2.2 hn
    have := l2 hn
    exact ⟨b, off, e, q1, q2, Nat.lt_of_lt_of_le q3 hk.size, fun j hj => (World.cell?_of_block (hk.block b q3 (by omega) (by omega))).trans (q4 j hj)⟩
  · intro b off hn e j hj
    obtain ⟨b', off', e', q1, q2, q3, q4⟩ := h.2.1.1.2.2.2 hn
    have := l2 hn
    have hbb : b = b' := by rw [e'] at e; simp at e; exact e.1.symm
    subst hbb
    exact (World.frozen?_of_block (hk.block b q3 (by omega) (by omega))).trans (h.2.1.2 b off hn e j hj)
theorem lies_lt {w : World} {b1 b2 : Nat} {A B : Option Addr} {c d : Nat} {p : Pkt} (h : Lies w b1 b2 A c B d p) : (0 < p.hd.length → b1 < w.heap.size) ∧ (0 < p.bd.length → b2 < w.heap.size) := by
  refine ⟨fun hn => ?_, fun hn => ?_⟩
  · obtain ⟨b, off, e, q1, q2, q3, q4⟩ := h.1.1.2.2.2 hn
    omega
  · obtain ⟨b, off, e, q1, q2, q3, q4⟩ := h.2.1.1.2.2.2 hn
    omega
theorem blk_kept2 {b b1 b2 : Nat} {w w' : World} {cs : Array Value} {t : TypeId} (h : Blk w b cs t) (hk : Kept2 b1 b2 w w') (e1 : b ≠ b1) (e2 : b ≠ b2) : Blk w' b cs t :=
  (hk.block b (Array.getElem?_eq_some_iff.1 h).1 e1 e2).trans h
theorem below_kept2 {B b1 b2 : Nat} {w0 w w' : World} (h : Below B w0 w) (hk : Kept2 b1 b2 w w') (hs : B ≤ w.heap.size) (e1 : B ≤ b1) (e2 : B ≤ b2) : Below B w0 w' :=
  ⟨hk.os.trans h.os, hk.tape.trans h.tape, hk.output.trans h.output, Nat.le_trans h.size hk.size, fun b hb => (hk.block b (by omega) (by omega) (by omega)).trans (h.block b hb)⟩
theorem lies_kept {lo hi b1 b2 : Nat} {w w' : World} {A B : Option Addr} {c d : Nat} {p : Pkt} (h : Lies w b1 b2 A c B d p) (hk : Kept lo hi w w') (hd : (b1 + 1 ≤ lo ∨ hi ≤ b1) ∧ (b2 + 1 ≤ lo ∨ hi ≤ b2)) : Lies w' b1 b2 A c B d p :=
  h.keep (Nat.le_of_eq hk.size.symm) fun b hb _ => hk.block b (by omega)
theorem blk_kept {lo hi b : Nat} {w w' : World} {cs : Array Value} {t : TypeId} (h : Blk w b cs t) (hk : Kept lo hi w w') (hd : b < lo ∨ hi ≤ b) : Blk w' b cs t := (hk.block b hd).trans h




end Hlp5
end Go.Proofs.Ytebehilddklcfac
