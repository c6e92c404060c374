/-
  Contracts of the model's chapter 12: rates, blamed mixes.
-/
import Derived.Test.YtbhafchdcofceaaSp7b
import Derived.Test.YtbhafchdcofceaaLq
namespace Go.Proofs.Ytbhafchdcofceaa
open Go.RowKit
namespace Sp7
open Il Sl Lc Sp2 Nm


/-- What the loops of LoopBlamed hold. -/
def BlRel (lo hi : Nat) (w wr : World) (A : Option Addr) (n c : Nat) (xs : List Cnt) (v : Value) (ys : List Int) : Prop := Cnts lo hi wr A n c xs ∧ Acc w wr v ys
theorem BlRel.c1 {lo hi : Nat} {w wr : World} {A : Option Addr} {n c : Nat} {xs : List Cnt} {v : Value} {ys : List Int} (h : BlRel lo hi w wr A n c xs v ys) : Cnts lo hi wr A n c xs := h.1
theorem BlRel.dr {lo hi d : Nat} {w wr : World} {A : Option Addr} {n c : Nat} {xs : List Cnt} {v : Value} {ys : List Int} (h : BlRel lo hi w wr A n c xs v ys) : BlRel lo hi w (wr.drewN d) A n c xs v ys := ⟨h.1, h.2.drewN d⟩
theorem BlRel.below {lo hi : Nat} {w wr w2 : World} {A : Option Addr} {n c : Nat} {xs : List Cnt} {v : Value} {ys : List Int} (h : BlRel lo hi w wr A n c xs v ys) (hb : Below wr.heap.size wr w2) : BlRel lo hi w w2 A n c xs v ys :=
  ⟨h.1.below hb (Nat.le_refl _), h.2.step (grown_of_below hb) (fun g hg => by cases hg)⟩


end Sp7
end Go.Proofs.Ytbhafchdcofceaa
