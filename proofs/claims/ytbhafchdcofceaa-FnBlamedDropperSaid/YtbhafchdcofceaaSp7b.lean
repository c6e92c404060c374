/-
  Contracts of the model's chapter 12: parts, suspects, rates.
-/
import Derived.Test.YtbhafchdcofceaaSp7a
namespace Go.Proofs.Ytbhafchdcofceaa
open Go.RowKit
namespace Sp7
open Il Sl Lc Sp2 Nm


def SuRel (lo hi : Nat) (w wr : World) (A : Option Addr) (n c : Nat) (xs : List Cnt) (v : Value) (ys : List Cnt) : Prop := Cnts lo hi wr A n c xs ∧ CAcc w wr v ys
theorem SuRel.c1 {lo hi : Nat} {w wr : World} {A : Option Addr} {n c : Nat} {xs : List Cnt} {v : Value} {ys : List Cnt} (h : SuRel lo hi w wr A n c xs v ys) : Cnts lo hi wr A n c xs := h.1
theorem SuRel.below {lo hi : Nat} {w wr w2 : World} {A : Option Addr} {n c : Nat} {xs : List Cnt} {v : Value} {ys : List Cnt} (h : SuRel lo hi w wr A n c xs v ys) (hb : Below wr.heap.size wr w2) : SuRel lo hi w w2 A n c xs v ys :=
  ⟨h.1.below hb (Nat.le_refl _), h.2.step hb (Nat.le_refl _)⟩
theorem SuRel.dr {lo hi d : Nat} {w wr : World} {A : Option Addr} {n c : Nat} {xs : List Cnt} {v : Value} {ys : List Cnt} (h : SuRel lo hi w wr A n c xs v ys) : SuRel lo hi w (wr.drewN d) A n c xs v ys := ⟨h.1, h.2.drewN d⟩


end Sp7
end Go.Proofs.Ytbhafchdcofceaa
