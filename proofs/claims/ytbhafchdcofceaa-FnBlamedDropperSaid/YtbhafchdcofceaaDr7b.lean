/-
  Draws of chapter 12: counts and two numbers.
-/
import Derived.Test.YtbhafchdcofceaaDr7
import Derived.BigQuiet
namespace Go.Proofs.Ytbhafchdcofceaa
open Go.RowKit
namespace Rd
open Il Sl Lc

/-- Counts and two numbers are drawn. -/
def CntsTwo (P : Int → Int → Prop) (w : World) (e : Ending) (w' : World) : Prop :=
  ∃ A c xs f t, e = .returned (.tuple #[.slice A xs.length c, .int .i64 f, .int .i64 t]) ∧ Tiny xs ∧ xs.length ≤ 64 ∧ CntsO w.heap.size w'.heap.size w' A xs.length c xs ∧ P f t ∧ Below w.heap.size w w'
theorem below_row {w w1 w' : World} (h : Below w.heap.size w w1) (hg : w1.grownBy w' (some w.heap.size)) : Below w.heap.size w w' :=
  h.grown hg h.size (fun k e => by cases e; exact Nat.le_refl _)
theorem cnts_row {w w1 w' : World} {hi n c : Nat} {A : Option Addr} {xs : List Cnt} (h : CntsO (w.heap.size + 1) hi w1 A n c xs) (hh : hi ≤ w1.heap.size) (hg : w1.grownBy w' (some w.heap.size)) : CntsO (w.heap.size + 1) w'.heap.size w' A n c xs :=
  CntsO.mono (h.grown hg (fun k e => by cases e; omega)) (Nat.le_refl _) (Nat.le_trans hh hg.size)

end Rd
end Go.Proofs.Ytbhafchdcofceaa
