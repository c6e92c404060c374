/-
  Contracts of the functions that draw keys, lists and tags out of a code.
-/
import Derived.Test.YtnacfjedfipggabRda
import Derived.Test.YtnacfjedfipggabSp3
namespace Go.Proofs.Ytnacfjedfipggab
open Go.RowKit
namespace Rd
open Il Tm

/-- A key and a list are drawn. -/
def KeyListPost (w : World) (e : Ending) (w' : World) : Prop :=
  ∃ k : Int, ∃ A c xs, e = .returned (.tuple #[.int .i64 k, .slice A xs.length c]) ∧ xs.length ≤ 26 ∧ -1 ≤ k ∧ k ≤ 997 ∧ Own w.heap.size w'.heap.size w' A xs.length c xs ∧ Below w.heap.size w w'
/-- A key, a list and a tag are drawn. -/
def KeyListTagPost (w : World) (e : Ending) (w' : World) : Prop :=
  ∃ k : Int, ∃ A c xs, ∃ t : Int, e = .returned (.tuple #[.int .i64 k, .slice A xs.length c, .int .i64 t]) ∧ xs.length ≤ 26 ∧ -1 ≤ k ∧ k ≤ 997 ∧ -1 ≤ t ∧ t ≤ 991 ∧ Own w.heap.size w'.heap.size w' A xs.length c xs ∧ Below w.heap.size w w'



end Rd
end Go.Proofs.Ytnacfjedfipggab
