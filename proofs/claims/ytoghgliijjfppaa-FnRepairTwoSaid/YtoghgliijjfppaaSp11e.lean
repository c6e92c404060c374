/-
  Contracts of the model's chapter 23: pieces joined.
-/
import Derived.Test.YtoghgliijjfppaaSp11d
namespace Go.Proofs.Ytoghgliijjfppaa
open Go.RowKit
namespace Sp11
open Il Sl Fo Cm Cs Gm Mm Pc Sp2

theorem flat_take {ps : List (List Int)} {j : Nat} (h : j < ps.length) : flat (ps.take (j + 1)) = flat (ps.take j) ++ slAt ps j := by
  rw [← Ck.take_slot h]
  unfold flat
  rw [List.flatten_append]
  simp
/-- What is put together. -/
def AllR (w wr : World) (A : Option Addr) (n c : Nat) (ps : List (List Int)) (v : Value) (j : Nat) : Prop :=
  ∃ g, Dest 3 1 g wr v (3 * j) ((flat (ps.take j)).map (Value.int .i64)) ∧ (∀ k, g = some k → w.heap.size ≤ k) ∧ Sts 0 w.heap.size wr A n c ps ∧ Below w.heap.size w wr

end Sp11
end Go.Proofs.Ytoghgliijjfppaa
