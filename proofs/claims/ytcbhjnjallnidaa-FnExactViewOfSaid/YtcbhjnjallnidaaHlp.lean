/-
  Contracts of the laws' helpers on slices of ints: comparing, marking, copying.
-/
import Derived.Test.YtcbhjnjallnidaaChecked
import Derived.Test.YtcbhjnjallnidaaIla
import Derived.BigQuiet
namespace Go.Proofs.Ytcbhjnjallnidaa
open Go.RowKit
namespace Hlp
open Il

theorem boolPost_drew (b : Bool) (w : World) (d e : Nat) : BoolPost b w (.returned (.bool b)) ((w.drewN d).drewN e) := ⟨rfl, d + e, World.drewN_drewN w d e⟩

theorem eq_of_take {xs ys : List Int} {n : Nat} (hx : xs.length = n) (hy : ys.length = n) (h : xs.take n = ys.take n) : xs = ys := by
  rwa [List.take_of_length_le (by omega), List.take_of_length_le (by omega)] at h






end Hlp
end Go.Proofs.Ytcbhjnjallnidaa
