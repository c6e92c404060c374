/-
  A list of ints that came in, opened.
-/
import Derived.Test.YtcbhjnjallnidabIla
import Derived.ProofKit
import Derived.OpenShut
import Derived.ShutString
import Derived.ChangeOld
import Derived.Below
import Derived.Lib.SmallJoins
import Derived.Deep.Slices
import Derived.Deep.Fields
namespace Go.Proofs.Ytcbhjnjallnidab
open Go.ChangeShapes Go.WideShapes Go.ChangeAt Go.RowKit Go.Deep
namespace Opk
open Il

section
variable {H : Type} {enc : TypeId × Value → H} {w : World} {spare : Nat → Bool} {held : Bool}
theorem open_list {n : Nat} {u : Value} {y : DataW H × List MemPlace} (h : DataW.trod enc Try.prog w 0 spare held n 23 [u] = some y) (hsp : ∀ b, spare b = true) : ∃ A k c xs, u = .slice A k c ∧ Ints 0 w.heap.size w A k c xs := by
  rcases open_ints Try.underlying23 Try.underlying3 (by kernel_rfl) h with ⟨hcs, _⟩ | ⟨x, l, c, zs, hcs, _, hl, hm, hz, _, hcell, hwz⟩
  · exact ⟨none, 0, 0, _, by simpa using hcs, ints_of_row (.inl ⟨rfl, rfl, rfl, rfl⟩)⟩
  · exact ⟨some x, l, c, _, by simpa using hcs, ints_of_row (.inr ⟨_, rfl, hl, hm, by rw [hz, hsp]; rfl, hcell, hwz⟩)⟩
end
end Opk
end Go.Proofs.Ytcbhjnjallnidab
