/-
  What the laws' walks share: what a law's walk ends in, and small facts on lengths.
-/
import Derived.Test.YtjdkhloijddjjabIl
namespace Go.Proofs.Ytjdkhloijddjjab
open Go.RowKit
namespace LawB

def TruePost (w : World) (e : Ending) (w' : World) : Prop := e = .returned (.bool true) ∧ Below w.heap.size w w'
theorem drew_below {w w' : World} (h : ∃ d, w' = w.drewN d) : Below w.heap.size w w' := by
  obtain ⟨d, rfl⟩ := h
  exact ⟨rfl, rfl, rfl, Nat.le_refl _, fun _ _ => rfl⟩
theorem len_zero {ys : List Int} (h : ys = []) : ((ys.length : Int) == 0) = true := by subst h; rfl
theorem pos_of_len {ys : List Int} (h : ((ys.length : Int) == 0) = false) : 0 < ys.length := by
  cases ys with
  | nil => simp at h
  | cons a l => simp
theorem len_pos {ys : List Int} (h : ¬ ys = []) : ((ys.length : Int) == 0) = false := by
  cases ys with
  | nil => exact absurd rfl h
  | cons a l => simp; omega

end LawB
end Go.Proofs.Ytjdkhloijddjjab
