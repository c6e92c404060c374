/-
  Contracts of chapter 31's audits, the model's and the program's.
-/
import Derived.Test.YtecdoibdpimlaabDoorIm12
namespace Go.Proofs.YtecdoibdpimlaabDoor
open Go.RowKit
namespace Im12
open Il Sl Gm Cm Cs Tk Sp12

/-- A list of the caller's own is returned. -/
def LisB (ys : List Int) (w : World) (e : Ending) (w' : World) : Prop :=
  ∃ A c, e = .returned (.slice A ys.length c) ∧ Il.Own w.heap.size w'.heap.size w' A ys.length c ys ∧ Below w.heap.size w w'
theorem below_grown0 {w w' : World} (h : w.grownBy w' none) : Below w.heap.size w w' := (Below.refl w.heap.size w).grown h (Nat.le_refl _) fun k e => by cases e
theorem lisB_of {w w' : World} {v : Value} {ys : List Int} (h : AccR none w w' v ys) : LisB ys w (.returned v) w' := by
  obtain ⟨A, c, rfl, ho⟩ := own_of h.1
  exact ⟨A, c, rfl, ho, below_grown0 h.2⟩
theorem accB {w w' : World} {v : Value} {ys : List Int} (h : AccR none w w' v ys) : Below w.heap.size w w' := below_grown0 h.2
theorem take_step {a b : List Int} {j : Nat} (hj : j < a.length) (h : hasK b (a.getD j 0) = true) : (a.take (j + 1)).filter (hasK b) = (a.take j).filter (hasK b) ++ [a.getD j 0] := by rw [aud_succ hj, h]; rfl
theorem take_skip {a b : List Int} {j : Nat} (hj : j < a.length) (h : hasK b (a.getD j 0) = false) : (a.take (j + 1)).filter (hasK b) = (a.take j).filter (hasK b) := by rw [aud_succ hj, h]; exact List.append_nil _
theorem filt_len (a b : List Int) (j : Nat) : ((a.take j).filter (hasK b)).length ≤ j := Nat.le_trans (List.length_filter_le ..) (by rw [List.length_take]; omega)
def AuOk (a b : List Int) (j : Nat) : Prop := j = 0 ∨ (spOk a = true ∧ spOk b = true)
end Im12
end Go.Proofs.YtecdoibdpimlaabDoor
