/-
  Tables: as many receivers as senders. Nothing of any program.
-/
import Derived.Test.YtjfonmaandnbhabCb
namespace Go.Proofs.Ytjfonmaandnbhab
open Go.RowKit
namespace Tc
open Cb

/-- Row k is as long as there are rows. -/
def sqAt (t : List (List Bool)) (k : Nat) : Bool := decide ((blAt t k).length = t.length)
def sqr (t : List (List Bool)) : Bool := (List.range t.length).all (sqAt t)
def tabOk (t : List (List Bool)) : Bool := sqr t && decide (1 ≤ t.length ∧ t.length ≤ 5)
theorem sqr_iff {t : List (List Bool)} : sqr t = true ↔ ∀ k, k < t.length → (blAt t k).length = t.length := by simp [sqr, sqAt, List.all_eq_true]
theorem sqr_no {t : List (List Bool)} {k : Nat} (hk : k < t.length) (h : (blAt t k).length ≠ t.length) : sqr t = false := by
  cases hs : sqr t
  · rfl
  · exact absurd (sqr_iff.1 hs k hk) h
theorem tabOk_iff {t : List (List Bool)} : tabOk t = true ↔ (∀ k, k < t.length → (blAt t k).length = t.length) ∧ 1 ≤ t.length ∧ t.length ≤ 5 := by
  unfold tabOk
  rw [Bool.and_eq_true, decide_eq_true_iff, sqr_iff]
theorem tab_no {t : List (List Bool)} (h : sqr t = false) : tabOk t = false := by unfold tabOk; rw [h]; rfl
theorem tab_size {t : List (List Bool)} (h : ¬ (1 ≤ t.length ∧ t.length ≤ 5)) : tabOk t = false := by unfold tabOk; rw [decide_eq_false h, Bool.and_false]
theorem tab_yes {t : List (List Bool)} (h : sqr t = true) : tabOk t = decide (1 ≤ t.length ∧ t.length ≤ 5) := by unfold tabOk; rw [h, Bool.true_and]
end Tc
end Go.Proofs.Ytjfonmaandnbhab
