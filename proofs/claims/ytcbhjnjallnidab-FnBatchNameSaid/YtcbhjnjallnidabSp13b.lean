/-
  Contracts of the model's chapter 32: ViewOf, ViewSame.
-/
import Derived.Test.YtcbhjnjallnidabSp13
namespace Go.Proofs.Ytcbhjnjallnidab
open Go.RowKit
namespace Sp13
open Il Sl Fc Fp Pm

/-- A new list of n flows is returned, the call's own. -/
def FlsPostN (n : Nat) (xs : List Fl) (w : World) (e : Ending) (w' : World) : Prop :=
  ∃ A c, e = .returned (.slice A n c) ∧ FlsO w.heap.size w'.heap.size w' A n c xs ∧ Below w.heap.size w w'
theorem fls_n {n : Nat} {xs : List Fl} {w : World} {e : Ending} {w' : World} (h : FlsPost xs w e w') (hl : xs.length = n) : FlsPostN n xs w e w' := by
  obtain ⟨A, c, h1, h2, h3⟩ := h
  subst hl
  exact ⟨A, c, h1, h2, h3⟩
theorem sameV_noA {a b : List Fl} (h : flsOk a = false) : sameV a b = false := by unfold sameV; rw [h]; rfl
theorem sameV_noB {a b : List Fl} (h : flsOk b = false) : sameV a b = false := by unfold sameV; rw [h]; simp
theorem sameV_len {a b : List Fl} (h : ¬ a.length = b.length) : sameV a b = false := by
  cases e : sameV a b
  · rfl
  · obtain ⟨_, _, h3⟩ := sameV_iff.1 e
    have := congrArg List.length h3
    rw [view_len, view_len] at this
    exact absurd this h
theorem sameV_ok {a b : List Fl} (h1 : flsOk a = true) (h2 : flsOk b = true) : sameV a b = decide (viewL a = viewL b) := by unfold sameV; rw [h1, h2]; simp
end Sp13
end Go.Proofs.Ytcbhjnjallnidab
