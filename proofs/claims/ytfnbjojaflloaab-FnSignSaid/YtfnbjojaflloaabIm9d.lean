/-
  Contracts of the program's chapter 21: places at points, sums of weights.
-/
import Derived.Test.YtfnbjojaflloaabIm9c
import Derived.BigRegion
namespace Go.Proofs.Ytfnbjojaflloaab
open Go.RowKit Go.Shelf
namespace Im9
open Il Sl Gm Cm Ec Dm Sp9 Sg
attribute [local go_sem] Oper.semAt_some

/-- Weights as a valid directory has them. -/
def WN (es : List En) : Prop := es.length ≤ 6 ∧ ∀ k, 0 ≤ (enAt es k).wt ∧ (enAt es k).wt ≤ 9
theorem WN.nn {es : List En} (h : WN es) : NN es := fun k => (h.2 k).1
theorem WN.wb {es : List En} (h : WN es) : WB es := ⟨by have := h.1; omega, fun k => by have := h.2 k; omega⟩
theorem wn_of {ep : Int} {es : List En} (h : dirOk ep es = true) : WN es := by
  obtain ⟨h1, _, h3⟩ := dirOk_iff.1 h
  refine ⟨h3, fun k => ?_⟩
  rcases Nat.lt_or_ge k es.length with hk | hk
  · have := (okE_iff.1 (ok_ix h1 hk)).2.2; omega
  · unfold enAt
    rw [List.getD_eq_getElem?_getD, List.getElem?_eq_none hk]
    decide
theorem wn_rest {es : List En} (h : WN es) (ch : List Int) : WN (restOf es ch) := by
  refine ⟨Nat.le_trans (rest_le es ch) h.1, fun k => ?_⟩
  rcases Nat.lt_or_ge k (restOf es ch).length with hk | hk
  · have := enAt_mem hk
    unfold restOf at this
    obtain ⟨i, _, hi⟩ := List.mem_map.1 this
    unfold restOf
    rw [← hi]; exact h.2 i
  · unfold enAt
    rw [List.getD_eq_getElem?_getD, List.getElem?_eq_none hk]
    decide
theorem grown_drew {w w' : World} {r : Option Nat} (h : w.grownBy w' r) : w.grownBy w'.drew r := ⟨h.os, h.tape, h.output, h.size, h.block⟩
theorem has_nil (k : Nat) : has [] k = false := rfl



end Im9
end Go.Proofs.Ytfnbjojaflloaab
