/-
  Contracts of the model's chapter 21: weights, picks, paths.
-/
import Derived.Test.YtfnbjojaflloaabSp9b
import Derived.Test.YtfnbjojaflloaabIla
import Derived.Deep.LoopGhost
namespace Go.Proofs.Ytfnbjojaflloaab
open Go.RowKit
namespace Sp9
open Il Sl Ec Dm Gm

/-- Weights that cannot run out of range. -/
def WB (es : List En) : Prop := es.length ≤ 100 ∧ ∀ k, -100 ≤ (enAt es k).wt ∧ (enAt es k).wt ≤ 100
theorem wb_of {ep : Int} {es : List En} (h : dirOk ep es = true) : WB es := by
  obtain ⟨h1, _, h3⟩ := dirOk_iff.1 h
  refine ⟨by omega, fun k => ?_⟩
  rcases Nat.lt_or_ge k es.length with hk | hk
  · have := (okE_iff.1 (ok_ix h1 hk)).2.2; omega
  · unfold enAt
    rw [List.getD_eq_getElem?_getD, List.getElem?_eq_none hk]
    decide
theorem wtI_bd {es : List En} (h : WB es) (ch : List Int) (k : Nat) : -100 ≤ wtI ch es k ∧ wtI ch es k ≤ 100 := by
  unfold wtI
  cases has ch k
  · exact h.2 k
  · exact ⟨show (-100 : Int) ≤ 0 by decide, show (0 : Int) ≤ 100 by decide⟩
theorem wtTo_bd {es : List En} (h : WB es) (ch : List Int) (k : Nat) : -100 * (k : Int) ≤ wtTo ch es k ∧ wtTo ch es k ≤ 100 * (k : Int) := by
  induction k with
  | zero => exact ⟨show -100 * ((0 : Nat) : Int) ≤ 0 by decide, show (0 : Int) ≤ 100 * ((0 : Nat) : Int) by decide⟩
  | succ k ih =>
    have := wtI_bd h ch k
    have e : wtTo ch es (k + 1) = wtTo ch es k + wtI ch es k := rfl
    omega
theorem wtL_max {ep : Int} {es : List En} (h : dirOk ep es = true) (ch : List Int) : 0 ≤ wtL ch es ∧ wtL ch es ≤ 600 := by
  have h1 := wtTo_nn (ch := ch) (nn_of (dirOk_iff.1 h).1) es.length
  have h2 := wtTo_bd (wb_of h) ch es.length
  have h3 := (dirOk_iff.1 h).2.2
  unfold wtL
  omega
theorem wtTo_next (ch : List Int) (es : List En) (k : Nat) : wtTo ch es (k + 1) = wtTo ch es k + wtI ch es k := rfl
theorem wtI_yes {ch : List Int} {es : List En} {k : Nat} (h : has ch k = true) : wtI ch es k = 0 := by unfold wtI; rw [h]; rfl
theorem wtI_no {ch : List Int} {es : List En} {k : Nat} (h : has ch k = false) : wtI ch es k = (enAt es k).wt := by unfold wtI; rw [h]; rfl
theorem pickR_has {ch : List Int} {es : List En} {n j : Nat} {q : Int} (hj : j < n) (h : has ch j = true) : pickR ch es (n - j) j q = pickR ch es (n - (j + 1)) (j + 1) q := by
  obtain ⟨r, hr⟩ : ∃ r, n - j = r + 1 := ⟨n - j - 1, by omega⟩
  rw [hr, pickR, h, cond_true, show n - (j + 1) = r by omega]
theorem pickR_here {ch : List Int} {es : List En} {n j : Nat} {q : Int} (hj : j < n) (h : has ch j = false) (hq : q < (enAt es j).wt) : pickR ch es (n - j) j q = (j : Int) := by
  obtain ⟨r, hr⟩ : ∃ r, n - j = r + 1 := ⟨n - j - 1, by omega⟩
  rw [hr, pickR, h, cond_false, decide_eq_true hq, cond_true]
theorem pickR_on {ch : List Int} {es : List En} {n j : Nat} {q : Int} (hj : j < n) (h : has ch j = false) (hq : ¬ q < (enAt es j).wt) : pickR ch es (n - j) j q = pickR ch es (n - (j + 1)) (j + 1) (q - (enAt es j).wt) := by
  obtain ⟨r, hr⟩ : ∃ r, n - j = r + 1 := ⟨n - j - 1, by omega⟩
  rw [hr, pickR, h, cond_false, decide_eq_false hq, cond_false, show n - (j + 1) = r by omega]

end Sp9
end Go.Proofs.Ytfnbjojaflloaab
