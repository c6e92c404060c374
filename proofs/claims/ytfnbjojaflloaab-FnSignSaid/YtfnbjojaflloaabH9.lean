/-
  Contracts of the laws' helpers on directories: the sum of the weights, the place of a name; a directory in a variable.
-/
import Derived.Test.YtfnbjojaflloaabSp9d
import Derived.Test.YtfnbjojaflloaabEd
import Derived.Test.YtfnbjojaflloaabHlp
namespace Go.Proofs.Ytfnbjojaflloaab
open Go.RowKit
namespace H9
open Il Sl Ec Dm Sp9 Gm

/-- Where a name stands in a directory; -1 where it does not. -/
def entR (es : List En) (x : Int) : Nat → Nat → Int
  | 0, _ => -1
  | f + 1, k => bif (enAt es k).nm == x then (k : Int) else entR es x f (k + 1)
def entL (es : List En) (x : Int) : Int := entR es x es.length 0
theorem entR_here {es : List En} {x : Int} {n j : Nat} (hj : j < n) (h : (enAt es j).nm = x) : entR es x (n - j) j = (j : Int) := by
  obtain ⟨r, hr⟩ : ∃ r, n - j = r + 1 := ⟨n - j - 1, by omega⟩
  rw [hr, entR, h, beq_self_eq_true, cond_true]
theorem entR_on {es : List En} {x : Int} {n j : Nat} (hj : j < n) (h : ¬ (enAt es j).nm = x) : entR es x (n - j) j = entR es x (n - (j + 1)) (j + 1) := by
  obtain ⟨r, hr⟩ : ∃ r, n - j = r + 1 := ⟨n - j - 1, by omega⟩
  have hb : ((enAt es j).nm == x) = false := by simpa using h
  rw [hr, entR, hb, cond_false, show n - (j + 1) = r by omega]
theorem ent_at {es : List En} (h : esOk es = true) {j : Nat} (hj : j < es.length) : entL es (enAt es j).nm = (j : Int) := by
  have key : ∀ f k, k ≤ j → j < k + f → entR es (enAt es j).nm f k = (j : Int) := fun f => by
    induction f with
    | zero => intro k h1 h2; omega
    | succ f ih =>
      intro k h1 h2
      rw [entR]
      by_cases e : k = j
      · subst e; rw [beq_self_eq_true, cond_true]
      · have := ok_lt h (show k < j by omega) hj
        have hb : ((enAt es k).nm == (enAt es j).nm) = false := by rw [beq_eq_false_iff_ne]; omega
        rw [hb, cond_false]
        exact ih (k + 1) (by omega) (by omega)
  exact key es.length 0 (Nat.zero_le _) (by omega)
/-- A directory in a variable, of this call's own. -/
def Vd (lo : Nat) (w : World) (b : Nat) (ep : Int) (A : Option Addr) (k : Nat) (es : List En) : Prop := DBox w b ep A es.length k ∧ lo ≤ b ∧ Ens lo w.heap.size w A es.length k es
section
variable {lo b : Nat} {w w' : World} {ep : Int} {A : Option Addr} {k : Nat} {es : List En}
theorem Vd.st (h : Vd lo w b ep A k es) : Ens lo w.heap.size w A es.length k es := h.2.2
theorem Vd.below {B : Nat} (h : Vd lo w b ep A k es) (hb : Below B w w') (hB : w.heap.size ≤ B) : Vd lo w' b ep A k es := ⟨h.1.below hb hB, h.2.1, (h.2.2.below hb hB).mono (Nat.le_refl _) hb.size⟩
theorem Vd.drewN (h : Vd lo w b ep A k es) (d : Nat) : Vd lo (w.drewN d) b ep A k es := h
end
theorem vd_new {lo lo' hi : Nat} {w : World} {ep : Int} {A : Option Addr} {k : Nat} {es : List En} (hx : Ens lo hi w A es.length k es) (hl : lo' ≤ lo) (h2 : lo' ≤ w.heap.size) : Vd lo' (w.alloc (.cells #[.int .i64 ep, .slice A es.length k] 40)) w.heap.size ep A k es := by
  have hb : Below w.heap.size w (w.alloc (.cells #[.int .i64 ep, .slice A es.length k] 40)) := (Below.refl _ _).alloc (Nat.le_refl _) _
  exact ⟨heap_alloc_new _ _, h2, ((hx.top hl).below hb (Nat.le_refl _)).mono (Nat.le_refl _) hb.size⟩
theorem hasNil (k : Nat) : has [] k = false := rfl

end H9
end Go.Proofs.Ytfnbjojaflloaab
