/-
  Contracts of the program's chapter 2: streams, masking on and off.
-/
import Derived.Test.YtnjcpbkpcmemeabIt
import Derived.Test.YtnjcpbkpcmemeabRg
namespace Go.Proofs.Ytnjcpbkpcmemeab
open Go.RowKit Go.Shelf
namespace Im2
open Il (Ints NewInts NewIntsT infoInt own_made acc_new)
open Gm Mm
attribute [local go_sem] Oper.semAt_some

theorem ints_rows {lo hi : Nat} {w w' : World} {A : Option Addr} {n c : Nat} {xs : List Int} {row : Option Nat} (h : Ints lo hi w A n c xs) (hg : w.grownBy w' row) (hr : ∀ r, row = some r → ∃ o : Obj, w.heap[r]? = some o ∧ o.isCells = false) : Ints lo hi w' A n c xs :=
  ⟨h.1, h.2.1, h.2.2.1, fun hn => by
    obtain ⟨b, off, e, h1, h2, hz, hc⟩ := h.2.2.2 hn
    exact ⟨b, off, e, h1, h2, Nat.lt_of_lt_of_le hz hg.size, fun j hj => cell_kept (hc j hj) hg hr⟩⟩
theorem own_rows {lo hi : Nat} {w w' : World} {A : Option Addr} {n c : Nat} {xs : List Int} {row : Option Nat} (h : Il.Own lo hi w A n c xs) (hg : w.grownBy w' row) (hr : ∀ r, row = some r → ∃ o : Obj, w.heap[r]? = some o ∧ o.isCells = false) : Il.Own lo hi w' A n c xs :=
  ⟨ints_rows h.1 hg hr, fun b off hn e j hj => by
    obtain ⟨b', off', e', h1, h2, hz, hc⟩ := h.1.2.2.2 hn
    rw [e'] at e
    simp only [Option.some.injEq, Addr.mk.injEq, and_true] at e
    obtain ⟨rfl, rfl⟩ := e
    exact (frozen_kept (hc j hj) hg hr).trans (h.2 _ _ hn e' j hj)⟩

theorem set_all {f : Nat → Int} {n : Nat} {pre : List (Fin n)} {x : Fin n} {ys : List Int} (h : ∀ i : Fin n, i ∈ pre → ys.getD i.1 0 = f i.1) (hx : x.1 < ys.length) : ∀ i : Fin n, i ∈ pre ++ [x] → (ys.set x.1 (f x.1)).getD i.1 0 = f i.1 := fun i hi => by
  by_cases e : i.1 = x.1
  · rw [e, List.getD_eq_getElem?_getD, List.getElem?_set_self hx]; rfl
  · rw [List.getD_eq_getElem?_getD, List.getElem?_set_ne (by omega), ← List.getD_eq_getElem?_getD]
    rcases List.mem_append.1 hi with h1 | h1
    · exact h i h1
    · simp at h1; exact absurd (congrArg Fin.val h1) e
theorem all_eq {n : Nat} {xs ys : List Int} (hx : xs.length = n) (hy : ys.length = n) (h : ∀ i, i < n → xs.getD i 0 = ys.getD i 0) : xs = ys := by
  apply List.ext_getElem (by omega)
  intro i h1 h2
  have := h i (by omega)
  rw [List.getD_eq_getElem?_getD, List.getD_eq_getElem?_getD, List.getElem?_eq_getElem h1, List.getElem?_eq_getElem h2] at this
  simpa using this

theorem mapIdx_getD {f : Nat → Int → Int} {xs : List Int} {i : Nat} (h : i < xs.length) : (xs.mapIdx f).getD i 0 = f i (xs.getD i 0) := by
  rw [List.getD_eq_getElem?_getD, List.getD_eq_getElem?_getD, List.getElem?_eq_getElem (by simpa using h), List.getElem?_eq_getElem h]
  simp

/-- One number with the stream added or subtracted; a list of them. -/
def sgn (key sign : Int) (i : Nat) (x : Int) : Int := (x + sign * at2 key i + 991) % 991
def signL (xs : List Int) (key sign : Int) : List Int := xs.mapIdx (sgn key sign)
theorem signL_len {xs : List Int} {key sign : Int} : (signL xs key sign).length = xs.length := by simp [signL]
theorem signL_getD {xs : List Int} {key sign : Int} {i : Nat} (h : i < xs.length) : (signL xs key sign).getD i 0 = sgn key sign i (xs.getD i 0) := mapIdx_getD h

/-- What the loop of withStream has written: the boxes of the list, the sign and the new list. -/
def WInv (w : World) (A0 : Option Addr) (c0 : Nat) (xs : List Int) (sign : Int) (f : Nat → Int) (n : Nat) (pre : List (Fin n)) (W : World) : Prop :=
  Boxed W w.heap.size 23 (.slice A0 n c0) ∧ Boxed W (w.heap.size + 1) 3 (.int .i64 sign) ∧ Ints 0 w.heap.size W A0 n c0 xs ∧
  ∃ A ys, Boxed W (w.heap.size + 1 + 1 + 1) 23 (.slice A n n) ∧ Il.Own (w.heap.size + 1 + 1) (w.heap.size + 1 + 1 + 1) W A n n ys ∧ ∀ i : Fin n, i ∈ pre → ys.getD i.1 0 = f i.1

theorem signL_on {xs : List Int} {key : Int} : signL xs key 1 = onL xs key := by
  unfold signL onL
  apply List.ext_getElem (by simp)
  intro i h1 h2
  simp only [List.getElem_mapIdx, sgn]
  omega
theorem signL_off {xs : List Int} {key : Int} : signL xs key (-1) = offL xs key := by
  unfold signL offL
  apply List.ext_getElem (by simp)
  intro i h1 h2
  simp only [List.getElem_mapIdx, sgn]
  omega




end Im2
end Go.Proofs.Ytnjcpbkpcmemeab
