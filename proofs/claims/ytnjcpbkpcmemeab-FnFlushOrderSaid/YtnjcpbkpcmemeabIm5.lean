/-
  Contracts of the program's chapter 5, the small ones: names, paths, valid packets, keys of a path, the unmasked header.
-/
import Derived.Test.YtnjcpbkpcmemeabIm2
import Derived.Test.YtnjcpbkpcmemeabIm4
import Derived.Test.YtnjcpbkpcmemeabGrp
import Derived.Test.YtnjcpbkpcmemeabSp5
import Derived.Laws.CopyOwn
namespace Go.Proofs.Ytnjcpbkpcmemeab
open Go.RowKit
namespace Im5
open Il Gm Mm Tm Lm Pm Im2 Im3 Im4
open Sp5 (namesOk allTo allTo_zero allTo_succ all_of_to all_bad pathOk pathF secAt keys_step secAt_in pubs_in pubs_len)

def kindB (x : Int) : Bool := decide (x = 0 ∨ x = 1)
set_option maxRecDepth 20000 in
theorem kindB_yes {x : Int} (h : x = 0 ∨ x = 1) : kindB x = true := decide_eq_true h
theorem kindB_no {x : Int} (h : ¬ (x = 0 ∨ x = 1)) : kindB x = false := decide_eq_false h
set_option maxRecDepth 20000 in
theorem kindValid (x : Int) (w : World) :
    Calls Try.prog 51 #[.int .i64 x] w fun e w' => e = .returned (.bool (kindB x)) ∧ w = w' := by
  by_cases h0 : x = 0
  · subst h0
    rw [show kindB 0 = true from rfl]
    go_enter Try.func51, Try.ntmps51
    go_wp2
    go_ret
    exact ⟨rfl, rfl⟩
  · by_cases h1 : x = 1
    · subst h1
      rw [show kindB 1 = true from rfl]
      go_enter Try.func51, Try.ntmps51
      go_wp2
      go_ret
      exact ⟨rfl, rfl⟩
    · rw [kindB_no (by omega)]
      have e0 : (x == 0) = false := by simpa using h0
      have e1 : (x == 1) = false := by simpa using h1
      go_enter Try.func51, Try.ntmps51
      go_wp2
      go_ret
      exact ⟨rfl, rfl⟩

set_option maxRecDepth 20000 in
theorem nameValid (x : Int) (w : World) :
    Calls Try.prog 52 #[.int .i64 x] w fun e w' => e = .returned (.bool (inName x)) ∧ w = w' := by
  by_cases h0 : 0 ≤ x
  · by_cases h1 : x < 8
    · have hv : inName x = true := inName_iff.2 (by omega)
      rw [hv]
      clear hv
      go_enter Try.func52, Try.ntmps52
      go_wp2
      go_ret
      exact ⟨rfl, rfl⟩
    · have hv : inName x = false := by unfold inName; simp; omega
      rw [hv]
      clear hv
      have h2 : decide (x < 8) = false := by simpa using h1
      clear h1
      go_enter Try.func52, Try.ntmps52
      go_wp2
      go_ret
      exact ⟨rfl, rfl⟩
  · have hv : inName x = false := by unfold inName; simp; omega
    rw [hv]
    clear hv
    have h2 : decide (0 ≤ x) = false := by simpa using h0
    clear h0
    go_enter Try.func52, Try.ntmps52
    go_wp2
    go_ret
    exact ⟨rfl, rfl⟩






end Im5
end Go.Proofs.Ytnjcpbkpcmemeab
