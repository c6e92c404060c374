/-
  Contract of the program's check of one number.
-/
import Derived.Test.YtcbhjnjallnidabChecked
import Derived.Test.YtcbhjnjallnidabGmm
import Derived.WalkKit
import Derived.Lib.Hide
namespace Go.Proofs.Ytcbhjnjallnidab
open Go.RowKit
namespace Nv
theorem numberValid (x : Int) (w : World) : Calls Try.prog 26 #[.int .i64 x] w fun e w' => e = .returned (.bool (Mm.inN x)) ∧ w = w' := by
  by_cases h0 : 0 ≤ x
  · by_cases h1 : x < 991
    · have hv : Mm.inN x = true := Mm.inN_iff.2 (by omega)
      rw [hv]
      clear hv
      go_enter Try.func26, Try.ntmps26
      go_wp2
      go_ret
      exact ⟨rfl, rfl⟩
    · have hv : Mm.inN x = false := by unfold Mm.inN; simp; omega
      rw [hv]
      clear hv
      have h2 : decide (x < 991) = false := by simpa using h1
      clear h1
      go_enter Try.func26, Try.ntmps26
      go_wp2
      go_ret
      exact ⟨rfl, rfl⟩
  · have hv : Mm.inN x = false := by unfold Mm.inN; simp; omega
    rw [hv]
    clear hv
    have h2 : decide (0 ≤ x) = false := by simpa using h0
    clear h0
    go_enter Try.func26, Try.ntmps26
    go_wp2
    go_ret
    exact ⟨rfl, rfl⟩
end Nv
end Go.Proofs.Ytcbhjnjallnidab
