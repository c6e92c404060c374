/-
  Contracts of the model's chapter 2: streams, masking on and off.
-/
import Derived.Test.YtcbhjnjallnidabChecked
import Derived.Test.YtcbhjnjallnidabIla
import Derived.Test.YtcbhjnjallnidabGmm
import Derived.BigQuiet
import Derived.Deep.RegionLaw
namespace Go.Proofs.Ytcbhjnjallnidab
open Go.RowKit
namespace Sp2
open Il Gm Mm


set_option maxRecDepth 20000 in
theorem l6In (n lo hi : Int) (w : World) :
    Calls Try.prog 31 #[.int .i64 n, .int .i64 lo, .int .i64 hi] w fun e w' => e = .returned (.bool (decide (lo ≤ n ∧ n ≤ hi))) ∧ w = w' := by
  by_cases h1 : lo ≤ n
  · by_cases h2 : n ≤ hi
    · rw [decide_eq_true (And.intro h1 h2)]
      go_enter Try.func31, Try.ntmps31
      go_wp2
      go_ret
      exact ⟨rfl, rfl⟩
    · rw [decide_eq_false (fun h => h2 h.2)]
      have h3 : decide (n ≤ hi) = false := by simpa using h2
      clear h2
      go_enter Try.func31, Try.ntmps31
      go_wp2
      go_ret
      exact ⟨rfl, rfl⟩
  · rw [decide_eq_false (fun h => h1 h.1)]
    have h3 : decide (lo ≤ n) = false := by simpa using h1
    clear h1
    go_enter Try.func31, Try.ntmps31
    go_wp2
    go_ret
    exact ⟨rfl, rfl⟩











end Sp2
end Go.Proofs.Ytcbhjnjallnidab
