/-
  Contracts of the laws' helpers on numbers: an element for a number, another number of a list.
-/
import Derived.Test.YtecdoibdpimlaaaChecked
import Derived.WalkKit
namespace Go.Proofs.Ytecdoibdpimlaaa
open Go.RowKit
namespace Elt

theorem element (n : Int) (w : World) (h0 : 0 ≤ n) (h1 : n ≤ 1000000000) :
    Calls Try.prog 10 #[.int .i64 n] w fun e w' => e = .returned (.int .i64 (1 + n % 996)) ∧ w = w' := by
  go_enter Try.func10, Try.ntmps10
  go_wp2
  go_ret
  exact ⟨rfl, rfl⟩

theorem another (n b : Int) (w : World) (h0 : 0 ≤ n) (h1 : n ≤ 1000000000) (h2 : 0 ≤ b) (h3 : b ≤ 1000000000) :
    Calls Try.prog 14 #[.int .i64 n, .int .i64 b] w fun e w' => e = .returned (.int .i64 ((n + 1 + b % 990) % 991)) ∧ w = w' := by
  go_enter Try.func14, Try.ntmps14
  go_wp2
  go_ret
  exact ⟨rfl, rfl⟩

end Elt
end Go.Proofs.Ytecdoibdpimlaaa
