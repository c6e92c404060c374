/-
  Contracts of the laws' helpers on numbers: an element for a number, another number of a list.
-/
import Derived.Test.YtnjcpbkpcmemeaaChecked
import Derived.WalkKit
namespace Go.Proofs.Ytnjcpbkpcmemeaa
open Go.RowKit
namespace Elt


theorem another (n b : Int) (w : World) (h0 : 0 ≤ n) (h1 : n ≤ 1000000000) (h2 : 0 ≤ b) (h3 : b ≤ 1000000000) :
    Calls Try.prog 22 #[.int .i64 n, .int .i64 b] w fun e w' => e = .returned (.int .i64 ((n + 1 + b % 990) % 991)) ∧ w = w' := by
  go_enter Try.func22, Try.ntmps22
  go_wp2
  go_ret
  exact ⟨rfl, rfl⟩

end Elt
end Go.Proofs.Ytnjcpbkpcmemeaa
