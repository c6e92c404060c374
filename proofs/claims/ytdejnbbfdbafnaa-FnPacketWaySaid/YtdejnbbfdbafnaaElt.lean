/-
  Contracts of the laws' helpers on numbers: an element for a number, another number of a list.
-/
import Derived.Test.YtdejnbbfdbafnaaChecked
import Derived.WalkKit
namespace Go.Proofs.Ytdejnbbfdbafnaa
open Go.RowKit
namespace Elt

theorem element (n : Int) (w : World) (h0 : 0 ≤ n) (h1 : n ≤ 1000000000) :
    Calls Try.prog 24 #[.int .i64 n] w fun e w' => e = .returned (.int .i64 (1 + n % 996)) ∧ w = w' := by
  go_enter Try.func24, Try.ntmps24
  go_wp2
  go_ret
  exact ⟨rfl, rfl⟩


end Elt
end Go.Proofs.Ytdejnbbfdbafnaa
