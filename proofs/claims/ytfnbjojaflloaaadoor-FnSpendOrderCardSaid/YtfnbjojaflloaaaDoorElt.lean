/-
  Contracts of the laws' helpers on numbers: an element for a number, another number of a list.
-/
import Derived.Test.YtfnbjojaflloaaaDoorChecked
import Derived.WalkKit
namespace Go.Proofs.YtfnbjojaflloaaaDoor
open Go.RowKit
namespace Elt



end Elt
end Go.Proofs.YtfnbjojaflloaaaDoor
