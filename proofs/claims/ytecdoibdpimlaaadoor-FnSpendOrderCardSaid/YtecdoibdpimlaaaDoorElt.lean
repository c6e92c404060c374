/-
  Contracts of the laws' helpers on numbers: an element for a number, another number of a list.
-/
import Derived.Test.YtecdoibdpimlaaaDoorChecked
import Derived.WalkKit
namespace Go.Proofs.YtecdoibdpimlaaaDoor
open Go.RowKit
namespace Elt



end Elt
end Go.Proofs.YtecdoibdpimlaaaDoor
