/-
  Contracts of the laws' helpers on numbers: an element for a number, another number of a list.
-/
import Derived.Test.YtebehilddklcfaaChecked
import Derived.WalkKit
namespace Go.Proofs.Ytebehilddklcfaa
open Go.RowKit
namespace Elt



end Elt
end Go.Proofs.Ytebehilddklcfaa
