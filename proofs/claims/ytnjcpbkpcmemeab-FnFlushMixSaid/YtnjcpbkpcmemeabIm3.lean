/-
  Contracts of the program's chapter 3: tags, by a closure that holds the tag.
-/
import Derived.Test.YtnjcpbkpcmemeabIt
import Derived.Test.YtnjcpbkpcmemeabTm
namespace Go.Proofs.Ytnjcpbkpcmemeab
open Go.RowKit
namespace Im3
open Il Gm Mm Tm Im2




end Im3
end Go.Proofs.Ytnjcpbkpcmemeab
