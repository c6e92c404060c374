/-
  Contracts of the program's chapter 3: tags, by a closure that holds the tag.
-/
import Derived.Test.YtjaldneccfbjgaaIt
import Derived.Test.YtjaldneccfbjgaaTm
namespace Go.Proofs.Ytjaldneccfbjgaa
open Go.RowKit
namespace Im3
open Il Gm Mm Tm Im2




end Im3
end Go.Proofs.Ytjaldneccfbjgaa
