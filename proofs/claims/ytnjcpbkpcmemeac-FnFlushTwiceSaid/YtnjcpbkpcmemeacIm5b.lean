/-
  Contracts of the program's layers: linked blocks, their filler, their headers, the masked body.
-/
import Derived.Test.YtnjcpbkpcmemeacIm5
import Derived.Test.YtnjcpbkpcmemeacPn
import Derived.Test.YtnjcpbkpcmemeacPq
import Derived.Deep.RegionLaw
import Derived.Deep.LoopGhost
namespace Go.Proofs.Ytnjcpbkpcmemeac
open Go.RowKit
namespace Im5
open Il Gm Mm Tm Lm Pm Pn Pq Im2 Im3 Im4
open Sp5 (HdrPost)
open Sp4 (lenOf)




end Im5
end Go.Proofs.Ytnjcpbkpcmemeac
