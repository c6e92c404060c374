/-
  The contract of the program's headers: a method that calls itself along the layers.
-/
import Derived.Test.YtnjcpbkpcmemeacIm5b
namespace Go.Proofs.Ytnjcpbkpcmemeac
open Go.RowKit
namespace Im5
open Il Gm Mm Tm Lm Pm Pn Pq Im2 Im3 Im4
open Sp5 (HdrPost)


end Im5
end Go.Proofs.Ytnjcpbkpcmemeac
