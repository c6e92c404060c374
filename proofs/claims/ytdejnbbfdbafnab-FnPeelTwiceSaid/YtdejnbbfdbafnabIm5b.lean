/-
  Contracts of the program's layers: linked blocks, their filler, their headers, the masked body.
-/
import Derived.Test.YtdejnbbfdbafnabIm5
import Derived.Test.YtdejnbbfdbafnabPn
import Derived.Test.YtdejnbbfdbafnabPq
import Derived.Deep.RegionLaw
import Derived.Deep.LoopGhost
namespace Go.Proofs.Ytdejnbbfdbafnab
open Go.RowKit
namespace Im5
open Il Gm Mm Tm Lm Pm Pn Pq Im2 Im3 Im4
open Sp5 (HdrPost)
open Sp4 (lenOf)




end Im5
end Go.Proofs.Ytdejnbbfdbafnab
