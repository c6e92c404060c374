/-
  The contract of the program's PacketPeel.
-/
import Derived.Test.YtnjcpbkpcmemeabIm5d
import Derived.Deep.QuietTactic
import Derived.Deep.RegionLaw
namespace Go.Proofs.Ytnjcpbkpcmemeab
open Go.RowKit
namespace Im5
open Il Gm Mm Tm Lm Pm Pn Pq Im2 Im3 Im4


end Im5
end Go.Proofs.Ytnjcpbkpcmemeab
