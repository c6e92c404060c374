/-
  Contracts of the model's chapter 5: peeling a packet.
-/
import Derived.Test.YtdejnbbfdbafnaaSp5
import Derived.Test.YtdejnbbfdbafnaaPq
import Derived.Test.YtdejnbbfdbafnaaGrp
import Derived.Laws.ResultCell
import Derived.BigQuiet
import Derived.Deep.QuietTactic
import Derived.Deep.RegionLaw
import Derived.BigRegion
import Derived.Deep.RegionHeld3
namespace Go.Proofs.Ytdejnbbfdbafnaa
open Go.RowKit
namespace Sp5
open Il Gm Mm Tm Lm Pm Pq Sp2 Sp3 Sp4



end Sp5
end Go.Proofs.Ytdejnbbfdbafnaa
