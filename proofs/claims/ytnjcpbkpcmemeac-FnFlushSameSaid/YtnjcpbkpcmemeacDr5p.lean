/-
  Contracts of the functions that draw packets out of a code: a copy of a packet, a spoilt one, a packet on its way.
-/
import Derived.Test.YtnjcpbkpcmemeacDr5
import Derived.Test.YtnjcpbkpcmemeacHlp5
import Derived.Test.YtnjcpbkpcmemeacSp5b
import Derived.Test.YtnjcpbkpcmemeacPk5
import Derived.Test.YtnjcpbkpcmemeacSp5c
import Derived.Deep.RegionHeld3
import Derived.BigRegion
import Derived.Deep.Cut
namespace Go.Proofs.Ytnjcpbkpcmemeac
open Go.RowKit
namespace Rd
open Il Pm Pq Hlp5

theorem peel_len {x : Int} {p : Pkt} : (peelF x p).pk.hd.length ≤ 9 ∧ (peelF x p).pk.bd.length ≤ 6 := by
  cases h : peelOk x p
  · rw [peelF_no h]
    exact ⟨Nat.zero_le _, Nat.zero_le _⟩
  · rw [peelF_yes h]
    obtain ⟨_, _, h3, _, _, h6⟩ := pktOk_iff.1 (peelOk_iff.1 h).2.1
    refine ⟨?_, ?_⟩
    · show ((plainF p.hd (Pm.keyOf x p)).drop 3).length ≤ 9
      rw [List.length_drop, plainF_len _ h3]
      omega
    · show (Mm.offL p.bd (Pm.keyOf x p)).length ≤ 6
      rw [Mm.offL_len, h6]
      omega


end Rd
end Go.Proofs.Ytnjcpbkpcmemeac
