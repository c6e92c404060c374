/-
  No cell of these rows narrows 'for every input' (looked for: loops, veiled, ifaces, maps, wideKeys, modest, calm, conditions, laid).
  DERIVED. THE GIVEN ROWS OF THIS SEAT. 10 by the template 'for every input the law returns true; each argument reads behind the call as it read before'; 0 by the template 'total and deterministic' (their statements: YtljfhddgifacnaaTotals.lean).
  GIVEN WITH THE SEED: the statements are not yours to turn. If you find one false, say at which input.
  Laid BY PROGRAM, IN A SANDBOX (cutbox-rows.mjs): the forced cells as the released guide's own fill.sh prints them over the translation 0404a7cf54972435… (all of the seat's roots in one cut). By AI agents, Wed Nov 11 2026. No macro, syntax, notation, axiom, sorry.
-/
import Derived.Test.YtljfhddgifacnaaChecked
import GoSem.Claim
import GoSem.ClaimJoined
import GoSem.ClaimMapViews
import Derived.JoinedTies
import Derived.KernelRfl
namespace Go.Proofs.Ytljfhddgifacnaa
/- THE CELL 'sum', in the pinned program and in every row, IS THE sha256 OF THE DUMP (.gsa) THAT YtljfhddgifacnaaProg.lean LOADS. Nothing in Lean hashes anything: it is a label: what it is worth is what the hold of that sum in a sandbox is worth. -/
noncomputable def Try.pinned : Pinned := { name := "ytljfhddgifacnaa", sum := "0404a7cf54972435db93a1ee3deb0ec1292d2b1718df990fbe51fe97b5ece5a7", checked := Try.checked }
namespace Rows
def none {H : Type} : Left H := { results := [], args := [] }

/-- 'laws.FnReplyMake': WHATEVER THE INPUT: true; the input reads as it did. -/
def fnReplyMakeSpec : ChangeSpec := { name := "fnReplyMake", fn := fun _ => fun
  | [d] => { results := [.lit (.bool true)], args := [d] }
  | _ => none }
def fnReplyMakeRow : OpenClaim := { program := "ytljfhddgifacnaa", sum := "0404a7cf54972435db93a1ee3deb0ec1292d2b1718df990fbe51fe97b5ece5a7", func := "loop.example/mixrelay/laws.FnReplyMake", spec := "fnReplyMake", unfollowed := true, recurses := true, apart := false }
def FnReplyMakeSaid : Prop := fnReplyMakeRow.holds Try.pinned (OpenSpec.ofChange fnReplyMakeSpec)

/-- ITS FALSE NEIGHBOUR: 'it returns false'. Refute it at one input. -/
def fnReplyMakeWrong : ChangeSpec := { name := "fnReplyMake", fn := fun _ => fun
  | [d] => { results := [.lit (.bool false)], args := [d] }
  | _ => none }
def FnReplyMakeWrongFalsely : Prop := fnReplyMakeRow.holds Try.pinned (OpenSpec.ofChange fnReplyMakeWrong)

/-- 'laws.FnReplyWay': WHATEVER THE INPUT: true; the input reads as it did. -/
def fnReplyWaySpec : ChangeSpec := { name := "fnReplyWay", fn := fun _ => fun
  | [d1, d2] => { results := [.lit (.bool true)], args := [d1, d2] }
  | _ => none }
def fnReplyWayRow : OpenClaim := { program := "ytljfhddgifacnaa", sum := "0404a7cf54972435db93a1ee3deb0ec1292d2b1718df990fbe51fe97b5ece5a7", func := "loop.example/mixrelay/laws.FnReplyWay", spec := "fnReplyWay", unfollowed := true, recurses := true, apart := false }
def FnReplyWaySaid : Prop := fnReplyWayRow.holds Try.pinned (OpenSpec.ofChange fnReplyWaySpec)

/-- ITS FALSE NEIGHBOUR: 'it returns false'. Refute it at one input. -/
def fnReplyWayWrong : ChangeSpec := { name := "fnReplyWay", fn := fun _ => fun
  | [d1, d2] => { results := [.lit (.bool false)], args := [d1, d2] }
  | _ => none }
def FnReplyWayWrongFalsely : Prop := fnReplyWayRow.holds Try.pinned (OpenSpec.ofChange fnReplyWayWrong)

/-- 'laws.FnReplyAlike': WHATEVER THE INPUT: true; the input reads as it did. -/
def fnReplyAlikeSpec : ChangeSpec := { name := "fnReplyAlike", fn := fun _ => fun
  | [d] => { results := [.lit (.bool true)], args := [d] }
  | _ => none }
def fnReplyAlikeRow : OpenClaim := { program := "ytljfhddgifacnaa", sum := "0404a7cf54972435db93a1ee3deb0ec1292d2b1718df990fbe51fe97b5ece5a7", func := "loop.example/mixrelay/laws.FnReplyAlike", spec := "fnReplyAlike", unfollowed := true, recurses := true, apart := false }
def FnReplyAlikeSaid : Prop := fnReplyAlikeRow.holds Try.pinned (OpenSpec.ofChange fnReplyAlikeSpec)

/-- ITS FALSE NEIGHBOUR: 'it returns false'. Refute it at one input. -/
def fnReplyAlikeWrong : ChangeSpec := { name := "fnReplyAlike", fn := fun _ => fun
  | [d] => { results := [.lit (.bool false)], args := [d] }
  | _ => none }
def FnReplyAlikeWrongFalsely : Prop := fnReplyAlikeRow.holds Try.pinned (OpenSpec.ofChange fnReplyAlikeWrong)

/-- 'laws.FnReplyOpen': WHATEVER THE INPUT: true; the input reads as it did. -/
def fnReplyOpenSpec : ChangeSpec := { name := "fnReplyOpen", fn := fun _ => fun
  | [d] => { results := [.lit (.bool true)], args := [d] }
  | _ => none }
def fnReplyOpenRow : OpenClaim := { program := "ytljfhddgifacnaa", sum := "0404a7cf54972435db93a1ee3deb0ec1292d2b1718df990fbe51fe97b5ece5a7", func := "loop.example/mixrelay/laws.FnReplyOpen", spec := "fnReplyOpen", unfollowed := true, recurses := true, apart := false }
def FnReplyOpenSaid : Prop := fnReplyOpenRow.holds Try.pinned (OpenSpec.ofChange fnReplyOpenSpec)

/-- ITS FALSE NEIGHBOUR: 'it returns false'. Refute it at one input. -/
def fnReplyOpenWrong : ChangeSpec := { name := "fnReplyOpen", fn := fun _ => fun
  | [d] => { results := [.lit (.bool false)], args := [d] }
  | _ => none }
def FnReplyOpenWrongFalsely : Prop := fnReplyOpenRow.holds Try.pinned (OpenSpec.ofChange fnReplyOpenWrong)

/-- 'laws.FnReplyChange': WHATEVER THE INPUT: true; the input reads as it did. -/
def fnReplyChangeSpec : ChangeSpec := { name := "fnReplyChange", fn := fun _ => fun
  | [d1, d2] => { results := [.lit (.bool true)], args := [d1, d2] }
  | _ => none }
def fnReplyChangeRow : OpenClaim := { program := "ytljfhddgifacnaa", sum := "0404a7cf54972435db93a1ee3deb0ec1292d2b1718df990fbe51fe97b5ece5a7", func := "loop.example/mixrelay/laws.FnReplyChange", spec := "fnReplyChange", unfollowed := true, recurses := true, apart := false }
def FnReplyChangeSaid : Prop := fnReplyChangeRow.holds Try.pinned (OpenSpec.ofChange fnReplyChangeSpec)

/-- ITS FALSE NEIGHBOUR: 'it returns false'. Refute it at one input. -/
def fnReplyChangeWrong : ChangeSpec := { name := "fnReplyChange", fn := fun _ => fun
  | [d1, d2] => { results := [.lit (.bool false)], args := [d1, d2] }
  | _ => none }
def FnReplyChangeWrongFalsely : Prop := fnReplyChangeRow.holds Try.pinned (OpenSpec.ofChange fnReplyChangeWrong)

/-- 'laws.FnReplyOnce': WHATEVER THE INPUT: true; the input reads as it did. -/
def fnReplyOnceSpec : ChangeSpec := { name := "fnReplyOnce", fn := fun _ => fun
  | [d1, d2] => { results := [.lit (.bool true)], args := [d1, d2] }
  | _ => none }
def fnReplyOnceRow : OpenClaim := { program := "ytljfhddgifacnaa", sum := "0404a7cf54972435db93a1ee3deb0ec1292d2b1718df990fbe51fe97b5ece5a7", func := "loop.example/mixrelay/laws.FnReplyOnce", spec := "fnReplyOnce", unfollowed := true, recurses := true, apart := false }
def FnReplyOnceSaid : Prop := fnReplyOnceRow.holds Try.pinned (OpenSpec.ofChange fnReplyOnceSpec)

/-- ITS FALSE NEIGHBOUR: 'it returns false'. Refute it at one input. -/
def fnReplyOnceWrong : ChangeSpec := { name := "fnReplyOnce", fn := fun _ => fun
  | [d1, d2] => { results := [.lit (.bool false)], args := [d1, d2] }
  | _ => none }
def FnReplyOnceWrongFalsely : Prop := fnReplyOnceRow.holds Try.pinned (OpenSpec.ofChange fnReplyOnceWrong)

/-- 'laws.FnReplyPacket': WHATEVER THE INPUT: true; the input reads as it did. -/
def fnReplyPacketSpec : ChangeSpec := { name := "fnReplyPacket", fn := fun _ => fun
  | [d1, d2] => { results := [.lit (.bool true)], args := [d1, d2] }
  | _ => none }
def fnReplyPacketRow : OpenClaim := { program := "ytljfhddgifacnaa", sum := "0404a7cf54972435db93a1ee3deb0ec1292d2b1718df990fbe51fe97b5ece5a7", func := "loop.example/mixrelay/laws.FnReplyPacket", spec := "fnReplyPacket", unfollowed := true, recurses := true, apart := false }
def FnReplyPacketSaid : Prop := fnReplyPacketRow.holds Try.pinned (OpenSpec.ofChange fnReplyPacketSpec)

/-- ITS FALSE NEIGHBOUR: 'it returns false'. Refute it at one input. -/
def fnReplyPacketWrong : ChangeSpec := { name := "fnReplyPacket", fn := fun _ => fun
  | [d1, d2] => { results := [.lit (.bool false)], args := [d1, d2] }
  | _ => none }
def FnReplyPacketWrongFalsely : Prop := fnReplyPacketRow.holds Try.pinned (OpenSpec.ofChange fnReplyPacketWrong)

/-- 'laws.FnExactReplyMake': WHATEVER THE INPUT: true; the input reads as it did. -/
def fnExactReplyMakeSpec : ChangeSpec := { name := "fnExactReplyMake", fn := fun _ => fun
  | [d1, d2, d3, d4] => { results := [.lit (.bool true)], args := [d1, d2, d3, d4] }
  | _ => none }
def fnExactReplyMakeRow : OpenClaim := { program := "ytljfhddgifacnaa", sum := "0404a7cf54972435db93a1ee3deb0ec1292d2b1718df990fbe51fe97b5ece5a7", func := "loop.example/mixrelay/laws.FnExactReplyMake", spec := "fnExactReplyMake", unfollowed := true, recurses := true, apart := false }
def FnExactReplyMakeSaid : Prop := fnExactReplyMakeRow.holds Try.pinned (OpenSpec.ofChange fnExactReplyMakeSpec)

/-- ITS FALSE NEIGHBOUR: 'it returns false'. Refute it at one input. -/
def fnExactReplyMakeWrong : ChangeSpec := { name := "fnExactReplyMake", fn := fun _ => fun
  | [d1, d2, d3, d4] => { results := [.lit (.bool false)], args := [d1, d2, d3, d4] }
  | _ => none }
def FnExactReplyMakeWrongFalsely : Prop := fnExactReplyMakeRow.holds Try.pinned (OpenSpec.ofChange fnExactReplyMakeWrong)

/-- 'laws.FnExactReplyFill': WHATEVER THE INPUT: true; the input reads as it did. -/
def fnExactReplyFillSpec : ChangeSpec := { name := "fnExactReplyFill", fn := fun _ => fun
  | [d1, d2] => { results := [.lit (.bool true)], args := [d1, d2] }
  | _ => none }
def fnExactReplyFillRow : OpenClaim := { program := "ytljfhddgifacnaa", sum := "0404a7cf54972435db93a1ee3deb0ec1292d2b1718df990fbe51fe97b5ece5a7", func := "loop.example/mixrelay/laws.FnExactReplyFill", spec := "fnExactReplyFill", unfollowed := true, recurses := true, apart := false }
def FnExactReplyFillSaid : Prop := fnExactReplyFillRow.holds Try.pinned (OpenSpec.ofChange fnExactReplyFillSpec)

/-- ITS FALSE NEIGHBOUR: 'it returns false'. Refute it at one input. -/
def fnExactReplyFillWrong : ChangeSpec := { name := "fnExactReplyFill", fn := fun _ => fun
  | [d1, d2] => { results := [.lit (.bool false)], args := [d1, d2] }
  | _ => none }
def FnExactReplyFillWrongFalsely : Prop := fnExactReplyFillRow.holds Try.pinned (OpenSpec.ofChange fnExactReplyFillWrong)

/-- 'laws.FnExactReplyOpen': WHATEVER THE INPUT: true; the input reads as it did. -/
def fnExactReplyOpenSpec : ChangeSpec := { name := "fnExactReplyOpen", fn := fun _ => fun
  | [d1, d2] => { results := [.lit (.bool true)], args := [d1, d2] }
  | _ => none }
def fnExactReplyOpenRow : OpenClaim := { program := "ytljfhddgifacnaa", sum := "0404a7cf54972435db93a1ee3deb0ec1292d2b1718df990fbe51fe97b5ece5a7", func := "loop.example/mixrelay/laws.FnExactReplyOpen", spec := "fnExactReplyOpen", unfollowed := true, recurses := true, apart := false }
def FnExactReplyOpenSaid : Prop := fnExactReplyOpenRow.holds Try.pinned (OpenSpec.ofChange fnExactReplyOpenSpec)

/-- ITS FALSE NEIGHBOUR: 'it returns false'. Refute it at one input. -/
def fnExactReplyOpenWrong : ChangeSpec := { name := "fnExactReplyOpen", fn := fun _ => fun
  | [d1, d2] => { results := [.lit (.bool false)], args := [d1, d2] }
  | _ => none }
def FnExactReplyOpenWrongFalsely : Prop := fnExactReplyOpenRow.holds Try.pinned (OpenSpec.ofChange fnExactReplyOpenWrong)

/- THE SECOND FORM. 'bulk': how many values and letters a reading holds, each counted each time it is reached (what is shared counts as often as it is met; a slice's spare places count too). A statement '..UptoSaid' is the law's where the arguments, and the package variables that the reading takes, are together of bulk at most 1048576: NARROWER than '..Said'. Prove '..Said' where nothing that the law and all that it calls make is longer than what came in: it says more and counts as full. Else prove '..UptoSaid'. A law counts once. -/
mutual
def uptoBulk {H : Type} : DataW H → Nat
  | .lit (.string bytes) => bytes.length + 1
  | .lit _ => 1
  | .nil => 1
  | .ptr d => uptoBulk d + 1
  | .slice elems spare => uptoBulkAll elems + uptoBulkAll spare + 1
  | .agg parts => uptoBulkAll parts + 1
  | .iface _ d => uptoBulk d + 1
  | .map entries => uptoBulkEntries entries + 1
  | .held _ => 1
def uptoBulkAll {H : Type} : List (DataW H) → Nat
  | [] => 0
  | d :: r => uptoBulk d + uptoBulkAll r
def uptoBulkEntries {H : Type} : List (Lit × DataW H) → Nat
  | [] => 0
  | x :: r => uptoBulkEntry x + uptoBulkEntries r
def uptoBulkEntry {H : Type} : Lit × DataW H → Nat
  | (.string bytes, d) => bytes.length + uptoBulk d + 1
  | (_, d) => uptoBulk d + 1
 end
def uptoSmall : (H : Type) → List (DataW H) → Bool := fun _ ds => decide (uptoBulkAll ds ≤ 1048576)
def OpenSpec.upto (s : _root_.Go.ChangeSpec) : _root_.Go.OpenSpec := { _root_.Go.OpenSpec.ofChange s with cond := some uptoSmall }

/-- 'laws.FnReplyMake', WHERE WHAT IT READS IS OF BULK AT MOST 1048576: true; the input reads as it did. -/
def fnReplyMakeUptoRow : OpenClaim := { program := "ytljfhddgifacnaa", sum := "0404a7cf54972435db93a1ee3deb0ec1292d2b1718df990fbe51fe97b5ece5a7", func := "loop.example/mixrelay/laws.FnReplyMake", spec := "fnReplyMake", unfollowed := true, recurses := true, apart := false, narrowed := true }
def FnReplyMakeUptoSaid : Prop := fnReplyMakeUptoRow.holds Try.pinned (OpenSpec.upto fnReplyMakeSpec)

/-- 'laws.FnReplyWay', WHERE WHAT IT READS IS OF BULK AT MOST 1048576: true; the input reads as it did. -/
def fnReplyWayUptoRow : OpenClaim := { program := "ytljfhddgifacnaa", sum := "0404a7cf54972435db93a1ee3deb0ec1292d2b1718df990fbe51fe97b5ece5a7", func := "loop.example/mixrelay/laws.FnReplyWay", spec := "fnReplyWay", unfollowed := true, recurses := true, apart := false, narrowed := true }
def FnReplyWayUptoSaid : Prop := fnReplyWayUptoRow.holds Try.pinned (OpenSpec.upto fnReplyWaySpec)

/-- 'laws.FnReplyAlike', WHERE WHAT IT READS IS OF BULK AT MOST 1048576: true; the input reads as it did. -/
def fnReplyAlikeUptoRow : OpenClaim := { program := "ytljfhddgifacnaa", sum := "0404a7cf54972435db93a1ee3deb0ec1292d2b1718df990fbe51fe97b5ece5a7", func := "loop.example/mixrelay/laws.FnReplyAlike", spec := "fnReplyAlike", unfollowed := true, recurses := true, apart := false, narrowed := true }
def FnReplyAlikeUptoSaid : Prop := fnReplyAlikeUptoRow.holds Try.pinned (OpenSpec.upto fnReplyAlikeSpec)

/-- 'laws.FnReplyOpen', WHERE WHAT IT READS IS OF BULK AT MOST 1048576: true; the input reads as it did. -/
def fnReplyOpenUptoRow : OpenClaim := { program := "ytljfhddgifacnaa", sum := "0404a7cf54972435db93a1ee3deb0ec1292d2b1718df990fbe51fe97b5ece5a7", func := "loop.example/mixrelay/laws.FnReplyOpen", spec := "fnReplyOpen", unfollowed := true, recurses := true, apart := false, narrowed := true }
def FnReplyOpenUptoSaid : Prop := fnReplyOpenUptoRow.holds Try.pinned (OpenSpec.upto fnReplyOpenSpec)

/-- 'laws.FnReplyChange', WHERE WHAT IT READS IS OF BULK AT MOST 1048576: true; the input reads as it did. -/
def fnReplyChangeUptoRow : OpenClaim := { program := "ytljfhddgifacnaa", sum := "0404a7cf54972435db93a1ee3deb0ec1292d2b1718df990fbe51fe97b5ece5a7", func := "loop.example/mixrelay/laws.FnReplyChange", spec := "fnReplyChange", unfollowed := true, recurses := true, apart := false, narrowed := true }
def FnReplyChangeUptoSaid : Prop := fnReplyChangeUptoRow.holds Try.pinned (OpenSpec.upto fnReplyChangeSpec)

/-- 'laws.FnReplyOnce', WHERE WHAT IT READS IS OF BULK AT MOST 1048576: true; the input reads as it did. -/
def fnReplyOnceUptoRow : OpenClaim := { program := "ytljfhddgifacnaa", sum := "0404a7cf54972435db93a1ee3deb0ec1292d2b1718df990fbe51fe97b5ece5a7", func := "loop.example/mixrelay/laws.FnReplyOnce", spec := "fnReplyOnce", unfollowed := true, recurses := true, apart := false, narrowed := true }
def FnReplyOnceUptoSaid : Prop := fnReplyOnceUptoRow.holds Try.pinned (OpenSpec.upto fnReplyOnceSpec)

/-- 'laws.FnReplyPacket', WHERE WHAT IT READS IS OF BULK AT MOST 1048576: true; the input reads as it did. -/
def fnReplyPacketUptoRow : OpenClaim := { program := "ytljfhddgifacnaa", sum := "0404a7cf54972435db93a1ee3deb0ec1292d2b1718df990fbe51fe97b5ece5a7", func := "loop.example/mixrelay/laws.FnReplyPacket", spec := "fnReplyPacket", unfollowed := true, recurses := true, apart := false, narrowed := true }
def FnReplyPacketUptoSaid : Prop := fnReplyPacketUptoRow.holds Try.pinned (OpenSpec.upto fnReplyPacketSpec)

/-- 'laws.FnExactReplyMake', WHERE WHAT IT READS IS OF BULK AT MOST 1048576: true; the input reads as it did. -/
def fnExactReplyMakeUptoRow : OpenClaim := { program := "ytljfhddgifacnaa", sum := "0404a7cf54972435db93a1ee3deb0ec1292d2b1718df990fbe51fe97b5ece5a7", func := "loop.example/mixrelay/laws.FnExactReplyMake", spec := "fnExactReplyMake", unfollowed := true, recurses := true, apart := false, narrowed := true }
def FnExactReplyMakeUptoSaid : Prop := fnExactReplyMakeUptoRow.holds Try.pinned (OpenSpec.upto fnExactReplyMakeSpec)

/-- 'laws.FnExactReplyFill', WHERE WHAT IT READS IS OF BULK AT MOST 1048576: true; the input reads as it did. -/
def fnExactReplyFillUptoRow : OpenClaim := { program := "ytljfhddgifacnaa", sum := "0404a7cf54972435db93a1ee3deb0ec1292d2b1718df990fbe51fe97b5ece5a7", func := "loop.example/mixrelay/laws.FnExactReplyFill", spec := "fnExactReplyFill", unfollowed := true, recurses := true, apart := false, narrowed := true }
def FnExactReplyFillUptoSaid : Prop := fnExactReplyFillUptoRow.holds Try.pinned (OpenSpec.upto fnExactReplyFillSpec)

/-- 'laws.FnExactReplyOpen', WHERE WHAT IT READS IS OF BULK AT MOST 1048576: true; the input reads as it did. -/
def fnExactReplyOpenUptoRow : OpenClaim := { program := "ytljfhddgifacnaa", sum := "0404a7cf54972435db93a1ee3deb0ec1292d2b1718df990fbe51fe97b5ece5a7", func := "loop.example/mixrelay/laws.FnExactReplyOpen", spec := "fnExactReplyOpen", unfollowed := true, recurses := true, apart := false, narrowed := true }
def FnExactReplyOpenUptoSaid : Prop := fnExactReplyOpenUptoRow.holds Try.pinned (OpenSpec.upto fnExactReplyOpenSpec)

end Rows
end Go.Proofs.Ytljfhddgifacnaa
