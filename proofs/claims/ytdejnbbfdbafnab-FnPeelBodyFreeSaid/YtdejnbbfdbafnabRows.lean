/-
  No cell of these rows narrows 'for every input' (looked for: loops, veiled, ifaces, maps, wideKeys, modest, calm, conditions, laid).
  DERIVED. THE GIVEN ROWS OF THIS SEAT. 8 by the template 'for every input the law returns true; each argument reads behind the call as it read before'; 0 by the template 'total and deterministic' (their statements: YtdejnbbfdbafnabTotals.lean).
  GIVEN WITH THE SEED: the statements are not yours to turn. If you find one false, say at which input.
  Laid BY PROGRAM, IN A SANDBOX (cutbox-rows.mjs): the forced cells as the released guide's own fill.sh prints them over the translation 0cb2d824d0906802… (all of the seat's roots in one cut). By AI agents, Wed Nov 11 2026. No macro, syntax, notation, axiom, sorry.
-/
import Derived.Test.YtdejnbbfdbafnabChecked
import GoSem.Claim
import GoSem.ClaimJoined
import GoSem.ClaimMapViews
import Derived.JoinedTies
import Derived.KernelRfl
namespace Go.Proofs.Ytdejnbbfdbafnab
/- THE CELL 'sum', in the pinned program and in every row, IS THE sha256 OF THE DUMP (.gsa) THAT YtdejnbbfdbafnabProg.lean LOADS. Nothing in Lean hashes anything: it is a label: what it is worth is what the hold of that sum in a sandbox is worth. -/
noncomputable def Try.pinned : Pinned := { name := "ytdejnbbfdbafnab", sum := "0cb2d824d0906802aeb993f13f5a73f84f71e18c49608f8a53c8851f45ac71cd", checked := Try.checked }
namespace Rows
def none {H : Type} : Left H := { results := [], args := [] }

/-- 'laws.FnExactPacketPeel': WHATEVER THE INPUT: true; the input reads as it did. -/
def fnExactPacketPeelSpec : ChangeSpec := { name := "fnExactPacketPeel", fn := fun _ => fun
  | [d1, d2] => { results := [.lit (.bool true)], args := [d1, d2] }
  | _ => none }
def fnExactPacketPeelRow : OpenClaim := { program := "ytdejnbbfdbafnab", sum := "0cb2d824d0906802aeb993f13f5a73f84f71e18c49608f8a53c8851f45ac71cd", func := "loop.example/mixrelay/laws.FnExactPacketPeel", spec := "fnExactPacketPeel", unfollowed := true, recurses := true, apart := false }
def FnExactPacketPeelSaid : Prop := fnExactPacketPeelRow.holds Try.pinned (OpenSpec.ofChange fnExactPacketPeelSpec)

/-- ITS FALSE NEIGHBOUR: 'it returns false'. Refute it at one input. -/
def fnExactPacketPeelWrong : ChangeSpec := { name := "fnExactPacketPeel", fn := fun _ => fun
  | [d1, d2] => { results := [.lit (.bool false)], args := [d1, d2] }
  | _ => none }
def FnExactPacketPeelWrongFalsely : Prop := fnExactPacketPeelRow.holds Try.pinned (OpenSpec.ofChange fnExactPacketPeelWrong)

/-- 'laws.FnPeelHeader': WHATEVER THE INPUT: true; the input reads as it did. -/
def fnPeelHeaderSpec : ChangeSpec := { name := "fnPeelHeader", fn := fun _ => fun
  | [d1, d2] => { results := [.lit (.bool true)], args := [d1, d2] }
  | _ => none }
def fnPeelHeaderRow : OpenClaim := { program := "ytdejnbbfdbafnab", sum := "0cb2d824d0906802aeb993f13f5a73f84f71e18c49608f8a53c8851f45ac71cd", func := "loop.example/mixrelay/laws.FnPeelHeader", spec := "fnPeelHeader", unfollowed := true, recurses := true, apart := false }
def FnPeelHeaderSaid : Prop := fnPeelHeaderRow.holds Try.pinned (OpenSpec.ofChange fnPeelHeaderSpec)

/-- ITS FALSE NEIGHBOUR: 'it returns false'. Refute it at one input. -/
def fnPeelHeaderWrong : ChangeSpec := { name := "fnPeelHeader", fn := fun _ => fun
  | [d1, d2] => { results := [.lit (.bool false)], args := [d1, d2] }
  | _ => none }
def FnPeelHeaderWrongFalsely : Prop := fnPeelHeaderRow.holds Try.pinned (OpenSpec.ofChange fnPeelHeaderWrong)

/-- 'laws.FnPeelElement': WHATEVER THE INPUT: true; the input reads as it did. -/
def fnPeelElementSpec : ChangeSpec := { name := "fnPeelElement", fn := fun _ => fun
  | [d] => { results := [.lit (.bool true)], args := [d] }
  | _ => none }
def fnPeelElementRow : OpenClaim := { program := "ytdejnbbfdbafnab", sum := "0cb2d824d0906802aeb993f13f5a73f84f71e18c49608f8a53c8851f45ac71cd", func := "loop.example/mixrelay/laws.FnPeelElement", spec := "fnPeelElement", unfollowed := true, recurses := true, apart := false }
def FnPeelElementSaid : Prop := fnPeelElementRow.holds Try.pinned (OpenSpec.ofChange fnPeelElementSpec)

/-- ITS FALSE NEIGHBOUR: 'it returns false'. Refute it at one input. -/
def fnPeelElementWrong : ChangeSpec := { name := "fnPeelElement", fn := fun _ => fun
  | [d] => { results := [.lit (.bool false)], args := [d] }
  | _ => none }
def FnPeelElementWrongFalsely : Prop := fnPeelElementRow.holds Try.pinned (OpenSpec.ofChange fnPeelElementWrong)

/-- 'laws.FnPeelBody': WHATEVER THE INPUT: true; the input reads as it did. -/
def fnPeelBodySpec : ChangeSpec := { name := "fnPeelBody", fn := fun _ => fun
  | [d] => { results := [.lit (.bool true)], args := [d] }
  | _ => none }
def fnPeelBodyRow : OpenClaim := { program := "ytdejnbbfdbafnab", sum := "0cb2d824d0906802aeb993f13f5a73f84f71e18c49608f8a53c8851f45ac71cd", func := "loop.example/mixrelay/laws.FnPeelBody", spec := "fnPeelBody", unfollowed := true, recurses := true, apart := false }
def FnPeelBodySaid : Prop := fnPeelBodyRow.holds Try.pinned (OpenSpec.ofChange fnPeelBodySpec)

/-- ITS FALSE NEIGHBOUR: 'it returns false'. Refute it at one input. -/
def fnPeelBodyWrong : ChangeSpec := { name := "fnPeelBody", fn := fun _ => fun
  | [d] => { results := [.lit (.bool false)], args := [d] }
  | _ => none }
def FnPeelBodyWrongFalsely : Prop := fnPeelBodyRow.holds Try.pinned (OpenSpec.ofChange fnPeelBodyWrong)

/-- 'laws.FnPeelInfo': WHATEVER THE INPUT: true; the input reads as it did. -/
def fnPeelInfoSpec : ChangeSpec := { name := "fnPeelInfo", fn := fun _ => fun
  | [d] => { results := [.lit (.bool true)], args := [d] }
  | _ => none }
def fnPeelInfoRow : OpenClaim := { program := "ytdejnbbfdbafnab", sum := "0cb2d824d0906802aeb993f13f5a73f84f71e18c49608f8a53c8851f45ac71cd", func := "loop.example/mixrelay/laws.FnPeelInfo", spec := "fnPeelInfo", unfollowed := true, recurses := true, apart := false }
def FnPeelInfoSaid : Prop := fnPeelInfoRow.holds Try.pinned (OpenSpec.ofChange fnPeelInfoSpec)

/-- ITS FALSE NEIGHBOUR: 'it returns false'. Refute it at one input. -/
def fnPeelInfoWrong : ChangeSpec := { name := "fnPeelInfo", fn := fun _ => fun
  | [d] => { results := [.lit (.bool false)], args := [d] }
  | _ => none }
def FnPeelInfoWrongFalsely : Prop := fnPeelInfoRow.holds Try.pinned (OpenSpec.ofChange fnPeelInfoWrong)

/-- 'laws.FnPeelOther': WHATEVER THE INPUT: true; the input reads as it did. -/
def fnPeelOtherSpec : ChangeSpec := { name := "fnPeelOther", fn := fun _ => fun
  | [d] => { results := [.lit (.bool true)], args := [d] }
  | _ => none }
def fnPeelOtherRow : OpenClaim := { program := "ytdejnbbfdbafnab", sum := "0cb2d824d0906802aeb993f13f5a73f84f71e18c49608f8a53c8851f45ac71cd", func := "loop.example/mixrelay/laws.FnPeelOther", spec := "fnPeelOther", unfollowed := true, recurses := true, apart := false }
def FnPeelOtherSaid : Prop := fnPeelOtherRow.holds Try.pinned (OpenSpec.ofChange fnPeelOtherSpec)

/-- ITS FALSE NEIGHBOUR: 'it returns false'. Refute it at one input. -/
def fnPeelOtherWrong : ChangeSpec := { name := "fnPeelOther", fn := fun _ => fun
  | [d] => { results := [.lit (.bool false)], args := [d] }
  | _ => none }
def FnPeelOtherWrongFalsely : Prop := fnPeelOtherRow.holds Try.pinned (OpenSpec.ofChange fnPeelOtherWrong)

/-- 'laws.FnPeelBodyFree': WHATEVER THE INPUT: true; the input reads as it did. -/
def fnPeelBodyFreeSpec : ChangeSpec := { name := "fnPeelBodyFree", fn := fun _ => fun
  | [d1, d2] => { results := [.lit (.bool true)], args := [d1, d2] }
  | _ => none }
def fnPeelBodyFreeRow : OpenClaim := { program := "ytdejnbbfdbafnab", sum := "0cb2d824d0906802aeb993f13f5a73f84f71e18c49608f8a53c8851f45ac71cd", func := "loop.example/mixrelay/laws.FnPeelBodyFree", spec := "fnPeelBodyFree", unfollowed := true, recurses := true, apart := false }
def FnPeelBodyFreeSaid : Prop := fnPeelBodyFreeRow.holds Try.pinned (OpenSpec.ofChange fnPeelBodyFreeSpec)

/-- ITS FALSE NEIGHBOUR: 'it returns false'. Refute it at one input. -/
def fnPeelBodyFreeWrong : ChangeSpec := { name := "fnPeelBodyFree", fn := fun _ => fun
  | [d1, d2] => { results := [.lit (.bool false)], args := [d1, d2] }
  | _ => none }
def FnPeelBodyFreeWrongFalsely : Prop := fnPeelBodyFreeRow.holds Try.pinned (OpenSpec.ofChange fnPeelBodyFreeWrong)

/-- 'laws.FnPeelTwice': WHATEVER THE INPUT: true; the input reads as it did. -/
def fnPeelTwiceSpec : ChangeSpec := { name := "fnPeelTwice", fn := fun _ => fun
  | [d] => { results := [.lit (.bool true)], args := [d] }
  | _ => none }
def fnPeelTwiceRow : OpenClaim := { program := "ytdejnbbfdbafnab", sum := "0cb2d824d0906802aeb993f13f5a73f84f71e18c49608f8a53c8851f45ac71cd", func := "loop.example/mixrelay/laws.FnPeelTwice", spec := "fnPeelTwice", unfollowed := true, recurses := true, apart := false }
def FnPeelTwiceSaid : Prop := fnPeelTwiceRow.holds Try.pinned (OpenSpec.ofChange fnPeelTwiceSpec)

/-- ITS FALSE NEIGHBOUR: 'it returns false'. Refute it at one input. -/
def fnPeelTwiceWrong : ChangeSpec := { name := "fnPeelTwice", fn := fun _ => fun
  | [d] => { results := [.lit (.bool false)], args := [d] }
  | _ => none }
def FnPeelTwiceWrongFalsely : Prop := fnPeelTwiceRow.holds Try.pinned (OpenSpec.ofChange fnPeelTwiceWrong)

/- THE SECOND FORM. 'bulk': how many values and letters a reading holds, each counted each time it is reached (what is shared counts as often as it is met; a slice's spare places count too). A statement '..UptoSaid' is the law's where the arguments, and the package variables that the reading takes, are together of bulk at most 1048576: NARROWER than '..Said'. Prove '..Said' where nothing that the law and all that it calls make is longer than what came in: it says more and counts as full. Else prove '..UptoSaid'. A law counts once. -/
mutual
def uptoBulk {H : Type} : DataW H → Nat
  | .lit (.string bytes) => bytes.length + 1
  | .lit _ => 1
  | .nil => 1
  | .ptr d => uptoBulk d + 1
  | .slice elems spare => uptoBulkAll elems + uptoBulkAll spare + 1
  | .agg parts => uptoBulkAll parts + 1
  | .iface _ d => uptoBulk d + 1
  | .map entries => uptoBulkEntries entries + 1
  | .held _ => 1
def uptoBulkAll {H : Type} : List (DataW H) → Nat
  | [] => 0
  | d :: r => uptoBulk d + uptoBulkAll r
def uptoBulkEntries {H : Type} : List (Lit × DataW H) → Nat
  | [] => 0
  | x :: r => uptoBulkEntry x + uptoBulkEntries r
def uptoBulkEntry {H : Type} : Lit × DataW H → Nat
  | (.string bytes, d) => bytes.length + uptoBulk d + 1
  | (_, d) => uptoBulk d + 1
 end
def uptoSmall : (H : Type) → List (DataW H) → Bool := fun _ ds => decide (uptoBulkAll ds ≤ 1048576)
def OpenSpec.upto (s : _root_.Go.ChangeSpec) : _root_.Go.OpenSpec := { _root_.Go.OpenSpec.ofChange s with cond := some uptoSmall }

/-- 'laws.FnExactPacketPeel', WHERE WHAT IT READS IS OF BULK AT MOST 1048576: true; the input reads as it did. -/
def fnExactPacketPeelUptoRow : OpenClaim := { program := "ytdejnbbfdbafnab", sum := "0cb2d824d0906802aeb993f13f5a73f84f71e18c49608f8a53c8851f45ac71cd", func := "loop.example/mixrelay/laws.FnExactPacketPeel", spec := "fnExactPacketPeel", unfollowed := true, recurses := true, apart := false, narrowed := true }
def FnExactPacketPeelUptoSaid : Prop := fnExactPacketPeelUptoRow.holds Try.pinned (OpenSpec.upto fnExactPacketPeelSpec)

/-- 'laws.FnPeelHeader', WHERE WHAT IT READS IS OF BULK AT MOST 1048576: true; the input reads as it did. -/
def fnPeelHeaderUptoRow : OpenClaim := { program := "ytdejnbbfdbafnab", sum := "0cb2d824d0906802aeb993f13f5a73f84f71e18c49608f8a53c8851f45ac71cd", func := "loop.example/mixrelay/laws.FnPeelHeader", spec := "fnPeelHeader", unfollowed := true, recurses := true, apart := false, narrowed := true }
def FnPeelHeaderUptoSaid : Prop := fnPeelHeaderUptoRow.holds Try.pinned (OpenSpec.upto fnPeelHeaderSpec)

/-- 'laws.FnPeelElement', WHERE WHAT IT READS IS OF BULK AT MOST 1048576: true; the input reads as it did. -/
def fnPeelElementUptoRow : OpenClaim := { program := "ytdejnbbfdbafnab", sum := "0cb2d824d0906802aeb993f13f5a73f84f71e18c49608f8a53c8851f45ac71cd", func := "loop.example/mixrelay/laws.FnPeelElement", spec := "fnPeelElement", unfollowed := true, recurses := true, apart := false, narrowed := true }
def FnPeelElementUptoSaid : Prop := fnPeelElementUptoRow.holds Try.pinned (OpenSpec.upto fnPeelElementSpec)

/-- 'laws.FnPeelBody', WHERE WHAT IT READS IS OF BULK AT MOST 1048576: true; the input reads as it did. -/
def fnPeelBodyUptoRow : OpenClaim := { program := "ytdejnbbfdbafnab", sum := "0cb2d824d0906802aeb993f13f5a73f84f71e18c49608f8a53c8851f45ac71cd", func := "loop.example/mixrelay/laws.FnPeelBody", spec := "fnPeelBody", unfollowed := true, recurses := true, apart := false, narrowed := true }
def FnPeelBodyUptoSaid : Prop := fnPeelBodyUptoRow.holds Try.pinned (OpenSpec.upto fnPeelBodySpec)

/-- 'laws.FnPeelInfo', WHERE WHAT IT READS IS OF BULK AT MOST 1048576: true; the input reads as it did. -/
def fnPeelInfoUptoRow : OpenClaim := { program := "ytdejnbbfdbafnab", sum := "0cb2d824d0906802aeb993f13f5a73f84f71e18c49608f8a53c8851f45ac71cd", func := "loop.example/mixrelay/laws.FnPeelInfo", spec := "fnPeelInfo", unfollowed := true, recurses := true, apart := false, narrowed := true }
def FnPeelInfoUptoSaid : Prop := fnPeelInfoUptoRow.holds Try.pinned (OpenSpec.upto fnPeelInfoSpec)

/-- 'laws.FnPeelOther', WHERE WHAT IT READS IS OF BULK AT MOST 1048576: true; the input reads as it did. -/
def fnPeelOtherUptoRow : OpenClaim := { program := "ytdejnbbfdbafnab", sum := "0cb2d824d0906802aeb993f13f5a73f84f71e18c49608f8a53c8851f45ac71cd", func := "loop.example/mixrelay/laws.FnPeelOther", spec := "fnPeelOther", unfollowed := true, recurses := true, apart := false, narrowed := true }
def FnPeelOtherUptoSaid : Prop := fnPeelOtherUptoRow.holds Try.pinned (OpenSpec.upto fnPeelOtherSpec)

/-- 'laws.FnPeelBodyFree', WHERE WHAT IT READS IS OF BULK AT MOST 1048576: true; the input reads as it did. -/
def fnPeelBodyFreeUptoRow : OpenClaim := { program := "ytdejnbbfdbafnab", sum := "0cb2d824d0906802aeb993f13f5a73f84f71e18c49608f8a53c8851f45ac71cd", func := "loop.example/mixrelay/laws.FnPeelBodyFree", spec := "fnPeelBodyFree", unfollowed := true, recurses := true, apart := false, narrowed := true }
def FnPeelBodyFreeUptoSaid : Prop := fnPeelBodyFreeUptoRow.holds Try.pinned (OpenSpec.upto fnPeelBodyFreeSpec)

/-- 'laws.FnPeelTwice', WHERE WHAT IT READS IS OF BULK AT MOST 1048576: true; the input reads as it did. -/
def fnPeelTwiceUptoRow : OpenClaim := { program := "ytdejnbbfdbafnab", sum := "0cb2d824d0906802aeb993f13f5a73f84f71e18c49608f8a53c8851f45ac71cd", func := "loop.example/mixrelay/laws.FnPeelTwice", spec := "fnPeelTwice", unfollowed := true, recurses := true, apart := false, narrowed := true }
def FnPeelTwiceUptoSaid : Prop := fnPeelTwiceUptoRow.holds Try.pinned (OpenSpec.upto fnPeelTwiceSpec)

end Rows
end Go.Proofs.Ytdejnbbfdbafnab
