/-
  No cell of these rows narrows 'for every input' (looked for: loops, veiled, ifaces, maps, wideKeys, modest, calm, conditions, laid).
  DERIVED. THE GIVEN ROWS OF THIS SEAT. 7 by the template 'for every input the law returns true; each argument reads behind the call as it read before'; 0 by the template 'total and deterministic' (their statements: YtebehilddklcfaaTotals.lean).
  GIVEN WITH THE SEED: the statements are not yours to turn. If you find one false, say at which input.
  Laid BY PROGRAM, IN A SANDBOX (cutbox-rows.mjs): the forced cells as the released guide's own fill.sh prints them over the translation 36de1016552d9cd2… (all of the seat's roots in one cut). By AI agents, Wed Nov 11 2026. No macro, syntax, notation, axiom, sorry.
-/
import Derived.Test.YtebehilddklcfaaChecked
import GoSem.Claim
import GoSem.ClaimJoined
import GoSem.ClaimMapViews
import Derived.JoinedTies
import Derived.KernelRfl
namespace Go.Proofs.Ytebehilddklcfaa
/- THE CELL 'sum', in the pinned program and in every row, IS THE sha256 OF THE DUMP (.gsa) THAT YtebehilddklcfaaProg.lean LOADS. Nothing in Lean hashes anything: it is a label: what it is worth is what the hold of that sum in a sandbox is worth. -/
noncomputable def Try.pinned : Pinned := { name := "ytebehilddklcfaa", sum := "36de1016552d9cd2b58538b223332205a55350bfc036a7aab70a03dc79964579", checked := Try.checked }
namespace Rows
def none {H : Type} : Left H := { results := [], args := [] }

/-- 'laws.FnExactPacketValid': WHATEVER THE INPUT: true; the input reads as it did. -/
def fnExactPacketValidSpec : ChangeSpec := { name := "fnExactPacketValid", fn := fun _ => fun
  | [d] => { results := [.lit (.bool true)], args := [d] }
  | _ => none }
def fnExactPacketValidRow : OpenClaim := { program := "ytebehilddklcfaa", sum := "36de1016552d9cd2b58538b223332205a55350bfc036a7aab70a03dc79964579", func := "loop.example/mixrelay/laws.FnExactPacketValid", spec := "fnExactPacketValid", apart := false }
def FnExactPacketValidSaid : Prop := fnExactPacketValidRow.holds Try.pinned (OpenSpec.ofChange fnExactPacketValidSpec)

/-- ITS FALSE NEIGHBOUR: 'it returns false'. Refute it at one input. -/
def fnExactPacketValidWrong : ChangeSpec := { name := "fnExactPacketValid", fn := fun _ => fun
  | [d] => { results := [.lit (.bool false)], args := [d] }
  | _ => none }
def FnExactPacketValidWrongFalsely : Prop := fnExactPacketValidRow.holds Try.pinned (OpenSpec.ofChange fnExactPacketValidWrong)

/-- 'laws.FnExactPathKeys': WHATEVER THE INPUT: true; the input reads as it did. -/
def fnExactPathKeysSpec : ChangeSpec := { name := "fnExactPathKeys", fn := fun _ => fun
  | [d1, d2] => { results := [.lit (.bool true)], args := [d1, d2] }
  | _ => none }
def fnExactPathKeysRow : OpenClaim := { program := "ytebehilddklcfaa", sum := "36de1016552d9cd2b58538b223332205a55350bfc036a7aab70a03dc79964579", func := "loop.example/mixrelay/laws.FnExactPathKeys", spec := "fnExactPathKeys", apart := false }
def FnExactPathKeysSaid : Prop := fnExactPathKeysRow.holds Try.pinned (OpenSpec.ofChange fnExactPathKeysSpec)

/-- ITS FALSE NEIGHBOUR: 'it returns false'. Refute it at one input. -/
def fnExactPathKeysWrong : ChangeSpec := { name := "fnExactPathKeys", fn := fun _ => fun
  | [d1, d2] => { results := [.lit (.bool false)], args := [d1, d2] }
  | _ => none }
def FnExactPathKeysWrongFalsely : Prop := fnExactPathKeysRow.holds Try.pinned (OpenSpec.ofChange fnExactPathKeysWrong)

/-- 'laws.FnExactPacketMake': WHATEVER THE INPUT: true; the input reads as it did. -/
def fnExactPacketMakeSpec : ChangeSpec := { name := "fnExactPacketMake", fn := fun _ => fun
  | [d1, d2, d3, d4, d5] => { results := [.lit (.bool true)], args := [d1, d2, d3, d4, d5] }
  | _ => none }
def fnExactPacketMakeRow : OpenClaim := { program := "ytebehilddklcfaa", sum := "36de1016552d9cd2b58538b223332205a55350bfc036a7aab70a03dc79964579", func := "loop.example/mixrelay/laws.FnExactPacketMake", spec := "fnExactPacketMake", unfollowed := true, recurses := true, apart := false }
def FnExactPacketMakeSaid : Prop := fnExactPacketMakeRow.holds Try.pinned (OpenSpec.ofChange fnExactPacketMakeSpec)

/-- ITS FALSE NEIGHBOUR: 'it returns false'. Refute it at one input. -/
def fnExactPacketMakeWrong : ChangeSpec := { name := "fnExactPacketMake", fn := fun _ => fun
  | [d1, d2, d3, d4, d5] => { results := [.lit (.bool false)], args := [d1, d2, d3, d4, d5] }
  | _ => none }
def FnExactPacketMakeWrongFalsely : Prop := fnExactPacketMakeRow.holds Try.pinned (OpenSpec.ofChange fnExactPacketMakeWrong)

/-- 'laws.FnExactPacketPeel': WHATEVER THE INPUT: true; the input reads as it did. -/
def fnExactPacketPeelSpec : ChangeSpec := { name := "fnExactPacketPeel", fn := fun _ => fun
  | [d1, d2] => { results := [.lit (.bool true)], args := [d1, d2] }
  | _ => none }
def fnExactPacketPeelRow : OpenClaim := { program := "ytebehilddklcfaa", sum := "36de1016552d9cd2b58538b223332205a55350bfc036a7aab70a03dc79964579", func := "loop.example/mixrelay/laws.FnExactPacketPeel", spec := "fnExactPacketPeel", unfollowed := true, recurses := true, apart := false }
def FnExactPacketPeelSaid : Prop := fnExactPacketPeelRow.holds Try.pinned (OpenSpec.ofChange fnExactPacketPeelSpec)

/-- ITS FALSE NEIGHBOUR: 'it returns false'. Refute it at one input. -/
def fnExactPacketPeelWrong : ChangeSpec := { name := "fnExactPacketPeel", fn := fun _ => fun
  | [d1, d2] => { results := [.lit (.bool false)], args := [d1, d2] }
  | _ => none }
def FnExactPacketPeelWrongFalsely : Prop := fnExactPacketPeelRow.holds Try.pinned (OpenSpec.ofChange fnExactPacketPeelWrong)

/-- 'laws.FnKeys': WHATEVER THE INPUT: true; the input reads as it did. -/
def fnKeysSpec : ChangeSpec := { name := "fnKeys", fn := fun _ => fun
  | [d] => { results := [.lit (.bool true)], args := [d] }
  | _ => none }
def fnKeysRow : OpenClaim := { program := "ytebehilddklcfaa", sum := "36de1016552d9cd2b58538b223332205a55350bfc036a7aab70a03dc79964579", func := "loop.example/mixrelay/laws.FnKeys", spec := "fnKeys", apart := false }
def FnKeysSaid : Prop := fnKeysRow.holds Try.pinned (OpenSpec.ofChange fnKeysSpec)

/-- ITS FALSE NEIGHBOUR: 'it returns false'. Refute it at one input. -/
def fnKeysWrong : ChangeSpec := { name := "fnKeys", fn := fun _ => fun
  | [d] => { results := [.lit (.bool false)], args := [d] }
  | _ => none }
def FnKeysWrongFalsely : Prop := fnKeysRow.holds Try.pinned (OpenSpec.ofChange fnKeysWrong)

/-- 'laws.FnKeysPart': WHATEVER THE INPUT: true; the input reads as it did. -/
def fnKeysPartSpec : ChangeSpec := { name := "fnKeysPart", fn := fun _ => fun
  | [d1, d2] => { results := [.lit (.bool true)], args := [d1, d2] }
  | _ => none }
def fnKeysPartRow : OpenClaim := { program := "ytebehilddklcfaa", sum := "36de1016552d9cd2b58538b223332205a55350bfc036a7aab70a03dc79964579", func := "loop.example/mixrelay/laws.FnKeysPart", spec := "fnKeysPart", apart := false }
def FnKeysPartSaid : Prop := fnKeysPartRow.holds Try.pinned (OpenSpec.ofChange fnKeysPartSpec)

/-- ITS FALSE NEIGHBOUR: 'it returns false'. Refute it at one input. -/
def fnKeysPartWrong : ChangeSpec := { name := "fnKeysPart", fn := fun _ => fun
  | [d1, d2] => { results := [.lit (.bool false)], args := [d1, d2] }
  | _ => none }
def FnKeysPartWrongFalsely : Prop := fnKeysPartRow.holds Try.pinned (OpenSpec.ofChange fnKeysPartWrong)

/-- 'laws.FnPacket': WHATEVER THE INPUT: true; the input reads as it did. -/
def fnPacketSpec : ChangeSpec := { name := "fnPacket", fn := fun _ => fun
  | [d] => { results := [.lit (.bool true)], args := [d] }
  | _ => none }
def fnPacketRow : OpenClaim := { program := "ytebehilddklcfaa", sum := "36de1016552d9cd2b58538b223332205a55350bfc036a7aab70a03dc79964579", func := "loop.example/mixrelay/laws.FnPacket", spec := "fnPacket", unfollowed := true, recurses := true, apart := false }
def FnPacketSaid : Prop := fnPacketRow.holds Try.pinned (OpenSpec.ofChange fnPacketSpec)

/-- ITS FALSE NEIGHBOUR: 'it returns false'. Refute it at one input. -/
def fnPacketWrong : ChangeSpec := { name := "fnPacket", fn := fun _ => fun
  | [d] => { results := [.lit (.bool false)], args := [d] }
  | _ => none }
def FnPacketWrongFalsely : Prop := fnPacketRow.holds Try.pinned (OpenSpec.ofChange fnPacketWrong)

/- THE SECOND FORM. 'bulk': how many values and letters a reading holds, each counted each time it is reached (what is shared counts as often as it is met; a slice's spare places count too). A statement '..UptoSaid' is the law's where the arguments, and the package variables that the reading takes, are together of bulk at most 1048576: NARROWER than '..Said'. Prove '..Said' where nothing that the law and all that it calls make is longer than what came in: it says more and counts as full. Else prove '..UptoSaid'. A law counts once. -/
mutual
def uptoBulk {H : Type} : DataW H → Nat
  | .lit (.string bytes) => bytes.length + 1
  | .lit _ => 1
  | .nil => 1
  | .ptr d => uptoBulk d + 1
  | .slice elems spare => uptoBulkAll elems + uptoBulkAll spare + 1
  | .agg parts => uptoBulkAll parts + 1
  | .iface _ d => uptoBulk d + 1
  | .map entries => uptoBulkEntries entries + 1
  | .held _ => 1
def uptoBulkAll {H : Type} : List (DataW H) → Nat
  | [] => 0
  | d :: r => uptoBulk d + uptoBulkAll r
def uptoBulkEntries {H : Type} : List (Lit × DataW H) → Nat
  | [] => 0
  | x :: r => uptoBulkEntry x + uptoBulkEntries r
def uptoBulkEntry {H : Type} : Lit × DataW H → Nat
  | (.string bytes, d) => bytes.length + uptoBulk d + 1
  | (_, d) => uptoBulk d + 1
 end
def uptoSmall : (H : Type) → List (DataW H) → Bool := fun _ ds => decide (uptoBulkAll ds ≤ 1048576)
def OpenSpec.upto (s : _root_.Go.ChangeSpec) : _root_.Go.OpenSpec := { _root_.Go.OpenSpec.ofChange s with cond := some uptoSmall }

/-- 'laws.FnExactPacketValid', WHERE WHAT IT READS IS OF BULK AT MOST 1048576: true; the input reads as it did. -/
def fnExactPacketValidUptoRow : OpenClaim := { program := "ytebehilddklcfaa", sum := "36de1016552d9cd2b58538b223332205a55350bfc036a7aab70a03dc79964579", func := "loop.example/mixrelay/laws.FnExactPacketValid", spec := "fnExactPacketValid", apart := false, narrowed := true }
def FnExactPacketValidUptoSaid : Prop := fnExactPacketValidUptoRow.holds Try.pinned (OpenSpec.upto fnExactPacketValidSpec)

/-- 'laws.FnExactPathKeys', WHERE WHAT IT READS IS OF BULK AT MOST 1048576: true; the input reads as it did. -/
def fnExactPathKeysUptoRow : OpenClaim := { program := "ytebehilddklcfaa", sum := "36de1016552d9cd2b58538b223332205a55350bfc036a7aab70a03dc79964579", func := "loop.example/mixrelay/laws.FnExactPathKeys", spec := "fnExactPathKeys", apart := false, narrowed := true }
def FnExactPathKeysUptoSaid : Prop := fnExactPathKeysUptoRow.holds Try.pinned (OpenSpec.upto fnExactPathKeysSpec)

/-- 'laws.FnExactPacketMake', WHERE WHAT IT READS IS OF BULK AT MOST 1048576: true; the input reads as it did. -/
def fnExactPacketMakeUptoRow : OpenClaim := { program := "ytebehilddklcfaa", sum := "36de1016552d9cd2b58538b223332205a55350bfc036a7aab70a03dc79964579", func := "loop.example/mixrelay/laws.FnExactPacketMake", spec := "fnExactPacketMake", unfollowed := true, recurses := true, apart := false, narrowed := true }
def FnExactPacketMakeUptoSaid : Prop := fnExactPacketMakeUptoRow.holds Try.pinned (OpenSpec.upto fnExactPacketMakeSpec)

/-- 'laws.FnExactPacketPeel', WHERE WHAT IT READS IS OF BULK AT MOST 1048576: true; the input reads as it did. -/
def fnExactPacketPeelUptoRow : OpenClaim := { program := "ytebehilddklcfaa", sum := "36de1016552d9cd2b58538b223332205a55350bfc036a7aab70a03dc79964579", func := "loop.example/mixrelay/laws.FnExactPacketPeel", spec := "fnExactPacketPeel", unfollowed := true, recurses := true, apart := false, narrowed := true }
def FnExactPacketPeelUptoSaid : Prop := fnExactPacketPeelUptoRow.holds Try.pinned (OpenSpec.upto fnExactPacketPeelSpec)

/-- 'laws.FnKeys', WHERE WHAT IT READS IS OF BULK AT MOST 1048576: true; the input reads as it did. -/
def fnKeysUptoRow : OpenClaim := { program := "ytebehilddklcfaa", sum := "36de1016552d9cd2b58538b223332205a55350bfc036a7aab70a03dc79964579", func := "loop.example/mixrelay/laws.FnKeys", spec := "fnKeys", apart := false, narrowed := true }
def FnKeysUptoSaid : Prop := fnKeysUptoRow.holds Try.pinned (OpenSpec.upto fnKeysSpec)

/-- 'laws.FnKeysPart', WHERE WHAT IT READS IS OF BULK AT MOST 1048576: true; the input reads as it did. -/
def fnKeysPartUptoRow : OpenClaim := { program := "ytebehilddklcfaa", sum := "36de1016552d9cd2b58538b223332205a55350bfc036a7aab70a03dc79964579", func := "loop.example/mixrelay/laws.FnKeysPart", spec := "fnKeysPart", apart := false, narrowed := true }
def FnKeysPartUptoSaid : Prop := fnKeysPartUptoRow.holds Try.pinned (OpenSpec.upto fnKeysPartSpec)

/-- 'laws.FnPacket', WHERE WHAT IT READS IS OF BULK AT MOST 1048576: true; the input reads as it did. -/
def fnPacketUptoRow : OpenClaim := { program := "ytebehilddklcfaa", sum := "36de1016552d9cd2b58538b223332205a55350bfc036a7aab70a03dc79964579", func := "loop.example/mixrelay/laws.FnPacket", spec := "fnPacket", unfollowed := true, recurses := true, apart := false, narrowed := true }
def FnPacketUptoSaid : Prop := fnPacketUptoRow.holds Try.pinned (OpenSpec.upto fnPacketSpec)

end Rows
end Go.Proofs.Ytebehilddklcfaa
