/-
  No cell of these rows narrows 'for every input' (looked for: loops, veiled, ifaces, maps, wideKeys, modest, calm, conditions, laid).
  DERIVED. THE GIVEN ROWS OF THIS SEAT. 7 by the template 'for every input the law returns true; each argument reads behind the call as it read before'; 0 by the template 'total and deterministic' (their statements: YtcbhjnjallnidabTotals.lean).
  GIVEN WITH THE SEED: the statements are not yours to turn. If you find one false, say at which input.
  Laid BY PROGRAM, IN A SANDBOX (cutbox-rows.mjs): the forced cells as the released guide's own fill.sh prints them over the translation d6a376b619021435… (all of the seat's roots in one cut). By AI agents, Wed Nov 11 2026. No macro, syntax, notation, axiom, sorry.
-/
import Derived.Test.YtcbhjnjallnidabChecked
import GoSem.Claim
import GoSem.ClaimJoined
import GoSem.ClaimMapViews
import Derived.JoinedTies
import Derived.KernelRfl
namespace Go.Proofs.Ytcbhjnjallnidab
/- THE CELL 'sum', in the pinned program and in every row, IS THE sha256 OF THE DUMP (.gsa) THAT YtcbhjnjallnidabProg.lean LOADS. Nothing in Lean hashes anything: it is a label: what it is worth is what the hold of that sum in a sandbox is worth. -/
noncomputable def Try.pinned : Pinned := { name := "ytcbhjnjallnidab", sum := "d6a376b619021435c71356581b5bf9b4b666d8b0fcbc529dbcff3b51ccd91eeb", checked := Try.checked }
namespace Rows
def none {H : Type} : Left H := { results := [], args := [] }

/-- 'laws.FnBatch': WHATEVER THE INPUT: true; the input reads as it did. -/
def fnBatchSpec : ChangeSpec := { name := "fnBatch", fn := fun _ => fun
  | [d] => { results := [.lit (.bool true)], args := [d] }
  | _ => none }
def fnBatchRow : OpenClaim := { program := "ytcbhjnjallnidab", sum := "d6a376b619021435c71356581b5bf9b4b666d8b0fcbc529dbcff3b51ccd91eeb", func := "loop.example/mixrelay/laws.FnBatch", spec := "fnBatch", unfollowed := true, recurses := true, apart := false }
def FnBatchSaid : Prop := fnBatchRow.holds Try.pinned (OpenSpec.ofChange fnBatchSpec)

/-- ITS FALSE NEIGHBOUR: 'it returns false'. Refute it at one input. -/
def fnBatchWrong : ChangeSpec := { name := "fnBatch", fn := fun _ => fun
  | [d] => { results := [.lit (.bool false)], args := [d] }
  | _ => none }
def FnBatchWrongFalsely : Prop := fnBatchRow.holds Try.pinned (OpenSpec.ofChange fnBatchWrong)

/-- 'laws.FnBatchFresh': WHATEVER THE INPUT: true; the input reads as it did. -/
def fnBatchFreshSpec : ChangeSpec := { name := "fnBatchFresh", fn := fun _ => fun
  | [d] => { results := [.lit (.bool true)], args := [d] }
  | _ => none }
def fnBatchFreshRow : OpenClaim := { program := "ytcbhjnjallnidab", sum := "d6a376b619021435c71356581b5bf9b4b666d8b0fcbc529dbcff3b51ccd91eeb", func := "loop.example/mixrelay/laws.FnBatchFresh", spec := "fnBatchFresh", unfollowed := true, recurses := true, apart := false }
def FnBatchFreshSaid : Prop := fnBatchFreshRow.holds Try.pinned (OpenSpec.ofChange fnBatchFreshSpec)

/-- ITS FALSE NEIGHBOUR: 'it returns false'. Refute it at one input. -/
def fnBatchFreshWrong : ChangeSpec := { name := "fnBatchFresh", fn := fun _ => fun
  | [d] => { results := [.lit (.bool false)], args := [d] }
  | _ => none }
def FnBatchFreshWrongFalsely : Prop := fnBatchFreshRow.holds Try.pinned (OpenSpec.ofChange fnBatchFreshWrong)

/-- 'laws.FnBatchAlike': WHATEVER THE INPUT: true; the input reads as it did. -/
def fnBatchAlikeSpec : ChangeSpec := { name := "fnBatchAlike", fn := fun _ => fun
  | [d1, d2] => { results := [.lit (.bool true)], args := [d1, d2] }
  | _ => none }
def fnBatchAlikeRow : OpenClaim := { program := "ytcbhjnjallnidab", sum := "d6a376b619021435c71356581b5bf9b4b666d8b0fcbc529dbcff3b51ccd91eeb", func := "loop.example/mixrelay/laws.FnBatchAlike", spec := "fnBatchAlike", unfollowed := true, recurses := true, apart := false }
def FnBatchAlikeSaid : Prop := fnBatchAlikeRow.holds Try.pinned (OpenSpec.ofChange fnBatchAlikeSpec)

/-- ITS FALSE NEIGHBOUR: 'it returns false'. Refute it at one input. -/
def fnBatchAlikeWrong : ChangeSpec := { name := "fnBatchAlike", fn := fun _ => fun
  | [d1, d2] => { results := [.lit (.bool false)], args := [d1, d2] }
  | _ => none }
def FnBatchAlikeWrongFalsely : Prop := fnBatchAlikeRow.holds Try.pinned (OpenSpec.ofChange fnBatchAlikeWrong)

/-- 'laws.FnBatchName': WHATEVER THE INPUT: true; the input reads as it did. -/
def fnBatchNameSpec : ChangeSpec := { name := "fnBatchName", fn := fun _ => fun
  | [d1, d2] => { results := [.lit (.bool true)], args := [d1, d2] }
  | _ => none }
def fnBatchNameRow : OpenClaim := { program := "ytcbhjnjallnidab", sum := "d6a376b619021435c71356581b5bf9b4b666d8b0fcbc529dbcff3b51ccd91eeb", func := "loop.example/mixrelay/laws.FnBatchName", spec := "fnBatchName", unfollowed := true, recurses := true, apart := false }
def FnBatchNameSaid : Prop := fnBatchNameRow.holds Try.pinned (OpenSpec.ofChange fnBatchNameSpec)

/-- ITS FALSE NEIGHBOUR: 'it returns false'. Refute it at one input. -/
def fnBatchNameWrong : ChangeSpec := { name := "fnBatchName", fn := fun _ => fun
  | [d1, d2] => { results := [.lit (.bool false)], args := [d1, d2] }
  | _ => none }
def FnBatchNameWrongFalsely : Prop := fnBatchNameRow.holds Try.pinned (OpenSpec.ofChange fnBatchNameWrong)

/-- 'laws.FnBatchOther': WHATEVER THE INPUT: true; the input reads as it did. -/
def fnBatchOtherSpec : ChangeSpec := { name := "fnBatchOther", fn := fun _ => fun
  | [d1, d2] => { results := [.lit (.bool true)], args := [d1, d2] }
  | _ => none }
def fnBatchOtherRow : OpenClaim := { program := "ytcbhjnjallnidab", sum := "d6a376b619021435c71356581b5bf9b4b666d8b0fcbc529dbcff3b51ccd91eeb", func := "loop.example/mixrelay/laws.FnBatchOther", spec := "fnBatchOther", unfollowed := true, recurses := true, apart := false }
def FnBatchOtherSaid : Prop := fnBatchOtherRow.holds Try.pinned (OpenSpec.ofChange fnBatchOtherSpec)

/-- ITS FALSE NEIGHBOUR: 'it returns false'. Refute it at one input. -/
def fnBatchOtherWrong : ChangeSpec := { name := "fnBatchOther", fn := fun _ => fun
  | [d1, d2] => { results := [.lit (.bool false)], args := [d1, d2] }
  | _ => none }
def FnBatchOtherWrongFalsely : Prop := fnBatchOtherRow.holds Try.pinned (OpenSpec.ofChange fnBatchOtherWrong)

/-- 'laws.FnBatchTwo': WHATEVER THE INPUT: true; the input reads as it did. -/
def fnBatchTwoSpec : ChangeSpec := { name := "fnBatchTwo", fn := fun _ => fun
  | [d] => { results := [.lit (.bool true)], args := [d] }
  | _ => none }
def fnBatchTwoRow : OpenClaim := { program := "ytcbhjnjallnidab", sum := "d6a376b619021435c71356581b5bf9b4b666d8b0fcbc529dbcff3b51ccd91eeb", func := "loop.example/mixrelay/laws.FnBatchTwo", spec := "fnBatchTwo", unfollowed := true, recurses := true, apart := false }
def FnBatchTwoSaid : Prop := fnBatchTwoRow.holds Try.pinned (OpenSpec.ofChange fnBatchTwoSpec)

/-- ITS FALSE NEIGHBOUR: 'it returns false'. Refute it at one input. -/
def fnBatchTwoWrong : ChangeSpec := { name := "fnBatchTwo", fn := fun _ => fun
  | [d] => { results := [.lit (.bool false)], args := [d] }
  | _ => none }
def FnBatchTwoWrongFalsely : Prop := fnBatchTwoRow.holds Try.pinned (OpenSpec.ofChange fnBatchTwoWrong)

/-- 'laws.FnExactBatchFlows': WHATEVER THE INPUT: true; the input reads as it did. -/
def fnExactBatchFlowsSpec : ChangeSpec := { name := "fnExactBatchFlows", fn := fun _ => fun
  | [d1, d2, d3] => { results := [.lit (.bool true)], args := [d1, d2, d3] }
  | _ => none }
def fnExactBatchFlowsRow : OpenClaim := { program := "ytcbhjnjallnidab", sum := "d6a376b619021435c71356581b5bf9b4b666d8b0fcbc529dbcff3b51ccd91eeb", func := "loop.example/mixrelay/laws.FnExactBatchFlows", spec := "fnExactBatchFlows", unfollowed := true, recurses := true, apart := false }
def FnExactBatchFlowsSaid : Prop := fnExactBatchFlowsRow.holds Try.pinned (OpenSpec.ofChange fnExactBatchFlowsSpec)

/-- ITS FALSE NEIGHBOUR: 'it returns false'. Refute it at one input. -/
def fnExactBatchFlowsWrong : ChangeSpec := { name := "fnExactBatchFlows", fn := fun _ => fun
  | [d1, d2, d3] => { results := [.lit (.bool false)], args := [d1, d2, d3] }
  | _ => none }
def FnExactBatchFlowsWrongFalsely : Prop := fnExactBatchFlowsRow.holds Try.pinned (OpenSpec.ofChange fnExactBatchFlowsWrong)

/- THE SECOND FORM. 'bulk': how many values and letters a reading holds, each counted each time it is reached (what is shared counts as often as it is met; a slice's spare places count too). A statement '..UptoSaid' is the law's where the arguments, and the package variables that the reading takes, are together of bulk at most 1048576: NARROWER than '..Said'. Prove '..Said' where nothing that the law and all that it calls make is longer than what came in: it says more and counts as full. Else prove '..UptoSaid'. A law counts once. -/
mutual
def uptoBulk {H : Type} : DataW H → Nat
  | .lit (.string bytes) => bytes.length + 1
  | .lit _ => 1
  | .nil => 1
  | .ptr d => uptoBulk d + 1
  | .slice elems spare => uptoBulkAll elems + uptoBulkAll spare + 1
  | .agg parts => uptoBulkAll parts + 1
  | .iface _ d => uptoBulk d + 1
  | .map entries => uptoBulkEntries entries + 1
  | .held _ => 1
def uptoBulkAll {H : Type} : List (DataW H) → Nat
  | [] => 0
  | d :: r => uptoBulk d + uptoBulkAll r
def uptoBulkEntries {H : Type} : List (Lit × DataW H) → Nat
  | [] => 0
  | x :: r => uptoBulkEntry x + uptoBulkEntries r
def uptoBulkEntry {H : Type} : Lit × DataW H → Nat
  | (.string bytes, d) => bytes.length + uptoBulk d + 1
  | (_, d) => uptoBulk d + 1
 end
def uptoSmall : (H : Type) → List (DataW H) → Bool := fun _ ds => decide (uptoBulkAll ds ≤ 1048576)
def OpenSpec.upto (s : _root_.Go.ChangeSpec) : _root_.Go.OpenSpec := { _root_.Go.OpenSpec.ofChange s with cond := some uptoSmall }

/-- 'laws.FnBatch', WHERE WHAT IT READS IS OF BULK AT MOST 1048576: true; the input reads as it did. -/
def fnBatchUptoRow : OpenClaim := { program := "ytcbhjnjallnidab", sum := "d6a376b619021435c71356581b5bf9b4b666d8b0fcbc529dbcff3b51ccd91eeb", func := "loop.example/mixrelay/laws.FnBatch", spec := "fnBatch", unfollowed := true, recurses := true, apart := false, narrowed := true }
def FnBatchUptoSaid : Prop := fnBatchUptoRow.holds Try.pinned (OpenSpec.upto fnBatchSpec)

/-- 'laws.FnBatchFresh', WHERE WHAT IT READS IS OF BULK AT MOST 1048576: true; the input reads as it did. -/
def fnBatchFreshUptoRow : OpenClaim := { program := "ytcbhjnjallnidab", sum := "d6a376b619021435c71356581b5bf9b4b666d8b0fcbc529dbcff3b51ccd91eeb", func := "loop.example/mixrelay/laws.FnBatchFresh", spec := "fnBatchFresh", unfollowed := true, recurses := true, apart := false, narrowed := true }
def FnBatchFreshUptoSaid : Prop := fnBatchFreshUptoRow.holds Try.pinned (OpenSpec.upto fnBatchFreshSpec)

/-- 'laws.FnBatchAlike', WHERE WHAT IT READS IS OF BULK AT MOST 1048576: true; the input reads as it did. -/
def fnBatchAlikeUptoRow : OpenClaim := { program := "ytcbhjnjallnidab", sum := "d6a376b619021435c71356581b5bf9b4b666d8b0fcbc529dbcff3b51ccd91eeb", func := "loop.example/mixrelay/laws.FnBatchAlike", spec := "fnBatchAlike", unfollowed := true, recurses := true, apart := false, narrowed := true }
def FnBatchAlikeUptoSaid : Prop := fnBatchAlikeUptoRow.holds Try.pinned (OpenSpec.upto fnBatchAlikeSpec)

/-- 'laws.FnBatchName', WHERE WHAT IT READS IS OF BULK AT MOST 1048576: true; the input reads as it did. -/
def fnBatchNameUptoRow : OpenClaim := { program := "ytcbhjnjallnidab", sum := "d6a376b619021435c71356581b5bf9b4b666d8b0fcbc529dbcff3b51ccd91eeb", func := "loop.example/mixrelay/laws.FnBatchName", spec := "fnBatchName", unfollowed := true, recurses := true, apart := false, narrowed := true }
def FnBatchNameUptoSaid : Prop := fnBatchNameUptoRow.holds Try.pinned (OpenSpec.upto fnBatchNameSpec)

/-- 'laws.FnBatchOther', WHERE WHAT IT READS IS OF BULK AT MOST 1048576: true; the input reads as it did. -/
def fnBatchOtherUptoRow : OpenClaim := { program := "ytcbhjnjallnidab", sum := "d6a376b619021435c71356581b5bf9b4b666d8b0fcbc529dbcff3b51ccd91eeb", func := "loop.example/mixrelay/laws.FnBatchOther", spec := "fnBatchOther", unfollowed := true, recurses := true, apart := false, narrowed := true }
def FnBatchOtherUptoSaid : Prop := fnBatchOtherUptoRow.holds Try.pinned (OpenSpec.upto fnBatchOtherSpec)

/-- 'laws.FnBatchTwo', WHERE WHAT IT READS IS OF BULK AT MOST 1048576: true; the input reads as it did. -/
def fnBatchTwoUptoRow : OpenClaim := { program := "ytcbhjnjallnidab", sum := "d6a376b619021435c71356581b5bf9b4b666d8b0fcbc529dbcff3b51ccd91eeb", func := "loop.example/mixrelay/laws.FnBatchTwo", spec := "fnBatchTwo", unfollowed := true, recurses := true, apart := false, narrowed := true }
def FnBatchTwoUptoSaid : Prop := fnBatchTwoUptoRow.holds Try.pinned (OpenSpec.upto fnBatchTwoSpec)

/-- 'laws.FnExactBatchFlows', WHERE WHAT IT READS IS OF BULK AT MOST 1048576: true; the input reads as it did. -/
def fnExactBatchFlowsUptoRow : OpenClaim := { program := "ytcbhjnjallnidab", sum := "d6a376b619021435c71356581b5bf9b4b666d8b0fcbc529dbcff3b51ccd91eeb", func := "loop.example/mixrelay/laws.FnExactBatchFlows", spec := "fnExactBatchFlows", unfollowed := true, recurses := true, apart := false, narrowed := true }
def FnExactBatchFlowsUptoSaid : Prop := fnExactBatchFlowsUptoRow.holds Try.pinned (OpenSpec.upto fnExactBatchFlowsSpec)

end Rows
end Go.Proofs.Ytcbhjnjallnidab
