/-
  No cell of these rows narrows 'for every input' (looked for: loops, veiled, ifaces, maps, wideKeys, modest, calm, conditions, laid).
  DERIVED. THE GIVEN ROWS OF THIS SEAT. 8 by the template 'for every input the law returns true; each argument reads behind the call as it read before'; 0 by the template 'total and deterministic' (their statements: YtoghgliijjfppaaTotals.lean).
  GIVEN WITH THE SEED: the statements are not yours to turn. If you find one false, say at which input.
  Laid BY PROGRAM, IN A SANDBOX (cutbox-rows.mjs): the forced cells as the released guide's own fill.sh prints them over the translation f21f175fb80953c7… (all of the seat's roots in one cut). By AI agents, Wed Nov 11 2026. No macro, syntax, notation, axiom, sorry.
-/
import Derived.Test.YtoghgliijjfppaaChecked
import GoSem.Claim
import GoSem.ClaimJoined
import GoSem.ClaimMapViews
import Derived.JoinedTies
import Derived.KernelRfl
namespace Go.Proofs.Ytoghgliijjfppaa
/- THE CELL 'sum', in the pinned program and in every row, IS THE sha256 OF THE DUMP (.gsa) THAT YtoghgliijjfppaaProg.lean LOADS. Nothing in Lean hashes anything: it is a label: what it is worth is what the hold of that sum in a sandbox is worth. -/
noncomputable def Try.pinned : Pinned := { name := "ytoghgliijjfppaa", sum := "f21f175fb80953c7aeb1fafd8bed02a43c8c9d221b846910b23f691cc40154a8", checked := Try.checked }
namespace Rows
def none {H : Type} : Left H := { results := [], args := [] }

/-- 'laws.FnCut': WHATEVER THE INPUT: true; the input reads as it did. -/
def fnCutSpec : ChangeSpec := { name := "fnCut", fn := fun _ => fun
  | [d] => { results := [.lit (.bool true)], args := [d] }
  | _ => none }
def fnCutRow : OpenClaim := { program := "ytoghgliijjfppaa", sum := "f21f175fb80953c7aeb1fafd8bed02a43c8c9d221b846910b23f691cc40154a8", func := "loop.example/mixrelay/laws.FnCut", spec := "fnCut", unfollowed := true, recurses := true, apart := false }
def FnCutSaid : Prop := fnCutRow.holds Try.pinned (OpenSpec.ofChange fnCutSpec)

/-- ITS FALSE NEIGHBOUR: 'it returns false'. Refute it at one input. -/
def fnCutWrong : ChangeSpec := { name := "fnCut", fn := fun _ => fun
  | [d] => { results := [.lit (.bool false)], args := [d] }
  | _ => none }
def FnCutWrongFalsely : Prop := fnCutRow.holds Try.pinned (OpenSpec.ofChange fnCutWrong)

/-- 'laws.FnCutSize': WHATEVER THE INPUT: true; the input reads as it did. -/
def fnCutSizeSpec : ChangeSpec := { name := "fnCutSize", fn := fun _ => fun
  | [d] => { results := [.lit (.bool true)], args := [d] }
  | _ => none }
def fnCutSizeRow : OpenClaim := { program := "ytoghgliijjfppaa", sum := "f21f175fb80953c7aeb1fafd8bed02a43c8c9d221b846910b23f691cc40154a8", func := "loop.example/mixrelay/laws.FnCutSize", spec := "fnCutSize", unfollowed := true, recurses := true, apart := false }
def FnCutSizeSaid : Prop := fnCutSizeRow.holds Try.pinned (OpenSpec.ofChange fnCutSizeSpec)

/-- ITS FALSE NEIGHBOUR: 'it returns false'. Refute it at one input. -/
def fnCutSizeWrong : ChangeSpec := { name := "fnCutSize", fn := fun _ => fun
  | [d] => { results := [.lit (.bool false)], args := [d] }
  | _ => none }
def FnCutSizeWrongFalsely : Prop := fnCutSizeRow.holds Try.pinned (OpenSpec.ofChange fnCutSizeWrong)

/-- 'laws.FnCutLength': WHATEVER THE INPUT: true; the input reads as it did. -/
def fnCutLengthSpec : ChangeSpec := { name := "fnCutLength", fn := fun _ => fun
  | [d] => { results := [.lit (.bool true)], args := [d] }
  | _ => none }
def fnCutLengthRow : OpenClaim := { program := "ytoghgliijjfppaa", sum := "f21f175fb80953c7aeb1fafd8bed02a43c8c9d221b846910b23f691cc40154a8", func := "loop.example/mixrelay/laws.FnCutLength", spec := "fnCutLength", unfollowed := true, recurses := true, apart := false }
def FnCutLengthSaid : Prop := fnCutLengthRow.holds Try.pinned (OpenSpec.ofChange fnCutLengthSpec)

/-- ITS FALSE NEIGHBOUR: 'it returns false'. Refute it at one input. -/
def fnCutLengthWrong : ChangeSpec := { name := "fnCutLength", fn := fun _ => fun
  | [d] => { results := [.lit (.bool false)], args := [d] }
  | _ => none }
def FnCutLengthWrongFalsely : Prop := fnCutLengthRow.holds Try.pinned (OpenSpec.ofChange fnCutLengthWrong)

/-- 'laws.FnCutLong': WHATEVER THE INPUT: true; the input reads as it did. -/
def fnCutLongSpec : ChangeSpec := { name := "fnCutLong", fn := fun _ => fun
  | [d] => { results := [.lit (.bool true)], args := [d] }
  | _ => none }
def fnCutLongRow : OpenClaim := { program := "ytoghgliijjfppaa", sum := "f21f175fb80953c7aeb1fafd8bed02a43c8c9d221b846910b23f691cc40154a8", func := "loop.example/mixrelay/laws.FnCutLong", spec := "fnCutLong", unfollowed := true, recurses := true, apart := false }
def FnCutLongSaid : Prop := fnCutLongRow.holds Try.pinned (OpenSpec.ofChange fnCutLongSpec)

/-- ITS FALSE NEIGHBOUR: 'it returns false'. Refute it at one input. -/
def fnCutLongWrong : ChangeSpec := { name := "fnCutLong", fn := fun _ => fun
  | [d] => { results := [.lit (.bool false)], args := [d] }
  | _ => none }
def FnCutLongWrongFalsely : Prop := fnCutLongRow.holds Try.pinned (OpenSpec.ofChange fnCutLongWrong)

/-- 'laws.FnRepair': WHATEVER THE INPUT: true; the input reads as it did. -/
def fnRepairSpec : ChangeSpec := { name := "fnRepair", fn := fun _ => fun
  | [d1, d2] => { results := [.lit (.bool true)], args := [d1, d2] }
  | _ => none }
def fnRepairRow : OpenClaim := { program := "ytoghgliijjfppaa", sum := "f21f175fb80953c7aeb1fafd8bed02a43c8c9d221b846910b23f691cc40154a8", func := "loop.example/mixrelay/laws.FnRepair", spec := "fnRepair", unfollowed := true, recurses := true, apart := false }
def FnRepairSaid : Prop := fnRepairRow.holds Try.pinned (OpenSpec.ofChange fnRepairSpec)

/-- ITS FALSE NEIGHBOUR: 'it returns false'. Refute it at one input. -/
def fnRepairWrong : ChangeSpec := { name := "fnRepair", fn := fun _ => fun
  | [d1, d2] => { results := [.lit (.bool false)], args := [d1, d2] }
  | _ => none }
def FnRepairWrongFalsely : Prop := fnRepairRow.holds Try.pinned (OpenSpec.ofChange fnRepairWrong)

/-- 'laws.FnRepairNone': WHATEVER THE INPUT: true; the input reads as it did. -/
def fnRepairNoneSpec : ChangeSpec := { name := "fnRepairNone", fn := fun _ => fun
  | [d] => { results := [.lit (.bool true)], args := [d] }
  | _ => none }
def fnRepairNoneRow : OpenClaim := { program := "ytoghgliijjfppaa", sum := "f21f175fb80953c7aeb1fafd8bed02a43c8c9d221b846910b23f691cc40154a8", func := "loop.example/mixrelay/laws.FnRepairNone", spec := "fnRepairNone", unfollowed := true, recurses := true, apart := false }
def FnRepairNoneSaid : Prop := fnRepairNoneRow.holds Try.pinned (OpenSpec.ofChange fnRepairNoneSpec)

/-- ITS FALSE NEIGHBOUR: 'it returns false'. Refute it at one input. -/
def fnRepairNoneWrong : ChangeSpec := { name := "fnRepairNone", fn := fun _ => fun
  | [d] => { results := [.lit (.bool false)], args := [d] }
  | _ => none }
def FnRepairNoneWrongFalsely : Prop := fnRepairNoneRow.holds Try.pinned (OpenSpec.ofChange fnRepairNoneWrong)

/-- 'laws.FnRepairTwo': WHATEVER THE INPUT: true; the input reads as it did. -/
def fnRepairTwoSpec : ChangeSpec := { name := "fnRepairTwo", fn := fun _ => fun
  | [d1, d2] => { results := [.lit (.bool true)], args := [d1, d2] }
  | _ => none }
def fnRepairTwoRow : OpenClaim := { program := "ytoghgliijjfppaa", sum := "f21f175fb80953c7aeb1fafd8bed02a43c8c9d221b846910b23f691cc40154a8", func := "loop.example/mixrelay/laws.FnRepairTwo", spec := "fnRepairTwo", unfollowed := true, recurses := true, apart := false }
def FnRepairTwoSaid : Prop := fnRepairTwoRow.holds Try.pinned (OpenSpec.ofChange fnRepairTwoSpec)

/-- ITS FALSE NEIGHBOUR: 'it returns false'. Refute it at one input. -/
def fnRepairTwoWrong : ChangeSpec := { name := "fnRepairTwo", fn := fun _ => fun
  | [d1, d2] => { results := [.lit (.bool false)], args := [d1, d2] }
  | _ => none }
def FnRepairTwoWrongFalsely : Prop := fnRepairTwoRow.holds Try.pinned (OpenSpec.ofChange fnRepairTwoWrong)

/-- 'laws.FnRepairKeeps': WHATEVER THE INPUT: true; the input reads as it did. -/
def fnRepairKeepsSpec : ChangeSpec := { name := "fnRepairKeeps", fn := fun _ => fun
  | [d] => { results := [.lit (.bool true)], args := [d] }
  | _ => none }
def fnRepairKeepsRow : OpenClaim := { program := "ytoghgliijjfppaa", sum := "f21f175fb80953c7aeb1fafd8bed02a43c8c9d221b846910b23f691cc40154a8", func := "loop.example/mixrelay/laws.FnRepairKeeps", spec := "fnRepairKeeps", apart := false }
def FnRepairKeepsSaid : Prop := fnRepairKeepsRow.holds Try.pinned (OpenSpec.ofChange fnRepairKeepsSpec)

/-- ITS FALSE NEIGHBOUR: 'it returns false'. Refute it at one input. -/
def fnRepairKeepsWrong : ChangeSpec := { name := "fnRepairKeeps", fn := fun _ => fun
  | [d] => { results := [.lit (.bool false)], args := [d] }
  | _ => none }
def FnRepairKeepsWrongFalsely : Prop := fnRepairKeepsRow.holds Try.pinned (OpenSpec.ofChange fnRepairKeepsWrong)

/- THE SECOND FORM. 'bulk': how many values and letters a reading holds, each counted each time it is reached (what is shared counts as often as it is met; a slice's spare places count too). A statement '..UptoSaid' is the law's where the arguments, and the package variables that the reading takes, are together of bulk at most 1048576: NARROWER than '..Said'. Prove '..Said' where nothing that the law and all that it calls make is longer than what came in: it says more and counts as full. Else prove '..UptoSaid'. A law counts once. -/
mutual
def uptoBulk {H : Type} : DataW H → Nat
  | .lit (.string bytes) => bytes.length + 1
  | .lit _ => 1
  | .nil => 1
  | .ptr d => uptoBulk d + 1
  | .slice elems spare => uptoBulkAll elems + uptoBulkAll spare + 1
  | .agg parts => uptoBulkAll parts + 1
  | .iface _ d => uptoBulk d + 1
  | .map entries => uptoBulkEntries entries + 1
  | .held _ => 1
def uptoBulkAll {H : Type} : List (DataW H) → Nat
  | [] => 0
  | d :: r => uptoBulk d + uptoBulkAll r
def uptoBulkEntries {H : Type} : List (Lit × DataW H) → Nat
  | [] => 0
  | x :: r => uptoBulkEntry x + uptoBulkEntries r
def uptoBulkEntry {H : Type} : Lit × DataW H → Nat
  | (.string bytes, d) => bytes.length + uptoBulk d + 1
  | (_, d) => uptoBulk d + 1
 end
def uptoSmall : (H : Type) → List (DataW H) → Bool := fun _ ds => decide (uptoBulkAll ds ≤ 1048576)
def OpenSpec.upto (s : _root_.Go.ChangeSpec) : _root_.Go.OpenSpec := { _root_.Go.OpenSpec.ofChange s with cond := some uptoSmall }

/-- 'laws.FnCut', WHERE WHAT IT READS IS OF BULK AT MOST 1048576: true; the input reads as it did. -/
def fnCutUptoRow : OpenClaim := { program := "ytoghgliijjfppaa", sum := "f21f175fb80953c7aeb1fafd8bed02a43c8c9d221b846910b23f691cc40154a8", func := "loop.example/mixrelay/laws.FnCut", spec := "fnCut", unfollowed := true, recurses := true, apart := false, narrowed := true }
def FnCutUptoSaid : Prop := fnCutUptoRow.holds Try.pinned (OpenSpec.upto fnCutSpec)

/-- 'laws.FnCutSize', WHERE WHAT IT READS IS OF BULK AT MOST 1048576: true; the input reads as it did. -/
def fnCutSizeUptoRow : OpenClaim := { program := "ytoghgliijjfppaa", sum := "f21f175fb80953c7aeb1fafd8bed02a43c8c9d221b846910b23f691cc40154a8", func := "loop.example/mixrelay/laws.FnCutSize", spec := "fnCutSize", unfollowed := true, recurses := true, apart := false, narrowed := true }
def FnCutSizeUptoSaid : Prop := fnCutSizeUptoRow.holds Try.pinned (OpenSpec.upto fnCutSizeSpec)

/-- 'laws.FnCutLength', WHERE WHAT IT READS IS OF BULK AT MOST 1048576: true; the input reads as it did. -/
def fnCutLengthUptoRow : OpenClaim := { program := "ytoghgliijjfppaa", sum := "f21f175fb80953c7aeb1fafd8bed02a43c8c9d221b846910b23f691cc40154a8", func := "loop.example/mixrelay/laws.FnCutLength", spec := "fnCutLength", unfollowed := true, recurses := true, apart := false, narrowed := true }
def FnCutLengthUptoSaid : Prop := fnCutLengthUptoRow.holds Try.pinned (OpenSpec.upto fnCutLengthSpec)

/-- 'laws.FnCutLong', WHERE WHAT IT READS IS OF BULK AT MOST 1048576: true; the input reads as it did. -/
def fnCutLongUptoRow : OpenClaim := { program := "ytoghgliijjfppaa", sum := "f21f175fb80953c7aeb1fafd8bed02a43c8c9d221b846910b23f691cc40154a8", func := "loop.example/mixrelay/laws.FnCutLong", spec := "fnCutLong", unfollowed := true, recurses := true, apart := false, narrowed := true }
def FnCutLongUptoSaid : Prop := fnCutLongUptoRow.holds Try.pinned (OpenSpec.upto fnCutLongSpec)

/-- 'laws.FnRepair', WHERE WHAT IT READS IS OF BULK AT MOST 1048576: true; the input reads as it did. -/
def fnRepairUptoRow : OpenClaim := { program := "ytoghgliijjfppaa", sum := "f21f175fb80953c7aeb1fafd8bed02a43c8c9d221b846910b23f691cc40154a8", func := "loop.example/mixrelay/laws.FnRepair", spec := "fnRepair", unfollowed := true, recurses := true, apart := false, narrowed := true }
def FnRepairUptoSaid : Prop := fnRepairUptoRow.holds Try.pinned (OpenSpec.upto fnRepairSpec)

/-- 'laws.FnRepairNone', WHERE WHAT IT READS IS OF BULK AT MOST 1048576: true; the input reads as it did. -/
def fnRepairNoneUptoRow : OpenClaim := { program := "ytoghgliijjfppaa", sum := "f21f175fb80953c7aeb1fafd8bed02a43c8c9d221b846910b23f691cc40154a8", func := "loop.example/mixrelay/laws.FnRepairNone", spec := "fnRepairNone", unfollowed := true, recurses := true, apart := false, narrowed := true }
def FnRepairNoneUptoSaid : Prop := fnRepairNoneUptoRow.holds Try.pinned (OpenSpec.upto fnRepairNoneSpec)

/-- 'laws.FnRepairTwo', WHERE WHAT IT READS IS OF BULK AT MOST 1048576: true; the input reads as it did. -/
def fnRepairTwoUptoRow : OpenClaim := { program := "ytoghgliijjfppaa", sum := "f21f175fb80953c7aeb1fafd8bed02a43c8c9d221b846910b23f691cc40154a8", func := "loop.example/mixrelay/laws.FnRepairTwo", spec := "fnRepairTwo", unfollowed := true, recurses := true, apart := false, narrowed := true }
def FnRepairTwoUptoSaid : Prop := fnRepairTwoUptoRow.holds Try.pinned (OpenSpec.upto fnRepairTwoSpec)

/-- 'laws.FnRepairKeeps', WHERE WHAT IT READS IS OF BULK AT MOST 1048576: true; the input reads as it did. -/
def fnRepairKeepsUptoRow : OpenClaim := { program := "ytoghgliijjfppaa", sum := "f21f175fb80953c7aeb1fafd8bed02a43c8c9d221b846910b23f691cc40154a8", func := "loop.example/mixrelay/laws.FnRepairKeeps", spec := "fnRepairKeeps", apart := false, narrowed := true }
def FnRepairKeepsUptoSaid : Prop := fnRepairKeepsUptoRow.holds Try.pinned (OpenSpec.upto fnRepairKeepsSpec)

end Rows
end Go.Proofs.Ytoghgliijjfppaa
