/-
  No cell of these rows narrows 'for every input' (looked for: loops, veiled, ifaces, maps, wideKeys, modest, calm, conditions, laid).
  DERIVED. THE GIVEN ROWS OF THIS SEAT. 7 by the template 'for every input the law returns true; each argument reads behind the call as it read before'; 0 by the template 'total and deterministic' (their statements: YtoghgliijjfppabTotals.lean).
  GIVEN WITH THE SEED: the statements are not yours to turn. If you find one false, say at which input.
  Laid BY PROGRAM, IN A SANDBOX (cutbox-rows.mjs): the forced cells as the released guide's own fill.sh prints them over the translation 339d3a835df7db32… (all of the seat's roots in one cut). By AI agents, Wed Nov 11 2026. No macro, syntax, notation, axiom, sorry.
-/
import Derived.Test.YtoghgliijjfppabChecked
import GoSem.Claim
import GoSem.ClaimJoined
import GoSem.ClaimMapViews
import Derived.JoinedTies
import Derived.KernelRfl
namespace Go.Proofs.Ytoghgliijjfppab
/- THE CELL 'sum', in the pinned program and in every row, IS THE sha256 OF THE DUMP (.gsa) THAT YtoghgliijjfppabProg.lean LOADS. Nothing in Lean hashes anything: it is a label: what it is worth is what the hold of that sum in a sandbox is worth. -/
noncomputable def Try.pinned : Pinned := { name := "ytoghgliijjfppab", sum := "339d3a835df7db32241e44a015fe36259cd63bf72402aa13388f61fa6acf51e7", checked := Try.checked }
namespace Rows
def none {H : Type} : Left H := { results := [], args := [] }

/-- 'laws.FnExactPiecesCut': WHATEVER THE INPUT: true; the input reads as it did. -/
def fnExactPiecesCutSpec : ChangeSpec := { name := "fnExactPiecesCut", fn := fun _ => fun
  | [d] => { results := [.lit (.bool true)], args := [d] }
  | _ => none }
def fnExactPiecesCutRow : OpenClaim := { program := "ytoghgliijjfppab", sum := "339d3a835df7db32241e44a015fe36259cd63bf72402aa13388f61fa6acf51e7", func := "loop.example/mixrelay/laws.FnExactPiecesCut", spec := "fnExactPiecesCut", unfollowed := true, recurses := true, apart := false }
def FnExactPiecesCutSaid : Prop := fnExactPiecesCutRow.holds Try.pinned (OpenSpec.ofChange fnExactPiecesCutSpec)

/-- ITS FALSE NEIGHBOUR: 'it returns false'. Refute it at one input. -/
def fnExactPiecesCutWrong : ChangeSpec := { name := "fnExactPiecesCut", fn := fun _ => fun
  | [d] => { results := [.lit (.bool false)], args := [d] }
  | _ => none }
def FnExactPiecesCutWrongFalsely : Prop := fnExactPiecesCutRow.holds Try.pinned (OpenSpec.ofChange fnExactPiecesCutWrong)

/-- 'laws.FnExactPiecesParity': WHATEVER THE INPUT: true; the input reads as it did. -/
def fnExactPiecesParitySpec : ChangeSpec := { name := "fnExactPiecesParity", fn := fun _ => fun
  | [d] => { results := [.lit (.bool true)], args := [d] }
  | _ => none }
def fnExactPiecesParityRow : OpenClaim := { program := "ytoghgliijjfppab", sum := "339d3a835df7db32241e44a015fe36259cd63bf72402aa13388f61fa6acf51e7", func := "loop.example/mixrelay/laws.FnExactPiecesParity", spec := "fnExactPiecesParity", apart := false }
def FnExactPiecesParitySaid : Prop := fnExactPiecesParityRow.holds Try.pinned (OpenSpec.ofChange fnExactPiecesParitySpec)

/-- ITS FALSE NEIGHBOUR: 'it returns false'. Refute it at one input. -/
def fnExactPiecesParityWrong : ChangeSpec := { name := "fnExactPiecesParity", fn := fun _ => fun
  | [d] => { results := [.lit (.bool false)], args := [d] }
  | _ => none }
def FnExactPiecesParityWrongFalsely : Prop := fnExactPiecesParityRow.holds Try.pinned (OpenSpec.ofChange fnExactPiecesParityWrong)

/-- 'laws.FnExactPiecesRepair': WHATEVER THE INPUT: true; the input reads as it did. -/
def fnExactPiecesRepairSpec : ChangeSpec := { name := "fnExactPiecesRepair", fn := fun _ => fun
  | [d1, d2] => { results := [.lit (.bool true)], args := [d1, d2] }
  | _ => none }
def fnExactPiecesRepairRow : OpenClaim := { program := "ytoghgliijjfppab", sum := "339d3a835df7db32241e44a015fe36259cd63bf72402aa13388f61fa6acf51e7", func := "loop.example/mixrelay/laws.FnExactPiecesRepair", spec := "fnExactPiecesRepair", apart := false }
def FnExactPiecesRepairSaid : Prop := fnExactPiecesRepairRow.holds Try.pinned (OpenSpec.ofChange fnExactPiecesRepairSpec)

/-- ITS FALSE NEIGHBOUR: 'it returns false'. Refute it at one input. -/
def fnExactPiecesRepairWrong : ChangeSpec := { name := "fnExactPiecesRepair", fn := fun _ => fun
  | [d1, d2] => { results := [.lit (.bool false)], args := [d1, d2] }
  | _ => none }
def FnExactPiecesRepairWrongFalsely : Prop := fnExactPiecesRepairRow.holds Try.pinned (OpenSpec.ofChange fnExactPiecesRepairWrong)

/-- 'laws.FnExactPiecesJoin': WHATEVER THE INPUT: true; the input reads as it did. -/
def fnExactPiecesJoinSpec : ChangeSpec := { name := "fnExactPiecesJoin", fn := fun _ => fun
  | [d] => { results := [.lit (.bool true)], args := [d] }
  | _ => none }
def fnExactPiecesJoinRow : OpenClaim := { program := "ytoghgliijjfppab", sum := "339d3a835df7db32241e44a015fe36259cd63bf72402aa13388f61fa6acf51e7", func := "loop.example/mixrelay/laws.FnExactPiecesJoin", spec := "fnExactPiecesJoin", unfollowed := true, recurses := true, apart := false }
def FnExactPiecesJoinSaid : Prop := fnExactPiecesJoinRow.holds Try.pinned (OpenSpec.ofChange fnExactPiecesJoinSpec)

/-- ITS FALSE NEIGHBOUR: 'it returns false'. Refute it at one input. -/
def fnExactPiecesJoinWrong : ChangeSpec := { name := "fnExactPiecesJoin", fn := fun _ => fun
  | [d] => { results := [.lit (.bool false)], args := [d] }
  | _ => none }
def FnExactPiecesJoinWrongFalsely : Prop := fnExactPiecesJoinRow.holds Try.pinned (OpenSpec.ofChange fnExactPiecesJoinWrong)

/-- 'laws.FnParity': WHATEVER THE INPUT: true; the input reads as it did. -/
def fnParitySpec : ChangeSpec := { name := "fnParity", fn := fun _ => fun
  | [d] => { results := [.lit (.bool true)], args := [d] }
  | _ => none }
def fnParityRow : OpenClaim := { program := "ytoghgliijjfppab", sum := "339d3a835df7db32241e44a015fe36259cd63bf72402aa13388f61fa6acf51e7", func := "loop.example/mixrelay/laws.FnParity", spec := "fnParity", apart := false }
def FnParitySaid : Prop := fnParityRow.holds Try.pinned (OpenSpec.ofChange fnParitySpec)

/-- ITS FALSE NEIGHBOUR: 'it returns false'. Refute it at one input. -/
def fnParityWrong : ChangeSpec := { name := "fnParity", fn := fun _ => fun
  | [d] => { results := [.lit (.bool false)], args := [d] }
  | _ => none }
def FnParityWrongFalsely : Prop := fnParityRow.holds Try.pinned (OpenSpec.ofChange fnParityWrong)

/-- 'laws.FnParityOrder': WHATEVER THE INPUT: true; the input reads as it did. -/
def fnParityOrderSpec : ChangeSpec := { name := "fnParityOrder", fn := fun _ => fun
  | [d] => { results := [.lit (.bool true)], args := [d] }
  | _ => none }
def fnParityOrderRow : OpenClaim := { program := "ytoghgliijjfppab", sum := "339d3a835df7db32241e44a015fe36259cd63bf72402aa13388f61fa6acf51e7", func := "loop.example/mixrelay/laws.FnParityOrder", spec := "fnParityOrder", apart := false }
def FnParityOrderSaid : Prop := fnParityOrderRow.holds Try.pinned (OpenSpec.ofChange fnParityOrderSpec)

/-- ITS FALSE NEIGHBOUR: 'it returns false'. Refute it at one input. -/
def fnParityOrderWrong : ChangeSpec := { name := "fnParityOrder", fn := fun _ => fun
  | [d] => { results := [.lit (.bool false)], args := [d] }
  | _ => none }
def FnParityOrderWrongFalsely : Prop := fnParityOrderRow.holds Try.pinned (OpenSpec.ofChange fnParityOrderWrong)

/-- 'laws.FnJoin': WHATEVER THE INPUT: true; the input reads as it did. -/
def fnJoinSpec : ChangeSpec := { name := "fnJoin", fn := fun _ => fun
  | [d] => { results := [.lit (.bool true)], args := [d] }
  | _ => none }
def fnJoinRow : OpenClaim := { program := "ytoghgliijjfppab", sum := "339d3a835df7db32241e44a015fe36259cd63bf72402aa13388f61fa6acf51e7", func := "loop.example/mixrelay/laws.FnJoin", spec := "fnJoin", unfollowed := true, recurses := true, apart := false }
def FnJoinSaid : Prop := fnJoinRow.holds Try.pinned (OpenSpec.ofChange fnJoinSpec)

/-- ITS FALSE NEIGHBOUR: 'it returns false'. Refute it at one input. -/
def fnJoinWrong : ChangeSpec := { name := "fnJoin", fn := fun _ => fun
  | [d] => { results := [.lit (.bool false)], args := [d] }
  | _ => none }
def FnJoinWrongFalsely : Prop := fnJoinRow.holds Try.pinned (OpenSpec.ofChange fnJoinWrong)

/- THE SECOND FORM. 'bulk': how many values and letters a reading holds, each counted each time it is reached (what is shared counts as often as it is met; a slice's spare places count too). A statement '..UptoSaid' is the law's where the arguments, and the package variables that the reading takes, are together of bulk at most 1048576: NARROWER than '..Said'. Prove '..Said' where nothing that the law and all that it calls make is longer than what came in: it says more and counts as full. Else prove '..UptoSaid'. A law counts once. -/
mutual
def uptoBulk {H : Type} : DataW H → Nat
  | .lit (.string bytes) => bytes.length + 1
  | .lit _ => 1
  | .nil => 1
  | .ptr d => uptoBulk d + 1
  | .slice elems spare => uptoBulkAll elems + uptoBulkAll spare + 1
  | .agg parts => uptoBulkAll parts + 1
  | .iface _ d => uptoBulk d + 1
  | .map entries => uptoBulkEntries entries + 1
  | .held _ => 1
def uptoBulkAll {H : Type} : List (DataW H) → Nat
  | [] => 0
  | d :: r => uptoBulk d + uptoBulkAll r
def uptoBulkEntries {H : Type} : List (Lit × DataW H) → Nat
  | [] => 0
  | x :: r => uptoBulkEntry x + uptoBulkEntries r
def uptoBulkEntry {H : Type} : Lit × DataW H → Nat
  | (.string bytes, d) => bytes.length + uptoBulk d + 1
  | (_, d) => uptoBulk d + 1
 end
def uptoSmall : (H : Type) → List (DataW H) → Bool := fun _ ds => decide (uptoBulkAll ds ≤ 1048576)
def OpenSpec.upto (s : _root_.Go.ChangeSpec) : _root_.Go.OpenSpec := { _root_.Go.OpenSpec.ofChange s with cond := some uptoSmall }

/-- 'laws.FnExactPiecesCut', WHERE WHAT IT READS IS OF BULK AT MOST 1048576: true; the input reads as it did. -/
def fnExactPiecesCutUptoRow : OpenClaim := { program := "ytoghgliijjfppab", sum := "339d3a835df7db32241e44a015fe36259cd63bf72402aa13388f61fa6acf51e7", func := "loop.example/mixrelay/laws.FnExactPiecesCut", spec := "fnExactPiecesCut", unfollowed := true, recurses := true, apart := false, narrowed := true }
def FnExactPiecesCutUptoSaid : Prop := fnExactPiecesCutUptoRow.holds Try.pinned (OpenSpec.upto fnExactPiecesCutSpec)

/-- 'laws.FnExactPiecesParity', WHERE WHAT IT READS IS OF BULK AT MOST 1048576: true; the input reads as it did. -/
def fnExactPiecesParityUptoRow : OpenClaim := { program := "ytoghgliijjfppab", sum := "339d3a835df7db32241e44a015fe36259cd63bf72402aa13388f61fa6acf51e7", func := "loop.example/mixrelay/laws.FnExactPiecesParity", spec := "fnExactPiecesParity", apart := false, narrowed := true }
def FnExactPiecesParityUptoSaid : Prop := fnExactPiecesParityUptoRow.holds Try.pinned (OpenSpec.upto fnExactPiecesParitySpec)

/-- 'laws.FnExactPiecesRepair', WHERE WHAT IT READS IS OF BULK AT MOST 1048576: true; the input reads as it did. -/
def fnExactPiecesRepairUptoRow : OpenClaim := { program := "ytoghgliijjfppab", sum := "339d3a835df7db32241e44a015fe36259cd63bf72402aa13388f61fa6acf51e7", func := "loop.example/mixrelay/laws.FnExactPiecesRepair", spec := "fnExactPiecesRepair", apart := false, narrowed := true }
def FnExactPiecesRepairUptoSaid : Prop := fnExactPiecesRepairUptoRow.holds Try.pinned (OpenSpec.upto fnExactPiecesRepairSpec)

/-- 'laws.FnExactPiecesJoin', WHERE WHAT IT READS IS OF BULK AT MOST 1048576: true; the input reads as it did. -/
def fnExactPiecesJoinUptoRow : OpenClaim := { program := "ytoghgliijjfppab", sum := "339d3a835df7db32241e44a015fe36259cd63bf72402aa13388f61fa6acf51e7", func := "loop.example/mixrelay/laws.FnExactPiecesJoin", spec := "fnExactPiecesJoin", unfollowed := true, recurses := true, apart := false, narrowed := true }
def FnExactPiecesJoinUptoSaid : Prop := fnExactPiecesJoinUptoRow.holds Try.pinned (OpenSpec.upto fnExactPiecesJoinSpec)

/-- 'laws.FnParity', WHERE WHAT IT READS IS OF BULK AT MOST 1048576: true; the input reads as it did. -/
def fnParityUptoRow : OpenClaim := { program := "ytoghgliijjfppab", sum := "339d3a835df7db32241e44a015fe36259cd63bf72402aa13388f61fa6acf51e7", func := "loop.example/mixrelay/laws.FnParity", spec := "fnParity", apart := false, narrowed := true }
def FnParityUptoSaid : Prop := fnParityUptoRow.holds Try.pinned (OpenSpec.upto fnParitySpec)

/-- 'laws.FnParityOrder', WHERE WHAT IT READS IS OF BULK AT MOST 1048576: true; the input reads as it did. -/
def fnParityOrderUptoRow : OpenClaim := { program := "ytoghgliijjfppab", sum := "339d3a835df7db32241e44a015fe36259cd63bf72402aa13388f61fa6acf51e7", func := "loop.example/mixrelay/laws.FnParityOrder", spec := "fnParityOrder", apart := false, narrowed := true }
def FnParityOrderUptoSaid : Prop := fnParityOrderUptoRow.holds Try.pinned (OpenSpec.upto fnParityOrderSpec)

/-- 'laws.FnJoin', WHERE WHAT IT READS IS OF BULK AT MOST 1048576: true; the input reads as it did. -/
def fnJoinUptoRow : OpenClaim := { program := "ytoghgliijjfppab", sum := "339d3a835df7db32241e44a015fe36259cd63bf72402aa13388f61fa6acf51e7", func := "loop.example/mixrelay/laws.FnJoin", spec := "fnJoin", unfollowed := true, recurses := true, apart := false, narrowed := true }
def FnJoinUptoSaid : Prop := fnJoinUptoRow.holds Try.pinned (OpenSpec.upto fnJoinSpec)

end Rows
end Go.Proofs.Ytoghgliijjfppab
