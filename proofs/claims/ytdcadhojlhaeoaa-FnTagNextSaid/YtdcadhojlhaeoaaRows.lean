/-
  No cell of these rows narrows 'for every input' (looked for: loops, veiled, ifaces, maps, wideKeys, modest, calm, conditions, laid).
  DERIVED. THE GIVEN ROWS OF THIS SEAT. 7 by the template 'for every input the law returns true; each argument reads behind the call as it read before'; 0 by the template 'total and deterministic' (their statements: YtdcadhojlhaeoaaTotals.lean).
  GIVEN WITH THE SEED: the statements are not yours to turn. If you find one false, say at which input.
  Laid BY PROGRAM, IN A SANDBOX (cutbox-rows.mjs): the forced cells as the released guide's own fill.sh prints them over the translation 7362cff8ae38ff28… (all of the seat's roots in one cut). By AI agents, Wed Nov 11 2026. No macro, syntax, notation, axiom, sorry.
-/
import Derived.Test.YtdcadhojlhaeoaaChecked
import GoSem.Claim
import GoSem.ClaimJoined
import GoSem.ClaimMapViews
import Derived.JoinedTies
import Derived.KernelRfl
namespace Go.Proofs.Ytdcadhojlhaeoaa
/- THE CELL 'sum', in the pinned program and in every row, IS THE sha256 OF THE DUMP (.gsa) THAT YtdcadhojlhaeoaaProg.lean LOADS. Nothing in Lean hashes anything: it is a label: what it is worth is what the hold of that sum in a sandbox is worth. -/
noncomputable def Try.pinned : Pinned := { name := "ytdcadhojlhaeoaa", sum := "7362cff8ae38ff283022b780cbf08bb5fe9644b86e069b581343c34b0d61ef4c", checked := Try.checked }
namespace Rows
def none {H : Type} : Left H := { results := [], args := [] }

/-- 'laws.FnTag': WHATEVER THE INPUT: true; the input reads as it did. -/
def fnTagSpec : ChangeSpec := { name := "fnTag", fn := fun _ => fun
  | [d] => { results := [.lit (.bool true)], args := [d] }
  | _ => none }
def fnTagRow : OpenClaim := { program := "ytdcadhojlhaeoaa", sum := "7362cff8ae38ff283022b780cbf08bb5fe9644b86e069b581343c34b0d61ef4c", func := "loop.example/mixrelay/laws.FnTag", spec := "fnTag", unfollowed := true, recurses := true, apart := false }
def FnTagSaid : Prop := fnTagRow.holds Try.pinned (OpenSpec.ofChange fnTagSpec)

/-- ITS FALSE NEIGHBOUR: 'it returns false'. Refute it at one input. -/
def fnTagWrong : ChangeSpec := { name := "fnTag", fn := fun _ => fun
  | [d] => { results := [.lit (.bool false)], args := [d] }
  | _ => none }
def FnTagWrongFalsely : Prop := fnTagRow.holds Try.pinned (OpenSpec.ofChange fnTagWrong)

/-- 'laws.FnTagChange': WHATEVER THE INPUT: true; the input reads as it did. -/
def fnTagChangeSpec : ChangeSpec := { name := "fnTagChange", fn := fun _ => fun
  | [d1, d2] => { results := [.lit (.bool true)], args := [d1, d2] }
  | _ => none }
def fnTagChangeRow : OpenClaim := { program := "ytdcadhojlhaeoaa", sum := "7362cff8ae38ff283022b780cbf08bb5fe9644b86e069b581343c34b0d61ef4c", func := "loop.example/mixrelay/laws.FnTagChange", spec := "fnTagChange", unfollowed := true, recurses := true, apart := false }
def FnTagChangeSaid : Prop := fnTagChangeRow.holds Try.pinned (OpenSpec.ofChange fnTagChangeSpec)

/-- ITS FALSE NEIGHBOUR: 'it returns false'. Refute it at one input. -/
def fnTagChangeWrong : ChangeSpec := { name := "fnTagChange", fn := fun _ => fun
  | [d1, d2] => { results := [.lit (.bool false)], args := [d1, d2] }
  | _ => none }
def FnTagChangeWrongFalsely : Prop := fnTagChangeRow.holds Try.pinned (OpenSpec.ofChange fnTagChangeWrong)

/-- 'laws.FnTagOther': WHATEVER THE INPUT: true; the input reads as it did. -/
def fnTagOtherSpec : ChangeSpec := { name := "fnTagOther", fn := fun _ => fun
  | [d1, d2] => { results := [.lit (.bool true)], args := [d1, d2] }
  | _ => none }
def fnTagOtherRow : OpenClaim := { program := "ytdcadhojlhaeoaa", sum := "7362cff8ae38ff283022b780cbf08bb5fe9644b86e069b581343c34b0d61ef4c", func := "loop.example/mixrelay/laws.FnTagOther", spec := "fnTagOther", unfollowed := true, recurses := true, apart := false }
def FnTagOtherSaid : Prop := fnTagOtherRow.holds Try.pinned (OpenSpec.ofChange fnTagOtherSpec)

/-- ITS FALSE NEIGHBOUR: 'it returns false'. Refute it at one input. -/
def fnTagOtherWrong : ChangeSpec := { name := "fnTagOther", fn := fun _ => fun
  | [d1, d2] => { results := [.lit (.bool false)], args := [d1, d2] }
  | _ => none }
def FnTagOtherWrongFalsely : Prop := fnTagOtherRow.holds Try.pinned (OpenSpec.ofChange fnTagOtherWrong)

/-- 'laws.FnTagEmpty': WHATEVER THE INPUT: true; the input reads as it did. -/
def fnTagEmptySpec : ChangeSpec := { name := "fnTagEmpty", fn := fun _ => fun
  | [d] => { results := [.lit (.bool true)], args := [d] }
  | _ => none }
def fnTagEmptyRow : OpenClaim := { program := "ytdcadhojlhaeoaa", sum := "7362cff8ae38ff283022b780cbf08bb5fe9644b86e069b581343c34b0d61ef4c", func := "loop.example/mixrelay/laws.FnTagEmpty", spec := "fnTagEmpty", unfollowed := true, recurses := true, apart := false }
def FnTagEmptySaid : Prop := fnTagEmptyRow.holds Try.pinned (OpenSpec.ofChange fnTagEmptySpec)

/-- ITS FALSE NEIGHBOUR: 'it returns false'. Refute it at one input. -/
def fnTagEmptyWrong : ChangeSpec := { name := "fnTagEmpty", fn := fun _ => fun
  | [d] => { results := [.lit (.bool false)], args := [d] }
  | _ => none }
def FnTagEmptyWrongFalsely : Prop := fnTagEmptyRow.holds Try.pinned (OpenSpec.ofChange fnTagEmptyWrong)

/-- 'laws.FnTagNext': WHATEVER THE INPUT: true; the input reads as it did. -/
def fnTagNextSpec : ChangeSpec := { name := "fnTagNext", fn := fun _ => fun
  | [d1, d2] => { results := [.lit (.bool true)], args := [d1, d2] }
  | _ => none }
def fnTagNextRow : OpenClaim := { program := "ytdcadhojlhaeoaa", sum := "7362cff8ae38ff283022b780cbf08bb5fe9644b86e069b581343c34b0d61ef4c", func := "loop.example/mixrelay/laws.FnTagNext", spec := "fnTagNext", unfollowed := true, recurses := true, apart := false }
def FnTagNextSaid : Prop := fnTagNextRow.holds Try.pinned (OpenSpec.ofChange fnTagNextSpec)

/-- ITS FALSE NEIGHBOUR: 'it returns false'. Refute it at one input. -/
def fnTagNextWrong : ChangeSpec := { name := "fnTagNext", fn := fun _ => fun
  | [d1, d2] => { results := [.lit (.bool false)], args := [d1, d2] }
  | _ => none }
def FnTagNextWrongFalsely : Prop := fnTagNextRow.holds Try.pinned (OpenSpec.ofChange fnTagNextWrong)

/-- 'laws.FnExactTagOf': WHATEVER THE INPUT: true; the input reads as it did. -/
def fnExactTagOfSpec : ChangeSpec := { name := "fnExactTagOf", fn := fun _ => fun
  | [d1, d2] => { results := [.lit (.bool true)], args := [d1, d2] }
  | _ => none }
def fnExactTagOfRow : OpenClaim := { program := "ytdcadhojlhaeoaa", sum := "7362cff8ae38ff283022b780cbf08bb5fe9644b86e069b581343c34b0d61ef4c", func := "loop.example/mixrelay/laws.FnExactTagOf", spec := "fnExactTagOf", unfollowed := true, recurses := true, apart := false }
def FnExactTagOfSaid : Prop := fnExactTagOfRow.holds Try.pinned (OpenSpec.ofChange fnExactTagOfSpec)

/-- ITS FALSE NEIGHBOUR: 'it returns false'. Refute it at one input. -/
def fnExactTagOfWrong : ChangeSpec := { name := "fnExactTagOf", fn := fun _ => fun
  | [d1, d2] => { results := [.lit (.bool false)], args := [d1, d2] }
  | _ => none }
def FnExactTagOfWrongFalsely : Prop := fnExactTagOfRow.holds Try.pinned (OpenSpec.ofChange fnExactTagOfWrong)

/-- 'laws.FnExactTagCheck': WHATEVER THE INPUT: true; the input reads as it did. -/
def fnExactTagCheckSpec : ChangeSpec := { name := "fnExactTagCheck", fn := fun _ => fun
  | [d1, d2, d3] => { results := [.lit (.bool true)], args := [d1, d2, d3] }
  | _ => none }
def fnExactTagCheckRow : OpenClaim := { program := "ytdcadhojlhaeoaa", sum := "7362cff8ae38ff283022b780cbf08bb5fe9644b86e069b581343c34b0d61ef4c", func := "loop.example/mixrelay/laws.FnExactTagCheck", spec := "fnExactTagCheck", unfollowed := true, recurses := true, apart := false }
def FnExactTagCheckSaid : Prop := fnExactTagCheckRow.holds Try.pinned (OpenSpec.ofChange fnExactTagCheckSpec)

/-- ITS FALSE NEIGHBOUR: 'it returns false'. Refute it at one input. -/
def fnExactTagCheckWrong : ChangeSpec := { name := "fnExactTagCheck", fn := fun _ => fun
  | [d1, d2, d3] => { results := [.lit (.bool false)], args := [d1, d2, d3] }
  | _ => none }
def FnExactTagCheckWrongFalsely : Prop := fnExactTagCheckRow.holds Try.pinned (OpenSpec.ofChange fnExactTagCheckWrong)

/- THE SECOND FORM. 'bulk': how many values and letters a reading holds, each counted each time it is reached (what is shared counts as often as it is met; a slice's spare places count too). A statement '..UptoSaid' is the law's where the arguments, and the package variables that the reading takes, are together of bulk at most 1048576: NARROWER than '..Said'. Prove '..Said' where nothing that the law and all that it calls make is longer than what came in: it says more and counts as full. Else prove '..UptoSaid'. A law counts once. -/
mutual
def uptoBulk {H : Type} : DataW H → Nat
  | .lit (.string bytes) => bytes.length + 1
  | .lit _ => 1
  | .nil => 1
  | .ptr d => uptoBulk d + 1
  | .slice elems spare => uptoBulkAll elems + uptoBulkAll spare + 1
  | .agg parts => uptoBulkAll parts + 1
  | .iface _ d => uptoBulk d + 1
  | .map entries => uptoBulkEntries entries + 1
  | .held _ => 1
def uptoBulkAll {H : Type} : List (DataW H) → Nat
  | [] => 0
  | d :: r => uptoBulk d + uptoBulkAll r
def uptoBulkEntries {H : Type} : List (Lit × DataW H) → Nat
  | [] => 0
  | x :: r => uptoBulkEntry x + uptoBulkEntries r
def uptoBulkEntry {H : Type} : Lit × DataW H → Nat
  | (.string bytes, d) => bytes.length + uptoBulk d + 1
  | (_, d) => uptoBulk d + 1
 end
def uptoSmall : (H : Type) → List (DataW H) → Bool := fun _ ds => decide (uptoBulkAll ds ≤ 1048576)
def OpenSpec.upto (s : _root_.Go.ChangeSpec) : _root_.Go.OpenSpec := { _root_.Go.OpenSpec.ofChange s with cond := some uptoSmall }

/-- 'laws.FnTag', WHERE WHAT IT READS IS OF BULK AT MOST 1048576: true; the input reads as it did. -/
def fnTagUptoRow : OpenClaim := { program := "ytdcadhojlhaeoaa", sum := "7362cff8ae38ff283022b780cbf08bb5fe9644b86e069b581343c34b0d61ef4c", func := "loop.example/mixrelay/laws.FnTag", spec := "fnTag", unfollowed := true, recurses := true, apart := false, narrowed := true }
def FnTagUptoSaid : Prop := fnTagUptoRow.holds Try.pinned (OpenSpec.upto fnTagSpec)

/-- 'laws.FnTagChange', WHERE WHAT IT READS IS OF BULK AT MOST 1048576: true; the input reads as it did. -/
def fnTagChangeUptoRow : OpenClaim := { program := "ytdcadhojlhaeoaa", sum := "7362cff8ae38ff283022b780cbf08bb5fe9644b86e069b581343c34b0d61ef4c", func := "loop.example/mixrelay/laws.FnTagChange", spec := "fnTagChange", unfollowed := true, recurses := true, apart := false, narrowed := true }
def FnTagChangeUptoSaid : Prop := fnTagChangeUptoRow.holds Try.pinned (OpenSpec.upto fnTagChangeSpec)

/-- 'laws.FnTagOther', WHERE WHAT IT READS IS OF BULK AT MOST 1048576: true; the input reads as it did. -/
def fnTagOtherUptoRow : OpenClaim := { program := "ytdcadhojlhaeoaa", sum := "7362cff8ae38ff283022b780cbf08bb5fe9644b86e069b581343c34b0d61ef4c", func := "loop.example/mixrelay/laws.FnTagOther", spec := "fnTagOther", unfollowed := true, recurses := true, apart := false, narrowed := true }
def FnTagOtherUptoSaid : Prop := fnTagOtherUptoRow.holds Try.pinned (OpenSpec.upto fnTagOtherSpec)

/-- 'laws.FnTagEmpty', WHERE WHAT IT READS IS OF BULK AT MOST 1048576: true; the input reads as it did. -/
def fnTagEmptyUptoRow : OpenClaim := { program := "ytdcadhojlhaeoaa", sum := "7362cff8ae38ff283022b780cbf08bb5fe9644b86e069b581343c34b0d61ef4c", func := "loop.example/mixrelay/laws.FnTagEmpty", spec := "fnTagEmpty", unfollowed := true, recurses := true, apart := false, narrowed := true }
def FnTagEmptyUptoSaid : Prop := fnTagEmptyUptoRow.holds Try.pinned (OpenSpec.upto fnTagEmptySpec)

/-- 'laws.FnTagNext', WHERE WHAT IT READS IS OF BULK AT MOST 1048576: true; the input reads as it did. -/
def fnTagNextUptoRow : OpenClaim := { program := "ytdcadhojlhaeoaa", sum := "7362cff8ae38ff283022b780cbf08bb5fe9644b86e069b581343c34b0d61ef4c", func := "loop.example/mixrelay/laws.FnTagNext", spec := "fnTagNext", unfollowed := true, recurses := true, apart := false, narrowed := true }
def FnTagNextUptoSaid : Prop := fnTagNextUptoRow.holds Try.pinned (OpenSpec.upto fnTagNextSpec)

/-- 'laws.FnExactTagOf', WHERE WHAT IT READS IS OF BULK AT MOST 1048576: true; the input reads as it did. -/
def fnExactTagOfUptoRow : OpenClaim := { program := "ytdcadhojlhaeoaa", sum := "7362cff8ae38ff283022b780cbf08bb5fe9644b86e069b581343c34b0d61ef4c", func := "loop.example/mixrelay/laws.FnExactTagOf", spec := "fnExactTagOf", unfollowed := true, recurses := true, apart := false, narrowed := true }
def FnExactTagOfUptoSaid : Prop := fnExactTagOfUptoRow.holds Try.pinned (OpenSpec.upto fnExactTagOfSpec)

/-- 'laws.FnExactTagCheck', WHERE WHAT IT READS IS OF BULK AT MOST 1048576: true; the input reads as it did. -/
def fnExactTagCheckUptoRow : OpenClaim := { program := "ytdcadhojlhaeoaa", sum := "7362cff8ae38ff283022b780cbf08bb5fe9644b86e069b581343c34b0d61ef4c", func := "loop.example/mixrelay/laws.FnExactTagCheck", spec := "fnExactTagCheck", unfollowed := true, recurses := true, apart := false, narrowed := true }
def FnExactTagCheckUptoSaid : Prop := fnExactTagCheckUptoRow.holds Try.pinned (OpenSpec.upto fnExactTagCheckSpec)

end Rows
end Go.Proofs.Ytdcadhojlhaeoaa
