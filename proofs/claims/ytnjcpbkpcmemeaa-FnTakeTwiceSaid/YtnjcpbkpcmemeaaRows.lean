/-
  No cell of these rows narrows 'for every input' (looked for: loops, veiled, ifaces, maps, wideKeys, modest, calm, conditions, laid).
  DERIVED. THE GIVEN ROWS OF THIS SEAT. 6 by the template 'for every input the law returns true; each argument reads behind the call as it read before'; 0 by the template 'total and deterministic' (their statements: YtnjcpbkpcmemeaaTotals.lean).
  GIVEN WITH THE SEED: the statements are not yours to turn. If you find one false, say at which input.
  Laid BY PROGRAM, IN A SANDBOX (cutbox-rows.mjs): the forced cells as the released guide's own fill.sh prints them over the translation 17d802534fd23459… (all of the seat's roots in one cut). By AI agents, Wed Nov 11 2026. No macro, syntax, notation, axiom, sorry.
-/
import Derived.Test.YtnjcpbkpcmemeaaChecked
import GoSem.Claim
import GoSem.ClaimJoined
import GoSem.ClaimMapViews
import Derived.JoinedTies
import Derived.KernelRfl
namespace Go.Proofs.Ytnjcpbkpcmemeaa
/- THE CELL 'sum', in the pinned program and in every row, IS THE sha256 OF THE DUMP (.gsa) THAT YtnjcpbkpcmemeaaProg.lean LOADS. Nothing in Lean hashes anything: it is a label: what it is worth is what the hold of that sum in a sandbox is worth. -/
noncomputable def Try.pinned : Pinned := { name := "ytnjcpbkpcmemeaa", sum := "17d802534fd234593318678a7b34f18ed540fb9c8cd0e2e799c6be009138666f", checked := Try.checked }
namespace Rows
def none {H : Type} : Left H := { results := [], args := [] }

/-- 'laws.FnMixNew': WHATEVER THE INPUT: true; the input reads as it did. -/
def fnMixNewSpec : ChangeSpec := { name := "fnMixNew", fn := fun _ => fun
  | [d] => { results := [.lit (.bool true)], args := [d] }
  | _ => none }
def fnMixNewRow : OpenClaim := { program := "ytnjcpbkpcmemeaa", sum := "17d802534fd234593318678a7b34f18ed540fb9c8cd0e2e799c6be009138666f", func := "loop.example/mixrelay/laws.FnMixNew", spec := "fnMixNew", apart := false }
def FnMixNewSaid : Prop := fnMixNewRow.holds Try.pinned (OpenSpec.ofChange fnMixNewSpec)

/-- ITS FALSE NEIGHBOUR: 'it returns false'. Refute it at one input. -/
def fnMixNewWrong : ChangeSpec := { name := "fnMixNew", fn := fun _ => fun
  | [d] => { results := [.lit (.bool false)], args := [d] }
  | _ => none }
def FnMixNewWrongFalsely : Prop := fnMixNewRow.holds Try.pinned (OpenSpec.ofChange fnMixNewWrong)

/-- 'laws.FnTake': WHATEVER THE INPUT: true; the input reads as it did. -/
def fnTakeSpec : ChangeSpec := { name := "fnTake", fn := fun _ => fun
  | [d] => { results := [.lit (.bool true)], args := [d] }
  | _ => none }
def fnTakeRow : OpenClaim := { program := "ytnjcpbkpcmemeaa", sum := "17d802534fd234593318678a7b34f18ed540fb9c8cd0e2e799c6be009138666f", func := "loop.example/mixrelay/laws.FnTake", spec := "fnTake", unfollowed := true, recurses := true, apart := false }
def FnTakeSaid : Prop := fnTakeRow.holds Try.pinned (OpenSpec.ofChange fnTakeSpec)

/-- ITS FALSE NEIGHBOUR: 'it returns false'. Refute it at one input. -/
def fnTakeWrong : ChangeSpec := { name := "fnTake", fn := fun _ => fun
  | [d] => { results := [.lit (.bool false)], args := [d] }
  | _ => none }
def FnTakeWrongFalsely : Prop := fnTakeRow.holds Try.pinned (OpenSpec.ofChange fnTakeWrong)

/-- 'laws.FnTakeTwice': WHATEVER THE INPUT: true; the input reads as it did. -/
def fnTakeTwiceSpec : ChangeSpec := { name := "fnTakeTwice", fn := fun _ => fun
  | [d] => { results := [.lit (.bool true)], args := [d] }
  | _ => none }
def fnTakeTwiceRow : OpenClaim := { program := "ytnjcpbkpcmemeaa", sum := "17d802534fd234593318678a7b34f18ed540fb9c8cd0e2e799c6be009138666f", func := "loop.example/mixrelay/laws.FnTakeTwice", spec := "fnTakeTwice", unfollowed := true, recurses := true, apart := false }
def FnTakeTwiceSaid : Prop := fnTakeTwiceRow.holds Try.pinned (OpenSpec.ofChange fnTakeTwiceSpec)

/-- ITS FALSE NEIGHBOUR: 'it returns false'. Refute it at one input. -/
def fnTakeTwiceWrong : ChangeSpec := { name := "fnTakeTwice", fn := fun _ => fun
  | [d] => { results := [.lit (.bool false)], args := [d] }
  | _ => none }
def FnTakeTwiceWrongFalsely : Prop := fnTakeTwiceRow.holds Try.pinned (OpenSpec.ofChange fnTakeTwiceWrong)

/-- 'laws.FnTakeBody': WHATEVER THE INPUT: true; the input reads as it did. -/
def fnTakeBodySpec : ChangeSpec := { name := "fnTakeBody", fn := fun _ => fun
  | [d1, d2] => { results := [.lit (.bool true)], args := [d1, d2] }
  | _ => none }
def fnTakeBodyRow : OpenClaim := { program := "ytnjcpbkpcmemeaa", sum := "17d802534fd234593318678a7b34f18ed540fb9c8cd0e2e799c6be009138666f", func := "loop.example/mixrelay/laws.FnTakeBody", spec := "fnTakeBody", unfollowed := true, recurses := true, apart := false }
def FnTakeBodySaid : Prop := fnTakeBodyRow.holds Try.pinned (OpenSpec.ofChange fnTakeBodySpec)

/-- ITS FALSE NEIGHBOUR: 'it returns false'. Refute it at one input. -/
def fnTakeBodyWrong : ChangeSpec := { name := "fnTakeBody", fn := fun _ => fun
  | [d1, d2] => { results := [.lit (.bool false)], args := [d1, d2] }
  | _ => none }
def FnTakeBodyWrongFalsely : Prop := fnTakeBodyRow.holds Try.pinned (OpenSpec.ofChange fnTakeBodyWrong)

/-- 'laws.FnTakeChanged': WHATEVER THE INPUT: true; the input reads as it did. -/
def fnTakeChangedSpec : ChangeSpec := { name := "fnTakeChanged", fn := fun _ => fun
  | [d1, d2] => { results := [.lit (.bool true)], args := [d1, d2] }
  | _ => none }
def fnTakeChangedRow : OpenClaim := { program := "ytnjcpbkpcmemeaa", sum := "17d802534fd234593318678a7b34f18ed540fb9c8cd0e2e799c6be009138666f", func := "loop.example/mixrelay/laws.FnTakeChanged", spec := "fnTakeChanged", unfollowed := true, recurses := true, apart := false }
def FnTakeChangedSaid : Prop := fnTakeChangedRow.holds Try.pinned (OpenSpec.ofChange fnTakeChangedSpec)

/-- ITS FALSE NEIGHBOUR: 'it returns false'. Refute it at one input. -/
def fnTakeChangedWrong : ChangeSpec := { name := "fnTakeChanged", fn := fun _ => fun
  | [d1, d2] => { results := [.lit (.bool false)], args := [d1, d2] }
  | _ => none }
def FnTakeChangedWrongFalsely : Prop := fnTakeChangedRow.holds Try.pinned (OpenSpec.ofChange fnTakeChangedWrong)

/-- 'laws.FnTakeCodes': WHATEVER THE INPUT: true; the input reads as it did. -/
def fnTakeCodesSpec : ChangeSpec := { name := "fnTakeCodes", fn := fun _ => fun
  | [d] => { results := [.lit (.bool true)], args := [d] }
  | _ => none }
def fnTakeCodesRow : OpenClaim := { program := "ytnjcpbkpcmemeaa", sum := "17d802534fd234593318678a7b34f18ed540fb9c8cd0e2e799c6be009138666f", func := "loop.example/mixrelay/laws.FnTakeCodes", spec := "fnTakeCodes", unfollowed := true, recurses := true, apart := false }
def FnTakeCodesSaid : Prop := fnTakeCodesRow.holds Try.pinned (OpenSpec.ofChange fnTakeCodesSpec)

/-- ITS FALSE NEIGHBOUR: 'it returns false'. Refute it at one input. -/
def fnTakeCodesWrong : ChangeSpec := { name := "fnTakeCodes", fn := fun _ => fun
  | [d] => { results := [.lit (.bool false)], args := [d] }
  | _ => none }
def FnTakeCodesWrongFalsely : Prop := fnTakeCodesRow.holds Try.pinned (OpenSpec.ofChange fnTakeCodesWrong)

/- THE SECOND FORM. 'bulk': how many values and letters a reading holds, each counted each time it is reached (what is shared counts as often as it is met; a slice's spare places count too). A statement '..UptoSaid' is the law's where the arguments, and the package variables that the reading takes, are together of bulk at most 1048576: NARROWER than '..Said'. Prove '..Said' where nothing that the law and all that it calls make is longer than what came in: it says more and counts as full. Else prove '..UptoSaid'. A law counts once. -/
mutual
def uptoBulk {H : Type} : DataW H → Nat
  | .lit (.string bytes) => bytes.length + 1
  | .lit _ => 1
  | .nil => 1
  | .ptr d => uptoBulk d + 1
  | .slice elems spare => uptoBulkAll elems + uptoBulkAll spare + 1
  | .agg parts => uptoBulkAll parts + 1
  | .iface _ d => uptoBulk d + 1
  | .map entries => uptoBulkEntries entries + 1
  | .held _ => 1
def uptoBulkAll {H : Type} : List (DataW H) → Nat
  | [] => 0
  | d :: r => uptoBulk d + uptoBulkAll r
def uptoBulkEntries {H : Type} : List (Lit × DataW H) → Nat
  | [] => 0
  | x :: r => uptoBulkEntry x + uptoBulkEntries r
def uptoBulkEntry {H : Type} : Lit × DataW H → Nat
  | (.string bytes, d) => bytes.length + uptoBulk d + 1
  | (_, d) => uptoBulk d + 1
 end
def uptoSmall : (H : Type) → List (DataW H) → Bool := fun _ ds => decide (uptoBulkAll ds ≤ 1048576)
def OpenSpec.upto (s : _root_.Go.ChangeSpec) : _root_.Go.OpenSpec := { _root_.Go.OpenSpec.ofChange s with cond := some uptoSmall }

/-- 'laws.FnMixNew', WHERE WHAT IT READS IS OF BULK AT MOST 1048576: true; the input reads as it did. -/
def fnMixNewUptoRow : OpenClaim := { program := "ytnjcpbkpcmemeaa", sum := "17d802534fd234593318678a7b34f18ed540fb9c8cd0e2e799c6be009138666f", func := "loop.example/mixrelay/laws.FnMixNew", spec := "fnMixNew", apart := false, narrowed := true }
def FnMixNewUptoSaid : Prop := fnMixNewUptoRow.holds Try.pinned (OpenSpec.upto fnMixNewSpec)

/-- 'laws.FnTake', WHERE WHAT IT READS IS OF BULK AT MOST 1048576: true; the input reads as it did. -/
def fnTakeUptoRow : OpenClaim := { program := "ytnjcpbkpcmemeaa", sum := "17d802534fd234593318678a7b34f18ed540fb9c8cd0e2e799c6be009138666f", func := "loop.example/mixrelay/laws.FnTake", spec := "fnTake", unfollowed := true, recurses := true, apart := false, narrowed := true }
def FnTakeUptoSaid : Prop := fnTakeUptoRow.holds Try.pinned (OpenSpec.upto fnTakeSpec)

/-- 'laws.FnTakeTwice', WHERE WHAT IT READS IS OF BULK AT MOST 1048576: true; the input reads as it did. -/
def fnTakeTwiceUptoRow : OpenClaim := { program := "ytnjcpbkpcmemeaa", sum := "17d802534fd234593318678a7b34f18ed540fb9c8cd0e2e799c6be009138666f", func := "loop.example/mixrelay/laws.FnTakeTwice", spec := "fnTakeTwice", unfollowed := true, recurses := true, apart := false, narrowed := true }
def FnTakeTwiceUptoSaid : Prop := fnTakeTwiceUptoRow.holds Try.pinned (OpenSpec.upto fnTakeTwiceSpec)

/-- 'laws.FnTakeBody', WHERE WHAT IT READS IS OF BULK AT MOST 1048576: true; the input reads as it did. -/
def fnTakeBodyUptoRow : OpenClaim := { program := "ytnjcpbkpcmemeaa", sum := "17d802534fd234593318678a7b34f18ed540fb9c8cd0e2e799c6be009138666f", func := "loop.example/mixrelay/laws.FnTakeBody", spec := "fnTakeBody", unfollowed := true, recurses := true, apart := false, narrowed := true }
def FnTakeBodyUptoSaid : Prop := fnTakeBodyUptoRow.holds Try.pinned (OpenSpec.upto fnTakeBodySpec)

/-- 'laws.FnTakeChanged', WHERE WHAT IT READS IS OF BULK AT MOST 1048576: true; the input reads as it did. -/
def fnTakeChangedUptoRow : OpenClaim := { program := "ytnjcpbkpcmemeaa", sum := "17d802534fd234593318678a7b34f18ed540fb9c8cd0e2e799c6be009138666f", func := "loop.example/mixrelay/laws.FnTakeChanged", spec := "fnTakeChanged", unfollowed := true, recurses := true, apart := false, narrowed := true }
def FnTakeChangedUptoSaid : Prop := fnTakeChangedUptoRow.holds Try.pinned (OpenSpec.upto fnTakeChangedSpec)

/-- 'laws.FnTakeCodes', WHERE WHAT IT READS IS OF BULK AT MOST 1048576: true; the input reads as it did. -/
def fnTakeCodesUptoRow : OpenClaim := { program := "ytnjcpbkpcmemeaa", sum := "17d802534fd234593318678a7b34f18ed540fb9c8cd0e2e799c6be009138666f", func := "loop.example/mixrelay/laws.FnTakeCodes", spec := "fnTakeCodes", unfollowed := true, recurses := true, apart := false, narrowed := true }
def FnTakeCodesUptoSaid : Prop := fnTakeCodesUptoRow.holds Try.pinned (OpenSpec.upto fnTakeCodesSpec)

end Rows
end Go.Proofs.Ytnjcpbkpcmemeaa
