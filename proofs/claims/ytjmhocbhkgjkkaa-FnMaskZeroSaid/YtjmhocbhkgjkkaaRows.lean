/-
  No cell of these rows narrows 'for every input' (looked for: loops, veiled, ifaces, maps, wideKeys, modest, calm, conditions, laid).
  DERIVED. THE GIVEN ROWS OF THIS SEAT. 10 by the template 'for every input the law returns true; each argument reads behind the call as it read before'; 0 by the template 'total and deterministic' (their statements: YtjmhocbhkgjkkaaTotals.lean).
  GIVEN WITH THE SEED: the statements are not yours to turn. If you find one false, say at which input.
  Laid BY PROGRAM, IN A SANDBOX (cutbox-rows.mjs): the forced cells as the released guide's own fill.sh prints them over the translation ff4ce0e1d91a6a8a… (all of the seat's roots in one cut). By AI agents, Wed Nov 11 2026. No macro, syntax, notation, axiom, sorry.
-/
import Derived.Test.YtjmhocbhkgjkkaaChecked
import GoSem.Claim
import GoSem.ClaimJoined
import GoSem.ClaimMapViews
import Derived.JoinedTies
import Derived.KernelRfl
namespace Go.Proofs.Ytjmhocbhkgjkkaa
/- THE CELL 'sum', in the pinned program and in every row, IS THE sha256 OF THE DUMP (.gsa) THAT YtjmhocbhkgjkkaaProg.lean LOADS. Nothing in Lean hashes anything: it is a label: what it is worth is what the hold of that sum in a sandbox is worth. -/
noncomputable def Try.pinned : Pinned := { name := "ytjmhocbhkgjkkaa", sum := "ff4ce0e1d91a6a8ad65c6694185f2e9c0208e83d98ed983349e232456f18bbcc", checked := Try.checked }
namespace Rows
def none {H : Type} : Left H := { results := [], args := [] }

/-- 'laws.FnMask': WHATEVER THE INPUT: true; the input reads as it did. -/
def fnMaskSpec : ChangeSpec := { name := "fnMask", fn := fun _ => fun
  | [d] => { results := [.lit (.bool true)], args := [d] }
  | _ => none }
def fnMaskRow : OpenClaim := { program := "ytjmhocbhkgjkkaa", sum := "ff4ce0e1d91a6a8ad65c6694185f2e9c0208e83d98ed983349e232456f18bbcc", func := "loop.example/mixrelay/laws.FnMask", spec := "fnMask", unfollowed := true, recurses := true, apart := false }
def FnMaskSaid : Prop := fnMaskRow.holds Try.pinned (OpenSpec.ofChange fnMaskSpec)

/-- ITS FALSE NEIGHBOUR: 'it returns false'. Refute it at one input. -/
def fnMaskWrong : ChangeSpec := { name := "fnMask", fn := fun _ => fun
  | [d] => { results := [.lit (.bool false)], args := [d] }
  | _ => none }
def FnMaskWrongFalsely : Prop := fnMaskRow.holds Try.pinned (OpenSpec.ofChange fnMaskWrong)

/-- 'laws.FnMaskOrder': WHATEVER THE INPUT: true; the input reads as it did. -/
def fnMaskOrderSpec : ChangeSpec := { name := "fnMaskOrder", fn := fun _ => fun
  | [d1, d2] => { results := [.lit (.bool true)], args := [d1, d2] }
  | _ => none }
def fnMaskOrderRow : OpenClaim := { program := "ytjmhocbhkgjkkaa", sum := "ff4ce0e1d91a6a8ad65c6694185f2e9c0208e83d98ed983349e232456f18bbcc", func := "loop.example/mixrelay/laws.FnMaskOrder", spec := "fnMaskOrder", unfollowed := true, recurses := true, apart := false }
def FnMaskOrderSaid : Prop := fnMaskOrderRow.holds Try.pinned (OpenSpec.ofChange fnMaskOrderSpec)

/-- ITS FALSE NEIGHBOUR: 'it returns false'. Refute it at one input. -/
def fnMaskOrderWrong : ChangeSpec := { name := "fnMaskOrder", fn := fun _ => fun
  | [d1, d2] => { results := [.lit (.bool false)], args := [d1, d2] }
  | _ => none }
def FnMaskOrderWrongFalsely : Prop := fnMaskOrderRow.holds Try.pinned (OpenSpec.ofChange fnMaskOrderWrong)

/-- 'laws.FnMaskZero': WHATEVER THE INPUT: true; the input reads as it did. -/
def fnMaskZeroSpec : ChangeSpec := { name := "fnMaskZero", fn := fun _ => fun
  | [d] => { results := [.lit (.bool true)], args := [d] }
  | _ => none }
def fnMaskZeroRow : OpenClaim := { program := "ytjmhocbhkgjkkaa", sum := "ff4ce0e1d91a6a8ad65c6694185f2e9c0208e83d98ed983349e232456f18bbcc", func := "loop.example/mixrelay/laws.FnMaskZero", spec := "fnMaskZero", unfollowed := true, recurses := true, apart := false }
def FnMaskZeroSaid : Prop := fnMaskZeroRow.holds Try.pinned (OpenSpec.ofChange fnMaskZeroSpec)

/-- ITS FALSE NEIGHBOUR: 'it returns false'. Refute it at one input. -/
def fnMaskZeroWrong : ChangeSpec := { name := "fnMaskZero", fn := fun _ => fun
  | [d] => { results := [.lit (.bool false)], args := [d] }
  | _ => none }
def FnMaskZeroWrongFalsely : Prop := fnMaskZeroRow.holds Try.pinned (OpenSpec.ofChange fnMaskZeroWrong)

/-- 'laws.FnMaskOne': WHATEVER THE INPUT: true; the input reads as it did. -/
def fnMaskOneSpec : ChangeSpec := { name := "fnMaskOne", fn := fun _ => fun
  | [d1, d2] => { results := [.lit (.bool true)], args := [d1, d2] }
  | _ => none }
def fnMaskOneRow : OpenClaim := { program := "ytjmhocbhkgjkkaa", sum := "ff4ce0e1d91a6a8ad65c6694185f2e9c0208e83d98ed983349e232456f18bbcc", func := "loop.example/mixrelay/laws.FnMaskOne", spec := "fnMaskOne", unfollowed := true, recurses := true, apart := false }
def FnMaskOneSaid : Prop := fnMaskOneRow.holds Try.pinned (OpenSpec.ofChange fnMaskOneSpec)

/-- ITS FALSE NEIGHBOUR: 'it returns false'. Refute it at one input. -/
def fnMaskOneWrong : ChangeSpec := { name := "fnMaskOne", fn := fun _ => fun
  | [d1, d2] => { results := [.lit (.bool false)], args := [d1, d2] }
  | _ => none }
def FnMaskOneWrongFalsely : Prop := fnMaskOneRow.holds Try.pinned (OpenSpec.ofChange fnMaskOneWrong)

/-- 'laws.FnMaskLength': WHATEVER THE INPUT: true; the input reads as it did. -/
def fnMaskLengthSpec : ChangeSpec := { name := "fnMaskLength", fn := fun _ => fun
  | [d] => { results := [.lit (.bool true)], args := [d] }
  | _ => none }
def fnMaskLengthRow : OpenClaim := { program := "ytjmhocbhkgjkkaa", sum := "ff4ce0e1d91a6a8ad65c6694185f2e9c0208e83d98ed983349e232456f18bbcc", func := "loop.example/mixrelay/laws.FnMaskLength", spec := "fnMaskLength", unfollowed := true, recurses := true, apart := false }
def FnMaskLengthSaid : Prop := fnMaskLengthRow.holds Try.pinned (OpenSpec.ofChange fnMaskLengthSpec)

/-- ITS FALSE NEIGHBOUR: 'it returns false'. Refute it at one input. -/
def fnMaskLengthWrong : ChangeSpec := { name := "fnMaskLength", fn := fun _ => fun
  | [d] => { results := [.lit (.bool false)], args := [d] }
  | _ => none }
def FnMaskLengthWrongFalsely : Prop := fnMaskLengthRow.holds Try.pinned (OpenSpec.ofChange fnMaskLengthWrong)

/-- 'laws.FnStreamPart': WHATEVER THE INPUT: true; the input reads as it did. -/
def fnStreamPartSpec : ChangeSpec := { name := "fnStreamPart", fn := fun _ => fun
  | [d1, d2] => { results := [.lit (.bool true)], args := [d1, d2] }
  | _ => none }
def fnStreamPartRow : OpenClaim := { program := "ytjmhocbhkgjkkaa", sum := "ff4ce0e1d91a6a8ad65c6694185f2e9c0208e83d98ed983349e232456f18bbcc", func := "loop.example/mixrelay/laws.FnStreamPart", spec := "fnStreamPart", unfollowed := true, recurses := true, apart := false }
def FnStreamPartSaid : Prop := fnStreamPartRow.holds Try.pinned (OpenSpec.ofChange fnStreamPartSpec)

/-- ITS FALSE NEIGHBOUR: 'it returns false'. Refute it at one input. -/
def fnStreamPartWrong : ChangeSpec := { name := "fnStreamPart", fn := fun _ => fun
  | [d1, d2] => { results := [.lit (.bool false)], args := [d1, d2] }
  | _ => none }
def FnStreamPartWrongFalsely : Prop := fnStreamPartRow.holds Try.pinned (OpenSpec.ofChange fnStreamPartWrong)

/-- 'laws.FnStreamOther': WHATEVER THE INPUT: true; the input reads as it did. -/
def fnStreamOtherSpec : ChangeSpec := { name := "fnStreamOther", fn := fun _ => fun
  | [d1, d2] => { results := [.lit (.bool true)], args := [d1, d2] }
  | _ => none }
def fnStreamOtherRow : OpenClaim := { program := "ytjmhocbhkgjkkaa", sum := "ff4ce0e1d91a6a8ad65c6694185f2e9c0208e83d98ed983349e232456f18bbcc", func := "loop.example/mixrelay/laws.FnStreamOther", spec := "fnStreamOther", unfollowed := true, recurses := true, apart := false }
def FnStreamOtherSaid : Prop := fnStreamOtherRow.holds Try.pinned (OpenSpec.ofChange fnStreamOtherSpec)

/-- ITS FALSE NEIGHBOUR: 'it returns false'. Refute it at one input. -/
def fnStreamOtherWrong : ChangeSpec := { name := "fnStreamOther", fn := fun _ => fun
  | [d1, d2] => { results := [.lit (.bool false)], args := [d1, d2] }
  | _ => none }
def FnStreamOtherWrongFalsely : Prop := fnStreamOtherRow.holds Try.pinned (OpenSpec.ofChange fnStreamOtherWrong)

/-- 'laws.FnExactStreamOf': WHATEVER THE INPUT: true; the input reads as it did. -/
def fnExactStreamOfSpec : ChangeSpec := { name := "fnExactStreamOf", fn := fun _ => fun
  | [d1, d2] => { results := [.lit (.bool true)], args := [d1, d2] }
  | _ => none }
def fnExactStreamOfRow : OpenClaim := { program := "ytjmhocbhkgjkkaa", sum := "ff4ce0e1d91a6a8ad65c6694185f2e9c0208e83d98ed983349e232456f18bbcc", func := "loop.example/mixrelay/laws.FnExactStreamOf", spec := "fnExactStreamOf", unfollowed := true, recurses := true, apart := false }
def FnExactStreamOfSaid : Prop := fnExactStreamOfRow.holds Try.pinned (OpenSpec.ofChange fnExactStreamOfSpec)

/-- ITS FALSE NEIGHBOUR: 'it returns false'. Refute it at one input. -/
def fnExactStreamOfWrong : ChangeSpec := { name := "fnExactStreamOf", fn := fun _ => fun
  | [d1, d2] => { results := [.lit (.bool false)], args := [d1, d2] }
  | _ => none }
def FnExactStreamOfWrongFalsely : Prop := fnExactStreamOfRow.holds Try.pinned (OpenSpec.ofChange fnExactStreamOfWrong)

/-- 'laws.FnExactMaskOn': WHATEVER THE INPUT: true; the input reads as it did. -/
def fnExactMaskOnSpec : ChangeSpec := { name := "fnExactMaskOn", fn := fun _ => fun
  | [d1, d2] => { results := [.lit (.bool true)], args := [d1, d2] }
  | _ => none }
def fnExactMaskOnRow : OpenClaim := { program := "ytjmhocbhkgjkkaa", sum := "ff4ce0e1d91a6a8ad65c6694185f2e9c0208e83d98ed983349e232456f18bbcc", func := "loop.example/mixrelay/laws.FnExactMaskOn", spec := "fnExactMaskOn", unfollowed := true, recurses := true, apart := false }
def FnExactMaskOnSaid : Prop := fnExactMaskOnRow.holds Try.pinned (OpenSpec.ofChange fnExactMaskOnSpec)

/-- ITS FALSE NEIGHBOUR: 'it returns false'. Refute it at one input. -/
def fnExactMaskOnWrong : ChangeSpec := { name := "fnExactMaskOn", fn := fun _ => fun
  | [d1, d2] => { results := [.lit (.bool false)], args := [d1, d2] }
  | _ => none }
def FnExactMaskOnWrongFalsely : Prop := fnExactMaskOnRow.holds Try.pinned (OpenSpec.ofChange fnExactMaskOnWrong)

/-- 'laws.FnExactMaskOff': WHATEVER THE INPUT: true; the input reads as it did. -/
def fnExactMaskOffSpec : ChangeSpec := { name := "fnExactMaskOff", fn := fun _ => fun
  | [d1, d2] => { results := [.lit (.bool true)], args := [d1, d2] }
  | _ => none }
def fnExactMaskOffRow : OpenClaim := { program := "ytjmhocbhkgjkkaa", sum := "ff4ce0e1d91a6a8ad65c6694185f2e9c0208e83d98ed983349e232456f18bbcc", func := "loop.example/mixrelay/laws.FnExactMaskOff", spec := "fnExactMaskOff", unfollowed := true, recurses := true, apart := false }
def FnExactMaskOffSaid : Prop := fnExactMaskOffRow.holds Try.pinned (OpenSpec.ofChange fnExactMaskOffSpec)

/-- ITS FALSE NEIGHBOUR: 'it returns false'. Refute it at one input. -/
def fnExactMaskOffWrong : ChangeSpec := { name := "fnExactMaskOff", fn := fun _ => fun
  | [d1, d2] => { results := [.lit (.bool false)], args := [d1, d2] }
  | _ => none }
def FnExactMaskOffWrongFalsely : Prop := fnExactMaskOffRow.holds Try.pinned (OpenSpec.ofChange fnExactMaskOffWrong)

/- THE SECOND FORM. 'bulk': how many values and letters a reading holds, each counted each time it is reached (what is shared counts as often as it is met; a slice's spare places count too). A statement '..UptoSaid' is the law's where the arguments, and the package variables that the reading takes, are together of bulk at most 1048576: NARROWER than '..Said'. Prove '..Said' where nothing that the law and all that it calls make is longer than what came in: it says more and counts as full. Else prove '..UptoSaid'. A law counts once. -/
mutual
def uptoBulk {H : Type} : DataW H → Nat
  | .lit (.string bytes) => bytes.length + 1
  | .lit _ => 1
  | .nil => 1
  | .ptr d => uptoBulk d + 1
  | .slice elems spare => uptoBulkAll elems + uptoBulkAll spare + 1
  | .agg parts => uptoBulkAll parts + 1
  | .iface _ d => uptoBulk d + 1
  | .map entries => uptoBulkEntries entries + 1
  | .held _ => 1
def uptoBulkAll {H : Type} : List (DataW H) → Nat
  | [] => 0
  | d :: r => uptoBulk d + uptoBulkAll r
def uptoBulkEntries {H : Type} : List (Lit × DataW H) → Nat
  | [] => 0
  | x :: r => uptoBulkEntry x + uptoBulkEntries r
def uptoBulkEntry {H : Type} : Lit × DataW H → Nat
  | (.string bytes, d) => bytes.length + uptoBulk d + 1
  | (_, d) => uptoBulk d + 1
 end
def uptoSmall : (H : Type) → List (DataW H) → Bool := fun _ ds => decide (uptoBulkAll ds ≤ 1048576)
def OpenSpec.upto (s : _root_.Go.ChangeSpec) : _root_.Go.OpenSpec := { _root_.Go.OpenSpec.ofChange s with cond := some uptoSmall }

/-- 'laws.FnMask', WHERE WHAT IT READS IS OF BULK AT MOST 1048576: true; the input reads as it did. -/
def fnMaskUptoRow : OpenClaim := { program := "ytjmhocbhkgjkkaa", sum := "ff4ce0e1d91a6a8ad65c6694185f2e9c0208e83d98ed983349e232456f18bbcc", func := "loop.example/mixrelay/laws.FnMask", spec := "fnMask", unfollowed := true, recurses := true, apart := false, narrowed := true }
def FnMaskUptoSaid : Prop := fnMaskUptoRow.holds Try.pinned (OpenSpec.upto fnMaskSpec)

/-- 'laws.FnMaskOrder', WHERE WHAT IT READS IS OF BULK AT MOST 1048576: true; the input reads as it did. -/
def fnMaskOrderUptoRow : OpenClaim := { program := "ytjmhocbhkgjkkaa", sum := "ff4ce0e1d91a6a8ad65c6694185f2e9c0208e83d98ed983349e232456f18bbcc", func := "loop.example/mixrelay/laws.FnMaskOrder", spec := "fnMaskOrder", unfollowed := true, recurses := true, apart := false, narrowed := true }
def FnMaskOrderUptoSaid : Prop := fnMaskOrderUptoRow.holds Try.pinned (OpenSpec.upto fnMaskOrderSpec)

/-- 'laws.FnMaskZero', WHERE WHAT IT READS IS OF BULK AT MOST 1048576: true; the input reads as it did. -/
def fnMaskZeroUptoRow : OpenClaim := { program := "ytjmhocbhkgjkkaa", sum := "ff4ce0e1d91a6a8ad65c6694185f2e9c0208e83d98ed983349e232456f18bbcc", func := "loop.example/mixrelay/laws.FnMaskZero", spec := "fnMaskZero", unfollowed := true, recurses := true, apart := false, narrowed := true }
def FnMaskZeroUptoSaid : Prop := fnMaskZeroUptoRow.holds Try.pinned (OpenSpec.upto fnMaskZeroSpec)

/-- 'laws.FnMaskOne', WHERE WHAT IT READS IS OF BULK AT MOST 1048576: true; the input reads as it did. -/
def fnMaskOneUptoRow : OpenClaim := { program := "ytjmhocbhkgjkkaa", sum := "ff4ce0e1d91a6a8ad65c6694185f2e9c0208e83d98ed983349e232456f18bbcc", func := "loop.example/mixrelay/laws.FnMaskOne", spec := "fnMaskOne", unfollowed := true, recurses := true, apart := false, narrowed := true }
def FnMaskOneUptoSaid : Prop := fnMaskOneUptoRow.holds Try.pinned (OpenSpec.upto fnMaskOneSpec)

/-- 'laws.FnMaskLength', WHERE WHAT IT READS IS OF BULK AT MOST 1048576: true; the input reads as it did. -/
def fnMaskLengthUptoRow : OpenClaim := { program := "ytjmhocbhkgjkkaa", sum := "ff4ce0e1d91a6a8ad65c6694185f2e9c0208e83d98ed983349e232456f18bbcc", func := "loop.example/mixrelay/laws.FnMaskLength", spec := "fnMaskLength", unfollowed := true, recurses := true, apart := false, narrowed := true }
def FnMaskLengthUptoSaid : Prop := fnMaskLengthUptoRow.holds Try.pinned (OpenSpec.upto fnMaskLengthSpec)

/-- 'laws.FnStreamPart', WHERE WHAT IT READS IS OF BULK AT MOST 1048576: true; the input reads as it did. -/
def fnStreamPartUptoRow : OpenClaim := { program := "ytjmhocbhkgjkkaa", sum := "ff4ce0e1d91a6a8ad65c6694185f2e9c0208e83d98ed983349e232456f18bbcc", func := "loop.example/mixrelay/laws.FnStreamPart", spec := "fnStreamPart", unfollowed := true, recurses := true, apart := false, narrowed := true }
def FnStreamPartUptoSaid : Prop := fnStreamPartUptoRow.holds Try.pinned (OpenSpec.upto fnStreamPartSpec)

/-- 'laws.FnStreamOther', WHERE WHAT IT READS IS OF BULK AT MOST 1048576: true; the input reads as it did. -/
def fnStreamOtherUptoRow : OpenClaim := { program := "ytjmhocbhkgjkkaa", sum := "ff4ce0e1d91a6a8ad65c6694185f2e9c0208e83d98ed983349e232456f18bbcc", func := "loop.example/mixrelay/laws.FnStreamOther", spec := "fnStreamOther", unfollowed := true, recurses := true, apart := false, narrowed := true }
def FnStreamOtherUptoSaid : Prop := fnStreamOtherUptoRow.holds Try.pinned (OpenSpec.upto fnStreamOtherSpec)

/-- 'laws.FnExactStreamOf', WHERE WHAT IT READS IS OF BULK AT MOST 1048576: true; the input reads as it did. -/
def fnExactStreamOfUptoRow : OpenClaim := { program := "ytjmhocbhkgjkkaa", sum := "ff4ce0e1d91a6a8ad65c6694185f2e9c0208e83d98ed983349e232456f18bbcc", func := "loop.example/mixrelay/laws.FnExactStreamOf", spec := "fnExactStreamOf", unfollowed := true, recurses := true, apart := false, narrowed := true }
def FnExactStreamOfUptoSaid : Prop := fnExactStreamOfUptoRow.holds Try.pinned (OpenSpec.upto fnExactStreamOfSpec)

/-- 'laws.FnExactMaskOn', WHERE WHAT IT READS IS OF BULK AT MOST 1048576: true; the input reads as it did. -/
def fnExactMaskOnUptoRow : OpenClaim := { program := "ytjmhocbhkgjkkaa", sum := "ff4ce0e1d91a6a8ad65c6694185f2e9c0208e83d98ed983349e232456f18bbcc", func := "loop.example/mixrelay/laws.FnExactMaskOn", spec := "fnExactMaskOn", unfollowed := true, recurses := true, apart := false, narrowed := true }
def FnExactMaskOnUptoSaid : Prop := fnExactMaskOnUptoRow.holds Try.pinned (OpenSpec.upto fnExactMaskOnSpec)

/-- 'laws.FnExactMaskOff', WHERE WHAT IT READS IS OF BULK AT MOST 1048576: true; the input reads as it did. -/
def fnExactMaskOffUptoRow : OpenClaim := { program := "ytjmhocbhkgjkkaa", sum := "ff4ce0e1d91a6a8ad65c6694185f2e9c0208e83d98ed983349e232456f18bbcc", func := "loop.example/mixrelay/laws.FnExactMaskOff", spec := "fnExactMaskOff", unfollowed := true, recurses := true, apart := false, narrowed := true }
def FnExactMaskOffUptoSaid : Prop := fnExactMaskOffUptoRow.holds Try.pinned (OpenSpec.upto fnExactMaskOffSpec)

end Rows
end Go.Proofs.Ytjmhocbhkgjkkaa
