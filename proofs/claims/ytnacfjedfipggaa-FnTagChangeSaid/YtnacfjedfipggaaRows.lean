/-
  No cell of these rows narrows 'for every input' (looked for: loops, veiled, ifaces, maps, wideKeys, modest, calm, conditions, laid).
  DERIVED. THE GIVEN ROWS OF THIS SEAT. 12 by the template 'for every input the law returns true; each argument reads behind the call as it read before'; 0 by the template 'total and deterministic' (their statements: YtnacfjedfipggaaTotals.lean).
  GIVEN WITH THE SEED: the statements are not yours to turn. If you find one false, say at which input.
  Laid BY PROGRAM, IN A SANDBOX (cutbox-rows.mjs): the forced cells as the released guide's own fill.sh prints them over the translation f0b80560abdf0a7a… (all of the seat's roots in one cut). By AI agents, Wed Nov 11 2026. No macro, syntax, notation, axiom, sorry.
-/
import Derived.Test.YtnacfjedfipggaaChecked
import GoSem.Claim
import GoSem.ClaimJoined
import GoSem.ClaimMapViews
import Derived.JoinedTies
import Derived.KernelRfl
namespace Go.Proofs.Ytnacfjedfipggaa
/- THE CELL 'sum', in the pinned program and in every row, IS THE sha256 OF THE DUMP (.gsa) THAT YtnacfjedfipggaaProg.lean LOADS. Nothing in Lean hashes anything: it is a label: what it is worth is what the hold of that sum in a sandbox is worth. -/
noncomputable def Try.pinned : Pinned := { name := "ytnacfjedfipggaa", sum := "f0b80560abdf0a7a18d49d5b54e8816c4e64f43c156477b874a2bd0bbae640f0", checked := Try.checked }
namespace Rows
def none {H : Type} : Left H := { results := [], args := [] }

/-- 'laws.FnMask': WHATEVER THE INPUT: true; the input reads as it did. -/
def fnMaskSpec : ChangeSpec := { name := "fnMask", fn := fun _ => fun
  | [d] => { results := [.lit (.bool true)], args := [d] }
  | _ => none }
def fnMaskRow : OpenClaim := { program := "ytnacfjedfipggaa", sum := "f0b80560abdf0a7a18d49d5b54e8816c4e64f43c156477b874a2bd0bbae640f0", func := "loop.example/mixrelay/laws.FnMask", spec := "fnMask", unfollowed := true, recurses := true, apart := false }
def FnMaskSaid : Prop := fnMaskRow.holds Try.pinned (OpenSpec.ofChange fnMaskSpec)

/-- ITS FALSE NEIGHBOUR: 'it returns false'. Refute it at one input. -/
def fnMaskWrong : ChangeSpec := { name := "fnMask", fn := fun _ => fun
  | [d] => { results := [.lit (.bool false)], args := [d] }
  | _ => none }
def FnMaskWrongFalsely : Prop := fnMaskRow.holds Try.pinned (OpenSpec.ofChange fnMaskWrong)

/-- 'laws.FnMaskOrder': WHATEVER THE INPUT: true; the input reads as it did. -/
def fnMaskOrderSpec : ChangeSpec := { name := "fnMaskOrder", fn := fun _ => fun
  | [d1, d2] => { results := [.lit (.bool true)], args := [d1, d2] }
  | _ => none }
def fnMaskOrderRow : OpenClaim := { program := "ytnacfjedfipggaa", sum := "f0b80560abdf0a7a18d49d5b54e8816c4e64f43c156477b874a2bd0bbae640f0", func := "loop.example/mixrelay/laws.FnMaskOrder", spec := "fnMaskOrder", unfollowed := true, recurses := true, apart := false }
def FnMaskOrderSaid : Prop := fnMaskOrderRow.holds Try.pinned (OpenSpec.ofChange fnMaskOrderSpec)

/-- ITS FALSE NEIGHBOUR: 'it returns false'. Refute it at one input. -/
def fnMaskOrderWrong : ChangeSpec := { name := "fnMaskOrder", fn := fun _ => fun
  | [d1, d2] => { results := [.lit (.bool false)], args := [d1, d2] }
  | _ => none }
def FnMaskOrderWrongFalsely : Prop := fnMaskOrderRow.holds Try.pinned (OpenSpec.ofChange fnMaskOrderWrong)

/-- 'laws.FnMaskZero': WHATEVER THE INPUT: true; the input reads as it did. -/
def fnMaskZeroSpec : ChangeSpec := { name := "fnMaskZero", fn := fun _ => fun
  | [d] => { results := [.lit (.bool true)], args := [d] }
  | _ => none }
def fnMaskZeroRow : OpenClaim := { program := "ytnacfjedfipggaa", sum := "f0b80560abdf0a7a18d49d5b54e8816c4e64f43c156477b874a2bd0bbae640f0", func := "loop.example/mixrelay/laws.FnMaskZero", spec := "fnMaskZero", unfollowed := true, recurses := true, apart := false }
def FnMaskZeroSaid : Prop := fnMaskZeroRow.holds Try.pinned (OpenSpec.ofChange fnMaskZeroSpec)

/-- ITS FALSE NEIGHBOUR: 'it returns false'. Refute it at one input. -/
def fnMaskZeroWrong : ChangeSpec := { name := "fnMaskZero", fn := fun _ => fun
  | [d] => { results := [.lit (.bool false)], args := [d] }
  | _ => none }
def FnMaskZeroWrongFalsely : Prop := fnMaskZeroRow.holds Try.pinned (OpenSpec.ofChange fnMaskZeroWrong)

/-- 'laws.FnMaskOne': WHATEVER THE INPUT: true; the input reads as it did. -/
def fnMaskOneSpec : ChangeSpec := { name := "fnMaskOne", fn := fun _ => fun
  | [d1, d2] => { results := [.lit (.bool true)], args := [d1, d2] }
  | _ => none }
def fnMaskOneRow : OpenClaim := { program := "ytnacfjedfipggaa", sum := "f0b80560abdf0a7a18d49d5b54e8816c4e64f43c156477b874a2bd0bbae640f0", func := "loop.example/mixrelay/laws.FnMaskOne", spec := "fnMaskOne", unfollowed := true, recurses := true, apart := false }
def FnMaskOneSaid : Prop := fnMaskOneRow.holds Try.pinned (OpenSpec.ofChange fnMaskOneSpec)

/-- ITS FALSE NEIGHBOUR: 'it returns false'. Refute it at one input. -/
def fnMaskOneWrong : ChangeSpec := { name := "fnMaskOne", fn := fun _ => fun
  | [d1, d2] => { results := [.lit (.bool false)], args := [d1, d2] }
  | _ => none }
def FnMaskOneWrongFalsely : Prop := fnMaskOneRow.holds Try.pinned (OpenSpec.ofChange fnMaskOneWrong)

/-- 'laws.FnMaskLength': WHATEVER THE INPUT: true; the input reads as it did. -/
def fnMaskLengthSpec : ChangeSpec := { name := "fnMaskLength", fn := fun _ => fun
  | [d] => { results := [.lit (.bool true)], args := [d] }
  | _ => none }
def fnMaskLengthRow : OpenClaim := { program := "ytnacfjedfipggaa", sum := "f0b80560abdf0a7a18d49d5b54e8816c4e64f43c156477b874a2bd0bbae640f0", func := "loop.example/mixrelay/laws.FnMaskLength", spec := "fnMaskLength", unfollowed := true, recurses := true, apart := false }
def FnMaskLengthSaid : Prop := fnMaskLengthRow.holds Try.pinned (OpenSpec.ofChange fnMaskLengthSpec)

/-- ITS FALSE NEIGHBOUR: 'it returns false'. Refute it at one input. -/
def fnMaskLengthWrong : ChangeSpec := { name := "fnMaskLength", fn := fun _ => fun
  | [d] => { results := [.lit (.bool false)], args := [d] }
  | _ => none }
def FnMaskLengthWrongFalsely : Prop := fnMaskLengthRow.holds Try.pinned (OpenSpec.ofChange fnMaskLengthWrong)

/-- 'laws.FnExactMaskOn': WHATEVER THE INPUT: true; the input reads as it did. -/
def fnExactMaskOnSpec : ChangeSpec := { name := "fnExactMaskOn", fn := fun _ => fun
  | [d1, d2] => { results := [.lit (.bool true)], args := [d1, d2] }
  | _ => none }
def fnExactMaskOnRow : OpenClaim := { program := "ytnacfjedfipggaa", sum := "f0b80560abdf0a7a18d49d5b54e8816c4e64f43c156477b874a2bd0bbae640f0", func := "loop.example/mixrelay/laws.FnExactMaskOn", spec := "fnExactMaskOn", unfollowed := true, recurses := true, apart := false }
def FnExactMaskOnSaid : Prop := fnExactMaskOnRow.holds Try.pinned (OpenSpec.ofChange fnExactMaskOnSpec)

/-- ITS FALSE NEIGHBOUR: 'it returns false'. Refute it at one input. -/
def fnExactMaskOnWrong : ChangeSpec := { name := "fnExactMaskOn", fn := fun _ => fun
  | [d1, d2] => { results := [.lit (.bool false)], args := [d1, d2] }
  | _ => none }
def FnExactMaskOnWrongFalsely : Prop := fnExactMaskOnRow.holds Try.pinned (OpenSpec.ofChange fnExactMaskOnWrong)

/-- 'laws.FnExactMaskOff': WHATEVER THE INPUT: true; the input reads as it did. -/
def fnExactMaskOffSpec : ChangeSpec := { name := "fnExactMaskOff", fn := fun _ => fun
  | [d1, d2] => { results := [.lit (.bool true)], args := [d1, d2] }
  | _ => none }
def fnExactMaskOffRow : OpenClaim := { program := "ytnacfjedfipggaa", sum := "f0b80560abdf0a7a18d49d5b54e8816c4e64f43c156477b874a2bd0bbae640f0", func := "loop.example/mixrelay/laws.FnExactMaskOff", spec := "fnExactMaskOff", unfollowed := true, recurses := true, apart := false }
def FnExactMaskOffSaid : Prop := fnExactMaskOffRow.holds Try.pinned (OpenSpec.ofChange fnExactMaskOffSpec)

/-- ITS FALSE NEIGHBOUR: 'it returns false'. Refute it at one input. -/
def fnExactMaskOffWrong : ChangeSpec := { name := "fnExactMaskOff", fn := fun _ => fun
  | [d1, d2] => { results := [.lit (.bool false)], args := [d1, d2] }
  | _ => none }
def FnExactMaskOffWrongFalsely : Prop := fnExactMaskOffRow.holds Try.pinned (OpenSpec.ofChange fnExactMaskOffWrong)

/-- 'laws.FnTag': WHATEVER THE INPUT: true; the input reads as it did. -/
def fnTagSpec : ChangeSpec := { name := "fnTag", fn := fun _ => fun
  | [d] => { results := [.lit (.bool true)], args := [d] }
  | _ => none }
def fnTagRow : OpenClaim := { program := "ytnacfjedfipggaa", sum := "f0b80560abdf0a7a18d49d5b54e8816c4e64f43c156477b874a2bd0bbae640f0", func := "loop.example/mixrelay/laws.FnTag", spec := "fnTag", unfollowed := true, recurses := true, apart := false }
def FnTagSaid : Prop := fnTagRow.holds Try.pinned (OpenSpec.ofChange fnTagSpec)

/-- ITS FALSE NEIGHBOUR: 'it returns false'. Refute it at one input. -/
def fnTagWrong : ChangeSpec := { name := "fnTag", fn := fun _ => fun
  | [d] => { results := [.lit (.bool false)], args := [d] }
  | _ => none }
def FnTagWrongFalsely : Prop := fnTagRow.holds Try.pinned (OpenSpec.ofChange fnTagWrong)

/-- 'laws.FnTagChange': WHATEVER THE INPUT: true; the input reads as it did. -/
def fnTagChangeSpec : ChangeSpec := { name := "fnTagChange", fn := fun _ => fun
  | [d1, d2] => { results := [.lit (.bool true)], args := [d1, d2] }
  | _ => none }
def fnTagChangeRow : OpenClaim := { program := "ytnacfjedfipggaa", sum := "f0b80560abdf0a7a18d49d5b54e8816c4e64f43c156477b874a2bd0bbae640f0", func := "loop.example/mixrelay/laws.FnTagChange", spec := "fnTagChange", unfollowed := true, recurses := true, apart := false }
def FnTagChangeSaid : Prop := fnTagChangeRow.holds Try.pinned (OpenSpec.ofChange fnTagChangeSpec)

/-- ITS FALSE NEIGHBOUR: 'it returns false'. Refute it at one input. -/
def fnTagChangeWrong : ChangeSpec := { name := "fnTagChange", fn := fun _ => fun
  | [d1, d2] => { results := [.lit (.bool false)], args := [d1, d2] }
  | _ => none }
def FnTagChangeWrongFalsely : Prop := fnTagChangeRow.holds Try.pinned (OpenSpec.ofChange fnTagChangeWrong)

/-- 'laws.FnTagOther': WHATEVER THE INPUT: true; the input reads as it did. -/
def fnTagOtherSpec : ChangeSpec := { name := "fnTagOther", fn := fun _ => fun
  | [d1, d2] => { results := [.lit (.bool true)], args := [d1, d2] }
  | _ => none }
def fnTagOtherRow : OpenClaim := { program := "ytnacfjedfipggaa", sum := "f0b80560abdf0a7a18d49d5b54e8816c4e64f43c156477b874a2bd0bbae640f0", func := "loop.example/mixrelay/laws.FnTagOther", spec := "fnTagOther", unfollowed := true, recurses := true, apart := false }
def FnTagOtherSaid : Prop := fnTagOtherRow.holds Try.pinned (OpenSpec.ofChange fnTagOtherSpec)

/-- ITS FALSE NEIGHBOUR: 'it returns false'. Refute it at one input. -/
def fnTagOtherWrong : ChangeSpec := { name := "fnTagOther", fn := fun _ => fun
  | [d1, d2] => { results := [.lit (.bool false)], args := [d1, d2] }
  | _ => none }
def FnTagOtherWrongFalsely : Prop := fnTagOtherRow.holds Try.pinned (OpenSpec.ofChange fnTagOtherWrong)

/-- 'laws.FnTagEmpty': WHATEVER THE INPUT: true; the input reads as it did. -/
def fnTagEmptySpec : ChangeSpec := { name := "fnTagEmpty", fn := fun _ => fun
  | [d] => { results := [.lit (.bool true)], args := [d] }
  | _ => none }
def fnTagEmptyRow : OpenClaim := { program := "ytnacfjedfipggaa", sum := "f0b80560abdf0a7a18d49d5b54e8816c4e64f43c156477b874a2bd0bbae640f0", func := "loop.example/mixrelay/laws.FnTagEmpty", spec := "fnTagEmpty", unfollowed := true, recurses := true, apart := false }
def FnTagEmptySaid : Prop := fnTagEmptyRow.holds Try.pinned (OpenSpec.ofChange fnTagEmptySpec)

/-- ITS FALSE NEIGHBOUR: 'it returns false'. Refute it at one input. -/
def fnTagEmptyWrong : ChangeSpec := { name := "fnTagEmpty", fn := fun _ => fun
  | [d] => { results := [.lit (.bool false)], args := [d] }
  | _ => none }
def FnTagEmptyWrongFalsely : Prop := fnTagEmptyRow.holds Try.pinned (OpenSpec.ofChange fnTagEmptyWrong)

/-- 'laws.FnTagNext': WHATEVER THE INPUT: true; the input reads as it did. -/
def fnTagNextSpec : ChangeSpec := { name := "fnTagNext", fn := fun _ => fun
  | [d1, d2] => { results := [.lit (.bool true)], args := [d1, d2] }
  | _ => none }
def fnTagNextRow : OpenClaim := { program := "ytnacfjedfipggaa", sum := "f0b80560abdf0a7a18d49d5b54e8816c4e64f43c156477b874a2bd0bbae640f0", func := "loop.example/mixrelay/laws.FnTagNext", spec := "fnTagNext", unfollowed := true, recurses := true, apart := false }
def FnTagNextSaid : Prop := fnTagNextRow.holds Try.pinned (OpenSpec.ofChange fnTagNextSpec)

/-- ITS FALSE NEIGHBOUR: 'it returns false'. Refute it at one input. -/
def fnTagNextWrong : ChangeSpec := { name := "fnTagNext", fn := fun _ => fun
  | [d1, d2] => { results := [.lit (.bool false)], args := [d1, d2] }
  | _ => none }
def FnTagNextWrongFalsely : Prop := fnTagNextRow.holds Try.pinned (OpenSpec.ofChange fnTagNextWrong)

/- THE SECOND FORM. 'bulk': how many values and letters a reading holds, each counted each time it is reached (what is shared counts as often as it is met; a slice's spare places count too). A statement '..UptoSaid' is the law's where the arguments, and the package variables that the reading takes, are together of bulk at most 1048576: NARROWER than '..Said'. Prove '..Said' where nothing that the law and all that it calls make is longer than what came in: it says more and counts as full. Else prove '..UptoSaid'. A law counts once. -/
mutual
def uptoBulk {H : Type} : DataW H → Nat
  | .lit (.string bytes) => bytes.length + 1
  | .lit _ => 1
  | .nil => 1
  | .ptr d => uptoBulk d + 1
  | .slice elems spare => uptoBulkAll elems + uptoBulkAll spare + 1
  | .agg parts => uptoBulkAll parts + 1
  | .iface _ d => uptoBulk d + 1
  | .map entries => uptoBulkEntries entries + 1
  | .held _ => 1
def uptoBulkAll {H : Type} : List (DataW H) → Nat
  | [] => 0
  | d :: r => uptoBulk d + uptoBulkAll r
def uptoBulkEntries {H : Type} : List (Lit × DataW H) → Nat
  | [] => 0
  | x :: r => uptoBulkEntry x + uptoBulkEntries r
def uptoBulkEntry {H : Type} : Lit × DataW H → Nat
  | (.string bytes, d) => bytes.length + uptoBulk d + 1
  | (_, d) => uptoBulk d + 1
 end
def uptoSmall : (H : Type) → List (DataW H) → Bool := fun _ ds => decide (uptoBulkAll ds ≤ 1048576)
def OpenSpec.upto (s : _root_.Go.ChangeSpec) : _root_.Go.OpenSpec := { _root_.Go.OpenSpec.ofChange s with cond := some uptoSmall }

/-- 'laws.FnMask', WHERE WHAT IT READS IS OF BULK AT MOST 1048576: true; the input reads as it did. -/
def fnMaskUptoRow : OpenClaim := { program := "ytnacfjedfipggaa", sum := "f0b80560abdf0a7a18d49d5b54e8816c4e64f43c156477b874a2bd0bbae640f0", func := "loop.example/mixrelay/laws.FnMask", spec := "fnMask", unfollowed := true, recurses := true, apart := false, narrowed := true }
def FnMaskUptoSaid : Prop := fnMaskUptoRow.holds Try.pinned (OpenSpec.upto fnMaskSpec)

/-- 'laws.FnMaskOrder', WHERE WHAT IT READS IS OF BULK AT MOST 1048576: true; the input reads as it did. -/
def fnMaskOrderUptoRow : OpenClaim := { program := "ytnacfjedfipggaa", sum := "f0b80560abdf0a7a18d49d5b54e8816c4e64f43c156477b874a2bd0bbae640f0", func := "loop.example/mixrelay/laws.FnMaskOrder", spec := "fnMaskOrder", unfollowed := true, recurses := true, apart := false, narrowed := true }
def FnMaskOrderUptoSaid : Prop := fnMaskOrderUptoRow.holds Try.pinned (OpenSpec.upto fnMaskOrderSpec)

/-- 'laws.FnMaskZero', WHERE WHAT IT READS IS OF BULK AT MOST 1048576: true; the input reads as it did. -/
def fnMaskZeroUptoRow : OpenClaim := { program := "ytnacfjedfipggaa", sum := "f0b80560abdf0a7a18d49d5b54e8816c4e64f43c156477b874a2bd0bbae640f0", func := "loop.example/mixrelay/laws.FnMaskZero", spec := "fnMaskZero", unfollowed := true, recurses := true, apart := false, narrowed := true }
def FnMaskZeroUptoSaid : Prop := fnMaskZeroUptoRow.holds Try.pinned (OpenSpec.upto fnMaskZeroSpec)

/-- 'laws.FnMaskOne', WHERE WHAT IT READS IS OF BULK AT MOST 1048576: true; the input reads as it did. -/
def fnMaskOneUptoRow : OpenClaim := { program := "ytnacfjedfipggaa", sum := "f0b80560abdf0a7a18d49d5b54e8816c4e64f43c156477b874a2bd0bbae640f0", func := "loop.example/mixrelay/laws.FnMaskOne", spec := "fnMaskOne", unfollowed := true, recurses := true, apart := false, narrowed := true }
def FnMaskOneUptoSaid : Prop := fnMaskOneUptoRow.holds Try.pinned (OpenSpec.upto fnMaskOneSpec)

/-- 'laws.FnMaskLength', WHERE WHAT IT READS IS OF BULK AT MOST 1048576: true; the input reads as it did. -/
def fnMaskLengthUptoRow : OpenClaim := { program := "ytnacfjedfipggaa", sum := "f0b80560abdf0a7a18d49d5b54e8816c4e64f43c156477b874a2bd0bbae640f0", func := "loop.example/mixrelay/laws.FnMaskLength", spec := "fnMaskLength", unfollowed := true, recurses := true, apart := false, narrowed := true }
def FnMaskLengthUptoSaid : Prop := fnMaskLengthUptoRow.holds Try.pinned (OpenSpec.upto fnMaskLengthSpec)

/-- 'laws.FnExactMaskOn', WHERE WHAT IT READS IS OF BULK AT MOST 1048576: true; the input reads as it did. -/
def fnExactMaskOnUptoRow : OpenClaim := { program := "ytnacfjedfipggaa", sum := "f0b80560abdf0a7a18d49d5b54e8816c4e64f43c156477b874a2bd0bbae640f0", func := "loop.example/mixrelay/laws.FnExactMaskOn", spec := "fnExactMaskOn", unfollowed := true, recurses := true, apart := false, narrowed := true }
def FnExactMaskOnUptoSaid : Prop := fnExactMaskOnUptoRow.holds Try.pinned (OpenSpec.upto fnExactMaskOnSpec)

/-- 'laws.FnExactMaskOff', WHERE WHAT IT READS IS OF BULK AT MOST 1048576: true; the input reads as it did. -/
def fnExactMaskOffUptoRow : OpenClaim := { program := "ytnacfjedfipggaa", sum := "f0b80560abdf0a7a18d49d5b54e8816c4e64f43c156477b874a2bd0bbae640f0", func := "loop.example/mixrelay/laws.FnExactMaskOff", spec := "fnExactMaskOff", unfollowed := true, recurses := true, apart := false, narrowed := true }
def FnExactMaskOffUptoSaid : Prop := fnExactMaskOffUptoRow.holds Try.pinned (OpenSpec.upto fnExactMaskOffSpec)

/-- 'laws.FnTag', WHERE WHAT IT READS IS OF BULK AT MOST 1048576: true; the input reads as it did. -/
def fnTagUptoRow : OpenClaim := { program := "ytnacfjedfipggaa", sum := "f0b80560abdf0a7a18d49d5b54e8816c4e64f43c156477b874a2bd0bbae640f0", func := "loop.example/mixrelay/laws.FnTag", spec := "fnTag", unfollowed := true, recurses := true, apart := false, narrowed := true }
def FnTagUptoSaid : Prop := fnTagUptoRow.holds Try.pinned (OpenSpec.upto fnTagSpec)

/-- 'laws.FnTagChange', WHERE WHAT IT READS IS OF BULK AT MOST 1048576: true; the input reads as it did. -/
def fnTagChangeUptoRow : OpenClaim := { program := "ytnacfjedfipggaa", sum := "f0b80560abdf0a7a18d49d5b54e8816c4e64f43c156477b874a2bd0bbae640f0", func := "loop.example/mixrelay/laws.FnTagChange", spec := "fnTagChange", unfollowed := true, recurses := true, apart := false, narrowed := true }
def FnTagChangeUptoSaid : Prop := fnTagChangeUptoRow.holds Try.pinned (OpenSpec.upto fnTagChangeSpec)

/-- 'laws.FnTagOther', WHERE WHAT IT READS IS OF BULK AT MOST 1048576: true; the input reads as it did. -/
def fnTagOtherUptoRow : OpenClaim := { program := "ytnacfjedfipggaa", sum := "f0b80560abdf0a7a18d49d5b54e8816c4e64f43c156477b874a2bd0bbae640f0", func := "loop.example/mixrelay/laws.FnTagOther", spec := "fnTagOther", unfollowed := true, recurses := true, apart := false, narrowed := true }
def FnTagOtherUptoSaid : Prop := fnTagOtherUptoRow.holds Try.pinned (OpenSpec.upto fnTagOtherSpec)

/-- 'laws.FnTagEmpty', WHERE WHAT IT READS IS OF BULK AT MOST 1048576: true; the input reads as it did. -/
def fnTagEmptyUptoRow : OpenClaim := { program := "ytnacfjedfipggaa", sum := "f0b80560abdf0a7a18d49d5b54e8816c4e64f43c156477b874a2bd0bbae640f0", func := "loop.example/mixrelay/laws.FnTagEmpty", spec := "fnTagEmpty", unfollowed := true, recurses := true, apart := false, narrowed := true }
def FnTagEmptyUptoSaid : Prop := fnTagEmptyUptoRow.holds Try.pinned (OpenSpec.upto fnTagEmptySpec)

/-- 'laws.FnTagNext', WHERE WHAT IT READS IS OF BULK AT MOST 1048576: true; the input reads as it did. -/
def fnTagNextUptoRow : OpenClaim := { program := "ytnacfjedfipggaa", sum := "f0b80560abdf0a7a18d49d5b54e8816c4e64f43c156477b874a2bd0bbae640f0", func := "loop.example/mixrelay/laws.FnTagNext", spec := "fnTagNext", unfollowed := true, recurses := true, apart := false, narrowed := true }
def FnTagNextUptoSaid : Prop := fnTagNextUptoRow.holds Try.pinned (OpenSpec.upto fnTagNextSpec)

end Rows
end Go.Proofs.Ytnacfjedfipggaa
