/-
  No cell of these rows narrows 'for every input' (looked for: loops, veiled, ifaces, maps, wideKeys, modest, calm, conditions, laid).
  DERIVED. THE GIVEN ROWS OF THIS SEAT. 9 by the template 'for every input the law returns true; each argument reads behind the call as it read before'; 0 by the template 'total and deterministic' (their statements: YtnacfjedfipggabTotals.lean).
  GIVEN WITH THE SEED: the statements are not yours to turn. If you find one false, say at which input.
  Laid BY PROGRAM, IN A SANDBOX (cutbox-rows.mjs): the forced cells as the released guide's own fill.sh prints them over the translation a03b2c1bd23f2552… (all of the seat's roots in one cut). By AI agents, Wed Nov 11 2026. No macro, syntax, notation, axiom, sorry.
-/
import Derived.Test.YtnacfjedfipggabChecked
import GoSem.Claim
import GoSem.ClaimJoined
import GoSem.ClaimMapViews
import Derived.JoinedTies
import Derived.KernelRfl
namespace Go.Proofs.Ytnacfjedfipggab
/- THE CELL 'sum', in the pinned program and in every row, IS THE sha256 OF THE DUMP (.gsa) THAT YtnacfjedfipggabProg.lean LOADS. Nothing in Lean hashes anything: it is a label: what it is worth is what the hold of that sum in a sandbox is worth. -/
noncomputable def Try.pinned : Pinned := { name := "ytnacfjedfipggab", sum := "a03b2c1bd23f2552e1cf96b2bb4db08f9f962b73be58838c12e4e0d9564c1be0", checked := Try.checked }
namespace Rows
def none {H : Type} : Left H := { results := [], args := [] }

/-- 'laws.FnExactTagOf': WHATEVER THE INPUT: true; the input reads as it did. -/
def fnExactTagOfSpec : ChangeSpec := { name := "fnExactTagOf", fn := fun _ => fun
  | [d1, d2] => { results := [.lit (.bool true)], args := [d1, d2] }
  | _ => none }
def fnExactTagOfRow : OpenClaim := { program := "ytnacfjedfipggab", sum := "a03b2c1bd23f2552e1cf96b2bb4db08f9f962b73be58838c12e4e0d9564c1be0", func := "loop.example/mixrelay/laws.FnExactTagOf", spec := "fnExactTagOf", unfollowed := true, recurses := true, apart := false }
def FnExactTagOfSaid : Prop := fnExactTagOfRow.holds Try.pinned (OpenSpec.ofChange fnExactTagOfSpec)

/-- ITS FALSE NEIGHBOUR: 'it returns false'. Refute it at one input. -/
def fnExactTagOfWrong : ChangeSpec := { name := "fnExactTagOf", fn := fun _ => fun
  | [d1, d2] => { results := [.lit (.bool false)], args := [d1, d2] }
  | _ => none }
def FnExactTagOfWrongFalsely : Prop := fnExactTagOfRow.holds Try.pinned (OpenSpec.ofChange fnExactTagOfWrong)

/-- 'laws.FnExactTagCheck': WHATEVER THE INPUT: true; the input reads as it did. -/
def fnExactTagCheckSpec : ChangeSpec := { name := "fnExactTagCheck", fn := fun _ => fun
  | [d1, d2, d3] => { results := [.lit (.bool true)], args := [d1, d2, d3] }
  | _ => none }
def fnExactTagCheckRow : OpenClaim := { program := "ytnacfjedfipggab", sum := "a03b2c1bd23f2552e1cf96b2bb4db08f9f962b73be58838c12e4e0d9564c1be0", func := "loop.example/mixrelay/laws.FnExactTagCheck", spec := "fnExactTagCheck", unfollowed := true, recurses := true, apart := false }
def FnExactTagCheckSaid : Prop := fnExactTagCheckRow.holds Try.pinned (OpenSpec.ofChange fnExactTagCheckSpec)

/-- ITS FALSE NEIGHBOUR: 'it returns false'. Refute it at one input. -/
def fnExactTagCheckWrong : ChangeSpec := { name := "fnExactTagCheck", fn := fun _ => fun
  | [d1, d2, d3] => { results := [.lit (.bool false)], args := [d1, d2, d3] }
  | _ => none }
def FnExactTagCheckWrongFalsely : Prop := fnExactTagCheckRow.holds Try.pinned (OpenSpec.ofChange fnExactTagCheckWrong)

/-- 'laws.FnLetter': WHATEVER THE INPUT: true; the input reads as it did. -/
def fnLetterSpec : ChangeSpec := { name := "fnLetter", fn := fun _ => fun
  | [d] => { results := [.lit (.bool true)], args := [d] }
  | _ => none }
def fnLetterRow : OpenClaim := { program := "ytnacfjedfipggab", sum := "a03b2c1bd23f2552e1cf96b2bb4db08f9f962b73be58838c12e4e0d9564c1be0", func := "loop.example/mixrelay/laws.FnLetter", spec := "fnLetter", unfollowed := true, recurses := true, apart := false }
def FnLetterSaid : Prop := fnLetterRow.holds Try.pinned (OpenSpec.ofChange fnLetterSpec)

/-- ITS FALSE NEIGHBOUR: 'it returns false'. Refute it at one input. -/
def fnLetterWrong : ChangeSpec := { name := "fnLetter", fn := fun _ => fun
  | [d] => { results := [.lit (.bool false)], args := [d] }
  | _ => none }
def FnLetterWrongFalsely : Prop := fnLetterRow.holds Try.pinned (OpenSpec.ofChange fnLetterWrong)

/-- 'laws.FnLetterChange': WHATEVER THE INPUT: true; the input reads as it did. -/
def fnLetterChangeSpec : ChangeSpec := { name := "fnLetterChange", fn := fun _ => fun
  | [d1, d2] => { results := [.lit (.bool true)], args := [d1, d2] }
  | _ => none }
def fnLetterChangeRow : OpenClaim := { program := "ytnacfjedfipggab", sum := "a03b2c1bd23f2552e1cf96b2bb4db08f9f962b73be58838c12e4e0d9564c1be0", func := "loop.example/mixrelay/laws.FnLetterChange", spec := "fnLetterChange", unfollowed := true, recurses := true, apart := false }
def FnLetterChangeSaid : Prop := fnLetterChangeRow.holds Try.pinned (OpenSpec.ofChange fnLetterChangeSpec)

/-- ITS FALSE NEIGHBOUR: 'it returns false'. Refute it at one input. -/
def fnLetterChangeWrong : ChangeSpec := { name := "fnLetterChange", fn := fun _ => fun
  | [d1, d2] => { results := [.lit (.bool false)], args := [d1, d2] }
  | _ => none }
def FnLetterChangeWrongFalsely : Prop := fnLetterChangeRow.holds Try.pinned (OpenSpec.ofChange fnLetterChangeWrong)

/-- 'laws.FnLetterBack': WHATEVER THE INPUT: true; the input reads as it did. -/
def fnLetterBackSpec : ChangeSpec := { name := "fnLetterBack", fn := fun _ => fun
  | [d] => { results := [.lit (.bool true)], args := [d] }
  | _ => none }
def fnLetterBackRow : OpenClaim := { program := "ytnacfjedfipggab", sum := "a03b2c1bd23f2552e1cf96b2bb4db08f9f962b73be58838c12e4e0d9564c1be0", func := "loop.example/mixrelay/laws.FnLetterBack", spec := "fnLetterBack", unfollowed := true, recurses := true, apart := false }
def FnLetterBackSaid : Prop := fnLetterBackRow.holds Try.pinned (OpenSpec.ofChange fnLetterBackSpec)

/-- ITS FALSE NEIGHBOUR: 'it returns false'. Refute it at one input. -/
def fnLetterBackWrong : ChangeSpec := { name := "fnLetterBack", fn := fun _ => fun
  | [d] => { results := [.lit (.bool false)], args := [d] }
  | _ => none }
def FnLetterBackWrongFalsely : Prop := fnLetterBackRow.holds Try.pinned (OpenSpec.ofChange fnLetterBackWrong)

/-- 'laws.FnLetterSize': WHATEVER THE INPUT: true; the input reads as it did. -/
def fnLetterSizeSpec : ChangeSpec := { name := "fnLetterSize", fn := fun _ => fun
  | [d] => { results := [.lit (.bool true)], args := [d] }
  | _ => none }
def fnLetterSizeRow : OpenClaim := { program := "ytnacfjedfipggab", sum := "a03b2c1bd23f2552e1cf96b2bb4db08f9f962b73be58838c12e4e0d9564c1be0", func := "loop.example/mixrelay/laws.FnLetterSize", spec := "fnLetterSize", unfollowed := true, recurses := true, apart := false }
def FnLetterSizeSaid : Prop := fnLetterSizeRow.holds Try.pinned (OpenSpec.ofChange fnLetterSizeSpec)

/-- ITS FALSE NEIGHBOUR: 'it returns false'. Refute it at one input. -/
def fnLetterSizeWrong : ChangeSpec := { name := "fnLetterSize", fn := fun _ => fun
  | [d] => { results := [.lit (.bool false)], args := [d] }
  | _ => none }
def FnLetterSizeWrongFalsely : Prop := fnLetterSizeRow.holds Try.pinned (OpenSpec.ofChange fnLetterSizeWrong)

/-- 'laws.FnLetterZeros': WHATEVER THE INPUT: true; the input reads as it did. -/
def fnLetterZerosSpec : ChangeSpec := { name := "fnLetterZeros", fn := fun _ => fun
  | [d] => { results := [.lit (.bool true)], args := [d] }
  | _ => none }
def fnLetterZerosRow : OpenClaim := { program := "ytnacfjedfipggab", sum := "a03b2c1bd23f2552e1cf96b2bb4db08f9f962b73be58838c12e4e0d9564c1be0", func := "loop.example/mixrelay/laws.FnLetterZeros", spec := "fnLetterZeros", unfollowed := true, recurses := true, apart := false }
def FnLetterZerosSaid : Prop := fnLetterZerosRow.holds Try.pinned (OpenSpec.ofChange fnLetterZerosSpec)

/-- ITS FALSE NEIGHBOUR: 'it returns false'. Refute it at one input. -/
def fnLetterZerosWrong : ChangeSpec := { name := "fnLetterZeros", fn := fun _ => fun
  | [d] => { results := [.lit (.bool false)], args := [d] }
  | _ => none }
def FnLetterZerosWrongFalsely : Prop := fnLetterZerosRow.holds Try.pinned (OpenSpec.ofChange fnLetterZerosWrong)

/-- 'laws.FnExactLetterPack': WHATEVER THE INPUT: true; the input reads as it did. -/
def fnExactLetterPackSpec : ChangeSpec := { name := "fnExactLetterPack", fn := fun _ => fun
  | [d] => { results := [.lit (.bool true)], args := [d] }
  | _ => none }
def fnExactLetterPackRow : OpenClaim := { program := "ytnacfjedfipggab", sum := "a03b2c1bd23f2552e1cf96b2bb4db08f9f962b73be58838c12e4e0d9564c1be0", func := "loop.example/mixrelay/laws.FnExactLetterPack", spec := "fnExactLetterPack", unfollowed := true, recurses := true, apart := false }
def FnExactLetterPackSaid : Prop := fnExactLetterPackRow.holds Try.pinned (OpenSpec.ofChange fnExactLetterPackSpec)

/-- ITS FALSE NEIGHBOUR: 'it returns false'. Refute it at one input. -/
def fnExactLetterPackWrong : ChangeSpec := { name := "fnExactLetterPack", fn := fun _ => fun
  | [d] => { results := [.lit (.bool false)], args := [d] }
  | _ => none }
def FnExactLetterPackWrongFalsely : Prop := fnExactLetterPackRow.holds Try.pinned (OpenSpec.ofChange fnExactLetterPackWrong)

/-- 'laws.FnExactLetterOpen': WHATEVER THE INPUT: true; the input reads as it did. -/
def fnExactLetterOpenSpec : ChangeSpec := { name := "fnExactLetterOpen", fn := fun _ => fun
  | [d] => { results := [.lit (.bool true)], args := [d] }
  | _ => none }
def fnExactLetterOpenRow : OpenClaim := { program := "ytnacfjedfipggab", sum := "a03b2c1bd23f2552e1cf96b2bb4db08f9f962b73be58838c12e4e0d9564c1be0", func := "loop.example/mixrelay/laws.FnExactLetterOpen", spec := "fnExactLetterOpen", unfollowed := true, recurses := true, apart := false }
def FnExactLetterOpenSaid : Prop := fnExactLetterOpenRow.holds Try.pinned (OpenSpec.ofChange fnExactLetterOpenSpec)

/-- ITS FALSE NEIGHBOUR: 'it returns false'. Refute it at one input. -/
def fnExactLetterOpenWrong : ChangeSpec := { name := "fnExactLetterOpen", fn := fun _ => fun
  | [d] => { results := [.lit (.bool false)], args := [d] }
  | _ => none }
def FnExactLetterOpenWrongFalsely : Prop := fnExactLetterOpenRow.holds Try.pinned (OpenSpec.ofChange fnExactLetterOpenWrong)

/- THE SECOND FORM. 'bulk': how many values and letters a reading holds, each counted each time it is reached (what is shared counts as often as it is met; a slice's spare places count too). A statement '..UptoSaid' is the law's where the arguments, and the package variables that the reading takes, are together of bulk at most 1048576: NARROWER than '..Said'. Prove '..Said' where nothing that the law and all that it calls make is longer than what came in: it says more and counts as full. Else prove '..UptoSaid'. A law counts once. -/
mutual
def uptoBulk {H : Type} : DataW H → Nat
  | .lit (.string bytes) => bytes.length + 1
  | .lit _ => 1
  | .nil => 1
  | .ptr d => uptoBulk d + 1
  | .slice elems spare => uptoBulkAll elems + uptoBulkAll spare + 1
  | .agg parts => uptoBulkAll parts + 1
  | .iface _ d => uptoBulk d + 1
  | .map entries => uptoBulkEntries entries + 1
  | .held _ => 1
def uptoBulkAll {H : Type} : List (DataW H) → Nat
  | [] => 0
  | d :: r => uptoBulk d + uptoBulkAll r
def uptoBulkEntries {H : Type} : List (Lit × DataW H) → Nat
  | [] => 0
  | x :: r => uptoBulkEntry x + uptoBulkEntries r
def uptoBulkEntry {H : Type} : Lit × DataW H → Nat
  | (.string bytes, d) => bytes.length + uptoBulk d + 1
  | (_, d) => uptoBulk d + 1
 end
def uptoSmall : (H : Type) → List (DataW H) → Bool := fun _ ds => decide (uptoBulkAll ds ≤ 1048576)
def OpenSpec.upto (s : _root_.Go.ChangeSpec) : _root_.Go.OpenSpec := { _root_.Go.OpenSpec.ofChange s with cond := some uptoSmall }

/-- 'laws.FnExactTagOf', WHERE WHAT IT READS IS OF BULK AT MOST 1048576: true; the input reads as it did. -/
def fnExactTagOfUptoRow : OpenClaim := { program := "ytnacfjedfipggab", sum := "a03b2c1bd23f2552e1cf96b2bb4db08f9f962b73be58838c12e4e0d9564c1be0", func := "loop.example/mixrelay/laws.FnExactTagOf", spec := "fnExactTagOf", unfollowed := true, recurses := true, apart := false, narrowed := true }
def FnExactTagOfUptoSaid : Prop := fnExactTagOfUptoRow.holds Try.pinned (OpenSpec.upto fnExactTagOfSpec)

/-- 'laws.FnExactTagCheck', WHERE WHAT IT READS IS OF BULK AT MOST 1048576: true; the input reads as it did. -/
def fnExactTagCheckUptoRow : OpenClaim := { program := "ytnacfjedfipggab", sum := "a03b2c1bd23f2552e1cf96b2bb4db08f9f962b73be58838c12e4e0d9564c1be0", func := "loop.example/mixrelay/laws.FnExactTagCheck", spec := "fnExactTagCheck", unfollowed := true, recurses := true, apart := false, narrowed := true }
def FnExactTagCheckUptoSaid : Prop := fnExactTagCheckUptoRow.holds Try.pinned (OpenSpec.upto fnExactTagCheckSpec)

/-- 'laws.FnLetter', WHERE WHAT IT READS IS OF BULK AT MOST 1048576: true; the input reads as it did. -/
def fnLetterUptoRow : OpenClaim := { program := "ytnacfjedfipggab", sum := "a03b2c1bd23f2552e1cf96b2bb4db08f9f962b73be58838c12e4e0d9564c1be0", func := "loop.example/mixrelay/laws.FnLetter", spec := "fnLetter", unfollowed := true, recurses := true, apart := false, narrowed := true }
def FnLetterUptoSaid : Prop := fnLetterUptoRow.holds Try.pinned (OpenSpec.upto fnLetterSpec)

/-- 'laws.FnLetterChange', WHERE WHAT IT READS IS OF BULK AT MOST 1048576: true; the input reads as it did. -/
def fnLetterChangeUptoRow : OpenClaim := { program := "ytnacfjedfipggab", sum := "a03b2c1bd23f2552e1cf96b2bb4db08f9f962b73be58838c12e4e0d9564c1be0", func := "loop.example/mixrelay/laws.FnLetterChange", spec := "fnLetterChange", unfollowed := true, recurses := true, apart := false, narrowed := true }
def FnLetterChangeUptoSaid : Prop := fnLetterChangeUptoRow.holds Try.pinned (OpenSpec.upto fnLetterChangeSpec)

/-- 'laws.FnLetterBack', WHERE WHAT IT READS IS OF BULK AT MOST 1048576: true; the input reads as it did. -/
def fnLetterBackUptoRow : OpenClaim := { program := "ytnacfjedfipggab", sum := "a03b2c1bd23f2552e1cf96b2bb4db08f9f962b73be58838c12e4e0d9564c1be0", func := "loop.example/mixrelay/laws.FnLetterBack", spec := "fnLetterBack", unfollowed := true, recurses := true, apart := false, narrowed := true }
def FnLetterBackUptoSaid : Prop := fnLetterBackUptoRow.holds Try.pinned (OpenSpec.upto fnLetterBackSpec)

/-- 'laws.FnLetterSize', WHERE WHAT IT READS IS OF BULK AT MOST 1048576: true; the input reads as it did. -/
def fnLetterSizeUptoRow : OpenClaim := { program := "ytnacfjedfipggab", sum := "a03b2c1bd23f2552e1cf96b2bb4db08f9f962b73be58838c12e4e0d9564c1be0", func := "loop.example/mixrelay/laws.FnLetterSize", spec := "fnLetterSize", unfollowed := true, recurses := true, apart := false, narrowed := true }
def FnLetterSizeUptoSaid : Prop := fnLetterSizeUptoRow.holds Try.pinned (OpenSpec.upto fnLetterSizeSpec)

/-- 'laws.FnLetterZeros', WHERE WHAT IT READS IS OF BULK AT MOST 1048576: true; the input reads as it did. -/
def fnLetterZerosUptoRow : OpenClaim := { program := "ytnacfjedfipggab", sum := "a03b2c1bd23f2552e1cf96b2bb4db08f9f962b73be58838c12e4e0d9564c1be0", func := "loop.example/mixrelay/laws.FnLetterZeros", spec := "fnLetterZeros", unfollowed := true, recurses := true, apart := false, narrowed := true }
def FnLetterZerosUptoSaid : Prop := fnLetterZerosUptoRow.holds Try.pinned (OpenSpec.upto fnLetterZerosSpec)

/-- 'laws.FnExactLetterPack', WHERE WHAT IT READS IS OF BULK AT MOST 1048576: true; the input reads as it did. -/
def fnExactLetterPackUptoRow : OpenClaim := { program := "ytnacfjedfipggab", sum := "a03b2c1bd23f2552e1cf96b2bb4db08f9f962b73be58838c12e4e0d9564c1be0", func := "loop.example/mixrelay/laws.FnExactLetterPack", spec := "fnExactLetterPack", unfollowed := true, recurses := true, apart := false, narrowed := true }
def FnExactLetterPackUptoSaid : Prop := fnExactLetterPackUptoRow.holds Try.pinned (OpenSpec.upto fnExactLetterPackSpec)

/-- 'laws.FnExactLetterOpen', WHERE WHAT IT READS IS OF BULK AT MOST 1048576: true; the input reads as it did. -/
def fnExactLetterOpenUptoRow : OpenClaim := { program := "ytnacfjedfipggab", sum := "a03b2c1bd23f2552e1cf96b2bb4db08f9f962b73be58838c12e4e0d9564c1be0", func := "loop.example/mixrelay/laws.FnExactLetterOpen", spec := "fnExactLetterOpen", unfollowed := true, recurses := true, apart := false, narrowed := true }
def FnExactLetterOpenUptoSaid : Prop := fnExactLetterOpenUptoRow.holds Try.pinned (OpenSpec.upto fnExactLetterOpenSpec)

end Rows
end Go.Proofs.Ytnacfjedfipggab
