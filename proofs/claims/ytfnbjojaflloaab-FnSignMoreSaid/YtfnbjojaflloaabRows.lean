/-
  No cell of these rows narrows 'for every input' (looked for: loops, veiled, ifaces, maps, wideKeys, modest, calm, conditions, laid).
  DERIVED. THE GIVEN ROWS OF THIS SEAT. 7 by the template 'for every input the law returns true; each argument reads behind the call as it read before'; 0 by the template 'total and deterministic' (their statements: YtfnbjojaflloaabTotals.lean).
  GIVEN WITH THE SEED: the statements are not yours to turn. If you find one false, say at which input.
  Laid BY PROGRAM, IN A SANDBOX (cutbox-rows.mjs): the forced cells as the released guide's own fill.sh prints them over the translation 1fa540b095b054bf… (all of the seat's roots in one cut). By AI agents, Wed Nov 11 2026. No macro, syntax, notation, axiom, sorry.
-/
import Derived.Test.YtfnbjojaflloaabChecked
import GoSem.Claim
import GoSem.ClaimJoined
import GoSem.ClaimMapViews
import Derived.JoinedTies
import Derived.KernelRfl
namespace Go.Proofs.Ytfnbjojaflloaab
/- THE CELL 'sum', in the pinned program and in every row, IS THE sha256 OF THE DUMP (.gsa) THAT YtfnbjojaflloaabProg.lean LOADS. Nothing in Lean hashes anything: it is a label: what it is worth is what the hold of that sum in a sandbox is worth. -/
noncomputable def Try.pinned : Pinned := { name := "ytfnbjojaflloaab", sum := "1fa540b095b054bf2e9615f6dd042f884bdea62e0819fe2d94d89af895eed26b", checked := Try.checked }
namespace Rows
def none {H : Type} : Left H := { results := [], args := [] }

/-- 'laws.FnExactTicketMake': WHATEVER THE INPUT: true; the input reads as it did. -/
def fnExactTicketMakeSpec : ChangeSpec := { name := "fnExactTicketMake", fn := fun _ => fun
  | [d1, d2] => { results := [.lit (.bool true)], args := [d1, d2] }
  | _ => none }
def fnExactTicketMakeRow : OpenClaim := { program := "ytfnbjojaflloaab", sum := "1fa540b095b054bf2e9615f6dd042f884bdea62e0819fe2d94d89af895eed26b", func := "loop.example/mixrelay/laws.FnExactTicketMake", spec := "fnExactTicketMake", apart := false }
def FnExactTicketMakeSaid : Prop := fnExactTicketMakeRow.holds Try.pinned (OpenSpec.ofChange fnExactTicketMakeSpec)

/-- ITS FALSE NEIGHBOUR: 'it returns false'. Refute it at one input. -/
def fnExactTicketMakeWrong : ChangeSpec := { name := "fnExactTicketMake", fn := fun _ => fun
  | [d1, d2] => { results := [.lit (.bool false)], args := [d1, d2] }
  | _ => none }
def FnExactTicketMakeWrongFalsely : Prop := fnExactTicketMakeRow.holds Try.pinned (OpenSpec.ofChange fnExactTicketMakeWrong)

/-- 'laws.FnExactTicketCheck': WHATEVER THE INPUT: true; the input reads as it did. -/
def fnExactTicketCheckSpec : ChangeSpec := { name := "fnExactTicketCheck", fn := fun _ => fun
  | [d1, d2] => { results := [.lit (.bool true)], args := [d1, d2] }
  | _ => none }
def fnExactTicketCheckRow : OpenClaim := { program := "ytfnbjojaflloaab", sum := "1fa540b095b054bf2e9615f6dd042f884bdea62e0819fe2d94d89af895eed26b", func := "loop.example/mixrelay/laws.FnExactTicketCheck", spec := "fnExactTicketCheck", apart := false }
def FnExactTicketCheckSaid : Prop := fnExactTicketCheckRow.holds Try.pinned (OpenSpec.ofChange fnExactTicketCheckSpec)

/-- ITS FALSE NEIGHBOUR: 'it returns false'. Refute it at one input. -/
def fnExactTicketCheckWrong : ChangeSpec := { name := "fnExactTicketCheck", fn := fun _ => fun
  | [d1, d2] => { results := [.lit (.bool false)], args := [d1, d2] }
  | _ => none }
def FnExactTicketCheckWrongFalsely : Prop := fnExactTicketCheckRow.holds Try.pinned (OpenSpec.ofChange fnExactTicketCheckWrong)

/-- 'laws.FnExactTicketAudit': WHATEVER THE INPUT: true; the input reads as it did. -/
def fnExactTicketAuditSpec : ChangeSpec := { name := "fnExactTicketAudit", fn := fun _ => fun
  | [d1, d2] => { results := [.lit (.bool true)], args := [d1, d2] }
  | _ => none }
def fnExactTicketAuditRow : OpenClaim := { program := "ytfnbjojaflloaab", sum := "1fa540b095b054bf2e9615f6dd042f884bdea62e0819fe2d94d89af895eed26b", func := "loop.example/mixrelay/laws.FnExactTicketAudit", spec := "fnExactTicketAudit", apart := false }
def FnExactTicketAuditSaid : Prop := fnExactTicketAuditRow.holds Try.pinned (OpenSpec.ofChange fnExactTicketAuditSpec)

/-- ITS FALSE NEIGHBOUR: 'it returns false'. Refute it at one input. -/
def fnExactTicketAuditWrong : ChangeSpec := { name := "fnExactTicketAudit", fn := fun _ => fun
  | [d1, d2] => { results := [.lit (.bool false)], args := [d1, d2] }
  | _ => none }
def FnExactTicketAuditWrongFalsely : Prop := fnExactTicketAuditRow.holds Try.pinned (OpenSpec.ofChange fnExactTicketAuditWrong)

/-- 'laws.FnSign': WHATEVER THE INPUT: true; the input reads as it did. -/
def fnSignSpec : ChangeSpec := { name := "fnSign", fn := fun _ => fun
  | [d1, d2] => { results := [.lit (.bool true)], args := [d1, d2] }
  | _ => none }
def fnSignRow : OpenClaim := { program := "ytfnbjojaflloaab", sum := "1fa540b095b054bf2e9615f6dd042f884bdea62e0819fe2d94d89af895eed26b", func := "loop.example/mixrelay/laws.FnSign", spec := "fnSign", unfollowed := true, recurses := true, apart := false }
def FnSignSaid : Prop := fnSignRow.holds Try.pinned (OpenSpec.ofChange fnSignSpec)

/-- ITS FALSE NEIGHBOUR: 'it returns false'. Refute it at one input. -/
def fnSignWrong : ChangeSpec := { name := "fnSign", fn := fun _ => fun
  | [d1, d2] => { results := [.lit (.bool false)], args := [d1, d2] }
  | _ => none }
def FnSignWrongFalsely : Prop := fnSignRow.holds Try.pinned (OpenSpec.ofChange fnSignWrong)

/-- 'laws.FnSignOther': WHATEVER THE INPUT: true; the input reads as it did. -/
def fnSignOtherSpec : ChangeSpec := { name := "fnSignOther", fn := fun _ => fun
  | [d1, d2] => { results := [.lit (.bool true)], args := [d1, d2] }
  | _ => none }
def fnSignOtherRow : OpenClaim := { program := "ytfnbjojaflloaab", sum := "1fa540b095b054bf2e9615f6dd042f884bdea62e0819fe2d94d89af895eed26b", func := "loop.example/mixrelay/laws.FnSignOther", spec := "fnSignOther", unfollowed := true, recurses := true, apart := false }
def FnSignOtherSaid : Prop := fnSignOtherRow.holds Try.pinned (OpenSpec.ofChange fnSignOtherSpec)

/-- ITS FALSE NEIGHBOUR: 'it returns false'. Refute it at one input. -/
def fnSignOtherWrong : ChangeSpec := { name := "fnSignOther", fn := fun _ => fun
  | [d1, d2] => { results := [.lit (.bool false)], args := [d1, d2] }
  | _ => none }
def FnSignOtherWrongFalsely : Prop := fnSignOtherRow.holds Try.pinned (OpenSpec.ofChange fnSignOtherWrong)

/-- 'laws.FnSignMore': WHATEVER THE INPUT: true; the input reads as it did. -/
def fnSignMoreSpec : ChangeSpec := { name := "fnSignMore", fn := fun _ => fun
  | [d1, d2] => { results := [.lit (.bool true)], args := [d1, d2] }
  | _ => none }
def fnSignMoreRow : OpenClaim := { program := "ytfnbjojaflloaab", sum := "1fa540b095b054bf2e9615f6dd042f884bdea62e0819fe2d94d89af895eed26b", func := "loop.example/mixrelay/laws.FnSignMore", spec := "fnSignMore", unfollowed := true, recurses := true, apart := false }
def FnSignMoreSaid : Prop := fnSignMoreRow.holds Try.pinned (OpenSpec.ofChange fnSignMoreSpec)

/-- ITS FALSE NEIGHBOUR: 'it returns false'. Refute it at one input. -/
def fnSignMoreWrong : ChangeSpec := { name := "fnSignMore", fn := fun _ => fun
  | [d1, d2] => { results := [.lit (.bool false)], args := [d1, d2] }
  | _ => none }
def FnSignMoreWrongFalsely : Prop := fnSignMoreRow.holds Try.pinned (OpenSpec.ofChange fnSignMoreWrong)

/-- 'laws.FnExactDirectoryCheck': WHATEVER THE INPUT: true; the input reads as it did. -/
def fnExactDirectoryCheckSpec : ChangeSpec := { name := "fnExactDirectoryCheck", fn := fun _ => fun
  | [d1, d2, d3] => { results := [.lit (.bool true)], args := [d1, d2, d3] }
  | _ => none }
def fnExactDirectoryCheckRow : OpenClaim := { program := "ytfnbjojaflloaab", sum := "1fa540b095b054bf2e9615f6dd042f884bdea62e0819fe2d94d89af895eed26b", func := "loop.example/mixrelay/laws.FnExactDirectoryCheck", spec := "fnExactDirectoryCheck", unfollowed := true, recurses := true, apart := false }
def FnExactDirectoryCheckSaid : Prop := fnExactDirectoryCheckRow.holds Try.pinned (OpenSpec.ofChange fnExactDirectoryCheckSpec)

/-- ITS FALSE NEIGHBOUR: 'it returns false'. Refute it at one input. -/
def fnExactDirectoryCheckWrong : ChangeSpec := { name := "fnExactDirectoryCheck", fn := fun _ => fun
  | [d1, d2, d3] => { results := [.lit (.bool false)], args := [d1, d2, d3] }
  | _ => none }
def FnExactDirectoryCheckWrongFalsely : Prop := fnExactDirectoryCheckRow.holds Try.pinned (OpenSpec.ofChange fnExactDirectoryCheckWrong)

/- THE SECOND FORM. 'bulk': how many values and letters a reading holds, each counted each time it is reached (what is shared counts as often as it is met; a slice's spare places count too). A statement '..UptoSaid' is the law's where the arguments, and the package variables that the reading takes, are together of bulk at most 1048576: NARROWER than '..Said'. Prove '..Said' where nothing that the law and all that it calls make is longer than what came in: it says more and counts as full. Else prove '..UptoSaid'. A law counts once. -/
mutual
def uptoBulk {H : Type} : DataW H → Nat
  | .lit (.string bytes) => bytes.length + 1
  | .lit _ => 1
  | .nil => 1
  | .ptr d => uptoBulk d + 1
  | .slice elems spare => uptoBulkAll elems + uptoBulkAll spare + 1
  | .agg parts => uptoBulkAll parts + 1
  | .iface _ d => uptoBulk d + 1
  | .map entries => uptoBulkEntries entries + 1
  | .held _ => 1
def uptoBulkAll {H : Type} : List (DataW H) → Nat
  | [] => 0
  | d :: r => uptoBulk d + uptoBulkAll r
def uptoBulkEntries {H : Type} : List (Lit × DataW H) → Nat
  | [] => 0
  | x :: r => uptoBulkEntry x + uptoBulkEntries r
def uptoBulkEntry {H : Type} : Lit × DataW H → Nat
  | (.string bytes, d) => bytes.length + uptoBulk d + 1
  | (_, d) => uptoBulk d + 1
 end
def uptoSmall : (H : Type) → List (DataW H) → Bool := fun _ ds => decide (uptoBulkAll ds ≤ 1048576)
def OpenSpec.upto (s : _root_.Go.ChangeSpec) : _root_.Go.OpenSpec := { _root_.Go.OpenSpec.ofChange s with cond := some uptoSmall }

/-- 'laws.FnExactTicketMake', WHERE WHAT IT READS IS OF BULK AT MOST 1048576: true; the input reads as it did. -/
def fnExactTicketMakeUptoRow : OpenClaim := { program := "ytfnbjojaflloaab", sum := "1fa540b095b054bf2e9615f6dd042f884bdea62e0819fe2d94d89af895eed26b", func := "loop.example/mixrelay/laws.FnExactTicketMake", spec := "fnExactTicketMake", apart := false, narrowed := true }
def FnExactTicketMakeUptoSaid : Prop := fnExactTicketMakeUptoRow.holds Try.pinned (OpenSpec.upto fnExactTicketMakeSpec)

/-- 'laws.FnExactTicketCheck', WHERE WHAT IT READS IS OF BULK AT MOST 1048576: true; the input reads as it did. -/
def fnExactTicketCheckUptoRow : OpenClaim := { program := "ytfnbjojaflloaab", sum := "1fa540b095b054bf2e9615f6dd042f884bdea62e0819fe2d94d89af895eed26b", func := "loop.example/mixrelay/laws.FnExactTicketCheck", spec := "fnExactTicketCheck", apart := false, narrowed := true }
def FnExactTicketCheckUptoSaid : Prop := fnExactTicketCheckUptoRow.holds Try.pinned (OpenSpec.upto fnExactTicketCheckSpec)

/-- 'laws.FnExactTicketAudit', WHERE WHAT IT READS IS OF BULK AT MOST 1048576: true; the input reads as it did. -/
def fnExactTicketAuditUptoRow : OpenClaim := { program := "ytfnbjojaflloaab", sum := "1fa540b095b054bf2e9615f6dd042f884bdea62e0819fe2d94d89af895eed26b", func := "loop.example/mixrelay/laws.FnExactTicketAudit", spec := "fnExactTicketAudit", apart := false, narrowed := true }
def FnExactTicketAuditUptoSaid : Prop := fnExactTicketAuditUptoRow.holds Try.pinned (OpenSpec.upto fnExactTicketAuditSpec)

/-- 'laws.FnSign', WHERE WHAT IT READS IS OF BULK AT MOST 1048576: true; the input reads as it did. -/
def fnSignUptoRow : OpenClaim := { program := "ytfnbjojaflloaab", sum := "1fa540b095b054bf2e9615f6dd042f884bdea62e0819fe2d94d89af895eed26b", func := "loop.example/mixrelay/laws.FnSign", spec := "fnSign", unfollowed := true, recurses := true, apart := false, narrowed := true }
def FnSignUptoSaid : Prop := fnSignUptoRow.holds Try.pinned (OpenSpec.upto fnSignSpec)

/-- 'laws.FnSignOther', WHERE WHAT IT READS IS OF BULK AT MOST 1048576: true; the input reads as it did. -/
def fnSignOtherUptoRow : OpenClaim := { program := "ytfnbjojaflloaab", sum := "1fa540b095b054bf2e9615f6dd042f884bdea62e0819fe2d94d89af895eed26b", func := "loop.example/mixrelay/laws.FnSignOther", spec := "fnSignOther", unfollowed := true, recurses := true, apart := false, narrowed := true }
def FnSignOtherUptoSaid : Prop := fnSignOtherUptoRow.holds Try.pinned (OpenSpec.upto fnSignOtherSpec)

/-- 'laws.FnSignMore', WHERE WHAT IT READS IS OF BULK AT MOST 1048576: true; the input reads as it did. -/
def fnSignMoreUptoRow : OpenClaim := { program := "ytfnbjojaflloaab", sum := "1fa540b095b054bf2e9615f6dd042f884bdea62e0819fe2d94d89af895eed26b", func := "loop.example/mixrelay/laws.FnSignMore", spec := "fnSignMore", unfollowed := true, recurses := true, apart := false, narrowed := true }
def FnSignMoreUptoSaid : Prop := fnSignMoreUptoRow.holds Try.pinned (OpenSpec.upto fnSignMoreSpec)

/-- 'laws.FnExactDirectoryCheck', WHERE WHAT IT READS IS OF BULK AT MOST 1048576: true; the input reads as it did. -/
def fnExactDirectoryCheckUptoRow : OpenClaim := { program := "ytfnbjojaflloaab", sum := "1fa540b095b054bf2e9615f6dd042f884bdea62e0819fe2d94d89af895eed26b", func := "loop.example/mixrelay/laws.FnExactDirectoryCheck", spec := "fnExactDirectoryCheck", unfollowed := true, recurses := true, apart := false, narrowed := true }
def FnExactDirectoryCheckUptoSaid : Prop := fnExactDirectoryCheckUptoRow.holds Try.pinned (OpenSpec.upto fnExactDirectoryCheckSpec)

end Rows
end Go.Proofs.Ytfnbjojaflloaab
