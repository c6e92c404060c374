/-
  NARROWER THAN 'FOR EVERY INPUT', by the rows' own cells (each row's printed sentence says how): FnSpend: ifaces, laid · FnSpendTwice: ifaces, laid · FnSpendRefused: ifaces, laid · FnSpendOrder: ifaces, laid · FnAuditSpend: ifaces, laid · FnAuditSelf: ifaces, laid.
  DERIVED. THE GIVEN ROWS OF THIS SEAT. 6 by the template 'for every input the law returns true; each argument reads behind the call as it read before'; 0 by the template 'total and deterministic' (their statements: YtecdoibdpimlaaaDoorTotals.lean).
  GIVEN WITH THE SEED: the statements are not yours to turn. If you find one false, say at which input.
  Laid BY PROGRAM, IN A SANDBOX (cutbox-rows.mjs): the forced cells as the released guide's own fill.sh prints them over the translation 37c775d65f6cbc0e… (all of the seat's roots in one cut). By AI agents, Wed Nov 11 2026. No macro, syntax, notation, axiom, sorry.
-/
import Derived.Test.YtecdoibdpimlaaaDoorChecked
import GoSem.Claim
import GoSem.ClaimJoined
import GoSem.ClaimMapViews
import Derived.JoinedTies
import Derived.KernelRfl
namespace Go.Proofs.YtecdoibdpimlaaaDoor
/- THE CELL 'sum', in the pinned program and in every row, IS THE sha256 OF THE DUMP (.gsa) THAT YtecdoibdpimlaaaDoorProg.lean LOADS. Nothing in Lean hashes anything: it is a label: what it is worth is what the hold of that sum in a sandbox is worth. -/
noncomputable def Tryd.pinned : Pinned := { name := "ytecdoibdpimlaaadoor", sum := "37c775d65f6cbc0e9d0e27859e5e0087b2c55e58271114528fb8881afcbcccdc", checked := Tryd.checked }
namespace Rows
def none {H : Type} : Left H := { results := [], args := [] }

/- WHAT THE LISTED PACKAGE-LEVEL VARIABLES READ AS WHEN THE CALL BEGINS. Each datum BY PROGRAM (the guide's laid-datum.mjs) off the statement by which the dump's own 'gosem.cut.vars' lays the variable. In a bare row this is a premise. The card (YtecdoibdpimlaaaDoorCards.lean) ties it to the program's text. -/
def laid_loop_example_mixrelay_impl_errRejected {H : Type} : DataW H := .iface "*errors.errorString" (.ptr (.agg [.lit (.string [116, 104, 101, 32, 116, 105, 99, 107, 101, 116, 32, 105, 115, 32, 110, 111, 116, 32, 115, 105, 103, 110, 101, 100])]))
def laid_loop_example_mixrelay_impl_errSpent {H : Type} : DataW H := .iface "*errors.errorString" (.ptr (.agg [.lit (.string [116, 104, 101, 32, 116, 105, 99, 107, 101, 116, 32, 119, 97, 115, 32, 115, 112, 101, 110, 116])]))
def laid_loop_example_mixrelay_impl_errNoSpace {H : Type} : DataW H := .iface "*errors.errorString" (.ptr (.agg [.lit (.string [110, 111, 32, 109, 111, 114, 101, 32, 116, 105, 99, 107, 101, 116, 115, 32, 97, 114, 101, 32, 114, 101, 109, 101, 109, 98, 101, 114, 101, 100])]))

/-- 'laws.FnSpend': WHATEVER THE INPUT: true; the input reads as it did. -/
def fnSpendSpec : ChangeSpec := { name := "fnSpend", vars := ["loop.example/mixrelay/impl.errRejected", "loop.example/mixrelay/impl.errSpent", "loop.example/mixrelay/impl.errNoSpace"], fn := fun _ => fun
  | [d, g1, g2, g3] => { results := [.lit (.bool true)], args := [d], vars := [g1, g2, g3] }
  | _ => none }
def fnSpendRow : OpenClaim := { program := "ytecdoibdpimlaaadoor", sum := "37c775d65f6cbc0e9d0e27859e5e0087b2c55e58271114528fb8881afcbcccdc", func := "loop.example/mixrelay/laws.FnSpend", spec := "fnSpend", inPlace := ["internal/reflectlite.TypeOf", "slices.overlaps[int]"], unfollowed := true, recurses := true, named := ["loop.example/mixrelay/impl.errRejected", "loop.example/mixrelay/impl.errSpent", "loop.example/mixrelay/impl.errNoSpace"], ifaces := true, apart := false, laid := [("loop.example/mixrelay/impl.errRejected", laid_loop_example_mixrelay_impl_errRejected), ("loop.example/mixrelay/impl.errSpent", laid_loop_example_mixrelay_impl_errSpent), ("loop.example/mixrelay/impl.errNoSpace", laid_loop_example_mixrelay_impl_errNoSpace)] }
def FnSpendSaid : Prop := fnSpendRow.holds Tryd.pinned (OpenSpec.ofChange fnSpendSpec)

/-- ITS FALSE NEIGHBOUR: 'it returns false'. Refute it at one input. -/
def fnSpendWrong : ChangeSpec := { name := "fnSpend", vars := ["loop.example/mixrelay/impl.errRejected", "loop.example/mixrelay/impl.errSpent", "loop.example/mixrelay/impl.errNoSpace"], fn := fun _ => fun
  | [d, g1, g2, g3] => { results := [.lit (.bool false)], args := [d], vars := [g1, g2, g3] }
  | _ => none }
def FnSpendWrongFalsely : Prop := fnSpendRow.holds Tryd.pinned (OpenSpec.ofChange fnSpendWrong)

/-- 'laws.FnSpendTwice': WHATEVER THE INPUT: true; the input reads as it did. -/
def fnSpendTwiceSpec : ChangeSpec := { name := "fnSpendTwice", vars := ["loop.example/mixrelay/impl.errRejected", "loop.example/mixrelay/impl.errSpent", "loop.example/mixrelay/impl.errNoSpace"], fn := fun _ => fun
  | [d, g1, g2, g3] => { results := [.lit (.bool true)], args := [d], vars := [g1, g2, g3] }
  | _ => none }
def fnSpendTwiceRow : OpenClaim := { program := "ytecdoibdpimlaaadoor", sum := "37c775d65f6cbc0e9d0e27859e5e0087b2c55e58271114528fb8881afcbcccdc", func := "loop.example/mixrelay/laws.FnSpendTwice", spec := "fnSpendTwice", inPlace := ["internal/reflectlite.TypeOf", "slices.overlaps[int]"], unfollowed := true, recurses := true, named := ["loop.example/mixrelay/impl.errRejected", "loop.example/mixrelay/impl.errSpent", "loop.example/mixrelay/impl.errNoSpace"], ifaces := true, apart := false, laid := [("loop.example/mixrelay/impl.errRejected", laid_loop_example_mixrelay_impl_errRejected), ("loop.example/mixrelay/impl.errSpent", laid_loop_example_mixrelay_impl_errSpent), ("loop.example/mixrelay/impl.errNoSpace", laid_loop_example_mixrelay_impl_errNoSpace)] }
def FnSpendTwiceSaid : Prop := fnSpendTwiceRow.holds Tryd.pinned (OpenSpec.ofChange fnSpendTwiceSpec)

/-- ITS FALSE NEIGHBOUR: 'it returns false'. Refute it at one input. -/
def fnSpendTwiceWrong : ChangeSpec := { name := "fnSpendTwice", vars := ["loop.example/mixrelay/impl.errRejected", "loop.example/mixrelay/impl.errSpent", "loop.example/mixrelay/impl.errNoSpace"], fn := fun _ => fun
  | [d, g1, g2, g3] => { results := [.lit (.bool false)], args := [d], vars := [g1, g2, g3] }
  | _ => none }
def FnSpendTwiceWrongFalsely : Prop := fnSpendTwiceRow.holds Tryd.pinned (OpenSpec.ofChange fnSpendTwiceWrong)

/-- 'laws.FnSpendRefused': WHATEVER THE INPUT: true; the input reads as it did. -/
def fnSpendRefusedSpec : ChangeSpec := { name := "fnSpendRefused", vars := ["loop.example/mixrelay/impl.errRejected", "loop.example/mixrelay/impl.errSpent", "loop.example/mixrelay/impl.errNoSpace"], fn := fun _ => fun
  | [d, g1, g2, g3] => { results := [.lit (.bool true)], args := [d], vars := [g1, g2, g3] }
  | _ => none }
def fnSpendRefusedRow : OpenClaim := { program := "ytecdoibdpimlaaadoor", sum := "37c775d65f6cbc0e9d0e27859e5e0087b2c55e58271114528fb8881afcbcccdc", func := "loop.example/mixrelay/laws.FnSpendRefused", spec := "fnSpendRefused", inPlace := ["internal/reflectlite.TypeOf", "slices.overlaps[int]"], unfollowed := true, recurses := true, named := ["loop.example/mixrelay/impl.errRejected", "loop.example/mixrelay/impl.errSpent", "loop.example/mixrelay/impl.errNoSpace"], ifaces := true, apart := false, laid := [("loop.example/mixrelay/impl.errRejected", laid_loop_example_mixrelay_impl_errRejected), ("loop.example/mixrelay/impl.errSpent", laid_loop_example_mixrelay_impl_errSpent), ("loop.example/mixrelay/impl.errNoSpace", laid_loop_example_mixrelay_impl_errNoSpace)] }
def FnSpendRefusedSaid : Prop := fnSpendRefusedRow.holds Tryd.pinned (OpenSpec.ofChange fnSpendRefusedSpec)

/-- ITS FALSE NEIGHBOUR: 'it returns false'. Refute it at one input. -/
def fnSpendRefusedWrong : ChangeSpec := { name := "fnSpendRefused", vars := ["loop.example/mixrelay/impl.errRejected", "loop.example/mixrelay/impl.errSpent", "loop.example/mixrelay/impl.errNoSpace"], fn := fun _ => fun
  | [d, g1, g2, g3] => { results := [.lit (.bool false)], args := [d], vars := [g1, g2, g3] }
  | _ => none }
def FnSpendRefusedWrongFalsely : Prop := fnSpendRefusedRow.holds Tryd.pinned (OpenSpec.ofChange fnSpendRefusedWrong)

/-- 'laws.FnSpendOrder': WHATEVER THE INPUT: true; the input reads as it did. -/
def fnSpendOrderSpec : ChangeSpec := { name := "fnSpendOrder", vars := ["loop.example/mixrelay/impl.errRejected", "loop.example/mixrelay/impl.errSpent", "loop.example/mixrelay/impl.errNoSpace"], fn := fun _ => fun
  | [d1, d2, g1, g2, g3] => { results := [.lit (.bool true)], args := [d1, d2], vars := [g1, g2, g3] }
  | _ => none }
def fnSpendOrderRow : OpenClaim := { program := "ytecdoibdpimlaaadoor", sum := "37c775d65f6cbc0e9d0e27859e5e0087b2c55e58271114528fb8881afcbcccdc", func := "loop.example/mixrelay/laws.FnSpendOrder", spec := "fnSpendOrder", inPlace := ["internal/reflectlite.TypeOf", "slices.overlaps[int]"], unfollowed := true, recurses := true, named := ["loop.example/mixrelay/impl.errRejected", "loop.example/mixrelay/impl.errSpent", "loop.example/mixrelay/impl.errNoSpace"], ifaces := true, apart := false, laid := [("loop.example/mixrelay/impl.errRejected", laid_loop_example_mixrelay_impl_errRejected), ("loop.example/mixrelay/impl.errSpent", laid_loop_example_mixrelay_impl_errSpent), ("loop.example/mixrelay/impl.errNoSpace", laid_loop_example_mixrelay_impl_errNoSpace)] }
def FnSpendOrderSaid : Prop := fnSpendOrderRow.holds Tryd.pinned (OpenSpec.ofChange fnSpendOrderSpec)

/-- ITS FALSE NEIGHBOUR: 'it returns false'. Refute it at one input. -/
def fnSpendOrderWrong : ChangeSpec := { name := "fnSpendOrder", vars := ["loop.example/mixrelay/impl.errRejected", "loop.example/mixrelay/impl.errSpent", "loop.example/mixrelay/impl.errNoSpace"], fn := fun _ => fun
  | [d1, d2, g1, g2, g3] => { results := [.lit (.bool false)], args := [d1, d2], vars := [g1, g2, g3] }
  | _ => none }
def FnSpendOrderWrongFalsely : Prop := fnSpendOrderRow.holds Tryd.pinned (OpenSpec.ofChange fnSpendOrderWrong)

/-- 'laws.FnAuditSpend': WHATEVER THE INPUT: true; the input reads as it did. -/
def fnAuditSpendSpec : ChangeSpec := { name := "fnAuditSpend", vars := ["loop.example/mixrelay/impl.errRejected", "loop.example/mixrelay/impl.errSpent", "loop.example/mixrelay/impl.errNoSpace"], fn := fun _ => fun
  | [d1, d2, g1, g2, g3] => { results := [.lit (.bool true)], args := [d1, d2], vars := [g1, g2, g3] }
  | _ => none }
def fnAuditSpendRow : OpenClaim := { program := "ytecdoibdpimlaaadoor", sum := "37c775d65f6cbc0e9d0e27859e5e0087b2c55e58271114528fb8881afcbcccdc", func := "loop.example/mixrelay/laws.FnAuditSpend", spec := "fnAuditSpend", inPlace := ["internal/reflectlite.TypeOf", "slices.overlaps[int]"], unfollowed := true, recurses := true, named := ["loop.example/mixrelay/impl.errRejected", "loop.example/mixrelay/impl.errSpent", "loop.example/mixrelay/impl.errNoSpace"], ifaces := true, apart := false, laid := [("loop.example/mixrelay/impl.errRejected", laid_loop_example_mixrelay_impl_errRejected), ("loop.example/mixrelay/impl.errSpent", laid_loop_example_mixrelay_impl_errSpent), ("loop.example/mixrelay/impl.errNoSpace", laid_loop_example_mixrelay_impl_errNoSpace)] }
def FnAuditSpendSaid : Prop := fnAuditSpendRow.holds Tryd.pinned (OpenSpec.ofChange fnAuditSpendSpec)

/-- ITS FALSE NEIGHBOUR: 'it returns false'. Refute it at one input. -/
def fnAuditSpendWrong : ChangeSpec := { name := "fnAuditSpend", vars := ["loop.example/mixrelay/impl.errRejected", "loop.example/mixrelay/impl.errSpent", "loop.example/mixrelay/impl.errNoSpace"], fn := fun _ => fun
  | [d1, d2, g1, g2, g3] => { results := [.lit (.bool false)], args := [d1, d2], vars := [g1, g2, g3] }
  | _ => none }
def FnAuditSpendWrongFalsely : Prop := fnAuditSpendRow.holds Tryd.pinned (OpenSpec.ofChange fnAuditSpendWrong)

/-- 'laws.FnAuditSelf': WHATEVER THE INPUT: true; the input reads as it did. -/
def fnAuditSelfSpec : ChangeSpec := { name := "fnAuditSelf", vars := ["loop.example/mixrelay/impl.errRejected", "loop.example/mixrelay/impl.errSpent", "loop.example/mixrelay/impl.errNoSpace"], fn := fun _ => fun
  | [d, g1, g2, g3] => { results := [.lit (.bool true)], args := [d], vars := [g1, g2, g3] }
  | _ => none }
def fnAuditSelfRow : OpenClaim := { program := "ytecdoibdpimlaaadoor", sum := "37c775d65f6cbc0e9d0e27859e5e0087b2c55e58271114528fb8881afcbcccdc", func := "loop.example/mixrelay/laws.FnAuditSelf", spec := "fnAuditSelf", inPlace := ["internal/reflectlite.TypeOf", "slices.overlaps[int]"], unfollowed := true, recurses := true, named := ["loop.example/mixrelay/impl.errRejected", "loop.example/mixrelay/impl.errSpent", "loop.example/mixrelay/impl.errNoSpace"], ifaces := true, apart := false, laid := [("loop.example/mixrelay/impl.errRejected", laid_loop_example_mixrelay_impl_errRejected), ("loop.example/mixrelay/impl.errSpent", laid_loop_example_mixrelay_impl_errSpent), ("loop.example/mixrelay/impl.errNoSpace", laid_loop_example_mixrelay_impl_errNoSpace)] }
def FnAuditSelfSaid : Prop := fnAuditSelfRow.holds Tryd.pinned (OpenSpec.ofChange fnAuditSelfSpec)

/-- ITS FALSE NEIGHBOUR: 'it returns false'. Refute it at one input. -/
def fnAuditSelfWrong : ChangeSpec := { name := "fnAuditSelf", vars := ["loop.example/mixrelay/impl.errRejected", "loop.example/mixrelay/impl.errSpent", "loop.example/mixrelay/impl.errNoSpace"], fn := fun _ => fun
  | [d, g1, g2, g3] => { results := [.lit (.bool false)], args := [d], vars := [g1, g2, g3] }
  | _ => none }
def FnAuditSelfWrongFalsely : Prop := fnAuditSelfRow.holds Tryd.pinned (OpenSpec.ofChange fnAuditSelfWrong)

/- THE SECOND FORM. 'bulk': how many values and letters a reading holds, each counted each time it is reached (what is shared counts as often as it is met; a slice's spare places count too). A statement '..UptoSaid' is the law's where the arguments, and the package variables that the reading takes, are together of bulk at most 1048576: NARROWER than '..Said'. Prove '..Said' where nothing that the law and all that it calls make is longer than what came in: it says more and counts as full. Else prove '..UptoSaid'. A law counts once. -/
mutual
def uptoBulk {H : Type} : DataW H → Nat
  | .lit (.string bytes) => bytes.length + 1
  | .lit _ => 1
  | .nil => 1
  | .ptr d => uptoBulk d + 1
  | .slice elems spare => uptoBulkAll elems + uptoBulkAll spare + 1
  | .agg parts => uptoBulkAll parts + 1
  | .iface _ d => uptoBulk d + 1
  | .map entries => uptoBulkEntries entries + 1
  | .held _ => 1
def uptoBulkAll {H : Type} : List (DataW H) → Nat
  | [] => 0
  | d :: r => uptoBulk d + uptoBulkAll r
def uptoBulkEntries {H : Type} : List (Lit × DataW H) → Nat
  | [] => 0
  | x :: r => uptoBulkEntry x + uptoBulkEntries r
def uptoBulkEntry {H : Type} : Lit × DataW H → Nat
  | (.string bytes, d) => bytes.length + uptoBulk d + 1
  | (_, d) => uptoBulk d + 1
 end
def uptoSmall : (H : Type) → List (DataW H) → Bool := fun _ ds => decide (uptoBulkAll ds ≤ 1048576)
def OpenSpec.upto (s : _root_.Go.ChangeSpec) : _root_.Go.OpenSpec := { _root_.Go.OpenSpec.ofChange s with cond := some uptoSmall }

/-- 'laws.FnSpend', WHERE WHAT IT READS IS OF BULK AT MOST 1048576: true; the input reads as it did. -/
def fnSpendUptoRow : OpenClaim := { program := "ytecdoibdpimlaaadoor", sum := "37c775d65f6cbc0e9d0e27859e5e0087b2c55e58271114528fb8881afcbcccdc", func := "loop.example/mixrelay/laws.FnSpend", spec := "fnSpend", inPlace := ["internal/reflectlite.TypeOf", "slices.overlaps[int]"], unfollowed := true, recurses := true, named := ["loop.example/mixrelay/impl.errRejected", "loop.example/mixrelay/impl.errSpent", "loop.example/mixrelay/impl.errNoSpace"], ifaces := true, apart := false, laid := [("loop.example/mixrelay/impl.errRejected", laid_loop_example_mixrelay_impl_errRejected), ("loop.example/mixrelay/impl.errSpent", laid_loop_example_mixrelay_impl_errSpent), ("loop.example/mixrelay/impl.errNoSpace", laid_loop_example_mixrelay_impl_errNoSpace)], narrowed := true }
def FnSpendUptoSaid : Prop := fnSpendUptoRow.holds Tryd.pinned (OpenSpec.upto fnSpendSpec)

/-- 'laws.FnSpendTwice', WHERE WHAT IT READS IS OF BULK AT MOST 1048576: true; the input reads as it did. -/
def fnSpendTwiceUptoRow : OpenClaim := { program := "ytecdoibdpimlaaadoor", sum := "37c775d65f6cbc0e9d0e27859e5e0087b2c55e58271114528fb8881afcbcccdc", func := "loop.example/mixrelay/laws.FnSpendTwice", spec := "fnSpendTwice", inPlace := ["internal/reflectlite.TypeOf", "slices.overlaps[int]"], unfollowed := true, recurses := true, named := ["loop.example/mixrelay/impl.errRejected", "loop.example/mixrelay/impl.errSpent", "loop.example/mixrelay/impl.errNoSpace"], ifaces := true, apart := false, laid := [("loop.example/mixrelay/impl.errRejected", laid_loop_example_mixrelay_impl_errRejected), ("loop.example/mixrelay/impl.errSpent", laid_loop_example_mixrelay_impl_errSpent), ("loop.example/mixrelay/impl.errNoSpace", laid_loop_example_mixrelay_impl_errNoSpace)], narrowed := true }
def FnSpendTwiceUptoSaid : Prop := fnSpendTwiceUptoRow.holds Tryd.pinned (OpenSpec.upto fnSpendTwiceSpec)

/-- 'laws.FnSpendRefused', WHERE WHAT IT READS IS OF BULK AT MOST 1048576: true; the input reads as it did. -/
def fnSpendRefusedUptoRow : OpenClaim := { program := "ytecdoibdpimlaaadoor", sum := "37c775d65f6cbc0e9d0e27859e5e0087b2c55e58271114528fb8881afcbcccdc", func := "loop.example/mixrelay/laws.FnSpendRefused", spec := "fnSpendRefused", inPlace := ["internal/reflectlite.TypeOf", "slices.overlaps[int]"], unfollowed := true, recurses := true, named := ["loop.example/mixrelay/impl.errRejected", "loop.example/mixrelay/impl.errSpent", "loop.example/mixrelay/impl.errNoSpace"], ifaces := true, apart := false, laid := [("loop.example/mixrelay/impl.errRejected", laid_loop_example_mixrelay_impl_errRejected), ("loop.example/mixrelay/impl.errSpent", laid_loop_example_mixrelay_impl_errSpent), ("loop.example/mixrelay/impl.errNoSpace", laid_loop_example_mixrelay_impl_errNoSpace)], narrowed := true }
def FnSpendRefusedUptoSaid : Prop := fnSpendRefusedUptoRow.holds Tryd.pinned (OpenSpec.upto fnSpendRefusedSpec)

/-- 'laws.FnSpendOrder', WHERE WHAT IT READS IS OF BULK AT MOST 1048576: true; the input reads as it did. -/
def fnSpendOrderUptoRow : OpenClaim := { program := "ytecdoibdpimlaaadoor", sum := "37c775d65f6cbc0e9d0e27859e5e0087b2c55e58271114528fb8881afcbcccdc", func := "loop.example/mixrelay/laws.FnSpendOrder", spec := "fnSpendOrder", inPlace := ["internal/reflectlite.TypeOf", "slices.overlaps[int]"], unfollowed := true, recurses := true, named := ["loop.example/mixrelay/impl.errRejected", "loop.example/mixrelay/impl.errSpent", "loop.example/mixrelay/impl.errNoSpace"], ifaces := true, apart := false, laid := [("loop.example/mixrelay/impl.errRejected", laid_loop_example_mixrelay_impl_errRejected), ("loop.example/mixrelay/impl.errSpent", laid_loop_example_mixrelay_impl_errSpent), ("loop.example/mixrelay/impl.errNoSpace", laid_loop_example_mixrelay_impl_errNoSpace)], narrowed := true }
def FnSpendOrderUptoSaid : Prop := fnSpendOrderUptoRow.holds Tryd.pinned (OpenSpec.upto fnSpendOrderSpec)

/-- 'laws.FnAuditSpend', WHERE WHAT IT READS IS OF BULK AT MOST 1048576: true; the input reads as it did. -/
def fnAuditSpendUptoRow : OpenClaim := { program := "ytecdoibdpimlaaadoor", sum := "37c775d65f6cbc0e9d0e27859e5e0087b2c55e58271114528fb8881afcbcccdc", func := "loop.example/mixrelay/laws.FnAuditSpend", spec := "fnAuditSpend", inPlace := ["internal/reflectlite.TypeOf", "slices.overlaps[int]"], unfollowed := true, recurses := true, named := ["loop.example/mixrelay/impl.errRejected", "loop.example/mixrelay/impl.errSpent", "loop.example/mixrelay/impl.errNoSpace"], ifaces := true, apart := false, laid := [("loop.example/mixrelay/impl.errRejected", laid_loop_example_mixrelay_impl_errRejected), ("loop.example/mixrelay/impl.errSpent", laid_loop_example_mixrelay_impl_errSpent), ("loop.example/mixrelay/impl.errNoSpace", laid_loop_example_mixrelay_impl_errNoSpace)], narrowed := true }
def FnAuditSpendUptoSaid : Prop := fnAuditSpendUptoRow.holds Tryd.pinned (OpenSpec.upto fnAuditSpendSpec)

/-- 'laws.FnAuditSelf', WHERE WHAT IT READS IS OF BULK AT MOST 1048576: true; the input reads as it did. -/
def fnAuditSelfUptoRow : OpenClaim := { program := "ytecdoibdpimlaaadoor", sum := "37c775d65f6cbc0e9d0e27859e5e0087b2c55e58271114528fb8881afcbcccdc", func := "loop.example/mixrelay/laws.FnAuditSelf", spec := "fnAuditSelf", inPlace := ["internal/reflectlite.TypeOf", "slices.overlaps[int]"], unfollowed := true, recurses := true, named := ["loop.example/mixrelay/impl.errRejected", "loop.example/mixrelay/impl.errSpent", "loop.example/mixrelay/impl.errNoSpace"], ifaces := true, apart := false, laid := [("loop.example/mixrelay/impl.errRejected", laid_loop_example_mixrelay_impl_errRejected), ("loop.example/mixrelay/impl.errSpent", laid_loop_example_mixrelay_impl_errSpent), ("loop.example/mixrelay/impl.errNoSpace", laid_loop_example_mixrelay_impl_errNoSpace)], narrowed := true }
def FnAuditSelfUptoSaid : Prop := fnAuditSelfUptoRow.holds Tryd.pinned (OpenSpec.upto fnAuditSelfSpec)

end Rows
end Go.Proofs.YtecdoibdpimlaaaDoor
