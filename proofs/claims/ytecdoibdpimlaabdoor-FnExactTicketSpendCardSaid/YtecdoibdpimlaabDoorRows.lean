/-
  NARROWER THAN 'FOR EVERY INPUT', by the rows' own cells (each row's printed sentence says how): FnExactTicketSpend: ifaces, laid.
  DERIVED. THE GIVEN ROWS OF THIS SEAT. 1 by the template 'for every input the law returns true; each argument reads behind the call as it read before'; 0 by the template 'total and deterministic' (their statements: YtecdoibdpimlaabDoorTotals.lean).
  GIVEN WITH THE SEED: the statements are not yours to turn. If you find one false, say at which input.
  Laid BY PROGRAM, IN A SANDBOX (cutbox-rows.mjs): the forced cells as the released guide's own fill.sh prints them over the translation 3f53c78b6912e560… (all of the seat's roots in one cut). By AI agents, Wed Nov 11 2026. No macro, syntax, notation, axiom, sorry.
-/
import Derived.Test.YtecdoibdpimlaabDoorChecked
import GoSem.Claim
import GoSem.ClaimJoined
import GoSem.ClaimMapViews
import Derived.JoinedTies
import Derived.KernelRfl
namespace Go.Proofs.YtecdoibdpimlaabDoor
/- THE CELL 'sum', in the pinned program and in every row, IS THE sha256 OF THE DUMP (.gsa) THAT YtecdoibdpimlaabDoorProg.lean LOADS. Nothing in Lean hashes anything: it is a label: what it is worth is what the hold of that sum in a sandbox is worth. -/
noncomputable def Tryd.pinned : Pinned := { name := "ytecdoibdpimlaabdoor", sum := "3f53c78b6912e56054ae484ae2a1590d8d400e764ba65f15b0e7906c99599954", checked := Tryd.checked }
namespace Rows
def none {H : Type} : Left H := { results := [], args := [] }

/- WHAT THE LISTED PACKAGE-LEVEL VARIABLES READ AS WHEN THE CALL BEGINS. Each datum BY PROGRAM (the guide's laid-datum.mjs) off the statement by which the dump's own 'gosem.cut.vars' lays the variable. In a bare row this is a premise. The card (YtecdoibdpimlaabDoorCards.lean) ties it to the program's text. -/
def laid_loop_example_mixrelay_impl_errRejected {H : Type} : DataW H := .iface "*errors.errorString" (.ptr (.agg [.lit (.string [116, 104, 101, 32, 116, 105, 99, 107, 101, 116, 32, 105, 115, 32, 110, 111, 116, 32, 115, 105, 103, 110, 101, 100])]))
def laid_loop_example_mixrelay_impl_errSpent {H : Type} : DataW H := .iface "*errors.errorString" (.ptr (.agg [.lit (.string [116, 104, 101, 32, 116, 105, 99, 107, 101, 116, 32, 119, 97, 115, 32, 115, 112, 101, 110, 116])]))
def laid_loop_example_mixrelay_impl_errNoSpace {H : Type} : DataW H := .iface "*errors.errorString" (.ptr (.agg [.lit (.string [110, 111, 32, 109, 111, 114, 101, 32, 116, 105, 99, 107, 101, 116, 115, 32, 97, 114, 101, 32, 114, 101, 109, 101, 109, 98, 101, 114, 101, 100])]))

/-- 'laws.FnExactTicketSpend': WHATEVER THE INPUT: true; the input reads as it did. -/
def fnExactTicketSpendSpec : ChangeSpec := { name := "fnExactTicketSpend", vars := ["loop.example/mixrelay/impl.errRejected", "loop.example/mixrelay/impl.errSpent", "loop.example/mixrelay/impl.errNoSpace"], fn := fun _ => fun
  | [d1, d2, d3, g1, g2, g3] => { results := [.lit (.bool true)], args := [d1, d2, d3], vars := [g1, g2, g3] }
  | _ => none }
def fnExactTicketSpendRow : OpenClaim := { program := "ytecdoibdpimlaabdoor", sum := "3f53c78b6912e56054ae484ae2a1590d8d400e764ba65f15b0e7906c99599954", func := "loop.example/mixrelay/laws.FnExactTicketSpend", spec := "fnExactTicketSpend", inPlace := ["internal/reflectlite.TypeOf", "slices.overlaps[int]"], unfollowed := true, recurses := true, named := ["loop.example/mixrelay/impl.errRejected", "loop.example/mixrelay/impl.errSpent", "loop.example/mixrelay/impl.errNoSpace"], ifaces := true, apart := false, laid := [("loop.example/mixrelay/impl.errRejected", laid_loop_example_mixrelay_impl_errRejected), ("loop.example/mixrelay/impl.errSpent", laid_loop_example_mixrelay_impl_errSpent), ("loop.example/mixrelay/impl.errNoSpace", laid_loop_example_mixrelay_impl_errNoSpace)] }
def FnExactTicketSpendSaid : Prop := fnExactTicketSpendRow.holds Tryd.pinned (OpenSpec.ofChange fnExactTicketSpendSpec)

/-- ITS FALSE NEIGHBOUR: 'it returns false'. Refute it at one input. -/
def fnExactTicketSpendWrong : ChangeSpec := { name := "fnExactTicketSpend", vars := ["loop.example/mixrelay/impl.errRejected", "loop.example/mixrelay/impl.errSpent", "loop.example/mixrelay/impl.errNoSpace"], fn := fun _ => fun
  | [d1, d2, d3, g1, g2, g3] => { results := [.lit (.bool false)], args := [d1, d2, d3], vars := [g1, g2, g3] }
  | _ => none }
def FnExactTicketSpendWrongFalsely : Prop := fnExactTicketSpendRow.holds Tryd.pinned (OpenSpec.ofChange fnExactTicketSpendWrong)

/- THE SECOND FORM. 'bulk': how many values and letters a reading holds, each counted each time it is reached (what is shared counts as often as it is met; a slice's spare places count too). A statement '..UptoSaid' is the law's where the arguments, and the package variables that the reading takes, are together of bulk at most 1048576: NARROWER than '..Said'. Prove '..Said' where nothing that the law and all that it calls make is longer than what came in: it says more and counts as full. Else prove '..UptoSaid'. A law counts once. -/
mutual
def uptoBulk {H : Type} : DataW H → Nat
  | .lit (.string bytes) => bytes.length + 1
  | .lit _ => 1
  | .nil => 1
  | .ptr d => uptoBulk d + 1
  | .slice elems spare => uptoBulkAll elems + uptoBulkAll spare + 1
  | .agg parts => uptoBulkAll parts + 1
  | .iface _ d => uptoBulk d + 1
  | .map entries => uptoBulkEntries entries + 1
  | .held _ => 1
def uptoBulkAll {H : Type} : List (DataW H) → Nat
  | [] => 0
  | d :: r => uptoBulk d + uptoBulkAll r
def uptoBulkEntries {H : Type} : List (Lit × DataW H) → Nat
  | [] => 0
  | x :: r => uptoBulkEntry x + uptoBulkEntries r
def uptoBulkEntry {H : Type} : Lit × DataW H → Nat
  | (.string bytes, d) => bytes.length + uptoBulk d + 1
  | (_, d) => uptoBulk d + 1
 end
def uptoSmall : (H : Type) → List (DataW H) → Bool := fun _ ds => decide (uptoBulkAll ds ≤ 1048576)
def OpenSpec.upto (s : _root_.Go.ChangeSpec) : _root_.Go.OpenSpec := { _root_.Go.OpenSpec.ofChange s with cond := some uptoSmall }

/-- 'laws.FnExactTicketSpend', WHERE WHAT IT READS IS OF BULK AT MOST 1048576: true; the input reads as it did. -/
def fnExactTicketSpendUptoRow : OpenClaim := { program := "ytecdoibdpimlaabdoor", sum := "3f53c78b6912e56054ae484ae2a1590d8d400e764ba65f15b0e7906c99599954", func := "loop.example/mixrelay/laws.FnExactTicketSpend", spec := "fnExactTicketSpend", inPlace := ["internal/reflectlite.TypeOf", "slices.overlaps[int]"], unfollowed := true, recurses := true, named := ["loop.example/mixrelay/impl.errRejected", "loop.example/mixrelay/impl.errSpent", "loop.example/mixrelay/impl.errNoSpace"], ifaces := true, apart := false, laid := [("loop.example/mixrelay/impl.errRejected", laid_loop_example_mixrelay_impl_errRejected), ("loop.example/mixrelay/impl.errSpent", laid_loop_example_mixrelay_impl_errSpent), ("loop.example/mixrelay/impl.errNoSpace", laid_loop_example_mixrelay_impl_errNoSpace)], narrowed := true }
def FnExactTicketSpendUptoSaid : Prop := fnExactTicketSpendUptoRow.holds Tryd.pinned (OpenSpec.upto fnExactTicketSpendSpec)

end Rows
end Go.Proofs.YtecdoibdpimlaabDoor
