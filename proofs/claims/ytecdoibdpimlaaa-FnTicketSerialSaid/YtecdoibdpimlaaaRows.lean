/-
  No cell of these rows narrows 'for every input' (looked for: loops, veiled, ifaces, maps, wideKeys, modest, calm, conditions, laid).
  DERIVED. THE GIVEN ROWS OF THIS SEAT. 3 by the template 'for every input the law returns true; each argument reads behind the call as it read before'; 0 by the template 'total and deterministic' (their statements: YtecdoibdpimlaaaTotals.lean).
  GIVEN WITH THE SEED: the statements are not yours to turn. If you find one false, say at which input.
  Laid BY PROGRAM, IN A SANDBOX (cutbox-rows.mjs): the forced cells as the released guide's own fill.sh prints them over the translation 32678996e92f8c8b… (all of the seat's roots in one cut). By AI agents, Wed Nov 11 2026. No macro, syntax, notation, axiom, sorry.
-/
import Derived.Test.YtecdoibdpimlaaaChecked
import GoSem.Claim
import GoSem.ClaimJoined
import GoSem.ClaimMapViews
import Derived.JoinedTies
import Derived.KernelRfl
namespace Go.Proofs.Ytecdoibdpimlaaa
/- THE CELL 'sum', in the pinned program and in every row, IS THE sha256 OF THE DUMP (.gsa) THAT YtecdoibdpimlaaaProg.lean LOADS. Nothing in Lean hashes anything: it is a label: what it is worth is what the hold of that sum in a sandbox is worth. -/
noncomputable def Try.pinned : Pinned := { name := "ytecdoibdpimlaaa", sum := "32678996e92f8c8b93e3c17f02a0161070c465308ea37d210d6b15f06ac8358c", checked := Try.checked }
namespace Rows
def none {H : Type} : Left H := { results := [], args := [] }

/-- 'laws.FnTicket': WHATEVER THE INPUT: true; the input reads as it did. -/
def fnTicketSpec : ChangeSpec := { name := "fnTicket", fn := fun _ => fun
  | [d1, d2] => { results := [.lit (.bool true)], args := [d1, d2] }
  | _ => none }
def fnTicketRow : OpenClaim := { program := "ytecdoibdpimlaaa", sum := "32678996e92f8c8b93e3c17f02a0161070c465308ea37d210d6b15f06ac8358c", func := "loop.example/mixrelay/laws.FnTicket", spec := "fnTicket", apart := false }
def FnTicketSaid : Prop := fnTicketRow.holds Try.pinned (OpenSpec.ofChange fnTicketSpec)

/-- ITS FALSE NEIGHBOUR: 'it returns false'. Refute it at one input. -/
def fnTicketWrong : ChangeSpec := { name := "fnTicket", fn := fun _ => fun
  | [d1, d2] => { results := [.lit (.bool false)], args := [d1, d2] }
  | _ => none }
def FnTicketWrongFalsely : Prop := fnTicketRow.holds Try.pinned (OpenSpec.ofChange fnTicketWrong)

/-- 'laws.FnTicketSerial': WHATEVER THE INPUT: true; the input reads as it did. -/
def fnTicketSerialSpec : ChangeSpec := { name := "fnTicketSerial", fn := fun _ => fun
  | [d1, d2] => { results := [.lit (.bool true)], args := [d1, d2] }
  | _ => none }
def fnTicketSerialRow : OpenClaim := { program := "ytecdoibdpimlaaa", sum := "32678996e92f8c8b93e3c17f02a0161070c465308ea37d210d6b15f06ac8358c", func := "loop.example/mixrelay/laws.FnTicketSerial", spec := "fnTicketSerial", apart := false }
def FnTicketSerialSaid : Prop := fnTicketSerialRow.holds Try.pinned (OpenSpec.ofChange fnTicketSerialSpec)

/-- ITS FALSE NEIGHBOUR: 'it returns false'. Refute it at one input. -/
def fnTicketSerialWrong : ChangeSpec := { name := "fnTicketSerial", fn := fun _ => fun
  | [d1, d2] => { results := [.lit (.bool false)], args := [d1, d2] }
  | _ => none }
def FnTicketSerialWrongFalsely : Prop := fnTicketSerialRow.holds Try.pinned (OpenSpec.ofChange fnTicketSerialWrong)

/-- 'laws.FnAudit': WHATEVER THE INPUT: true; the input reads as it did. -/
def fnAuditSpec : ChangeSpec := { name := "fnAudit", fn := fun _ => fun
  | [d] => { results := [.lit (.bool true)], args := [d] }
  | _ => none }
def fnAuditRow : OpenClaim := { program := "ytecdoibdpimlaaa", sum := "32678996e92f8c8b93e3c17f02a0161070c465308ea37d210d6b15f06ac8358c", func := "loop.example/mixrelay/laws.FnAudit", spec := "fnAudit", apart := false }
def FnAuditSaid : Prop := fnAuditRow.holds Try.pinned (OpenSpec.ofChange fnAuditSpec)

/-- ITS FALSE NEIGHBOUR: 'it returns false'. Refute it at one input. -/
def fnAuditWrong : ChangeSpec := { name := "fnAudit", fn := fun _ => fun
  | [d] => { results := [.lit (.bool false)], args := [d] }
  | _ => none }
def FnAuditWrongFalsely : Prop := fnAuditRow.holds Try.pinned (OpenSpec.ofChange fnAuditWrong)

/- THE SECOND FORM. 'bulk': how many values and letters a reading holds, each counted each time it is reached (what is shared counts as often as it is met; a slice's spare places count too). A statement '..UptoSaid' is the law's where the arguments, and the package variables that the reading takes, are together of bulk at most 1048576: NARROWER than '..Said'. Prove '..Said' where nothing that the law and all that it calls make is longer than what came in: it says more and counts as full. Else prove '..UptoSaid'. A law counts once. -/
mutual
def uptoBulk {H : Type} : DataW H → Nat
  | .lit (.string bytes) => bytes.length + 1
  | .lit _ => 1
  | .nil => 1
  | .ptr d => uptoBulk d + 1
  | .slice elems spare => uptoBulkAll elems + uptoBulkAll spare + 1
  | .agg parts => uptoBulkAll parts + 1
  | .iface _ d => uptoBulk d + 1
  | .map entries => uptoBulkEntries entries + 1
  | .held _ => 1
def uptoBulkAll {H : Type} : List (DataW H) → Nat
  | [] => 0
  | d :: r => uptoBulk d + uptoBulkAll r
def uptoBulkEntries {H : Type} : List (Lit × DataW H) → Nat
  | [] => 0
  | x :: r => uptoBulkEntry x + uptoBulkEntries r
def uptoBulkEntry {H : Type} : Lit × DataW H → Nat
  | (.string bytes, d) => bytes.length + uptoBulk d + 1
  | (_, d) => uptoBulk d + 1
 end
def uptoSmall : (H : Type) → List (DataW H) → Bool := fun _ ds => decide (uptoBulkAll ds ≤ 1048576)
def OpenSpec.upto (s : _root_.Go.ChangeSpec) : _root_.Go.OpenSpec := { _root_.Go.OpenSpec.ofChange s with cond := some uptoSmall }

/-- 'laws.FnTicket', WHERE WHAT IT READS IS OF BULK AT MOST 1048576: true; the input reads as it did. -/
def fnTicketUptoRow : OpenClaim := { program := "ytecdoibdpimlaaa", sum := "32678996e92f8c8b93e3c17f02a0161070c465308ea37d210d6b15f06ac8358c", func := "loop.example/mixrelay/laws.FnTicket", spec := "fnTicket", apart := false, narrowed := true }
def FnTicketUptoSaid : Prop := fnTicketUptoRow.holds Try.pinned (OpenSpec.upto fnTicketSpec)

/-- 'laws.FnTicketSerial', WHERE WHAT IT READS IS OF BULK AT MOST 1048576: true; the input reads as it did. -/
def fnTicketSerialUptoRow : OpenClaim := { program := "ytecdoibdpimlaaa", sum := "32678996e92f8c8b93e3c17f02a0161070c465308ea37d210d6b15f06ac8358c", func := "loop.example/mixrelay/laws.FnTicketSerial", spec := "fnTicketSerial", apart := false, narrowed := true }
def FnTicketSerialUptoSaid : Prop := fnTicketSerialUptoRow.holds Try.pinned (OpenSpec.upto fnTicketSerialSpec)

/-- 'laws.FnAudit', WHERE WHAT IT READS IS OF BULK AT MOST 1048576: true; the input reads as it did. -/
def fnAuditUptoRow : OpenClaim := { program := "ytecdoibdpimlaaa", sum := "32678996e92f8c8b93e3c17f02a0161070c465308ea37d210d6b15f06ac8358c", func := "loop.example/mixrelay/laws.FnAudit", spec := "fnAudit", apart := false, narrowed := true }
def FnAuditUptoSaid : Prop := fnAuditUptoRow.holds Try.pinned (OpenSpec.upto fnAuditSpec)

end Rows
end Go.Proofs.Ytecdoibdpimlaaa
