/-
  DERIVED. GIVEN WITH THE SEED: THE CARDS: each row of YtecdoibdpimlaabDoorRows.lean that lists a variable, with what it lists TIED to the program's text (the seventh form; the later family's looks); each row that meets fmt, with fmt's text TOLD by the authors' own Lean function (tested against real Go, not proved from fmt's source: count such statements apart). THE CARD IS WHAT COUNTS. Prove the row's statement (the work); the ties are given (YtecdoibdpimlaabDoorTie.lean); close each card by the builder's one call (the guide's Derived/Test/ToyasCard.lean, 'card_holds'). Laid BY PROGRAM, IN A SANDBOX (cutbox-door.mjs). By AI agents, Wed Nov 11 2026. No macro, syntax, notation, axiom, sorry.
-/
import Derived.Test.YtecdoibdpimlaabDoorRows
import GoSem.ClaimSeven
namespace Go.Proofs.YtecdoibdpimlaabDoor
namespace Rows

/-- THE TIED CARD OF 'laws.FnExactTicketSpend'. -/
def fnExactTicketSpendCard : Claim7 := { stood := { row := fnExactTicketSpendRow, standIns := [], harness := (true, "4f8b74219fe24e07c35982a4a30ba08432963255051cfe2bef7103cfa273e148"), looks := true }, kinds := [], alts := [], laidByText := true, laidKinds := [.sentinel, .sentinel, .sentinel], laidTests := true, laidLooks := .later }
def FnExactTicketSpendCardSaid : Prop := Claim7.holds Tryd.pinned (.plain (OpenSpec.ofChange fnExactTicketSpendSpec)) fnExactTicketSpendCard

/-- THE SECOND FORM's CARD OF 'laws.FnExactTicketSpend'. -/
def fnExactTicketSpendUptoCard : Claim7 := { stood := { row := fnExactTicketSpendUptoRow, standIns := [], harness := (true, "4f8b74219fe24e07c35982a4a30ba08432963255051cfe2bef7103cfa273e148"), looks := true }, kinds := [], alts := [], laidByText := true, laidKinds := [.sentinel, .sentinel, .sentinel], laidTests := true, laidLooks := .later }
def FnExactTicketSpendUptoCardSaid : Prop := Claim7.holds Tryd.pinned (.plain (OpenSpec.upto fnExactTicketSpendSpec)) fnExactTicketSpendUptoCard
end Rows
end Go.Proofs.YtecdoibdpimlaabDoor
