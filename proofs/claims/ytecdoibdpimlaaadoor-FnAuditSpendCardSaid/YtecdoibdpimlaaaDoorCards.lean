/-
  DERIVED. GIVEN WITH THE SEED: THE CARDS: each row of YtecdoibdpimlaaaDoorRows.lean that lists a variable, with what it lists TIED to the program's text (the seventh form; the later family's looks); each row that meets fmt, with fmt's text TOLD by the authors' own Lean function (tested against real Go, not proved from fmt's source: count such statements apart). THE CARD IS WHAT COUNTS. Prove the row's statement (the work); the ties are given (YtecdoibdpimlaaaDoorTie.lean); close each card by the builder's one call (the guide's Derived/Test/ToyasCard.lean, 'card_holds'). Laid BY PROGRAM, IN A SANDBOX (cutbox-door.mjs). By AI agents, Wed Nov 11 2026. No macro, syntax, notation, axiom, sorry.
-/
import Derived.Test.YtecdoibdpimlaaaDoorRows
import GoSem.ClaimSeven
namespace Go.Proofs.YtecdoibdpimlaaaDoor
namespace Rows

/-- THE TIED CARD OF 'laws.FnSpend'. -/
def fnSpendCard : Claim7 := { stood := { row := fnSpendRow, standIns := [], harness := (true, "ebb48c223e17c3080c3c7a7440ddf62ab4ba640f0c5a5a17335c244ea99c30b6"), looks := true }, kinds := [], alts := [], laidByText := true, laidKinds := [.sentinel, .sentinel, .sentinel], laidTests := true, laidLooks := .later }
def FnSpendCardSaid : Prop := Claim7.holds Tryd.pinned (.plain (OpenSpec.ofChange fnSpendSpec)) fnSpendCard

/-- THE TIED CARD OF 'laws.FnSpendTwice'. -/
def fnSpendTwiceCard : Claim7 := { stood := { row := fnSpendTwiceRow, standIns := [], harness := (true, "ebb48c223e17c3080c3c7a7440ddf62ab4ba640f0c5a5a17335c244ea99c30b6"), looks := true }, kinds := [], alts := [], laidByText := true, laidKinds := [.sentinel, .sentinel, .sentinel], laidTests := true, laidLooks := .later }
def FnSpendTwiceCardSaid : Prop := Claim7.holds Tryd.pinned (.plain (OpenSpec.ofChange fnSpendTwiceSpec)) fnSpendTwiceCard

/-- THE TIED CARD OF 'laws.FnSpendRefused'. -/
def fnSpendRefusedCard : Claim7 := { stood := { row := fnSpendRefusedRow, standIns := [], harness := (true, "ebb48c223e17c3080c3c7a7440ddf62ab4ba640f0c5a5a17335c244ea99c30b6"), looks := true }, kinds := [], alts := [], laidByText := true, laidKinds := [.sentinel, .sentinel, .sentinel], laidTests := true, laidLooks := .later }
def FnSpendRefusedCardSaid : Prop := Claim7.holds Tryd.pinned (.plain (OpenSpec.ofChange fnSpendRefusedSpec)) fnSpendRefusedCard

/-- THE TIED CARD OF 'laws.FnSpendOrder'. -/
def fnSpendOrderCard : Claim7 := { stood := { row := fnSpendOrderRow, standIns := [], harness := (true, "ebb48c223e17c3080c3c7a7440ddf62ab4ba640f0c5a5a17335c244ea99c30b6"), looks := true }, kinds := [], alts := [], laidByText := true, laidKinds := [.sentinel, .sentinel, .sentinel], laidTests := true, laidLooks := .later }
def FnSpendOrderCardSaid : Prop := Claim7.holds Tryd.pinned (.plain (OpenSpec.ofChange fnSpendOrderSpec)) fnSpendOrderCard

/-- THE TIED CARD OF 'laws.FnAuditSpend'. -/
def fnAuditSpendCard : Claim7 := { stood := { row := fnAuditSpendRow, standIns := [], harness := (true, "ebb48c223e17c3080c3c7a7440ddf62ab4ba640f0c5a5a17335c244ea99c30b6"), looks := true }, kinds := [], alts := [], laidByText := true, laidKinds := [.sentinel, .sentinel, .sentinel], laidTests := true, laidLooks := .later }
def FnAuditSpendCardSaid : Prop := Claim7.holds Tryd.pinned (.plain (OpenSpec.ofChange fnAuditSpendSpec)) fnAuditSpendCard

/-- THE TIED CARD OF 'laws.FnAuditSelf'. -/
def fnAuditSelfCard : Claim7 := { stood := { row := fnAuditSelfRow, standIns := [], harness := (true, "ebb48c223e17c3080c3c7a7440ddf62ab4ba640f0c5a5a17335c244ea99c30b6"), looks := true }, kinds := [], alts := [], laidByText := true, laidKinds := [.sentinel, .sentinel, .sentinel], laidTests := true, laidLooks := .later }
def FnAuditSelfCardSaid : Prop := Claim7.holds Tryd.pinned (.plain (OpenSpec.ofChange fnAuditSelfSpec)) fnAuditSelfCard

/-- THE SECOND FORM's CARD OF 'laws.FnSpend'. -/
def fnSpendUptoCard : Claim7 := { stood := { row := fnSpendUptoRow, standIns := [], harness := (true, "ebb48c223e17c3080c3c7a7440ddf62ab4ba640f0c5a5a17335c244ea99c30b6"), looks := true }, kinds := [], alts := [], laidByText := true, laidKinds := [.sentinel, .sentinel, .sentinel], laidTests := true, laidLooks := .later }
def FnSpendUptoCardSaid : Prop := Claim7.holds Tryd.pinned (.plain (OpenSpec.upto fnSpendSpec)) fnSpendUptoCard

/-- THE SECOND FORM's CARD OF 'laws.FnSpendTwice'. -/
def fnSpendTwiceUptoCard : Claim7 := { stood := { row := fnSpendTwiceUptoRow, standIns := [], harness := (true, "ebb48c223e17c3080c3c7a7440ddf62ab4ba640f0c5a5a17335c244ea99c30b6"), looks := true }, kinds := [], alts := [], laidByText := true, laidKinds := [.sentinel, .sentinel, .sentinel], laidTests := true, laidLooks := .later }
def FnSpendTwiceUptoCardSaid : Prop := Claim7.holds Tryd.pinned (.plain (OpenSpec.upto fnSpendTwiceSpec)) fnSpendTwiceUptoCard

/-- THE SECOND FORM's CARD OF 'laws.FnSpendRefused'. -/
def fnSpendRefusedUptoCard : Claim7 := { stood := { row := fnSpendRefusedUptoRow, standIns := [], harness := (true, "ebb48c223e17c3080c3c7a7440ddf62ab4ba640f0c5a5a17335c244ea99c30b6"), looks := true }, kinds := [], alts := [], laidByText := true, laidKinds := [.sentinel, .sentinel, .sentinel], laidTests := true, laidLooks := .later }
def FnSpendRefusedUptoCardSaid : Prop := Claim7.holds Tryd.pinned (.plain (OpenSpec.upto fnSpendRefusedSpec)) fnSpendRefusedUptoCard

/-- THE SECOND FORM's CARD OF 'laws.FnSpendOrder'. -/
def fnSpendOrderUptoCard : Claim7 := { stood := { row := fnSpendOrderUptoRow, standIns := [], harness := (true, "ebb48c223e17c3080c3c7a7440ddf62ab4ba640f0c5a5a17335c244ea99c30b6"), looks := true }, kinds := [], alts := [], laidByText := true, laidKinds := [.sentinel, .sentinel, .sentinel], laidTests := true, laidLooks := .later }
def FnSpendOrderUptoCardSaid : Prop := Claim7.holds Tryd.pinned (.plain (OpenSpec.upto fnSpendOrderSpec)) fnSpendOrderUptoCard

/-- THE SECOND FORM's CARD OF 'laws.FnAuditSpend'. -/
def fnAuditSpendUptoCard : Claim7 := { stood := { row := fnAuditSpendUptoRow, standIns := [], harness := (true, "ebb48c223e17c3080c3c7a7440ddf62ab4ba640f0c5a5a17335c244ea99c30b6"), looks := true }, kinds := [], alts := [], laidByText := true, laidKinds := [.sentinel, .sentinel, .sentinel], laidTests := true, laidLooks := .later }
def FnAuditSpendUptoCardSaid : Prop := Claim7.holds Tryd.pinned (.plain (OpenSpec.upto fnAuditSpendSpec)) fnAuditSpendUptoCard

/-- THE SECOND FORM's CARD OF 'laws.FnAuditSelf'. -/
def fnAuditSelfUptoCard : Claim7 := { stood := { row := fnAuditSelfUptoRow, standIns := [], harness := (true, "ebb48c223e17c3080c3c7a7440ddf62ab4ba640f0c5a5a17335c244ea99c30b6"), looks := true }, kinds := [], alts := [], laidByText := true, laidKinds := [.sentinel, .sentinel, .sentinel], laidTests := true, laidLooks := .later }
def FnAuditSelfUptoCardSaid : Prop := Claim7.holds Tryd.pinned (.plain (OpenSpec.upto fnAuditSelfSpec)) fnAuditSelfUptoCard
end Rows
end Go.Proofs.YtecdoibdpimlaaaDoor
