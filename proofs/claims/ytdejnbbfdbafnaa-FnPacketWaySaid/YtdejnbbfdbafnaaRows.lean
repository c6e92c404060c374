/-
  No cell of these rows narrows 'for every input' (looked for: loops, veiled, ifaces, maps, wideKeys, modest, calm, conditions, laid).
  DERIVED. THE GIVEN ROWS OF THIS SEAT. 8 by the template 'for every input the law returns true; each argument reads behind the call as it read before'; 0 by the template 'total and deterministic' (their statements: YtdejnbbfdbafnaaTotals.lean).
  GIVEN WITH THE SEED: the statements are not yours to turn. If you find one false, say at which input.
  Laid BY PROGRAM, IN A SANDBOX (cutbox-rows.mjs): the forced cells as the released guide's own fill.sh prints them over the translation 1b551d5673433c98… (all of the seat's roots in one cut). By AI agents, Wed Nov 11 2026. No macro, syntax, notation, axiom, sorry.
-/
import Derived.Test.YtdejnbbfdbafnaaChecked
import GoSem.Claim
import GoSem.ClaimJoined
import GoSem.ClaimMapViews
import Derived.JoinedTies
import Derived.KernelRfl
namespace Go.Proofs.Ytdejnbbfdbafnaa
/- THE CELL 'sum', in the pinned program and in every row, IS THE sha256 OF THE DUMP (.gsa) THAT YtdejnbbfdbafnaaProg.lean LOADS. Nothing in Lean hashes anything: it is a label: what it is worth is what the hold of that sum in a sandbox is worth. -/
noncomputable def Try.pinned : Pinned := { name := "ytdejnbbfdbafnaa", sum := "1b551d5673433c98ecfaa7ba5406af732815db55bc55e16b7da69596c675ee79", checked := Try.checked }
namespace Rows
def none {H : Type} : Left H := { results := [], args := [] }

/-- 'laws.FnPacket': WHATEVER THE INPUT: true; the input reads as it did. -/
def fnPacketSpec : ChangeSpec := { name := "fnPacket", fn := fun _ => fun
  | [d] => { results := [.lit (.bool true)], args := [d] }
  | _ => none }
def fnPacketRow : OpenClaim := { program := "ytdejnbbfdbafnaa", sum := "1b551d5673433c98ecfaa7ba5406af732815db55bc55e16b7da69596c675ee79", func := "loop.example/mixrelay/laws.FnPacket", spec := "fnPacket", unfollowed := true, recurses := true, apart := false }
def FnPacketSaid : Prop := fnPacketRow.holds Try.pinned (OpenSpec.ofChange fnPacketSpec)

/-- ITS FALSE NEIGHBOUR: 'it returns false'. Refute it at one input. -/
def fnPacketWrong : ChangeSpec := { name := "fnPacket", fn := fun _ => fun
  | [d] => { results := [.lit (.bool false)], args := [d] }
  | _ => none }
def FnPacketWrongFalsely : Prop := fnPacketRow.holds Try.pinned (OpenSpec.ofChange fnPacketWrong)

/-- 'laws.FnPacketSize': WHATEVER THE INPUT: true; the input reads as it did. -/
def fnPacketSizeSpec : ChangeSpec := { name := "fnPacketSize", fn := fun _ => fun
  | [d1, d2] => { results := [.lit (.bool true)], args := [d1, d2] }
  | _ => none }
def fnPacketSizeRow : OpenClaim := { program := "ytdejnbbfdbafnaa", sum := "1b551d5673433c98ecfaa7ba5406af732815db55bc55e16b7da69596c675ee79", func := "loop.example/mixrelay/laws.FnPacketSize", spec := "fnPacketSize", unfollowed := true, recurses := true, apart := false }
def FnPacketSizeSaid : Prop := fnPacketSizeRow.holds Try.pinned (OpenSpec.ofChange fnPacketSizeSpec)

/-- ITS FALSE NEIGHBOUR: 'it returns false'. Refute it at one input. -/
def fnPacketSizeWrong : ChangeSpec := { name := "fnPacketSize", fn := fun _ => fun
  | [d1, d2] => { results := [.lit (.bool false)], args := [d1, d2] }
  | _ => none }
def FnPacketSizeWrongFalsely : Prop := fnPacketSizeRow.holds Try.pinned (OpenSpec.ofChange fnPacketSizeWrong)

/-- 'laws.FnPacketWay': WHATEVER THE INPUT: true; the input reads as it did. -/
def fnPacketWaySpec : ChangeSpec := { name := "fnPacketWay", fn := fun _ => fun
  | [d1, d2] => { results := [.lit (.bool true)], args := [d1, d2] }
  | _ => none }
def fnPacketWayRow : OpenClaim := { program := "ytdejnbbfdbafnaa", sum := "1b551d5673433c98ecfaa7ba5406af732815db55bc55e16b7da69596c675ee79", func := "loop.example/mixrelay/laws.FnPacketWay", spec := "fnPacketWay", unfollowed := true, recurses := true, apart := false }
def FnPacketWaySaid : Prop := fnPacketWayRow.holds Try.pinned (OpenSpec.ofChange fnPacketWaySpec)

/-- ITS FALSE NEIGHBOUR: 'it returns false'. Refute it at one input. -/
def fnPacketWayWrong : ChangeSpec := { name := "fnPacketWay", fn := fun _ => fun
  | [d1, d2] => { results := [.lit (.bool false)], args := [d1, d2] }
  | _ => none }
def FnPacketWayWrongFalsely : Prop := fnPacketWayRow.holds Try.pinned (OpenSpec.ofChange fnPacketWayWrong)

/-- 'laws.FnPacketHidden': WHATEVER THE INPUT: true; the input reads as it did. -/
def fnPacketHiddenSpec : ChangeSpec := { name := "fnPacketHidden", fn := fun _ => fun
  | [d1, d2] => { results := [.lit (.bool true)], args := [d1, d2] }
  | _ => none }
def fnPacketHiddenRow : OpenClaim := { program := "ytdejnbbfdbafnaa", sum := "1b551d5673433c98ecfaa7ba5406af732815db55bc55e16b7da69596c675ee79", func := "loop.example/mixrelay/laws.FnPacketHidden", spec := "fnPacketHidden", unfollowed := true, recurses := true, apart := false }
def FnPacketHiddenSaid : Prop := fnPacketHiddenRow.holds Try.pinned (OpenSpec.ofChange fnPacketHiddenSpec)

/-- ITS FALSE NEIGHBOUR: 'it returns false'. Refute it at one input. -/
def fnPacketHiddenWrong : ChangeSpec := { name := "fnPacketHidden", fn := fun _ => fun
  | [d1, d2] => { results := [.lit (.bool false)], args := [d1, d2] }
  | _ => none }
def FnPacketHiddenWrongFalsely : Prop := fnPacketHiddenRow.holds Try.pinned (OpenSpec.ofChange fnPacketHiddenWrong)

/-- 'laws.FnPacketLetter': WHATEVER THE INPUT: true; the input reads as it did. -/
def fnPacketLetterSpec : ChangeSpec := { name := "fnPacketLetter", fn := fun _ => fun
  | [d1, d2] => { results := [.lit (.bool true)], args := [d1, d2] }
  | _ => none }
def fnPacketLetterRow : OpenClaim := { program := "ytdejnbbfdbafnaa", sum := "1b551d5673433c98ecfaa7ba5406af732815db55bc55e16b7da69596c675ee79", func := "loop.example/mixrelay/laws.FnPacketLetter", spec := "fnPacketLetter", unfollowed := true, recurses := true, apart := false }
def FnPacketLetterSaid : Prop := fnPacketLetterRow.holds Try.pinned (OpenSpec.ofChange fnPacketLetterSpec)

/-- ITS FALSE NEIGHBOUR: 'it returns false'. Refute it at one input. -/
def fnPacketLetterWrong : ChangeSpec := { name := "fnPacketLetter", fn := fun _ => fun
  | [d1, d2] => { results := [.lit (.bool false)], args := [d1, d2] }
  | _ => none }
def FnPacketLetterWrongFalsely : Prop := fnPacketLetterRow.holds Try.pinned (OpenSpec.ofChange fnPacketLetterWrong)

/-- 'laws.FnPacketSecret': WHATEVER THE INPUT: true; the input reads as it did. -/
def fnPacketSecretSpec : ChangeSpec := { name := "fnPacketSecret", fn := fun _ => fun
  | [d1, d2] => { results := [.lit (.bool true)], args := [d1, d2] }
  | _ => none }
def fnPacketSecretRow : OpenClaim := { program := "ytdejnbbfdbafnaa", sum := "1b551d5673433c98ecfaa7ba5406af732815db55bc55e16b7da69596c675ee79", func := "loop.example/mixrelay/laws.FnPacketSecret", spec := "fnPacketSecret", unfollowed := true, recurses := true, apart := false }
def FnPacketSecretSaid : Prop := fnPacketSecretRow.holds Try.pinned (OpenSpec.ofChange fnPacketSecretSpec)

/-- ITS FALSE NEIGHBOUR: 'it returns false'. Refute it at one input. -/
def fnPacketSecretWrong : ChangeSpec := { name := "fnPacketSecret", fn := fun _ => fun
  | [d1, d2] => { results := [.lit (.bool false)], args := [d1, d2] }
  | _ => none }
def FnPacketSecretWrongFalsely : Prop := fnPacketSecretRow.holds Try.pinned (OpenSpec.ofChange fnPacketSecretWrong)

/-- 'laws.FnExactPacketValid': WHATEVER THE INPUT: true; the input reads as it did. -/
def fnExactPacketValidSpec : ChangeSpec := { name := "fnExactPacketValid", fn := fun _ => fun
  | [d] => { results := [.lit (.bool true)], args := [d] }
  | _ => none }
def fnExactPacketValidRow : OpenClaim := { program := "ytdejnbbfdbafnaa", sum := "1b551d5673433c98ecfaa7ba5406af732815db55bc55e16b7da69596c675ee79", func := "loop.example/mixrelay/laws.FnExactPacketValid", spec := "fnExactPacketValid", apart := false }
def FnExactPacketValidSaid : Prop := fnExactPacketValidRow.holds Try.pinned (OpenSpec.ofChange fnExactPacketValidSpec)

/-- ITS FALSE NEIGHBOUR: 'it returns false'. Refute it at one input. -/
def fnExactPacketValidWrong : ChangeSpec := { name := "fnExactPacketValid", fn := fun _ => fun
  | [d] => { results := [.lit (.bool false)], args := [d] }
  | _ => none }
def FnExactPacketValidWrongFalsely : Prop := fnExactPacketValidRow.holds Try.pinned (OpenSpec.ofChange fnExactPacketValidWrong)

/-- 'laws.FnExactPacketMake': WHATEVER THE INPUT: true; the input reads as it did. -/
def fnExactPacketMakeSpec : ChangeSpec := { name := "fnExactPacketMake", fn := fun _ => fun
  | [d1, d2, d3, d4, d5] => { results := [.lit (.bool true)], args := [d1, d2, d3, d4, d5] }
  | _ => none }
def fnExactPacketMakeRow : OpenClaim := { program := "ytdejnbbfdbafnaa", sum := "1b551d5673433c98ecfaa7ba5406af732815db55bc55e16b7da69596c675ee79", func := "loop.example/mixrelay/laws.FnExactPacketMake", spec := "fnExactPacketMake", unfollowed := true, recurses := true, apart := false }
def FnExactPacketMakeSaid : Prop := fnExactPacketMakeRow.holds Try.pinned (OpenSpec.ofChange fnExactPacketMakeSpec)

/-- ITS FALSE NEIGHBOUR: 'it returns false'. Refute it at one input. -/
def fnExactPacketMakeWrong : ChangeSpec := { name := "fnExactPacketMake", fn := fun _ => fun
  | [d1, d2, d3, d4, d5] => { results := [.lit (.bool false)], args := [d1, d2, d3, d4, d5] }
  | _ => none }
def FnExactPacketMakeWrongFalsely : Prop := fnExactPacketMakeRow.holds Try.pinned (OpenSpec.ofChange fnExactPacketMakeWrong)

/- THE SECOND FORM. 'bulk': how many values and letters a reading holds, each counted each time it is reached (what is shared counts as often as it is met; a slice's spare places count too). A statement '..UptoSaid' is the law's where the arguments, and the package variables that the reading takes, are together of bulk at most 1048576: NARROWER than '..Said'. Prove '..Said' where nothing that the law and all that it calls make is longer than what came in: it says more and counts as full. Else prove '..UptoSaid'. A law counts once. -/
mutual
def uptoBulk {H : Type} : DataW H → Nat
  | .lit (.string bytes) => bytes.length + 1
  | .lit _ => 1
  | .nil => 1
  | .ptr d => uptoBulk d + 1
  | .slice elems spare => uptoBulkAll elems + uptoBulkAll spare + 1
  | .agg parts => uptoBulkAll parts + 1
  | .iface _ d => uptoBulk d + 1
  | .map entries => uptoBulkEntries entries + 1
  | .held _ => 1
def uptoBulkAll {H : Type} : List (DataW H) → Nat
  | [] => 0
  | d :: r => uptoBulk d + uptoBulkAll r
def uptoBulkEntries {H : Type} : List (Lit × DataW H) → Nat
  | [] => 0
  | x :: r => uptoBulkEntry x + uptoBulkEntries r
def uptoBulkEntry {H : Type} : Lit × DataW H → Nat
  | (.string bytes, d) => bytes.length + uptoBulk d + 1
  | (_, d) => uptoBulk d + 1
 end
def uptoSmall : (H : Type) → List (DataW H) → Bool := fun _ ds => decide (uptoBulkAll ds ≤ 1048576)
def OpenSpec.upto (s : _root_.Go.ChangeSpec) : _root_.Go.OpenSpec := { _root_.Go.OpenSpec.ofChange s with cond := some uptoSmall }

/-- 'laws.FnPacket', WHERE WHAT IT READS IS OF BULK AT MOST 1048576: true; the input reads as it did. -/
def fnPacketUptoRow : OpenClaim := { program := "ytdejnbbfdbafnaa", sum := "1b551d5673433c98ecfaa7ba5406af732815db55bc55e16b7da69596c675ee79", func := "loop.example/mixrelay/laws.FnPacket", spec := "fnPacket", unfollowed := true, recurses := true, apart := false, narrowed := true }
def FnPacketUptoSaid : Prop := fnPacketUptoRow.holds Try.pinned (OpenSpec.upto fnPacketSpec)

/-- 'laws.FnPacketSize', WHERE WHAT IT READS IS OF BULK AT MOST 1048576: true; the input reads as it did. -/
def fnPacketSizeUptoRow : OpenClaim := { program := "ytdejnbbfdbafnaa", sum := "1b551d5673433c98ecfaa7ba5406af732815db55bc55e16b7da69596c675ee79", func := "loop.example/mixrelay/laws.FnPacketSize", spec := "fnPacketSize", unfollowed := true, recurses := true, apart := false, narrowed := true }
def FnPacketSizeUptoSaid : Prop := fnPacketSizeUptoRow.holds Try.pinned (OpenSpec.upto fnPacketSizeSpec)

/-- 'laws.FnPacketWay', WHERE WHAT IT READS IS OF BULK AT MOST 1048576: true; the input reads as it did. -/
def fnPacketWayUptoRow : OpenClaim := { program := "ytdejnbbfdbafnaa", sum := "1b551d5673433c98ecfaa7ba5406af732815db55bc55e16b7da69596c675ee79", func := "loop.example/mixrelay/laws.FnPacketWay", spec := "fnPacketWay", unfollowed := true, recurses := true, apart := false, narrowed := true }
def FnPacketWayUptoSaid : Prop := fnPacketWayUptoRow.holds Try.pinned (OpenSpec.upto fnPacketWaySpec)

/-- 'laws.FnPacketHidden', WHERE WHAT IT READS IS OF BULK AT MOST 1048576: true; the input reads as it did. -/
def fnPacketHiddenUptoRow : OpenClaim := { program := "ytdejnbbfdbafnaa", sum := "1b551d5673433c98ecfaa7ba5406af732815db55bc55e16b7da69596c675ee79", func := "loop.example/mixrelay/laws.FnPacketHidden", spec := "fnPacketHidden", unfollowed := true, recurses := true, apart := false, narrowed := true }
def FnPacketHiddenUptoSaid : Prop := fnPacketHiddenUptoRow.holds Try.pinned (OpenSpec.upto fnPacketHiddenSpec)

/-- 'laws.FnPacketLetter', WHERE WHAT IT READS IS OF BULK AT MOST 1048576: true; the input reads as it did. -/
def fnPacketLetterUptoRow : OpenClaim := { program := "ytdejnbbfdbafnaa", sum := "1b551d5673433c98ecfaa7ba5406af732815db55bc55e16b7da69596c675ee79", func := "loop.example/mixrelay/laws.FnPacketLetter", spec := "fnPacketLetter", unfollowed := true, recurses := true, apart := false, narrowed := true }
def FnPacketLetterUptoSaid : Prop := fnPacketLetterUptoRow.holds Try.pinned (OpenSpec.upto fnPacketLetterSpec)

/-- 'laws.FnPacketSecret', WHERE WHAT IT READS IS OF BULK AT MOST 1048576: true; the input reads as it did. -/
def fnPacketSecretUptoRow : OpenClaim := { program := "ytdejnbbfdbafnaa", sum := "1b551d5673433c98ecfaa7ba5406af732815db55bc55e16b7da69596c675ee79", func := "loop.example/mixrelay/laws.FnPacketSecret", spec := "fnPacketSecret", unfollowed := true, recurses := true, apart := false, narrowed := true }
def FnPacketSecretUptoSaid : Prop := fnPacketSecretUptoRow.holds Try.pinned (OpenSpec.upto fnPacketSecretSpec)

/-- 'laws.FnExactPacketValid', WHERE WHAT IT READS IS OF BULK AT MOST 1048576: true; the input reads as it did. -/
def fnExactPacketValidUptoRow : OpenClaim := { program := "ytdejnbbfdbafnaa", sum := "1b551d5673433c98ecfaa7ba5406af732815db55bc55e16b7da69596c675ee79", func := "loop.example/mixrelay/laws.FnExactPacketValid", spec := "fnExactPacketValid", apart := false, narrowed := true }
def FnExactPacketValidUptoSaid : Prop := fnExactPacketValidUptoRow.holds Try.pinned (OpenSpec.upto fnExactPacketValidSpec)

/-- 'laws.FnExactPacketMake', WHERE WHAT IT READS IS OF BULK AT MOST 1048576: true; the input reads as it did. -/
def fnExactPacketMakeUptoRow : OpenClaim := { program := "ytdejnbbfdbafnaa", sum := "1b551d5673433c98ecfaa7ba5406af732815db55bc55e16b7da69596c675ee79", func := "loop.example/mixrelay/laws.FnExactPacketMake", spec := "fnExactPacketMake", unfollowed := true, recurses := true, apart := false, narrowed := true }
def FnExactPacketMakeUptoSaid : Prop := fnExactPacketMakeUptoRow.holds Try.pinned (OpenSpec.upto fnExactPacketMakeSpec)

end Rows
end Go.Proofs.Ytdejnbbfdbafnaa
