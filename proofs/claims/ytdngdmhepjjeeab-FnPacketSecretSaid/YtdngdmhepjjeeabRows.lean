/-
  No cell of these rows narrows 'for every input' (looked for: loops, veiled, ifaces, maps, wideKeys, modest, calm, conditions, laid).
  DERIVED. THE GIVEN ROWS OF THIS SEAT. 5 by the template 'for every input the law returns true; each argument reads behind the call as it read before'; 0 by the template 'total and deterministic' (their statements: YtdngdmhepjjeeabTotals.lean).
  GIVEN WITH THE SEED: the statements are not yours to turn. If you find one false, say at which input.
  Laid BY PROGRAM, IN A SANDBOX (cutbox-rows.mjs): the forced cells as the released guide's own fill.sh prints them over the translation ad9118bf2a2aa79a… (all of the seat's roots in one cut). By AI agents, Wed Nov 11 2026. No macro, syntax, notation, axiom, sorry.
-/
import Derived.Test.YtdngdmhepjjeeabChecked
import GoSem.Claim
import GoSem.ClaimJoined
import GoSem.ClaimMapViews
import Derived.JoinedTies
import Derived.KernelRfl
namespace Go.Proofs.Ytdngdmhepjjeeab
/- THE CELL 'sum', in the pinned program and in every row, IS THE sha256 OF THE DUMP (.gsa) THAT YtdngdmhepjjeeabProg.lean LOADS. Nothing in Lean hashes anything: it is a label: what it is worth is what the hold of that sum in a sandbox is worth. -/
noncomputable def Try.pinned : Pinned := { name := "ytdngdmhepjjeeab", sum := "ad9118bf2a2aa79a9b1c1af0833a7cce91a85d6de20c9cc3266bf40f0cad6ead", checked := Try.checked }
namespace Rows
def none {H : Type} : Left H := { results := [], args := [] }

/-- 'laws.FnExactPacketPeel': WHATEVER THE INPUT: true; the input reads as it did. -/
def fnExactPacketPeelSpec : ChangeSpec := { name := "fnExactPacketPeel", fn := fun _ => fun
  | [d1, d2] => { results := [.lit (.bool true)], args := [d1, d2] }
  | _ => none }
def fnExactPacketPeelRow : OpenClaim := { program := "ytdngdmhepjjeeab", sum := "ad9118bf2a2aa79a9b1c1af0833a7cce91a85d6de20c9cc3266bf40f0cad6ead", func := "loop.example/mixrelay/laws.FnExactPacketPeel", spec := "fnExactPacketPeel", unfollowed := true, recurses := true, apart := false }
def FnExactPacketPeelSaid : Prop := fnExactPacketPeelRow.holds Try.pinned (OpenSpec.ofChange fnExactPacketPeelSpec)

/-- ITS FALSE NEIGHBOUR: 'it returns false'. Refute it at one input. -/
def fnExactPacketPeelWrong : ChangeSpec := { name := "fnExactPacketPeel", fn := fun _ => fun
  | [d1, d2] => { results := [.lit (.bool false)], args := [d1, d2] }
  | _ => none }
def FnExactPacketPeelWrongFalsely : Prop := fnExactPacketPeelRow.holds Try.pinned (OpenSpec.ofChange fnExactPacketPeelWrong)

/-- 'laws.FnPacket': WHATEVER THE INPUT: true; the input reads as it did. -/
def fnPacketSpec : ChangeSpec := { name := "fnPacket", fn := fun _ => fun
  | [d] => { results := [.lit (.bool true)], args := [d] }
  | _ => none }
def fnPacketRow : OpenClaim := { program := "ytdngdmhepjjeeab", sum := "ad9118bf2a2aa79a9b1c1af0833a7cce91a85d6de20c9cc3266bf40f0cad6ead", func := "loop.example/mixrelay/laws.FnPacket", spec := "fnPacket", unfollowed := true, recurses := true, apart := false }
def FnPacketSaid : Prop := fnPacketRow.holds Try.pinned (OpenSpec.ofChange fnPacketSpec)

/-- ITS FALSE NEIGHBOUR: 'it returns false'. Refute it at one input. -/
def fnPacketWrong : ChangeSpec := { name := "fnPacket", fn := fun _ => fun
  | [d] => { results := [.lit (.bool false)], args := [d] }
  | _ => none }
def FnPacketWrongFalsely : Prop := fnPacketRow.holds Try.pinned (OpenSpec.ofChange fnPacketWrong)

/-- 'laws.FnPacketHidden': WHATEVER THE INPUT: true; the input reads as it did. -/
def fnPacketHiddenSpec : ChangeSpec := { name := "fnPacketHidden", fn := fun _ => fun
  | [d1, d2] => { results := [.lit (.bool true)], args := [d1, d2] }
  | _ => none }
def fnPacketHiddenRow : OpenClaim := { program := "ytdngdmhepjjeeab", sum := "ad9118bf2a2aa79a9b1c1af0833a7cce91a85d6de20c9cc3266bf40f0cad6ead", func := "loop.example/mixrelay/laws.FnPacketHidden", spec := "fnPacketHidden", unfollowed := true, recurses := true, apart := false }
def FnPacketHiddenSaid : Prop := fnPacketHiddenRow.holds Try.pinned (OpenSpec.ofChange fnPacketHiddenSpec)

/-- ITS FALSE NEIGHBOUR: 'it returns false'. Refute it at one input. -/
def fnPacketHiddenWrong : ChangeSpec := { name := "fnPacketHidden", fn := fun _ => fun
  | [d1, d2] => { results := [.lit (.bool false)], args := [d1, d2] }
  | _ => none }
def FnPacketHiddenWrongFalsely : Prop := fnPacketHiddenRow.holds Try.pinned (OpenSpec.ofChange fnPacketHiddenWrong)

/-- 'laws.FnPacketLetter': WHATEVER THE INPUT: true; the input reads as it did. -/
def fnPacketLetterSpec : ChangeSpec := { name := "fnPacketLetter", fn := fun _ => fun
  | [d1, d2] => { results := [.lit (.bool true)], args := [d1, d2] }
  | _ => none }
def fnPacketLetterRow : OpenClaim := { program := "ytdngdmhepjjeeab", sum := "ad9118bf2a2aa79a9b1c1af0833a7cce91a85d6de20c9cc3266bf40f0cad6ead", func := "loop.example/mixrelay/laws.FnPacketLetter", spec := "fnPacketLetter", unfollowed := true, recurses := true, apart := false }
def FnPacketLetterSaid : Prop := fnPacketLetterRow.holds Try.pinned (OpenSpec.ofChange fnPacketLetterSpec)

/-- ITS FALSE NEIGHBOUR: 'it returns false'. Refute it at one input. -/
def fnPacketLetterWrong : ChangeSpec := { name := "fnPacketLetter", fn := fun _ => fun
  | [d1, d2] => { results := [.lit (.bool false)], args := [d1, d2] }
  | _ => none }
def FnPacketLetterWrongFalsely : Prop := fnPacketLetterRow.holds Try.pinned (OpenSpec.ofChange fnPacketLetterWrong)

/-- 'laws.FnPacketSecret': WHATEVER THE INPUT: true; the input reads as it did. -/
def fnPacketSecretSpec : ChangeSpec := { name := "fnPacketSecret", fn := fun _ => fun
  | [d1, d2] => { results := [.lit (.bool true)], args := [d1, d2] }
  | _ => none }
def fnPacketSecretRow : OpenClaim := { program := "ytdngdmhepjjeeab", sum := "ad9118bf2a2aa79a9b1c1af0833a7cce91a85d6de20c9cc3266bf40f0cad6ead", func := "loop.example/mixrelay/laws.FnPacketSecret", spec := "fnPacketSecret", unfollowed := true, recurses := true, apart := false }
def FnPacketSecretSaid : Prop := fnPacketSecretRow.holds Try.pinned (OpenSpec.ofChange fnPacketSecretSpec)

/-- ITS FALSE NEIGHBOUR: 'it returns false'. Refute it at one input. -/
def fnPacketSecretWrong : ChangeSpec := { name := "fnPacketSecret", fn := fun _ => fun
  | [d1, d2] => { results := [.lit (.bool false)], args := [d1, d2] }
  | _ => none }
def FnPacketSecretWrongFalsely : Prop := fnPacketSecretRow.holds Try.pinned (OpenSpec.ofChange fnPacketSecretWrong)

/- THE SECOND FORM. 'bulk': how many values and letters a reading holds, each counted each time it is reached (what is shared counts as often as it is met; a slice's spare places count too). A statement '..UptoSaid' is the law's where the arguments, and the package variables that the reading takes, are together of bulk at most 1048576: NARROWER than '..Said'. Prove '..Said' where nothing that the law and all that it calls make is longer than what came in: it says more and counts as full. Else prove '..UptoSaid'. A law counts once. -/
mutual
def uptoBulk {H : Type} : DataW H → Nat
  | .lit (.string bytes) => bytes.length + 1
  | .lit _ => 1
  | .nil => 1
  | .ptr d => uptoBulk d + 1
  | .slice elems spare => uptoBulkAll elems + uptoBulkAll spare + 1
  | .agg parts => uptoBulkAll parts + 1
  | .iface _ d => uptoBulk d + 1
  | .map entries => uptoBulkEntries entries + 1
  | .held _ => 1
def uptoBulkAll {H : Type} : List (DataW H) → Nat
  | [] => 0
  | d :: r => uptoBulk d + uptoBulkAll r
def uptoBulkEntries {H : Type} : List (Lit × DataW H) → Nat
  | [] => 0
  | x :: r => uptoBulkEntry x + uptoBulkEntries r
def uptoBulkEntry {H : Type} : Lit × DataW H → Nat
  | (.string bytes, d) => bytes.length + uptoBulk d + 1
  | (_, d) => uptoBulk d + 1
 end
def uptoSmall : (H : Type) → List (DataW H) → Bool := fun _ ds => decide (uptoBulkAll ds ≤ 1048576)
def OpenSpec.upto (s : _root_.Go.ChangeSpec) : _root_.Go.OpenSpec := { _root_.Go.OpenSpec.ofChange s with cond := some uptoSmall }

/-- 'laws.FnExactPacketPeel', WHERE WHAT IT READS IS OF BULK AT MOST 1048576: true; the input reads as it did. -/
def fnExactPacketPeelUptoRow : OpenClaim := { program := "ytdngdmhepjjeeab", sum := "ad9118bf2a2aa79a9b1c1af0833a7cce91a85d6de20c9cc3266bf40f0cad6ead", func := "loop.example/mixrelay/laws.FnExactPacketPeel", spec := "fnExactPacketPeel", unfollowed := true, recurses := true, apart := false, narrowed := true }
def FnExactPacketPeelUptoSaid : Prop := fnExactPacketPeelUptoRow.holds Try.pinned (OpenSpec.upto fnExactPacketPeelSpec)

/-- 'laws.FnPacket', WHERE WHAT IT READS IS OF BULK AT MOST 1048576: true; the input reads as it did. -/
def fnPacketUptoRow : OpenClaim := { program := "ytdngdmhepjjeeab", sum := "ad9118bf2a2aa79a9b1c1af0833a7cce91a85d6de20c9cc3266bf40f0cad6ead", func := "loop.example/mixrelay/laws.FnPacket", spec := "fnPacket", unfollowed := true, recurses := true, apart := false, narrowed := true }
def FnPacketUptoSaid : Prop := fnPacketUptoRow.holds Try.pinned (OpenSpec.upto fnPacketSpec)

/-- 'laws.FnPacketHidden', WHERE WHAT IT READS IS OF BULK AT MOST 1048576: true; the input reads as it did. -/
def fnPacketHiddenUptoRow : OpenClaim := { program := "ytdngdmhepjjeeab", sum := "ad9118bf2a2aa79a9b1c1af0833a7cce91a85d6de20c9cc3266bf40f0cad6ead", func := "loop.example/mixrelay/laws.FnPacketHidden", spec := "fnPacketHidden", unfollowed := true, recurses := true, apart := false, narrowed := true }
def FnPacketHiddenUptoSaid : Prop := fnPacketHiddenUptoRow.holds Try.pinned (OpenSpec.upto fnPacketHiddenSpec)

/-- 'laws.FnPacketLetter', WHERE WHAT IT READS IS OF BULK AT MOST 1048576: true; the input reads as it did. -/
def fnPacketLetterUptoRow : OpenClaim := { program := "ytdngdmhepjjeeab", sum := "ad9118bf2a2aa79a9b1c1af0833a7cce91a85d6de20c9cc3266bf40f0cad6ead", func := "loop.example/mixrelay/laws.FnPacketLetter", spec := "fnPacketLetter", unfollowed := true, recurses := true, apart := false, narrowed := true }
def FnPacketLetterUptoSaid : Prop := fnPacketLetterUptoRow.holds Try.pinned (OpenSpec.upto fnPacketLetterSpec)

/-- 'laws.FnPacketSecret', WHERE WHAT IT READS IS OF BULK AT MOST 1048576: true; the input reads as it did. -/
def fnPacketSecretUptoRow : OpenClaim := { program := "ytdngdmhepjjeeab", sum := "ad9118bf2a2aa79a9b1c1af0833a7cce91a85d6de20c9cc3266bf40f0cad6ead", func := "loop.example/mixrelay/laws.FnPacketSecret", spec := "fnPacketSecret", unfollowed := true, recurses := true, apart := false, narrowed := true }
def FnPacketSecretUptoSaid : Prop := fnPacketSecretUptoRow.holds Try.pinned (OpenSpec.upto fnPacketSecretSpec)

end Rows
end Go.Proofs.Ytdngdmhepjjeeab
