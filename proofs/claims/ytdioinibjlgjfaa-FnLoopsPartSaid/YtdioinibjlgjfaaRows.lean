/-
  No cell of these rows narrows 'for every input' (looked for: loops, veiled, ifaces, maps, wideKeys, modest, calm, conditions, laid).
  DERIVED. THE GIVEN ROWS OF THIS SEAT. 15 by the template 'for every input the law returns true; each argument reads behind the call as it read before'; 0 by the template 'total and deterministic' (their statements: YtdioinibjlgjfaaTotals.lean).
  GIVEN WITH THE SEED: the statements are not yours to turn. If you find one false, say at which input.
  Laid BY PROGRAM, IN A SANDBOX (cutbox-rows.mjs): the forced cells as the released guide's own fill.sh prints them over the translation c4fc406867021cc4… (all of the seat's roots in one cut). By AI agents, Wed Nov 11 2026. No macro, syntax, notation, axiom, sorry.
-/
import Derived.Test.YtdioinibjlgjfaaChecked
import GoSem.Claim
import GoSem.ClaimJoined
import GoSem.ClaimMapViews
import Derived.JoinedTies
import Derived.KernelRfl
namespace Go.Proofs.Ytdioinibjlgjfaa
/- THE CELL 'sum', in the pinned program and in every row, IS THE sha256 OF THE DUMP (.gsa) THAT YtdioinibjlgjfaaProg.lean LOADS. Nothing in Lean hashes anything: it is a label: what it is worth is what the hold of that sum in a sandbox is worth. -/
noncomputable def Try.pinned : Pinned := { name := "ytdioinibjlgjfaa", sum := "c4fc406867021cc4dc0eb3805509a4df6a3a59a09fe629d4f51aa2f2a9c7860f", checked := Try.checked }
namespace Rows
def none {H : Type} : Left H := { results := [], args := [] }

/-- 'laws.FnLoopAdd': WHATEVER THE INPUT: true; the input reads as it did. -/
def fnLoopAddSpec : ChangeSpec := { name := "fnLoopAdd", fn := fun _ => fun
  | [d] => { results := [.lit (.bool true)], args := [d] }
  | _ => none }
def fnLoopAddRow : OpenClaim := { program := "ytdioinibjlgjfaa", sum := "c4fc406867021cc4dc0eb3805509a4df6a3a59a09fe629d4f51aa2f2a9c7860f", func := "loop.example/mixrelay/laws.FnLoopAdd", spec := "fnLoopAdd", unfollowed := true, recurses := true, plainKeys := false, apart := false }
def FnLoopAddSaid : Prop := fnLoopAddRow.holds Try.pinned (OpenSpec.ofChange fnLoopAddSpec)

/-- ITS FALSE NEIGHBOUR: 'it returns false'. Refute it at one input. -/
def fnLoopAddWrong : ChangeSpec := { name := "fnLoopAdd", fn := fun _ => fun
  | [d] => { results := [.lit (.bool false)], args := [d] }
  | _ => none }
def FnLoopAddWrongFalsely : Prop := fnLoopAddRow.holds Try.pinned (OpenSpec.ofChange fnLoopAddWrong)

/-- 'laws.FnLoopOrder': WHATEVER THE INPUT: true; the input reads as it did. -/
def fnLoopOrderSpec : ChangeSpec := { name := "fnLoopOrder", fn := fun _ => fun
  | [d1, d2] => { results := [.lit (.bool true)], args := [d1, d2] }
  | _ => none }
def fnLoopOrderRow : OpenClaim := { program := "ytdioinibjlgjfaa", sum := "c4fc406867021cc4dc0eb3805509a4df6a3a59a09fe629d4f51aa2f2a9c7860f", func := "loop.example/mixrelay/laws.FnLoopOrder", spec := "fnLoopOrder", unfollowed := true, recurses := true, plainKeys := false, apart := false }
def FnLoopOrderSaid : Prop := fnLoopOrderRow.holds Try.pinned (OpenSpec.ofChange fnLoopOrderSpec)

/-- ITS FALSE NEIGHBOUR: 'it returns false'. Refute it at one input. -/
def fnLoopOrderWrong : ChangeSpec := { name := "fnLoopOrder", fn := fun _ => fun
  | [d1, d2] => { results := [.lit (.bool false)], args := [d1, d2] }
  | _ => none }
def FnLoopOrderWrongFalsely : Prop := fnLoopOrderRow.holds Try.pinned (OpenSpec.ofChange fnLoopOrderWrong)

/-- 'laws.FnLoopRate': WHATEVER THE INPUT: true; the input reads as it did. -/
def fnLoopRateSpec : ChangeSpec := { name := "fnLoopRate", fn := fun _ => fun
  | [d] => { results := [.lit (.bool true)], args := [d] }
  | _ => none }
def fnLoopRateRow : OpenClaim := { program := "ytdioinibjlgjfaa", sum := "c4fc406867021cc4dc0eb3805509a4df6a3a59a09fe629d4f51aa2f2a9c7860f", func := "loop.example/mixrelay/laws.FnLoopRate", spec := "fnLoopRate", plainKeys := false, apart := false }
def FnLoopRateSaid : Prop := fnLoopRateRow.holds Try.pinned (OpenSpec.ofChange fnLoopRateSpec)

/-- ITS FALSE NEIGHBOUR: 'it returns false'. Refute it at one input. -/
def fnLoopRateWrong : ChangeSpec := { name := "fnLoopRate", fn := fun _ => fun
  | [d] => { results := [.lit (.bool false)], args := [d] }
  | _ => none }
def FnLoopRateWrongFalsely : Prop := fnLoopRateRow.holds Try.pinned (OpenSpec.ofChange fnLoopRateWrong)

/-- 'laws.FnSuspects': WHATEVER THE INPUT: true; the input reads as it did. -/
def fnSuspectsSpec : ChangeSpec := { name := "fnSuspects", fn := fun _ => fun
  | [d] => { results := [.lit (.bool true)], args := [d] }
  | _ => none }
def fnSuspectsRow : OpenClaim := { program := "ytdioinibjlgjfaa", sum := "c4fc406867021cc4dc0eb3805509a4df6a3a59a09fe629d4f51aa2f2a9c7860f", func := "loop.example/mixrelay/laws.FnSuspects", spec := "fnSuspects", plainKeys := false, apart := false }
def FnSuspectsSaid : Prop := fnSuspectsRow.holds Try.pinned (OpenSpec.ofChange fnSuspectsSpec)

/-- ITS FALSE NEIGHBOUR: 'it returns false'. Refute it at one input. -/
def fnSuspectsWrong : ChangeSpec := { name := "fnSuspects", fn := fun _ => fun
  | [d] => { results := [.lit (.bool false)], args := [d] }
  | _ => none }
def FnSuspectsWrongFalsely : Prop := fnSuspectsRow.holds Try.pinned (OpenSpec.ofChange fnSuspectsWrong)

/-- 'laws.FnSuspectsNone': WHATEVER THE INPUT: true; the input reads as it did. -/
def fnSuspectsNoneSpec : ChangeSpec := { name := "fnSuspectsNone", fn := fun _ => fun
  | [d] => { results := [.lit (.bool true)], args := [d] }
  | _ => none }
def fnSuspectsNoneRow : OpenClaim := { program := "ytdioinibjlgjfaa", sum := "c4fc406867021cc4dc0eb3805509a4df6a3a59a09fe629d4f51aa2f2a9c7860f", func := "loop.example/mixrelay/laws.FnSuspectsNone", spec := "fnSuspectsNone", plainKeys := false, apart := false }
def FnSuspectsNoneSaid : Prop := fnSuspectsNoneRow.holds Try.pinned (OpenSpec.ofChange fnSuspectsNoneSpec)

/-- ITS FALSE NEIGHBOUR: 'it returns false'. Refute it at one input. -/
def fnSuspectsNoneWrong : ChangeSpec := { name := "fnSuspectsNone", fn := fun _ => fun
  | [d] => { results := [.lit (.bool false)], args := [d] }
  | _ => none }
def FnSuspectsNoneWrongFalsely : Prop := fnSuspectsNoneRow.holds Try.pinned (OpenSpec.ofChange fnSuspectsNoneWrong)

/-- 'laws.FnSuspectsMore': WHATEVER THE INPUT: true; the input reads as it did. -/
def fnSuspectsMoreSpec : ChangeSpec := { name := "fnSuspectsMore", fn := fun _ => fun
  | [d] => { results := [.lit (.bool true)], args := [d] }
  | _ => none }
def fnSuspectsMoreRow : OpenClaim := { program := "ytdioinibjlgjfaa", sum := "c4fc406867021cc4dc0eb3805509a4df6a3a59a09fe629d4f51aa2f2a9c7860f", func := "loop.example/mixrelay/laws.FnSuspectsMore", spec := "fnSuspectsMore", plainKeys := false, apart := false }
def FnSuspectsMoreSaid : Prop := fnSuspectsMoreRow.holds Try.pinned (OpenSpec.ofChange fnSuspectsMoreSpec)

/-- ITS FALSE NEIGHBOUR: 'it returns false'. Refute it at one input. -/
def fnSuspectsMoreWrong : ChangeSpec := { name := "fnSuspectsMore", fn := fun _ => fun
  | [d] => { results := [.lit (.bool false)], args := [d] }
  | _ => none }
def FnSuspectsMoreWrongFalsely : Prop := fnSuspectsMoreRow.holds Try.pinned (OpenSpec.ofChange fnSuspectsMoreWrong)

/-- 'laws.FnBlamed': WHATEVER THE INPUT: true; the input reads as it did. -/
def fnBlamedSpec : ChangeSpec := { name := "fnBlamed", fn := fun _ => fun
  | [d] => { results := [.lit (.bool true)], args := [d] }
  | _ => none }
def fnBlamedRow : OpenClaim := { program := "ytdioinibjlgjfaa", sum := "c4fc406867021cc4dc0eb3805509a4df6a3a59a09fe629d4f51aa2f2a9c7860f", func := "loop.example/mixrelay/laws.FnBlamed", spec := "fnBlamed", plainKeys := false, apart := false }
def FnBlamedSaid : Prop := fnBlamedRow.holds Try.pinned (OpenSpec.ofChange fnBlamedSpec)

/-- ITS FALSE NEIGHBOUR: 'it returns false'. Refute it at one input. -/
def fnBlamedWrong : ChangeSpec := { name := "fnBlamed", fn := fun _ => fun
  | [d] => { results := [.lit (.bool false)], args := [d] }
  | _ => none }
def FnBlamedWrongFalsely : Prop := fnBlamedRow.holds Try.pinned (OpenSpec.ofChange fnBlamedWrong)

/-- 'laws.FnBlamedDropper': WHATEVER THE INPUT: true; the input reads as it did. -/
def fnBlamedDropperSpec : ChangeSpec := { name := "fnBlamedDropper", fn := fun _ => fun
  | [d1, d2] => { results := [.lit (.bool true)], args := [d1, d2] }
  | _ => none }
def fnBlamedDropperRow : OpenClaim := { program := "ytdioinibjlgjfaa", sum := "c4fc406867021cc4dc0eb3805509a4df6a3a59a09fe629d4f51aa2f2a9c7860f", func := "loop.example/mixrelay/laws.FnBlamedDropper", spec := "fnBlamedDropper", unfollowed := true, recurses := true, plainKeys := false, apart := false }
def FnBlamedDropperSaid : Prop := fnBlamedDropperRow.holds Try.pinned (OpenSpec.ofChange fnBlamedDropperSpec)

/-- ITS FALSE NEIGHBOUR: 'it returns false'. Refute it at one input. -/
def fnBlamedDropperWrong : ChangeSpec := { name := "fnBlamedDropper", fn := fun _ => fun
  | [d1, d2] => { results := [.lit (.bool false)], args := [d1, d2] }
  | _ => none }
def FnBlamedDropperWrongFalsely : Prop := fnBlamedDropperRow.holds Try.pinned (OpenSpec.ofChange fnBlamedDropperWrong)

/-- 'laws.FnLoopFirst': WHATEVER THE INPUT: true; the input reads as it did. -/
def fnLoopFirstSpec : ChangeSpec := { name := "fnLoopFirst", fn := fun _ => fun
  | [d1, d2] => { results := [.lit (.bool true)], args := [d1, d2] }
  | _ => none }
def fnLoopFirstRow : OpenClaim := { program := "ytdioinibjlgjfaa", sum := "c4fc406867021cc4dc0eb3805509a4df6a3a59a09fe629d4f51aa2f2a9c7860f", func := "loop.example/mixrelay/laws.FnLoopFirst", spec := "fnLoopFirst", unfollowed := true, recurses := true, plainKeys := false, apart := false }
def FnLoopFirstSaid : Prop := fnLoopFirstRow.holds Try.pinned (OpenSpec.ofChange fnLoopFirstSpec)

/-- ITS FALSE NEIGHBOUR: 'it returns false'. Refute it at one input. -/
def fnLoopFirstWrong : ChangeSpec := { name := "fnLoopFirst", fn := fun _ => fun
  | [d1, d2] => { results := [.lit (.bool false)], args := [d1, d2] }
  | _ => none }
def FnLoopFirstWrongFalsely : Prop := fnLoopFirstRow.holds Try.pinned (OpenSpec.ofChange fnLoopFirstWrong)

/-- 'laws.FnLoopsPart': WHATEVER THE INPUT: true; the input reads as it did. -/
def fnLoopsPartSpec : ChangeSpec := { name := "fnLoopsPart", fn := fun _ => fun
  | [d1, d2] => { results := [.lit (.bool true)], args := [d1, d2] }
  | _ => none }
def fnLoopsPartRow : OpenClaim := { program := "ytdioinibjlgjfaa", sum := "c4fc406867021cc4dc0eb3805509a4df6a3a59a09fe629d4f51aa2f2a9c7860f", func := "loop.example/mixrelay/laws.FnLoopsPart", spec := "fnLoopsPart", plainKeys := false, apart := false }
def FnLoopsPartSaid : Prop := fnLoopsPartRow.holds Try.pinned (OpenSpec.ofChange fnLoopsPartSpec)

/-- ITS FALSE NEIGHBOUR: 'it returns false'. Refute it at one input. -/
def fnLoopsPartWrong : ChangeSpec := { name := "fnLoopsPart", fn := fun _ => fun
  | [d1, d2] => { results := [.lit (.bool false)], args := [d1, d2] }
  | _ => none }
def FnLoopsPartWrongFalsely : Prop := fnLoopsPartRow.holds Try.pinned (OpenSpec.ofChange fnLoopsPartWrong)

/-- 'laws.FnExactLoopsValid': WHATEVER THE INPUT: true; the input reads as it did. -/
def fnExactLoopsValidSpec : ChangeSpec := { name := "fnExactLoopsValid", fn := fun _ => fun
  | [d] => { results := [.lit (.bool true)], args := [d] }
  | _ => none }
def fnExactLoopsValidRow : OpenClaim := { program := "ytdioinibjlgjfaa", sum := "c4fc406867021cc4dc0eb3805509a4df6a3a59a09fe629d4f51aa2f2a9c7860f", func := "loop.example/mixrelay/laws.FnExactLoopsValid", spec := "fnExactLoopsValid", plainKeys := false, apart := false }
def FnExactLoopsValidSaid : Prop := fnExactLoopsValidRow.holds Try.pinned (OpenSpec.ofChange fnExactLoopsValidSpec)

/-- ITS FALSE NEIGHBOUR: 'it returns false'. Refute it at one input. -/
def fnExactLoopsValidWrong : ChangeSpec := { name := "fnExactLoopsValid", fn := fun _ => fun
  | [d] => { results := [.lit (.bool false)], args := [d] }
  | _ => none }
def FnExactLoopsValidWrongFalsely : Prop := fnExactLoopsValidRow.holds Try.pinned (OpenSpec.ofChange fnExactLoopsValidWrong)

/-- 'laws.FnExactLoopAdd': WHATEVER THE INPUT: true; the input reads as it did. -/
def fnExactLoopAddSpec : ChangeSpec := { name := "fnExactLoopAdd", fn := fun _ => fun
  | [d1, d2, d3] => { results := [.lit (.bool true)], args := [d1, d2, d3] }
  | _ => none }
def fnExactLoopAddRow : OpenClaim := { program := "ytdioinibjlgjfaa", sum := "c4fc406867021cc4dc0eb3805509a4df6a3a59a09fe629d4f51aa2f2a9c7860f", func := "loop.example/mixrelay/laws.FnExactLoopAdd", spec := "fnExactLoopAdd", unfollowed := true, recurses := true, plainKeys := false, apart := false }
def FnExactLoopAddSaid : Prop := fnExactLoopAddRow.holds Try.pinned (OpenSpec.ofChange fnExactLoopAddSpec)

/-- ITS FALSE NEIGHBOUR: 'it returns false'. Refute it at one input. -/
def fnExactLoopAddWrong : ChangeSpec := { name := "fnExactLoopAdd", fn := fun _ => fun
  | [d1, d2, d3] => { results := [.lit (.bool false)], args := [d1, d2, d3] }
  | _ => none }
def FnExactLoopAddWrongFalsely : Prop := fnExactLoopAddRow.holds Try.pinned (OpenSpec.ofChange fnExactLoopAddWrong)

/-- 'laws.FnExactLoopRate': WHATEVER THE INPUT: true; the input reads as it did. -/
def fnExactLoopRateSpec : ChangeSpec := { name := "fnExactLoopRate", fn := fun _ => fun
  | [d1, d2, d3] => { results := [.lit (.bool true)], args := [d1, d2, d3] }
  | _ => none }
def fnExactLoopRateRow : OpenClaim := { program := "ytdioinibjlgjfaa", sum := "c4fc406867021cc4dc0eb3805509a4df6a3a59a09fe629d4f51aa2f2a9c7860f", func := "loop.example/mixrelay/laws.FnExactLoopRate", spec := "fnExactLoopRate", plainKeys := false, apart := false }
def FnExactLoopRateSaid : Prop := fnExactLoopRateRow.holds Try.pinned (OpenSpec.ofChange fnExactLoopRateSpec)

/-- ITS FALSE NEIGHBOUR: 'it returns false'. Refute it at one input. -/
def fnExactLoopRateWrong : ChangeSpec := { name := "fnExactLoopRate", fn := fun _ => fun
  | [d1, d2, d3] => { results := [.lit (.bool false)], args := [d1, d2, d3] }
  | _ => none }
def FnExactLoopRateWrongFalsely : Prop := fnExactLoopRateRow.holds Try.pinned (OpenSpec.ofChange fnExactLoopRateWrong)

/-- 'laws.FnExactLoopSuspects': WHATEVER THE INPUT: true; the input reads as it did. -/
def fnExactLoopSuspectsSpec : ChangeSpec := { name := "fnExactLoopSuspects", fn := fun _ => fun
  | [d1, d2, d3] => { results := [.lit (.bool true)], args := [d1, d2, d3] }
  | _ => none }
def fnExactLoopSuspectsRow : OpenClaim := { program := "ytdioinibjlgjfaa", sum := "c4fc406867021cc4dc0eb3805509a4df6a3a59a09fe629d4f51aa2f2a9c7860f", func := "loop.example/mixrelay/laws.FnExactLoopSuspects", spec := "fnExactLoopSuspects", plainKeys := false, apart := false }
def FnExactLoopSuspectsSaid : Prop := fnExactLoopSuspectsRow.holds Try.pinned (OpenSpec.ofChange fnExactLoopSuspectsSpec)

/-- ITS FALSE NEIGHBOUR: 'it returns false'. Refute it at one input. -/
def fnExactLoopSuspectsWrong : ChangeSpec := { name := "fnExactLoopSuspects", fn := fun _ => fun
  | [d1, d2, d3] => { results := [.lit (.bool false)], args := [d1, d2, d3] }
  | _ => none }
def FnExactLoopSuspectsWrongFalsely : Prop := fnExactLoopSuspectsRow.holds Try.pinned (OpenSpec.ofChange fnExactLoopSuspectsWrong)

/-- 'laws.FnExactLoopBlamed': WHATEVER THE INPUT: true; the input reads as it did. -/
def fnExactLoopBlamedSpec : ChangeSpec := { name := "fnExactLoopBlamed", fn := fun _ => fun
  | [d1, d2, d3] => { results := [.lit (.bool true)], args := [d1, d2, d3] }
  | _ => none }
def fnExactLoopBlamedRow : OpenClaim := { program := "ytdioinibjlgjfaa", sum := "c4fc406867021cc4dc0eb3805509a4df6a3a59a09fe629d4f51aa2f2a9c7860f", func := "loop.example/mixrelay/laws.FnExactLoopBlamed", spec := "fnExactLoopBlamed", plainKeys := false, apart := false }
def FnExactLoopBlamedSaid : Prop := fnExactLoopBlamedRow.holds Try.pinned (OpenSpec.ofChange fnExactLoopBlamedSpec)

/-- ITS FALSE NEIGHBOUR: 'it returns false'. Refute it at one input. -/
def fnExactLoopBlamedWrong : ChangeSpec := { name := "fnExactLoopBlamed", fn := fun _ => fun
  | [d1, d2, d3] => { results := [.lit (.bool false)], args := [d1, d2, d3] }
  | _ => none }
def FnExactLoopBlamedWrongFalsely : Prop := fnExactLoopBlamedRow.holds Try.pinned (OpenSpec.ofChange fnExactLoopBlamedWrong)

/- THE SECOND FORM. 'bulk': how many values and letters a reading holds, each counted each time it is reached (what is shared counts as often as it is met; a slice's spare places count too). A statement '..UptoSaid' is the law's where the arguments, and the package variables that the reading takes, are together of bulk at most 1048576: NARROWER than '..Said'. Prove '..Said' where nothing that the law and all that it calls make is longer than what came in: it says more and counts as full. Else prove '..UptoSaid'. A law counts once. -/
mutual
def uptoBulk {H : Type} : DataW H → Nat
  | .lit (.string bytes) => bytes.length + 1
  | .lit _ => 1
  | .nil => 1
  | .ptr d => uptoBulk d + 1
  | .slice elems spare => uptoBulkAll elems + uptoBulkAll spare + 1
  | .agg parts => uptoBulkAll parts + 1
  | .iface _ d => uptoBulk d + 1
  | .map entries => uptoBulkEntries entries + 1
  | .held _ => 1
def uptoBulkAll {H : Type} : List (DataW H) → Nat
  | [] => 0
  | d :: r => uptoBulk d + uptoBulkAll r
def uptoBulkEntries {H : Type} : List (Lit × DataW H) → Nat
  | [] => 0
  | x :: r => uptoBulkEntry x + uptoBulkEntries r
def uptoBulkEntry {H : Type} : Lit × DataW H → Nat
  | (.string bytes, d) => bytes.length + uptoBulk d + 1
  | (_, d) => uptoBulk d + 1
 end
def uptoSmall : (H : Type) → List (DataW H) → Bool := fun _ ds => decide (uptoBulkAll ds ≤ 1048576)
def OpenSpec.upto (s : _root_.Go.ChangeSpec) : _root_.Go.OpenSpec := { _root_.Go.OpenSpec.ofChange s with cond := some uptoSmall }

/-- 'laws.FnLoopAdd', WHERE WHAT IT READS IS OF BULK AT MOST 1048576: true; the input reads as it did. -/
def fnLoopAddUptoRow : OpenClaim := { program := "ytdioinibjlgjfaa", sum := "c4fc406867021cc4dc0eb3805509a4df6a3a59a09fe629d4f51aa2f2a9c7860f", func := "loop.example/mixrelay/laws.FnLoopAdd", spec := "fnLoopAdd", unfollowed := true, recurses := true, plainKeys := false, apart := false, narrowed := true }
def FnLoopAddUptoSaid : Prop := fnLoopAddUptoRow.holds Try.pinned (OpenSpec.upto fnLoopAddSpec)

/-- 'laws.FnLoopOrder', WHERE WHAT IT READS IS OF BULK AT MOST 1048576: true; the input reads as it did. -/
def fnLoopOrderUptoRow : OpenClaim := { program := "ytdioinibjlgjfaa", sum := "c4fc406867021cc4dc0eb3805509a4df6a3a59a09fe629d4f51aa2f2a9c7860f", func := "loop.example/mixrelay/laws.FnLoopOrder", spec := "fnLoopOrder", unfollowed := true, recurses := true, plainKeys := false, apart := false, narrowed := true }
def FnLoopOrderUptoSaid : Prop := fnLoopOrderUptoRow.holds Try.pinned (OpenSpec.upto fnLoopOrderSpec)

/-- 'laws.FnLoopRate', WHERE WHAT IT READS IS OF BULK AT MOST 1048576: true; the input reads as it did. -/
def fnLoopRateUptoRow : OpenClaim := { program := "ytdioinibjlgjfaa", sum := "c4fc406867021cc4dc0eb3805509a4df6a3a59a09fe629d4f51aa2f2a9c7860f", func := "loop.example/mixrelay/laws.FnLoopRate", spec := "fnLoopRate", plainKeys := false, apart := false, narrowed := true }
def FnLoopRateUptoSaid : Prop := fnLoopRateUptoRow.holds Try.pinned (OpenSpec.upto fnLoopRateSpec)

/-- 'laws.FnSuspects', WHERE WHAT IT READS IS OF BULK AT MOST 1048576: true; the input reads as it did. -/
def fnSuspectsUptoRow : OpenClaim := { program := "ytdioinibjlgjfaa", sum := "c4fc406867021cc4dc0eb3805509a4df6a3a59a09fe629d4f51aa2f2a9c7860f", func := "loop.example/mixrelay/laws.FnSuspects", spec := "fnSuspects", plainKeys := false, apart := false, narrowed := true }
def FnSuspectsUptoSaid : Prop := fnSuspectsUptoRow.holds Try.pinned (OpenSpec.upto fnSuspectsSpec)

/-- 'laws.FnSuspectsNone', WHERE WHAT IT READS IS OF BULK AT MOST 1048576: true; the input reads as it did. -/
def fnSuspectsNoneUptoRow : OpenClaim := { program := "ytdioinibjlgjfaa", sum := "c4fc406867021cc4dc0eb3805509a4df6a3a59a09fe629d4f51aa2f2a9c7860f", func := "loop.example/mixrelay/laws.FnSuspectsNone", spec := "fnSuspectsNone", plainKeys := false, apart := false, narrowed := true }
def FnSuspectsNoneUptoSaid : Prop := fnSuspectsNoneUptoRow.holds Try.pinned (OpenSpec.upto fnSuspectsNoneSpec)

/-- 'laws.FnSuspectsMore', WHERE WHAT IT READS IS OF BULK AT MOST 1048576: true; the input reads as it did. -/
def fnSuspectsMoreUptoRow : OpenClaim := { program := "ytdioinibjlgjfaa", sum := "c4fc406867021cc4dc0eb3805509a4df6a3a59a09fe629d4f51aa2f2a9c7860f", func := "loop.example/mixrelay/laws.FnSuspectsMore", spec := "fnSuspectsMore", plainKeys := false, apart := false, narrowed := true }
def FnSuspectsMoreUptoSaid : Prop := fnSuspectsMoreUptoRow.holds Try.pinned (OpenSpec.upto fnSuspectsMoreSpec)

/-- 'laws.FnBlamed', WHERE WHAT IT READS IS OF BULK AT MOST 1048576: true; the input reads as it did. -/
def fnBlamedUptoRow : OpenClaim := { program := "ytdioinibjlgjfaa", sum := "c4fc406867021cc4dc0eb3805509a4df6a3a59a09fe629d4f51aa2f2a9c7860f", func := "loop.example/mixrelay/laws.FnBlamed", spec := "fnBlamed", plainKeys := false, apart := false, narrowed := true }
def FnBlamedUptoSaid : Prop := fnBlamedUptoRow.holds Try.pinned (OpenSpec.upto fnBlamedSpec)

/-- 'laws.FnBlamedDropper', WHERE WHAT IT READS IS OF BULK AT MOST 1048576: true; the input reads as it did. -/
def fnBlamedDropperUptoRow : OpenClaim := { program := "ytdioinibjlgjfaa", sum := "c4fc406867021cc4dc0eb3805509a4df6a3a59a09fe629d4f51aa2f2a9c7860f", func := "loop.example/mixrelay/laws.FnBlamedDropper", spec := "fnBlamedDropper", unfollowed := true, recurses := true, plainKeys := false, apart := false, narrowed := true }
def FnBlamedDropperUptoSaid : Prop := fnBlamedDropperUptoRow.holds Try.pinned (OpenSpec.upto fnBlamedDropperSpec)

/-- 'laws.FnLoopFirst', WHERE WHAT IT READS IS OF BULK AT MOST 1048576: true; the input reads as it did. -/
def fnLoopFirstUptoRow : OpenClaim := { program := "ytdioinibjlgjfaa", sum := "c4fc406867021cc4dc0eb3805509a4df6a3a59a09fe629d4f51aa2f2a9c7860f", func := "loop.example/mixrelay/laws.FnLoopFirst", spec := "fnLoopFirst", unfollowed := true, recurses := true, plainKeys := false, apart := false, narrowed := true }
def FnLoopFirstUptoSaid : Prop := fnLoopFirstUptoRow.holds Try.pinned (OpenSpec.upto fnLoopFirstSpec)

/-- 'laws.FnLoopsPart', WHERE WHAT IT READS IS OF BULK AT MOST 1048576: true; the input reads as it did. -/
def fnLoopsPartUptoRow : OpenClaim := { program := "ytdioinibjlgjfaa", sum := "c4fc406867021cc4dc0eb3805509a4df6a3a59a09fe629d4f51aa2f2a9c7860f", func := "loop.example/mixrelay/laws.FnLoopsPart", spec := "fnLoopsPart", plainKeys := false, apart := false, narrowed := true }
def FnLoopsPartUptoSaid : Prop := fnLoopsPartUptoRow.holds Try.pinned (OpenSpec.upto fnLoopsPartSpec)

/-- 'laws.FnExactLoopsValid', WHERE WHAT IT READS IS OF BULK AT MOST 1048576: true; the input reads as it did. -/
def fnExactLoopsValidUptoRow : OpenClaim := { program := "ytdioinibjlgjfaa", sum := "c4fc406867021cc4dc0eb3805509a4df6a3a59a09fe629d4f51aa2f2a9c7860f", func := "loop.example/mixrelay/laws.FnExactLoopsValid", spec := "fnExactLoopsValid", plainKeys := false, apart := false, narrowed := true }
def FnExactLoopsValidUptoSaid : Prop := fnExactLoopsValidUptoRow.holds Try.pinned (OpenSpec.upto fnExactLoopsValidSpec)

/-- 'laws.FnExactLoopAdd', WHERE WHAT IT READS IS OF BULK AT MOST 1048576: true; the input reads as it did. -/
def fnExactLoopAddUptoRow : OpenClaim := { program := "ytdioinibjlgjfaa", sum := "c4fc406867021cc4dc0eb3805509a4df6a3a59a09fe629d4f51aa2f2a9c7860f", func := "loop.example/mixrelay/laws.FnExactLoopAdd", spec := "fnExactLoopAdd", unfollowed := true, recurses := true, plainKeys := false, apart := false, narrowed := true }
def FnExactLoopAddUptoSaid : Prop := fnExactLoopAddUptoRow.holds Try.pinned (OpenSpec.upto fnExactLoopAddSpec)

/-- 'laws.FnExactLoopRate', WHERE WHAT IT READS IS OF BULK AT MOST 1048576: true; the input reads as it did. -/
def fnExactLoopRateUptoRow : OpenClaim := { program := "ytdioinibjlgjfaa", sum := "c4fc406867021cc4dc0eb3805509a4df6a3a59a09fe629d4f51aa2f2a9c7860f", func := "loop.example/mixrelay/laws.FnExactLoopRate", spec := "fnExactLoopRate", plainKeys := false, apart := false, narrowed := true }
def FnExactLoopRateUptoSaid : Prop := fnExactLoopRateUptoRow.holds Try.pinned (OpenSpec.upto fnExactLoopRateSpec)

/-- 'laws.FnExactLoopSuspects', WHERE WHAT IT READS IS OF BULK AT MOST 1048576: true; the input reads as it did. -/
def fnExactLoopSuspectsUptoRow : OpenClaim := { program := "ytdioinibjlgjfaa", sum := "c4fc406867021cc4dc0eb3805509a4df6a3a59a09fe629d4f51aa2f2a9c7860f", func := "loop.example/mixrelay/laws.FnExactLoopSuspects", spec := "fnExactLoopSuspects", plainKeys := false, apart := false, narrowed := true }
def FnExactLoopSuspectsUptoSaid : Prop := fnExactLoopSuspectsUptoRow.holds Try.pinned (OpenSpec.upto fnExactLoopSuspectsSpec)

/-- 'laws.FnExactLoopBlamed', WHERE WHAT IT READS IS OF BULK AT MOST 1048576: true; the input reads as it did. -/
def fnExactLoopBlamedUptoRow : OpenClaim := { program := "ytdioinibjlgjfaa", sum := "c4fc406867021cc4dc0eb3805509a4df6a3a59a09fe629d4f51aa2f2a9c7860f", func := "loop.example/mixrelay/laws.FnExactLoopBlamed", spec := "fnExactLoopBlamed", plainKeys := false, apart := false, narrowed := true }
def FnExactLoopBlamedUptoSaid : Prop := fnExactLoopBlamedUptoRow.holds Try.pinned (OpenSpec.upto fnExactLoopBlamedSpec)

end Rows
end Go.Proofs.Ytdioinibjlgjfaa
