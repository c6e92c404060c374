/-
  No cell of these rows narrows 'for every input' (looked for: loops, veiled, ifaces, maps, wideKeys, modest, calm, conditions, laid).
  DERIVED. THE GIVEN ROWS OF THIS SEAT. 5 by the template 'for every input the law returns true; each argument reads behind the call as it read before'; 0 by the template 'total and deterministic' (their statements: YtbhafchdcofceaaTotals.lean).
  GIVEN WITH THE SEED: the statements are not yours to turn. If you find one false, say at which input.
  Laid BY PROGRAM, IN A SANDBOX (cutbox-rows.mjs): the forced cells as the released guide's own fill.sh prints them over the translation 406da7334755d6af… (all of the seat's roots in one cut). By AI agents, Wed Nov 11 2026. No macro, syntax, notation, axiom, sorry.
-/
import Derived.Test.YtbhafchdcofceaaChecked
import GoSem.Claim
import GoSem.ClaimJoined
import GoSem.ClaimMapViews
import Derived.JoinedTies
import Derived.KernelRfl
namespace Go.Proofs.Ytbhafchdcofceaa
/- THE CELL 'sum', in the pinned program and in every row, IS THE sha256 OF THE DUMP (.gsa) THAT YtbhafchdcofceaaProg.lean LOADS. Nothing in Lean hashes anything: it is a label: what it is worth is what the hold of that sum in a sandbox is worth. -/
noncomputable def Try.pinned : Pinned := { name := "ytbhafchdcofceaa", sum := "406da7334755d6afe2d709039b00abef1f2c8152dba5bdbbecc16a4a99bb703c", checked := Try.checked }
namespace Rows
def none {H : Type} : Left H := { results := [], args := [] }

/-- 'laws.FnLoopAdd': WHATEVER THE INPUT: true; the input reads as it did. -/
def fnLoopAddSpec : ChangeSpec := { name := "fnLoopAdd", fn := fun _ => fun
  | [d] => { results := [.lit (.bool true)], args := [d] }
  | _ => none }
def fnLoopAddRow : OpenClaim := { program := "ytbhafchdcofceaa", sum := "406da7334755d6afe2d709039b00abef1f2c8152dba5bdbbecc16a4a99bb703c", func := "loop.example/mixrelay/laws.FnLoopAdd", spec := "fnLoopAdd", unfollowed := true, recurses := true, plainKeys := false, apart := false }
def FnLoopAddSaid : Prop := fnLoopAddRow.holds Try.pinned (OpenSpec.ofChange fnLoopAddSpec)

/-- ITS FALSE NEIGHBOUR: 'it returns false'. Refute it at one input. -/
def fnLoopAddWrong : ChangeSpec := { name := "fnLoopAdd", fn := fun _ => fun
  | [d] => { results := [.lit (.bool false)], args := [d] }
  | _ => none }
def FnLoopAddWrongFalsely : Prop := fnLoopAddRow.holds Try.pinned (OpenSpec.ofChange fnLoopAddWrong)

/-- 'laws.FnLoopOrder': WHATEVER THE INPUT: true; the input reads as it did. -/
def fnLoopOrderSpec : ChangeSpec := { name := "fnLoopOrder", fn := fun _ => fun
  | [d1, d2] => { results := [.lit (.bool true)], args := [d1, d2] }
  | _ => none }
def fnLoopOrderRow : OpenClaim := { program := "ytbhafchdcofceaa", sum := "406da7334755d6afe2d709039b00abef1f2c8152dba5bdbbecc16a4a99bb703c", func := "loop.example/mixrelay/laws.FnLoopOrder", spec := "fnLoopOrder", unfollowed := true, recurses := true, plainKeys := false, apart := false }
def FnLoopOrderSaid : Prop := fnLoopOrderRow.holds Try.pinned (OpenSpec.ofChange fnLoopOrderSpec)

/-- ITS FALSE NEIGHBOUR: 'it returns false'. Refute it at one input. -/
def fnLoopOrderWrong : ChangeSpec := { name := "fnLoopOrder", fn := fun _ => fun
  | [d1, d2] => { results := [.lit (.bool false)], args := [d1, d2] }
  | _ => none }
def FnLoopOrderWrongFalsely : Prop := fnLoopOrderRow.holds Try.pinned (OpenSpec.ofChange fnLoopOrderWrong)

/-- 'laws.FnBlamedDropper': WHATEVER THE INPUT: true; the input reads as it did. -/
def fnBlamedDropperSpec : ChangeSpec := { name := "fnBlamedDropper", fn := fun _ => fun
  | [d1, d2] => { results := [.lit (.bool true)], args := [d1, d2] }
  | _ => none }
def fnBlamedDropperRow : OpenClaim := { program := "ytbhafchdcofceaa", sum := "406da7334755d6afe2d709039b00abef1f2c8152dba5bdbbecc16a4a99bb703c", func := "loop.example/mixrelay/laws.FnBlamedDropper", spec := "fnBlamedDropper", unfollowed := true, recurses := true, plainKeys := false, apart := false }
def FnBlamedDropperSaid : Prop := fnBlamedDropperRow.holds Try.pinned (OpenSpec.ofChange fnBlamedDropperSpec)

/-- ITS FALSE NEIGHBOUR: 'it returns false'. Refute it at one input. -/
def fnBlamedDropperWrong : ChangeSpec := { name := "fnBlamedDropper", fn := fun _ => fun
  | [d1, d2] => { results := [.lit (.bool false)], args := [d1, d2] }
  | _ => none }
def FnBlamedDropperWrongFalsely : Prop := fnBlamedDropperRow.holds Try.pinned (OpenSpec.ofChange fnBlamedDropperWrong)

/-- 'laws.FnLoopFirst': WHATEVER THE INPUT: true; the input reads as it did. -/
def fnLoopFirstSpec : ChangeSpec := { name := "fnLoopFirst", fn := fun _ => fun
  | [d1, d2] => { results := [.lit (.bool true)], args := [d1, d2] }
  | _ => none }
def fnLoopFirstRow : OpenClaim := { program := "ytbhafchdcofceaa", sum := "406da7334755d6afe2d709039b00abef1f2c8152dba5bdbbecc16a4a99bb703c", func := "loop.example/mixrelay/laws.FnLoopFirst", spec := "fnLoopFirst", unfollowed := true, recurses := true, plainKeys := false, apart := false }
def FnLoopFirstSaid : Prop := fnLoopFirstRow.holds Try.pinned (OpenSpec.ofChange fnLoopFirstSpec)

/-- ITS FALSE NEIGHBOUR: 'it returns false'. Refute it at one input. -/
def fnLoopFirstWrong : ChangeSpec := { name := "fnLoopFirst", fn := fun _ => fun
  | [d1, d2] => { results := [.lit (.bool false)], args := [d1, d2] }
  | _ => none }
def FnLoopFirstWrongFalsely : Prop := fnLoopFirstRow.holds Try.pinned (OpenSpec.ofChange fnLoopFirstWrong)

/-- 'laws.FnExactLoopAdd': WHATEVER THE INPUT: true; the input reads as it did. -/
def fnExactLoopAddSpec : ChangeSpec := { name := "fnExactLoopAdd", fn := fun _ => fun
  | [d1, d2, d3] => { results := [.lit (.bool true)], args := [d1, d2, d3] }
  | _ => none }
def fnExactLoopAddRow : OpenClaim := { program := "ytbhafchdcofceaa", sum := "406da7334755d6afe2d709039b00abef1f2c8152dba5bdbbecc16a4a99bb703c", func := "loop.example/mixrelay/laws.FnExactLoopAdd", spec := "fnExactLoopAdd", unfollowed := true, recurses := true, plainKeys := false, apart := false }
def FnExactLoopAddSaid : Prop := fnExactLoopAddRow.holds Try.pinned (OpenSpec.ofChange fnExactLoopAddSpec)

/-- ITS FALSE NEIGHBOUR: 'it returns false'. Refute it at one input. -/
def fnExactLoopAddWrong : ChangeSpec := { name := "fnExactLoopAdd", fn := fun _ => fun
  | [d1, d2, d3] => { results := [.lit (.bool false)], args := [d1, d2, d3] }
  | _ => none }
def FnExactLoopAddWrongFalsely : Prop := fnExactLoopAddRow.holds Try.pinned (OpenSpec.ofChange fnExactLoopAddWrong)

/- THE SECOND FORM. 'bulk': how many values and letters a reading holds, each counted each time it is reached (what is shared counts as often as it is met; a slice's spare places count too). A statement '..UptoSaid' is the law's where the arguments, and the package variables that the reading takes, are together of bulk at most 1048576: NARROWER than '..Said'. Prove '..Said' where nothing that the law and all that it calls make is longer than what came in: it says more and counts as full. Else prove '..UptoSaid'. A law counts once. -/
mutual
def uptoBulk {H : Type} : DataW H → Nat
  | .lit (.string bytes) => bytes.length + 1
  | .lit _ => 1
  | .nil => 1
  | .ptr d => uptoBulk d + 1
  | .slice elems spare => uptoBulkAll elems + uptoBulkAll spare + 1
  | .agg parts => uptoBulkAll parts + 1
  | .iface _ d => uptoBulk d + 1
  | .map entries => uptoBulkEntries entries + 1
  | .held _ => 1
def uptoBulkAll {H : Type} : List (DataW H) → Nat
  | [] => 0
  | d :: r => uptoBulk d + uptoBulkAll r
def uptoBulkEntries {H : Type} : List (Lit × DataW H) → Nat
  | [] => 0
  | x :: r => uptoBulkEntry x + uptoBulkEntries r
def uptoBulkEntry {H : Type} : Lit × DataW H → Nat
  | (.string bytes, d) => bytes.length + uptoBulk d + 1
  | (_, d) => uptoBulk d + 1
 end
def uptoSmall : (H : Type) → List (DataW H) → Bool := fun _ ds => decide (uptoBulkAll ds ≤ 1048576)
def OpenSpec.upto (s : _root_.Go.ChangeSpec) : _root_.Go.OpenSpec := { _root_.Go.OpenSpec.ofChange s with cond := some uptoSmall }

/-- 'laws.FnLoopAdd', WHERE WHAT IT READS IS OF BULK AT MOST 1048576: true; the input reads as it did. -/
def fnLoopAddUptoRow : OpenClaim := { program := "ytbhafchdcofceaa", sum := "406da7334755d6afe2d709039b00abef1f2c8152dba5bdbbecc16a4a99bb703c", func := "loop.example/mixrelay/laws.FnLoopAdd", spec := "fnLoopAdd", unfollowed := true, recurses := true, plainKeys := false, apart := false, narrowed := true }
def FnLoopAddUptoSaid : Prop := fnLoopAddUptoRow.holds Try.pinned (OpenSpec.upto fnLoopAddSpec)

/-- 'laws.FnLoopOrder', WHERE WHAT IT READS IS OF BULK AT MOST 1048576: true; the input reads as it did. -/
def fnLoopOrderUptoRow : OpenClaim := { program := "ytbhafchdcofceaa", sum := "406da7334755d6afe2d709039b00abef1f2c8152dba5bdbbecc16a4a99bb703c", func := "loop.example/mixrelay/laws.FnLoopOrder", spec := "fnLoopOrder", unfollowed := true, recurses := true, plainKeys := false, apart := false, narrowed := true }
def FnLoopOrderUptoSaid : Prop := fnLoopOrderUptoRow.holds Try.pinned (OpenSpec.upto fnLoopOrderSpec)

/-- 'laws.FnBlamedDropper', WHERE WHAT IT READS IS OF BULK AT MOST 1048576: true; the input reads as it did. -/
def fnBlamedDropperUptoRow : OpenClaim := { program := "ytbhafchdcofceaa", sum := "406da7334755d6afe2d709039b00abef1f2c8152dba5bdbbecc16a4a99bb703c", func := "loop.example/mixrelay/laws.FnBlamedDropper", spec := "fnBlamedDropper", unfollowed := true, recurses := true, plainKeys := false, apart := false, narrowed := true }
def FnBlamedDropperUptoSaid : Prop := fnBlamedDropperUptoRow.holds Try.pinned (OpenSpec.upto fnBlamedDropperSpec)

/-- 'laws.FnLoopFirst', WHERE WHAT IT READS IS OF BULK AT MOST 1048576: true; the input reads as it did. -/
def fnLoopFirstUptoRow : OpenClaim := { program := "ytbhafchdcofceaa", sum := "406da7334755d6afe2d709039b00abef1f2c8152dba5bdbbecc16a4a99bb703c", func := "loop.example/mixrelay/laws.FnLoopFirst", spec := "fnLoopFirst", unfollowed := true, recurses := true, plainKeys := false, apart := false, narrowed := true }
def FnLoopFirstUptoSaid : Prop := fnLoopFirstUptoRow.holds Try.pinned (OpenSpec.upto fnLoopFirstSpec)

/-- 'laws.FnExactLoopAdd', WHERE WHAT IT READS IS OF BULK AT MOST 1048576: true; the input reads as it did. -/
def fnExactLoopAddUptoRow : OpenClaim := { program := "ytbhafchdcofceaa", sum := "406da7334755d6afe2d709039b00abef1f2c8152dba5bdbbecc16a4a99bb703c", func := "loop.example/mixrelay/laws.FnExactLoopAdd", spec := "fnExactLoopAdd", unfollowed := true, recurses := true, plainKeys := false, apart := false, narrowed := true }
def FnExactLoopAddUptoSaid : Prop := fnExactLoopAddUptoRow.holds Try.pinned (OpenSpec.upto fnExactLoopAddSpec)

end Rows
end Go.Proofs.Ytbhafchdcofceaa
