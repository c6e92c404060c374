/-
  No cell of these rows narrows 'for every input' (looked for: loops, veiled, ifaces, maps, wideKeys, modest, calm, conditions, laid).
  DERIVED. THE GIVEN ROWS OF THIS SEAT. 6 by the template 'for every input the law returns true; each argument reads behind the call as it read before'; 0 by the template 'total and deterministic' (their statements: YtnjcpbkpcmemeabTotals.lean).
  GIVEN WITH THE SEED: the statements are not yours to turn. If you find one false, say at which input.
  Laid BY PROGRAM, IN A SANDBOX (cutbox-rows.mjs): the forced cells as the released guide's own fill.sh prints them over the translation 72bc65ed43e41f30… (all of the seat's roots in one cut). By AI agents, Wed Nov 11 2026. No macro, syntax, notation, axiom, sorry.
-/
import Derived.Test.YtnjcpbkpcmemeabChecked
import GoSem.Claim
import GoSem.ClaimJoined
import GoSem.ClaimMapViews
import Derived.JoinedTies
import Derived.KernelRfl
namespace Go.Proofs.Ytnjcpbkpcmemeab
/- THE CELL 'sum', in the pinned program and in every row, IS THE sha256 OF THE DUMP (.gsa) THAT YtnjcpbkpcmemeabProg.lean LOADS. Nothing in Lean hashes anything: it is a label: what it is worth is what the hold of that sum in a sandbox is worth. -/
noncomputable def Try.pinned : Pinned := { name := "ytnjcpbkpcmemeab", sum := "72bc65ed43e41f30d7f83089215a76e67aacaf436bd12b5ef76ac63e3aecb161", checked := Try.checked }
namespace Rows
def none {H : Type} : Left H := { results := [], args := [] }

/-- 'laws.FnTakeSpace': WHATEVER THE INPUT: true; the input reads as it did. -/
def fnTakeSpaceSpec : ChangeSpec := { name := "fnTakeSpace", fn := fun _ => fun
  | [d] => { results := [.lit (.bool true)], args := [d] }
  | _ => none }
def fnTakeSpaceRow : OpenClaim := { program := "ytnjcpbkpcmemeab", sum := "72bc65ed43e41f30d7f83089215a76e67aacaf436bd12b5ef76ac63e3aecb161", func := "loop.example/mixrelay/laws.FnTakeSpace", spec := "fnTakeSpace", unfollowed := true, recurses := true, apart := false }
def FnTakeSpaceSaid : Prop := fnTakeSpaceRow.holds Try.pinned (OpenSpec.ofChange fnTakeSpaceSpec)

/-- ITS FALSE NEIGHBOUR: 'it returns false'. Refute it at one input. -/
def fnTakeSpaceWrong : ChangeSpec := { name := "fnTakeSpace", fn := fun _ => fun
  | [d] => { results := [.lit (.bool false)], args := [d] }
  | _ => none }
def FnTakeSpaceWrongFalsely : Prop := fnTakeSpaceRow.holds Try.pinned (OpenSpec.ofChange fnTakeSpaceWrong)

/-- 'laws.FnEpoch': WHATEVER THE INPUT: true; the input reads as it did. -/
def fnEpochSpec : ChangeSpec := { name := "fnEpoch", fn := fun _ => fun
  | [d] => { results := [.lit (.bool true)], args := [d] }
  | _ => none }
def fnEpochRow : OpenClaim := { program := "ytnjcpbkpcmemeab", sum := "72bc65ed43e41f30d7f83089215a76e67aacaf436bd12b5ef76ac63e3aecb161", func := "loop.example/mixrelay/laws.FnEpoch", spec := "fnEpoch", apart := false }
def FnEpochSaid : Prop := fnEpochRow.holds Try.pinned (OpenSpec.ofChange fnEpochSpec)

/-- ITS FALSE NEIGHBOUR: 'it returns false'. Refute it at one input. -/
def fnEpochWrong : ChangeSpec := { name := "fnEpoch", fn := fun _ => fun
  | [d] => { results := [.lit (.bool false)], args := [d] }
  | _ => none }
def FnEpochWrongFalsely : Prop := fnEpochRow.holds Try.pinned (OpenSpec.ofChange fnEpochWrong)

/-- 'laws.FnEpochSame': WHATEVER THE INPUT: true; the input reads as it did. -/
def fnEpochSameSpec : ChangeSpec := { name := "fnEpochSame", fn := fun _ => fun
  | [d] => { results := [.lit (.bool true)], args := [d] }
  | _ => none }
def fnEpochSameRow : OpenClaim := { program := "ytnjcpbkpcmemeab", sum := "72bc65ed43e41f30d7f83089215a76e67aacaf436bd12b5ef76ac63e3aecb161", func := "loop.example/mixrelay/laws.FnEpochSame", spec := "fnEpochSame", apart := false }
def FnEpochSameSaid : Prop := fnEpochSameRow.holds Try.pinned (OpenSpec.ofChange fnEpochSameSpec)

/-- ITS FALSE NEIGHBOUR: 'it returns false'. Refute it at one input. -/
def fnEpochSameWrong : ChangeSpec := { name := "fnEpochSame", fn := fun _ => fun
  | [d] => { results := [.lit (.bool false)], args := [d] }
  | _ => none }
def FnEpochSameWrongFalsely : Prop := fnEpochSameRow.holds Try.pinned (OpenSpec.ofChange fnEpochSameWrong)

/-- 'laws.FnFlush': WHATEVER THE INPUT: true; the input reads as it did. -/
def fnFlushSpec : ChangeSpec := { name := "fnFlush", fn := fun _ => fun
  | [d] => { results := [.lit (.bool true)], args := [d] }
  | _ => none }
def fnFlushRow : OpenClaim := { program := "ytnjcpbkpcmemeab", sum := "72bc65ed43e41f30d7f83089215a76e67aacaf436bd12b5ef76ac63e3aecb161", func := "loop.example/mixrelay/laws.FnFlush", spec := "fnFlush", unfollowed := true, recurses := true, apart := false }
def FnFlushSaid : Prop := fnFlushRow.holds Try.pinned (OpenSpec.ofChange fnFlushSpec)

/-- ITS FALSE NEIGHBOUR: 'it returns false'. Refute it at one input. -/
def fnFlushWrong : ChangeSpec := { name := "fnFlush", fn := fun _ => fun
  | [d] => { results := [.lit (.bool false)], args := [d] }
  | _ => none }
def FnFlushWrongFalsely : Prop := fnFlushRow.holds Try.pinned (OpenSpec.ofChange fnFlushWrong)

/-- 'laws.FnFlushOrder': WHATEVER THE INPUT: true; the input reads as it did. -/
def fnFlushOrderSpec : ChangeSpec := { name := "fnFlushOrder", fn := fun _ => fun
  | [d] => { results := [.lit (.bool true)], args := [d] }
  | _ => none }
def fnFlushOrderRow : OpenClaim := { program := "ytnjcpbkpcmemeab", sum := "72bc65ed43e41f30d7f83089215a76e67aacaf436bd12b5ef76ac63e3aecb161", func := "loop.example/mixrelay/laws.FnFlushOrder", spec := "fnFlushOrder", unfollowed := true, recurses := true, apart := false }
def FnFlushOrderSaid : Prop := fnFlushOrderRow.holds Try.pinned (OpenSpec.ofChange fnFlushOrderSpec)

/-- ITS FALSE NEIGHBOUR: 'it returns false'. Refute it at one input. -/
def fnFlushOrderWrong : ChangeSpec := { name := "fnFlushOrder", fn := fun _ => fun
  | [d] => { results := [.lit (.bool false)], args := [d] }
  | _ => none }
def FnFlushOrderWrongFalsely : Prop := fnFlushOrderRow.holds Try.pinned (OpenSpec.ofChange fnFlushOrderWrong)

/-- 'laws.FnFlushMix': WHATEVER THE INPUT: true; the input reads as it did. -/
def fnFlushMixSpec : ChangeSpec := { name := "fnFlushMix", fn := fun _ => fun
  | [d] => { results := [.lit (.bool true)], args := [d] }
  | _ => none }
def fnFlushMixRow : OpenClaim := { program := "ytnjcpbkpcmemeab", sum := "72bc65ed43e41f30d7f83089215a76e67aacaf436bd12b5ef76ac63e3aecb161", func := "loop.example/mixrelay/laws.FnFlushMix", spec := "fnFlushMix", unfollowed := true, recurses := true, apart := false }
def FnFlushMixSaid : Prop := fnFlushMixRow.holds Try.pinned (OpenSpec.ofChange fnFlushMixSpec)

/-- ITS FALSE NEIGHBOUR: 'it returns false'. Refute it at one input. -/
def fnFlushMixWrong : ChangeSpec := { name := "fnFlushMix", fn := fun _ => fun
  | [d] => { results := [.lit (.bool false)], args := [d] }
  | _ => none }
def FnFlushMixWrongFalsely : Prop := fnFlushMixRow.holds Try.pinned (OpenSpec.ofChange fnFlushMixWrong)

/- THE SECOND FORM. 'bulk': how many values and letters a reading holds, each counted each time it is reached (what is shared counts as often as it is met; a slice's spare places count too). A statement '..UptoSaid' is the law's where the arguments, and the package variables that the reading takes, are together of bulk at most 1048576: NARROWER than '..Said'. Prove '..Said' where nothing that the law and all that it calls make is longer than what came in: it says more and counts as full. Else prove '..UptoSaid'. A law counts once. -/
mutual
def uptoBulk {H : Type} : DataW H → Nat
  | .lit (.string bytes) => bytes.length + 1
  | .lit _ => 1
  | .nil => 1
  | .ptr d => uptoBulk d + 1
  | .slice elems spare => uptoBulkAll elems + uptoBulkAll spare + 1
  | .agg parts => uptoBulkAll parts + 1
  | .iface _ d => uptoBulk d + 1
  | .map entries => uptoBulkEntries entries + 1
  | .held _ => 1
def uptoBulkAll {H : Type} : List (DataW H) → Nat
  | [] => 0
  | d :: r => uptoBulk d + uptoBulkAll r
def uptoBulkEntries {H : Type} : List (Lit × DataW H) → Nat
  | [] => 0
  | x :: r => uptoBulkEntry x + uptoBulkEntries r
def uptoBulkEntry {H : Type} : Lit × DataW H → Nat
  | (.string bytes, d) => bytes.length + uptoBulk d + 1
  | (_, d) => uptoBulk d + 1
 end
def uptoSmall : (H : Type) → List (DataW H) → Bool := fun _ ds => decide (uptoBulkAll ds ≤ 1048576)
def OpenSpec.upto (s : _root_.Go.ChangeSpec) : _root_.Go.OpenSpec := { _root_.Go.OpenSpec.ofChange s with cond := some uptoSmall }

/-- 'laws.FnTakeSpace', WHERE WHAT IT READS IS OF BULK AT MOST 1048576: true; the input reads as it did. -/
def fnTakeSpaceUptoRow : OpenClaim := { program := "ytnjcpbkpcmemeab", sum := "72bc65ed43e41f30d7f83089215a76e67aacaf436bd12b5ef76ac63e3aecb161", func := "loop.example/mixrelay/laws.FnTakeSpace", spec := "fnTakeSpace", unfollowed := true, recurses := true, apart := false, narrowed := true }
def FnTakeSpaceUptoSaid : Prop := fnTakeSpaceUptoRow.holds Try.pinned (OpenSpec.upto fnTakeSpaceSpec)

/-- 'laws.FnEpoch', WHERE WHAT IT READS IS OF BULK AT MOST 1048576: true; the input reads as it did. -/
def fnEpochUptoRow : OpenClaim := { program := "ytnjcpbkpcmemeab", sum := "72bc65ed43e41f30d7f83089215a76e67aacaf436bd12b5ef76ac63e3aecb161", func := "loop.example/mixrelay/laws.FnEpoch", spec := "fnEpoch", apart := false, narrowed := true }
def FnEpochUptoSaid : Prop := fnEpochUptoRow.holds Try.pinned (OpenSpec.upto fnEpochSpec)

/-- 'laws.FnEpochSame', WHERE WHAT IT READS IS OF BULK AT MOST 1048576: true; the input reads as it did. -/
def fnEpochSameUptoRow : OpenClaim := { program := "ytnjcpbkpcmemeab", sum := "72bc65ed43e41f30d7f83089215a76e67aacaf436bd12b5ef76ac63e3aecb161", func := "loop.example/mixrelay/laws.FnEpochSame", spec := "fnEpochSame", apart := false, narrowed := true }
def FnEpochSameUptoSaid : Prop := fnEpochSameUptoRow.holds Try.pinned (OpenSpec.upto fnEpochSameSpec)

/-- 'laws.FnFlush', WHERE WHAT IT READS IS OF BULK AT MOST 1048576: true; the input reads as it did. -/
def fnFlushUptoRow : OpenClaim := { program := "ytnjcpbkpcmemeab", sum := "72bc65ed43e41f30d7f83089215a76e67aacaf436bd12b5ef76ac63e3aecb161", func := "loop.example/mixrelay/laws.FnFlush", spec := "fnFlush", unfollowed := true, recurses := true, apart := false, narrowed := true }
def FnFlushUptoSaid : Prop := fnFlushUptoRow.holds Try.pinned (OpenSpec.upto fnFlushSpec)

/-- 'laws.FnFlushOrder', WHERE WHAT IT READS IS OF BULK AT MOST 1048576: true; the input reads as it did. -/
def fnFlushOrderUptoRow : OpenClaim := { program := "ytnjcpbkpcmemeab", sum := "72bc65ed43e41f30d7f83089215a76e67aacaf436bd12b5ef76ac63e3aecb161", func := "loop.example/mixrelay/laws.FnFlushOrder", spec := "fnFlushOrder", unfollowed := true, recurses := true, apart := false, narrowed := true }
def FnFlushOrderUptoSaid : Prop := fnFlushOrderUptoRow.holds Try.pinned (OpenSpec.upto fnFlushOrderSpec)

/-- 'laws.FnFlushMix', WHERE WHAT IT READS IS OF BULK AT MOST 1048576: true; the input reads as it did. -/
def fnFlushMixUptoRow : OpenClaim := { program := "ytnjcpbkpcmemeab", sum := "72bc65ed43e41f30d7f83089215a76e67aacaf436bd12b5ef76ac63e3aecb161", func := "loop.example/mixrelay/laws.FnFlushMix", spec := "fnFlushMix", unfollowed := true, recurses := true, apart := false, narrowed := true }
def FnFlushMixUptoSaid : Prop := fnFlushMixUptoRow.holds Try.pinned (OpenSpec.upto fnFlushMixSpec)

end Rows
end Go.Proofs.Ytnjcpbkpcmemeab
