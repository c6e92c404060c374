/-
  No cell of these rows narrows 'for every input' (looked for: loops, veiled, ifaces, maps, wideKeys, modest, calm, conditions, laid).
  DERIVED. THE GIVEN ROWS OF THIS SEAT. 10 by the template 'for every input the law returns true; each argument reads behind the call as it read before'; 0 by the template 'total and deterministic' (their statements: YtfjggpdinfidcaaTotals.lean).
  GIVEN WITH THE SEED: the statements are not yours to turn. If you find one false, say at which input.
  Laid BY PROGRAM, IN A SANDBOX (cutbox-rows.mjs): the forced cells as the released guide's own fill.sh prints them over the translation 1a8ef71fd4579894… (all of the seat's roots in one cut). By AI agents, Wed Nov 11 2026. No macro, syntax, notation, axiom, sorry.
-/
import Derived.Test.YtfjggpdinfidcaaChecked
import GoSem.Claim
import GoSem.ClaimJoined
import GoSem.ClaimMapViews
import Derived.JoinedTies
import Derived.KernelRfl
namespace Go.Proofs.Ytfjggpdinfidcaa
/- THE CELL 'sum', in the pinned program and in every row, IS THE sha256 OF THE DUMP (.gsa) THAT YtfjggpdinfidcaaProg.lean LOADS. Nothing in Lean hashes anything: it is a label: what it is worth is what the hold of that sum in a sandbox is worth. -/
noncomputable def Try.pinned : Pinned := { name := "ytfjggpdinfidcaa", sum := "1a8ef71fd4579894503f39216c96428346e0552d14eeb7cb6a24248e2756f28b", checked := Try.checked }
namespace Rows
def none {H : Type} : Left H := { results := [], args := [] }

/-- 'laws.FnDirectoryPart': WHATEVER THE INPUT: true; the input reads as it did. -/
def fnDirectoryPartSpec : ChangeSpec := { name := "fnDirectoryPart", fn := fun _ => fun
  | [d1, d2] => { results := [.lit (.bool true)], args := [d1, d2] }
  | _ => none }
def fnDirectoryPartRow : OpenClaim := { program := "ytfjggpdinfidcaa", sum := "1a8ef71fd4579894503f39216c96428346e0552d14eeb7cb6a24248e2756f28b", func := "loop.example/mixrelay/laws.FnDirectoryPart", spec := "fnDirectoryPart", unfollowed := true, recurses := true, apart := false }
def FnDirectoryPartSaid : Prop := fnDirectoryPartRow.holds Try.pinned (OpenSpec.ofChange fnDirectoryPartSpec)

/-- ITS FALSE NEIGHBOUR: 'it returns false'. Refute it at one input. -/
def fnDirectoryPartWrong : ChangeSpec := { name := "fnDirectoryPart", fn := fun _ => fun
  | [d1, d2] => { results := [.lit (.bool false)], args := [d1, d2] }
  | _ => none }
def FnDirectoryPartWrongFalsely : Prop := fnDirectoryPartRow.holds Try.pinned (OpenSpec.ofChange fnDirectoryPartWrong)

/-- 'laws.FnDirectoryDigest': WHATEVER THE INPUT: true; the input reads as it did. -/
def fnDirectoryDigestSpec : ChangeSpec := { name := "fnDirectoryDigest", fn := fun _ => fun
  | [d1, d2] => { results := [.lit (.bool true)], args := [d1, d2] }
  | _ => none }
def fnDirectoryDigestRow : OpenClaim := { program := "ytfjggpdinfidcaa", sum := "1a8ef71fd4579894503f39216c96428346e0552d14eeb7cb6a24248e2756f28b", func := "loop.example/mixrelay/laws.FnDirectoryDigest", spec := "fnDirectoryDigest", unfollowed := true, recurses := true, apart := false }
def FnDirectoryDigestSaid : Prop := fnDirectoryDigestRow.holds Try.pinned (OpenSpec.ofChange fnDirectoryDigestSpec)

/-- ITS FALSE NEIGHBOUR: 'it returns false'. Refute it at one input. -/
def fnDirectoryDigestWrong : ChangeSpec := { name := "fnDirectoryDigest", fn := fun _ => fun
  | [d1, d2] => { results := [.lit (.bool false)], args := [d1, d2] }
  | _ => none }
def FnDirectoryDigestWrongFalsely : Prop := fnDirectoryDigestRow.holds Try.pinned (OpenSpec.ofChange fnDirectoryDigestWrong)

/-- 'laws.FnDirectoryEpoch': WHATEVER THE INPUT: true; the input reads as it did. -/
def fnDirectoryEpochSpec : ChangeSpec := { name := "fnDirectoryEpoch", fn := fun _ => fun
  | [d1, d2] => { results := [.lit (.bool true)], args := [d1, d2] }
  | _ => none }
def fnDirectoryEpochRow : OpenClaim := { program := "ytfjggpdinfidcaa", sum := "1a8ef71fd4579894503f39216c96428346e0552d14eeb7cb6a24248e2756f28b", func := "loop.example/mixrelay/laws.FnDirectoryEpoch", spec := "fnDirectoryEpoch", unfollowed := true, recurses := true, apart := false }
def FnDirectoryEpochSaid : Prop := fnDirectoryEpochRow.holds Try.pinned (OpenSpec.ofChange fnDirectoryEpochSpec)

/-- ITS FALSE NEIGHBOUR: 'it returns false'. Refute it at one input. -/
def fnDirectoryEpochWrong : ChangeSpec := { name := "fnDirectoryEpoch", fn := fun _ => fun
  | [d1, d2] => { results := [.lit (.bool false)], args := [d1, d2] }
  | _ => none }
def FnDirectoryEpochWrongFalsely : Prop := fnDirectoryEpochRow.holds Try.pinned (OpenSpec.ofChange fnDirectoryEpochWrong)

/-- 'laws.FnSign': WHATEVER THE INPUT: true; the input reads as it did. -/
def fnSignSpec : ChangeSpec := { name := "fnSign", fn := fun _ => fun
  | [d1, d2] => { results := [.lit (.bool true)], args := [d1, d2] }
  | _ => none }
def fnSignRow : OpenClaim := { program := "ytfjggpdinfidcaa", sum := "1a8ef71fd4579894503f39216c96428346e0552d14eeb7cb6a24248e2756f28b", func := "loop.example/mixrelay/laws.FnSign", spec := "fnSign", unfollowed := true, recurses := true, apart := false }
def FnSignSaid : Prop := fnSignRow.holds Try.pinned (OpenSpec.ofChange fnSignSpec)

/-- ITS FALSE NEIGHBOUR: 'it returns false'. Refute it at one input. -/
def fnSignWrong : ChangeSpec := { name := "fnSign", fn := fun _ => fun
  | [d1, d2] => { results := [.lit (.bool false)], args := [d1, d2] }
  | _ => none }
def FnSignWrongFalsely : Prop := fnSignRow.holds Try.pinned (OpenSpec.ofChange fnSignWrong)

/-- 'laws.FnSignOther': WHATEVER THE INPUT: true; the input reads as it did. -/
def fnSignOtherSpec : ChangeSpec := { name := "fnSignOther", fn := fun _ => fun
  | [d1, d2] => { results := [.lit (.bool true)], args := [d1, d2] }
  | _ => none }
def fnSignOtherRow : OpenClaim := { program := "ytfjggpdinfidcaa", sum := "1a8ef71fd4579894503f39216c96428346e0552d14eeb7cb6a24248e2756f28b", func := "loop.example/mixrelay/laws.FnSignOther", spec := "fnSignOther", unfollowed := true, recurses := true, apart := false }
def FnSignOtherSaid : Prop := fnSignOtherRow.holds Try.pinned (OpenSpec.ofChange fnSignOtherSpec)

/-- ITS FALSE NEIGHBOUR: 'it returns false'. Refute it at one input. -/
def fnSignOtherWrong : ChangeSpec := { name := "fnSignOther", fn := fun _ => fun
  | [d1, d2] => { results := [.lit (.bool false)], args := [d1, d2] }
  | _ => none }
def FnSignOtherWrongFalsely : Prop := fnSignOtherRow.holds Try.pinned (OpenSpec.ofChange fnSignOtherWrong)

/-- 'laws.FnSignMore': WHATEVER THE INPUT: true; the input reads as it did. -/
def fnSignMoreSpec : ChangeSpec := { name := "fnSignMore", fn := fun _ => fun
  | [d1, d2] => { results := [.lit (.bool true)], args := [d1, d2] }
  | _ => none }
def fnSignMoreRow : OpenClaim := { program := "ytfjggpdinfidcaa", sum := "1a8ef71fd4579894503f39216c96428346e0552d14eeb7cb6a24248e2756f28b", func := "loop.example/mixrelay/laws.FnSignMore", spec := "fnSignMore", unfollowed := true, recurses := true, apart := false }
def FnSignMoreSaid : Prop := fnSignMoreRow.holds Try.pinned (OpenSpec.ofChange fnSignMoreSpec)

/-- ITS FALSE NEIGHBOUR: 'it returns false'. Refute it at one input. -/
def fnSignMoreWrong : ChangeSpec := { name := "fnSignMore", fn := fun _ => fun
  | [d1, d2] => { results := [.lit (.bool false)], args := [d1, d2] }
  | _ => none }
def FnSignMoreWrongFalsely : Prop := fnSignMoreRow.holds Try.pinned (OpenSpec.ofChange fnSignMoreWrong)

/-- 'laws.FnPick': WHATEVER THE INPUT: true; the input reads as it did. -/
def fnPickSpec : ChangeSpec := { name := "fnPick", fn := fun _ => fun
  | [d] => { results := [.lit (.bool true)], args := [d] }
  | _ => none }
def fnPickRow : OpenClaim := { program := "ytfjggpdinfidcaa", sum := "1a8ef71fd4579894503f39216c96428346e0552d14eeb7cb6a24248e2756f28b", func := "loop.example/mixrelay/laws.FnPick", spec := "fnPick", unfollowed := true, recurses := true, apart := false }
def FnPickSaid : Prop := fnPickRow.holds Try.pinned (OpenSpec.ofChange fnPickSpec)

/-- ITS FALSE NEIGHBOUR: 'it returns false'. Refute it at one input. -/
def fnPickWrong : ChangeSpec := { name := "fnPick", fn := fun _ => fun
  | [d] => { results := [.lit (.bool false)], args := [d] }
  | _ => none }
def FnPickWrongFalsely : Prop := fnPickRow.holds Try.pinned (OpenSpec.ofChange fnPickWrong)

/-- 'laws.FnPickOrder': WHATEVER THE INPUT: true; the input reads as it did. -/
def fnPickOrderSpec : ChangeSpec := { name := "fnPickOrder", fn := fun _ => fun
  | [d] => { results := [.lit (.bool true)], args := [d] }
  | _ => none }
def fnPickOrderRow : OpenClaim := { program := "ytfjggpdinfidcaa", sum := "1a8ef71fd4579894503f39216c96428346e0552d14eeb7cb6a24248e2756f28b", func := "loop.example/mixrelay/laws.FnPickOrder", spec := "fnPickOrder", unfollowed := true, recurses := true, apart := false }
def FnPickOrderSaid : Prop := fnPickOrderRow.holds Try.pinned (OpenSpec.ofChange fnPickOrderSpec)

/-- ITS FALSE NEIGHBOUR: 'it returns false'. Refute it at one input. -/
def fnPickOrderWrong : ChangeSpec := { name := "fnPickOrder", fn := fun _ => fun
  | [d] => { results := [.lit (.bool false)], args := [d] }
  | _ => none }
def FnPickOrderWrongFalsely : Prop := fnPickOrderRow.holds Try.pinned (OpenSpec.ofChange fnPickOrderWrong)

/-- 'laws.FnPath': WHATEVER THE INPUT: true; the input reads as it did. -/
def fnPathSpec : ChangeSpec := { name := "fnPath", fn := fun _ => fun
  | [d] => { results := [.lit (.bool true)], args := [d] }
  | _ => none }
def fnPathRow : OpenClaim := { program := "ytfjggpdinfidcaa", sum := "1a8ef71fd4579894503f39216c96428346e0552d14eeb7cb6a24248e2756f28b", func := "loop.example/mixrelay/laws.FnPath", spec := "fnPath", unfollowed := true, recurses := true, apart := false }
def FnPathSaid : Prop := fnPathRow.holds Try.pinned (OpenSpec.ofChange fnPathSpec)

/-- ITS FALSE NEIGHBOUR: 'it returns false'. Refute it at one input. -/
def fnPathWrong : ChangeSpec := { name := "fnPath", fn := fun _ => fun
  | [d] => { results := [.lit (.bool false)], args := [d] }
  | _ => none }
def FnPathWrongFalsely : Prop := fnPathRow.holds Try.pinned (OpenSpec.ofChange fnPathWrong)

/-- 'laws.FnPathFirst': WHATEVER THE INPUT: true; the input reads as it did. -/
def fnPathFirstSpec : ChangeSpec := { name := "fnPathFirst", fn := fun _ => fun
  | [d] => { results := [.lit (.bool true)], args := [d] }
  | _ => none }
def fnPathFirstRow : OpenClaim := { program := "ytfjggpdinfidcaa", sum := "1a8ef71fd4579894503f39216c96428346e0552d14eeb7cb6a24248e2756f28b", func := "loop.example/mixrelay/laws.FnPathFirst", spec := "fnPathFirst", unfollowed := true, recurses := true, apart := false }
def FnPathFirstSaid : Prop := fnPathFirstRow.holds Try.pinned (OpenSpec.ofChange fnPathFirstSpec)

/-- ITS FALSE NEIGHBOUR: 'it returns false'. Refute it at one input. -/
def fnPathFirstWrong : ChangeSpec := { name := "fnPathFirst", fn := fun _ => fun
  | [d] => { results := [.lit (.bool false)], args := [d] }
  | _ => none }
def FnPathFirstWrongFalsely : Prop := fnPathFirstRow.holds Try.pinned (OpenSpec.ofChange fnPathFirstWrong)

/- THE SECOND FORM. 'bulk': how many values and letters a reading holds, each counted each time it is reached (what is shared counts as often as it is met; a slice's spare places count too). A statement '..UptoSaid' is the law's where the arguments, and the package variables that the reading takes, are together of bulk at most 1048576: NARROWER than '..Said'. Prove '..Said' where nothing that the law and all that it calls make is longer than what came in: it says more and counts as full. Else prove '..UptoSaid'. A law counts once. -/
mutual
def uptoBulk {H : Type} : DataW H → Nat
  | .lit (.string bytes) => bytes.length + 1
  | .lit _ => 1
  | .nil => 1
  | .ptr d => uptoBulk d + 1
  | .slice elems spare => uptoBulkAll elems + uptoBulkAll spare + 1
  | .agg parts => uptoBulkAll parts + 1
  | .iface _ d => uptoBulk d + 1
  | .map entries => uptoBulkEntries entries + 1
  | .held _ => 1
def uptoBulkAll {H : Type} : List (DataW H) → Nat
  | [] => 0
  | d :: r => uptoBulk d + uptoBulkAll r
def uptoBulkEntries {H : Type} : List (Lit × DataW H) → Nat
  | [] => 0
  | x :: r => uptoBulkEntry x + uptoBulkEntries r
def uptoBulkEntry {H : Type} : Lit × DataW H → Nat
  | (.string bytes, d) => bytes.length + uptoBulk d + 1
  | (_, d) => uptoBulk d + 1
 end
def uptoSmall : (H : Type) → List (DataW H) → Bool := fun _ ds => decide (uptoBulkAll ds ≤ 1048576)
def OpenSpec.upto (s : _root_.Go.ChangeSpec) : _root_.Go.OpenSpec := { _root_.Go.OpenSpec.ofChange s with cond := some uptoSmall }

/-- 'laws.FnDirectoryPart', WHERE WHAT IT READS IS OF BULK AT MOST 1048576: true; the input reads as it did. -/
def fnDirectoryPartUptoRow : OpenClaim := { program := "ytfjggpdinfidcaa", sum := "1a8ef71fd4579894503f39216c96428346e0552d14eeb7cb6a24248e2756f28b", func := "loop.example/mixrelay/laws.FnDirectoryPart", spec := "fnDirectoryPart", unfollowed := true, recurses := true, apart := false, narrowed := true }
def FnDirectoryPartUptoSaid : Prop := fnDirectoryPartUptoRow.holds Try.pinned (OpenSpec.upto fnDirectoryPartSpec)

/-- 'laws.FnDirectoryDigest', WHERE WHAT IT READS IS OF BULK AT MOST 1048576: true; the input reads as it did. -/
def fnDirectoryDigestUptoRow : OpenClaim := { program := "ytfjggpdinfidcaa", sum := "1a8ef71fd4579894503f39216c96428346e0552d14eeb7cb6a24248e2756f28b", func := "loop.example/mixrelay/laws.FnDirectoryDigest", spec := "fnDirectoryDigest", unfollowed := true, recurses := true, apart := false, narrowed := true }
def FnDirectoryDigestUptoSaid : Prop := fnDirectoryDigestUptoRow.holds Try.pinned (OpenSpec.upto fnDirectoryDigestSpec)

/-- 'laws.FnDirectoryEpoch', WHERE WHAT IT READS IS OF BULK AT MOST 1048576: true; the input reads as it did. -/
def fnDirectoryEpochUptoRow : OpenClaim := { program := "ytfjggpdinfidcaa", sum := "1a8ef71fd4579894503f39216c96428346e0552d14eeb7cb6a24248e2756f28b", func := "loop.example/mixrelay/laws.FnDirectoryEpoch", spec := "fnDirectoryEpoch", unfollowed := true, recurses := true, apart := false, narrowed := true }
def FnDirectoryEpochUptoSaid : Prop := fnDirectoryEpochUptoRow.holds Try.pinned (OpenSpec.upto fnDirectoryEpochSpec)

/-- 'laws.FnSign', WHERE WHAT IT READS IS OF BULK AT MOST 1048576: true; the input reads as it did. -/
def fnSignUptoRow : OpenClaim := { program := "ytfjggpdinfidcaa", sum := "1a8ef71fd4579894503f39216c96428346e0552d14eeb7cb6a24248e2756f28b", func := "loop.example/mixrelay/laws.FnSign", spec := "fnSign", unfollowed := true, recurses := true, apart := false, narrowed := true }
def FnSignUptoSaid : Prop := fnSignUptoRow.holds Try.pinned (OpenSpec.upto fnSignSpec)

/-- 'laws.FnSignOther', WHERE WHAT IT READS IS OF BULK AT MOST 1048576: true; the input reads as it did. -/
def fnSignOtherUptoRow : OpenClaim := { program := "ytfjggpdinfidcaa", sum := "1a8ef71fd4579894503f39216c96428346e0552d14eeb7cb6a24248e2756f28b", func := "loop.example/mixrelay/laws.FnSignOther", spec := "fnSignOther", unfollowed := true, recurses := true, apart := false, narrowed := true }
def FnSignOtherUptoSaid : Prop := fnSignOtherUptoRow.holds Try.pinned (OpenSpec.upto fnSignOtherSpec)

/-- 'laws.FnSignMore', WHERE WHAT IT READS IS OF BULK AT MOST 1048576: true; the input reads as it did. -/
def fnSignMoreUptoRow : OpenClaim := { program := "ytfjggpdinfidcaa", sum := "1a8ef71fd4579894503f39216c96428346e0552d14eeb7cb6a24248e2756f28b", func := "loop.example/mixrelay/laws.FnSignMore", spec := "fnSignMore", unfollowed := true, recurses := true, apart := false, narrowed := true }
def FnSignMoreUptoSaid : Prop := fnSignMoreUptoRow.holds Try.pinned (OpenSpec.upto fnSignMoreSpec)

/-- 'laws.FnPick', WHERE WHAT IT READS IS OF BULK AT MOST 1048576: true; the input reads as it did. -/
def fnPickUptoRow : OpenClaim := { program := "ytfjggpdinfidcaa", sum := "1a8ef71fd4579894503f39216c96428346e0552d14eeb7cb6a24248e2756f28b", func := "loop.example/mixrelay/laws.FnPick", spec := "fnPick", unfollowed := true, recurses := true, apart := false, narrowed := true }
def FnPickUptoSaid : Prop := fnPickUptoRow.holds Try.pinned (OpenSpec.upto fnPickSpec)

/-- 'laws.FnPickOrder', WHERE WHAT IT READS IS OF BULK AT MOST 1048576: true; the input reads as it did. -/
def fnPickOrderUptoRow : OpenClaim := { program := "ytfjggpdinfidcaa", sum := "1a8ef71fd4579894503f39216c96428346e0552d14eeb7cb6a24248e2756f28b", func := "loop.example/mixrelay/laws.FnPickOrder", spec := "fnPickOrder", unfollowed := true, recurses := true, apart := false, narrowed := true }
def FnPickOrderUptoSaid : Prop := fnPickOrderUptoRow.holds Try.pinned (OpenSpec.upto fnPickOrderSpec)

/-- 'laws.FnPath', WHERE WHAT IT READS IS OF BULK AT MOST 1048576: true; the input reads as it did. -/
def fnPathUptoRow : OpenClaim := { program := "ytfjggpdinfidcaa", sum := "1a8ef71fd4579894503f39216c96428346e0552d14eeb7cb6a24248e2756f28b", func := "loop.example/mixrelay/laws.FnPath", spec := "fnPath", unfollowed := true, recurses := true, apart := false, narrowed := true }
def FnPathUptoSaid : Prop := fnPathUptoRow.holds Try.pinned (OpenSpec.upto fnPathSpec)

/-- 'laws.FnPathFirst', WHERE WHAT IT READS IS OF BULK AT MOST 1048576: true; the input reads as it did. -/
def fnPathFirstUptoRow : OpenClaim := { program := "ytfjggpdinfidcaa", sum := "1a8ef71fd4579894503f39216c96428346e0552d14eeb7cb6a24248e2756f28b", func := "loop.example/mixrelay/laws.FnPathFirst", spec := "fnPathFirst", unfollowed := true, recurses := true, apart := false, narrowed := true }
def FnPathFirstUptoSaid : Prop := fnPathFirstUptoRow.holds Try.pinned (OpenSpec.upto fnPathFirstSpec)

end Rows
end Go.Proofs.Ytfjggpdinfidcaa
