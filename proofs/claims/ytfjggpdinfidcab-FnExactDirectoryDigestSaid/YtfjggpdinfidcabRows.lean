/-
  No cell of these rows narrows 'for every input' (looked for: loops, veiled, ifaces, maps, wideKeys, modest, calm, conditions, laid).
  DERIVED. THE GIVEN ROWS OF THIS SEAT. 9 by the template 'for every input the law returns true; each argument reads behind the call as it read before'; 0 by the template 'total and deterministic' (their statements: YtfjggpdinfidcabTotals.lean).
  GIVEN WITH THE SEED: the statements are not yours to turn. If you find one false, say at which input.
  Laid BY PROGRAM, IN A SANDBOX (cutbox-rows.mjs): the forced cells as the released guide's own fill.sh prints them over the translation b98d44f1de66f7aa… (all of the seat's roots in one cut). By AI agents, Wed Nov 11 2026. No macro, syntax, notation, axiom, sorry.
-/
import Derived.Test.YtfjggpdinfidcabChecked
import GoSem.Claim
import GoSem.ClaimJoined
import GoSem.ClaimMapViews
import Derived.JoinedTies
import Derived.KernelRfl
namespace Go.Proofs.Ytfjggpdinfidcab
/- THE CELL 'sum', in the pinned program and in every row, IS THE sha256 OF THE DUMP (.gsa) THAT YtfjggpdinfidcabProg.lean LOADS. Nothing in Lean hashes anything: it is a label: what it is worth is what the hold of that sum in a sandbox is worth. -/
noncomputable def Try.pinned : Pinned := { name := "ytfjggpdinfidcab", sum := "b98d44f1de66f7aa32482ce4455fda223b6a5f5f9460a5b4d61ef7037e35f64e", checked := Try.checked }
namespace Rows
def none {H : Type} : Left H := { results := [], args := [] }

/-- 'laws.FnPathShort': WHATEVER THE INPUT: true; the input reads as it did. -/
def fnPathShortSpec : ChangeSpec := { name := "fnPathShort", fn := fun _ => fun
  | [d1, d2] => { results := [.lit (.bool true)], args := [d1, d2] }
  | _ => none }
def fnPathShortRow : OpenClaim := { program := "ytfjggpdinfidcab", sum := "b98d44f1de66f7aa32482ce4455fda223b6a5f5f9460a5b4d61ef7037e35f64e", func := "loop.example/mixrelay/laws.FnPathShort", spec := "fnPathShort", unfollowed := true, recurses := true, apart := false }
def FnPathShortSaid : Prop := fnPathShortRow.holds Try.pinned (OpenSpec.ofChange fnPathShortSpec)

/-- ITS FALSE NEIGHBOUR: 'it returns false'. Refute it at one input. -/
def fnPathShortWrong : ChangeSpec := { name := "fnPathShort", fn := fun _ => fun
  | [d1, d2] => { results := [.lit (.bool false)], args := [d1, d2] }
  | _ => none }
def FnPathShortWrongFalsely : Prop := fnPathShortRow.holds Try.pinned (OpenSpec.ofChange fnPathShortWrong)

/-- 'laws.FnPathNone': WHATEVER THE INPUT: true; the input reads as it did. -/
def fnPathNoneSpec : ChangeSpec := { name := "fnPathNone", fn := fun _ => fun
  | [d] => { results := [.lit (.bool true)], args := [d] }
  | _ => none }
def fnPathNoneRow : OpenClaim := { program := "ytfjggpdinfidcab", sum := "b98d44f1de66f7aa32482ce4455fda223b6a5f5f9460a5b4d61ef7037e35f64e", func := "loop.example/mixrelay/laws.FnPathNone", spec := "fnPathNone", unfollowed := true, recurses := true, apart := false }
def FnPathNoneSaid : Prop := fnPathNoneRow.holds Try.pinned (OpenSpec.ofChange fnPathNoneSpec)

/-- ITS FALSE NEIGHBOUR: 'it returns false'. Refute it at one input. -/
def fnPathNoneWrong : ChangeSpec := { name := "fnPathNone", fn := fun _ => fun
  | [d] => { results := [.lit (.bool false)], args := [d] }
  | _ => none }
def FnPathNoneWrongFalsely : Prop := fnPathNoneRow.holds Try.pinned (OpenSpec.ofChange fnPathNoneWrong)

/-- 'laws.FnPickSame': WHATEVER THE INPUT: true; the input reads as it did. -/
def fnPickSameSpec : ChangeSpec := { name := "fnPickSame", fn := fun _ => fun
  | [d1, d2] => { results := [.lit (.bool true)], args := [d1, d2] }
  | _ => none }
def fnPickSameRow : OpenClaim := { program := "ytfjggpdinfidcab", sum := "b98d44f1de66f7aa32482ce4455fda223b6a5f5f9460a5b4d61ef7037e35f64e", func := "loop.example/mixrelay/laws.FnPickSame", spec := "fnPickSame", unfollowed := true, recurses := true, apart := false }
def FnPickSameSaid : Prop := fnPickSameRow.holds Try.pinned (OpenSpec.ofChange fnPickSameSpec)

/-- ITS FALSE NEIGHBOUR: 'it returns false'. Refute it at one input. -/
def fnPickSameWrong : ChangeSpec := { name := "fnPickSame", fn := fun _ => fun
  | [d1, d2] => { results := [.lit (.bool false)], args := [d1, d2] }
  | _ => none }
def FnPickSameWrongFalsely : Prop := fnPickSameRow.holds Try.pinned (OpenSpec.ofChange fnPickSameWrong)

/-- 'laws.FnExactDirectoryValid': WHATEVER THE INPUT: true; the input reads as it did. -/
def fnExactDirectoryValidSpec : ChangeSpec := { name := "fnExactDirectoryValid", fn := fun _ => fun
  | [d] => { results := [.lit (.bool true)], args := [d] }
  | _ => none }
def fnExactDirectoryValidRow : OpenClaim := { program := "ytfjggpdinfidcab", sum := "b98d44f1de66f7aa32482ce4455fda223b6a5f5f9460a5b4d61ef7037e35f64e", func := "loop.example/mixrelay/laws.FnExactDirectoryValid", spec := "fnExactDirectoryValid", unfollowed := true, recurses := true, apart := false }
def FnExactDirectoryValidSaid : Prop := fnExactDirectoryValidRow.holds Try.pinned (OpenSpec.ofChange fnExactDirectoryValidSpec)

/-- ITS FALSE NEIGHBOUR: 'it returns false'. Refute it at one input. -/
def fnExactDirectoryValidWrong : ChangeSpec := { name := "fnExactDirectoryValid", fn := fun _ => fun
  | [d] => { results := [.lit (.bool false)], args := [d] }
  | _ => none }
def FnExactDirectoryValidWrongFalsely : Prop := fnExactDirectoryValidRow.holds Try.pinned (OpenSpec.ofChange fnExactDirectoryValidWrong)

/-- 'laws.FnExactDirectoryDigest': WHATEVER THE INPUT: true; the input reads as it did. -/
def fnExactDirectoryDigestSpec : ChangeSpec := { name := "fnExactDirectoryDigest", fn := fun _ => fun
  | [d] => { results := [.lit (.bool true)], args := [d] }
  | _ => none }
def fnExactDirectoryDigestRow : OpenClaim := { program := "ytfjggpdinfidcab", sum := "b98d44f1de66f7aa32482ce4455fda223b6a5f5f9460a5b4d61ef7037e35f64e", func := "loop.example/mixrelay/laws.FnExactDirectoryDigest", spec := "fnExactDirectoryDigest", unfollowed := true, recurses := true, apart := false }
def FnExactDirectoryDigestSaid : Prop := fnExactDirectoryDigestRow.holds Try.pinned (OpenSpec.ofChange fnExactDirectoryDigestSpec)

/-- ITS FALSE NEIGHBOUR: 'it returns false'. Refute it at one input. -/
def fnExactDirectoryDigestWrong : ChangeSpec := { name := "fnExactDirectoryDigest", fn := fun _ => fun
  | [d] => { results := [.lit (.bool false)], args := [d] }
  | _ => none }
def FnExactDirectoryDigestWrongFalsely : Prop := fnExactDirectoryDigestRow.holds Try.pinned (OpenSpec.ofChange fnExactDirectoryDigestWrong)

/-- 'laws.FnExactDirectorySign': WHATEVER THE INPUT: true; the input reads as it did. -/
def fnExactDirectorySignSpec : ChangeSpec := { name := "fnExactDirectorySign", fn := fun _ => fun
  | [d1, d2] => { results := [.lit (.bool true)], args := [d1, d2] }
  | _ => none }
def fnExactDirectorySignRow : OpenClaim := { program := "ytfjggpdinfidcab", sum := "b98d44f1de66f7aa32482ce4455fda223b6a5f5f9460a5b4d61ef7037e35f64e", func := "loop.example/mixrelay/laws.FnExactDirectorySign", spec := "fnExactDirectorySign", unfollowed := true, recurses := true, apart := false }
def FnExactDirectorySignSaid : Prop := fnExactDirectorySignRow.holds Try.pinned (OpenSpec.ofChange fnExactDirectorySignSpec)

/-- ITS FALSE NEIGHBOUR: 'it returns false'. Refute it at one input. -/
def fnExactDirectorySignWrong : ChangeSpec := { name := "fnExactDirectorySign", fn := fun _ => fun
  | [d1, d2] => { results := [.lit (.bool false)], args := [d1, d2] }
  | _ => none }
def FnExactDirectorySignWrongFalsely : Prop := fnExactDirectorySignRow.holds Try.pinned (OpenSpec.ofChange fnExactDirectorySignWrong)

/-- 'laws.FnExactDirectoryCheck': WHATEVER THE INPUT: true; the input reads as it did. -/
def fnExactDirectoryCheckSpec : ChangeSpec := { name := "fnExactDirectoryCheck", fn := fun _ => fun
  | [d1, d2, d3] => { results := [.lit (.bool true)], args := [d1, d2, d3] }
  | _ => none }
def fnExactDirectoryCheckRow : OpenClaim := { program := "ytfjggpdinfidcab", sum := "b98d44f1de66f7aa32482ce4455fda223b6a5f5f9460a5b4d61ef7037e35f64e", func := "loop.example/mixrelay/laws.FnExactDirectoryCheck", spec := "fnExactDirectoryCheck", unfollowed := true, recurses := true, apart := false }
def FnExactDirectoryCheckSaid : Prop := fnExactDirectoryCheckRow.holds Try.pinned (OpenSpec.ofChange fnExactDirectoryCheckSpec)

/-- ITS FALSE NEIGHBOUR: 'it returns false'. Refute it at one input. -/
def fnExactDirectoryCheckWrong : ChangeSpec := { name := "fnExactDirectoryCheck", fn := fun _ => fun
  | [d1, d2, d3] => { results := [.lit (.bool false)], args := [d1, d2, d3] }
  | _ => none }
def FnExactDirectoryCheckWrongFalsely : Prop := fnExactDirectoryCheckRow.holds Try.pinned (OpenSpec.ofChange fnExactDirectoryCheckWrong)

/-- 'laws.FnExactDirectoryPick': WHATEVER THE INPUT: true; the input reads as it did. -/
def fnExactDirectoryPickSpec : ChangeSpec := { name := "fnExactDirectoryPick", fn := fun _ => fun
  | [d1, d2] => { results := [.lit (.bool true)], args := [d1, d2] }
  | _ => none }
def fnExactDirectoryPickRow : OpenClaim := { program := "ytfjggpdinfidcab", sum := "b98d44f1de66f7aa32482ce4455fda223b6a5f5f9460a5b4d61ef7037e35f64e", func := "loop.example/mixrelay/laws.FnExactDirectoryPick", spec := "fnExactDirectoryPick", unfollowed := true, recurses := true, apart := false }
def FnExactDirectoryPickSaid : Prop := fnExactDirectoryPickRow.holds Try.pinned (OpenSpec.ofChange fnExactDirectoryPickSpec)

/-- ITS FALSE NEIGHBOUR: 'it returns false'. Refute it at one input. -/
def fnExactDirectoryPickWrong : ChangeSpec := { name := "fnExactDirectoryPick", fn := fun _ => fun
  | [d1, d2] => { results := [.lit (.bool false)], args := [d1, d2] }
  | _ => none }
def FnExactDirectoryPickWrongFalsely : Prop := fnExactDirectoryPickRow.holds Try.pinned (OpenSpec.ofChange fnExactDirectoryPickWrong)

/-- 'laws.FnExactDirectoryPath': WHATEVER THE INPUT: true; the input reads as it did. -/
def fnExactDirectoryPathSpec : ChangeSpec := { name := "fnExactDirectoryPath", fn := fun _ => fun
  | [d1, d2, d3] => { results := [.lit (.bool true)], args := [d1, d2, d3] }
  | _ => none }
def fnExactDirectoryPathRow : OpenClaim := { program := "ytfjggpdinfidcab", sum := "b98d44f1de66f7aa32482ce4455fda223b6a5f5f9460a5b4d61ef7037e35f64e", func := "loop.example/mixrelay/laws.FnExactDirectoryPath", spec := "fnExactDirectoryPath", unfollowed := true, recurses := true, apart := false }
def FnExactDirectoryPathSaid : Prop := fnExactDirectoryPathRow.holds Try.pinned (OpenSpec.ofChange fnExactDirectoryPathSpec)

/-- ITS FALSE NEIGHBOUR: 'it returns false'. Refute it at one input. -/
def fnExactDirectoryPathWrong : ChangeSpec := { name := "fnExactDirectoryPath", fn := fun _ => fun
  | [d1, d2, d3] => { results := [.lit (.bool false)], args := [d1, d2, d3] }
  | _ => none }
def FnExactDirectoryPathWrongFalsely : Prop := fnExactDirectoryPathRow.holds Try.pinned (OpenSpec.ofChange fnExactDirectoryPathWrong)

/- THE SECOND FORM. 'bulk': how many values and letters a reading holds, each counted each time it is reached (what is shared counts as often as it is met; a slice's spare places count too). A statement '..UptoSaid' is the law's where the arguments, and the package variables that the reading takes, are together of bulk at most 1048576: NARROWER than '..Said'. Prove '..Said' where nothing that the law and all that it calls make is longer than what came in: it says more and counts as full. Else prove '..UptoSaid'. A law counts once. -/
mutual
def uptoBulk {H : Type} : DataW H → Nat
  | .lit (.string bytes) => bytes.length + 1
  | .lit _ => 1
  | .nil => 1
  | .ptr d => uptoBulk d + 1
  | .slice elems spare => uptoBulkAll elems + uptoBulkAll spare + 1
  | .agg parts => uptoBulkAll parts + 1
  | .iface _ d => uptoBulk d + 1
  | .map entries => uptoBulkEntries entries + 1
  | .held _ => 1
def uptoBulkAll {H : Type} : List (DataW H) → Nat
  | [] => 0
  | d :: r => uptoBulk d + uptoBulkAll r
def uptoBulkEntries {H : Type} : List (Lit × DataW H) → Nat
  | [] => 0
  | x :: r => uptoBulkEntry x + uptoBulkEntries r
def uptoBulkEntry {H : Type} : Lit × DataW H → Nat
  | (.string bytes, d) => bytes.length + uptoBulk d + 1
  | (_, d) => uptoBulk d + 1
 end
def uptoSmall : (H : Type) → List (DataW H) → Bool := fun _ ds => decide (uptoBulkAll ds ≤ 1048576)
def OpenSpec.upto (s : _root_.Go.ChangeSpec) : _root_.Go.OpenSpec := { _root_.Go.OpenSpec.ofChange s with cond := some uptoSmall }

/-- 'laws.FnPathShort', WHERE WHAT IT READS IS OF BULK AT MOST 1048576: true; the input reads as it did. -/
def fnPathShortUptoRow : OpenClaim := { program := "ytfjggpdinfidcab", sum := "b98d44f1de66f7aa32482ce4455fda223b6a5f5f9460a5b4d61ef7037e35f64e", func := "loop.example/mixrelay/laws.FnPathShort", spec := "fnPathShort", unfollowed := true, recurses := true, apart := false, narrowed := true }
def FnPathShortUptoSaid : Prop := fnPathShortUptoRow.holds Try.pinned (OpenSpec.upto fnPathShortSpec)

/-- 'laws.FnPathNone', WHERE WHAT IT READS IS OF BULK AT MOST 1048576: true; the input reads as it did. -/
def fnPathNoneUptoRow : OpenClaim := { program := "ytfjggpdinfidcab", sum := "b98d44f1de66f7aa32482ce4455fda223b6a5f5f9460a5b4d61ef7037e35f64e", func := "loop.example/mixrelay/laws.FnPathNone", spec := "fnPathNone", unfollowed := true, recurses := true, apart := false, narrowed := true }
def FnPathNoneUptoSaid : Prop := fnPathNoneUptoRow.holds Try.pinned (OpenSpec.upto fnPathNoneSpec)

/-- 'laws.FnPickSame', WHERE WHAT IT READS IS OF BULK AT MOST 1048576: true; the input reads as it did. -/
def fnPickSameUptoRow : OpenClaim := { program := "ytfjggpdinfidcab", sum := "b98d44f1de66f7aa32482ce4455fda223b6a5f5f9460a5b4d61ef7037e35f64e", func := "loop.example/mixrelay/laws.FnPickSame", spec := "fnPickSame", unfollowed := true, recurses := true, apart := false, narrowed := true }
def FnPickSameUptoSaid : Prop := fnPickSameUptoRow.holds Try.pinned (OpenSpec.upto fnPickSameSpec)

/-- 'laws.FnExactDirectoryValid', WHERE WHAT IT READS IS OF BULK AT MOST 1048576: true; the input reads as it did. -/
def fnExactDirectoryValidUptoRow : OpenClaim := { program := "ytfjggpdinfidcab", sum := "b98d44f1de66f7aa32482ce4455fda223b6a5f5f9460a5b4d61ef7037e35f64e", func := "loop.example/mixrelay/laws.FnExactDirectoryValid", spec := "fnExactDirectoryValid", unfollowed := true, recurses := true, apart := false, narrowed := true }
def FnExactDirectoryValidUptoSaid : Prop := fnExactDirectoryValidUptoRow.holds Try.pinned (OpenSpec.upto fnExactDirectoryValidSpec)

/-- 'laws.FnExactDirectoryDigest', WHERE WHAT IT READS IS OF BULK AT MOST 1048576: true; the input reads as it did. -/
def fnExactDirectoryDigestUptoRow : OpenClaim := { program := "ytfjggpdinfidcab", sum := "b98d44f1de66f7aa32482ce4455fda223b6a5f5f9460a5b4d61ef7037e35f64e", func := "loop.example/mixrelay/laws.FnExactDirectoryDigest", spec := "fnExactDirectoryDigest", unfollowed := true, recurses := true, apart := false, narrowed := true }
def FnExactDirectoryDigestUptoSaid : Prop := fnExactDirectoryDigestUptoRow.holds Try.pinned (OpenSpec.upto fnExactDirectoryDigestSpec)

/-- 'laws.FnExactDirectorySign', WHERE WHAT IT READS IS OF BULK AT MOST 1048576: true; the input reads as it did. -/
def fnExactDirectorySignUptoRow : OpenClaim := { program := "ytfjggpdinfidcab", sum := "b98d44f1de66f7aa32482ce4455fda223b6a5f5f9460a5b4d61ef7037e35f64e", func := "loop.example/mixrelay/laws.FnExactDirectorySign", spec := "fnExactDirectorySign", unfollowed := true, recurses := true, apart := false, narrowed := true }
def FnExactDirectorySignUptoSaid : Prop := fnExactDirectorySignUptoRow.holds Try.pinned (OpenSpec.upto fnExactDirectorySignSpec)

/-- 'laws.FnExactDirectoryCheck', WHERE WHAT IT READS IS OF BULK AT MOST 1048576: true; the input reads as it did. -/
def fnExactDirectoryCheckUptoRow : OpenClaim := { program := "ytfjggpdinfidcab", sum := "b98d44f1de66f7aa32482ce4455fda223b6a5f5f9460a5b4d61ef7037e35f64e", func := "loop.example/mixrelay/laws.FnExactDirectoryCheck", spec := "fnExactDirectoryCheck", unfollowed := true, recurses := true, apart := false, narrowed := true }
def FnExactDirectoryCheckUptoSaid : Prop := fnExactDirectoryCheckUptoRow.holds Try.pinned (OpenSpec.upto fnExactDirectoryCheckSpec)

/-- 'laws.FnExactDirectoryPick', WHERE WHAT IT READS IS OF BULK AT MOST 1048576: true; the input reads as it did. -/
def fnExactDirectoryPickUptoRow : OpenClaim := { program := "ytfjggpdinfidcab", sum := "b98d44f1de66f7aa32482ce4455fda223b6a5f5f9460a5b4d61ef7037e35f64e", func := "loop.example/mixrelay/laws.FnExactDirectoryPick", spec := "fnExactDirectoryPick", unfollowed := true, recurses := true, apart := false, narrowed := true }
def FnExactDirectoryPickUptoSaid : Prop := fnExactDirectoryPickUptoRow.holds Try.pinned (OpenSpec.upto fnExactDirectoryPickSpec)

/-- 'laws.FnExactDirectoryPath', WHERE WHAT IT READS IS OF BULK AT MOST 1048576: true; the input reads as it did. -/
def fnExactDirectoryPathUptoRow : OpenClaim := { program := "ytfjggpdinfidcab", sum := "b98d44f1de66f7aa32482ce4455fda223b6a5f5f9460a5b4d61ef7037e35f64e", func := "loop.example/mixrelay/laws.FnExactDirectoryPath", spec := "fnExactDirectoryPath", unfollowed := true, recurses := true, apart := false, narrowed := true }
def FnExactDirectoryPathUptoSaid : Prop := fnExactDirectoryPathUptoRow.holds Try.pinned (OpenSpec.upto fnExactDirectoryPathSpec)

end Rows
end Go.Proofs.Ytfjggpdinfidcab
