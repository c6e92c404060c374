/-
  No cell of these rows narrows 'for every input' (looked for: loops, veiled, ifaces, maps, wideKeys, modest, calm, conditions, laid).
  DERIVED. THE GIVEN ROWS OF THIS SEAT. 6 by the template 'for every input the law returns true; each argument reads behind the call as it read before'; 0 by the template 'total and deterministic' (their statements: YtnjcpbkpcmemeacTotals.lean).
  GIVEN WITH THE SEED: the statements are not yours to turn. If you find one false, say at which input.
  Laid BY PROGRAM, IN A SANDBOX (cutbox-rows.mjs): the forced cells as the released guide's own fill.sh prints them over the translation 0cd4564ce09a59fb… (all of the seat's roots in one cut). By AI agents, Wed Nov 11 2026. No macro, syntax, notation, axiom, sorry.
-/
import Derived.Test.YtnjcpbkpcmemeacChecked
import GoSem.Claim
import GoSem.ClaimJoined
import GoSem.ClaimMapViews
import Derived.JoinedTies
import Derived.KernelRfl
namespace Go.Proofs.Ytnjcpbkpcmemeac
/- THE CELL 'sum', in the pinned program and in every row, IS THE sha256 OF THE DUMP (.gsa) THAT YtnjcpbkpcmemeacProg.lean LOADS. Nothing in Lean hashes anything: it is a label: what it is worth is what the hold of that sum in a sandbox is worth. -/
noncomputable def Try.pinned : Pinned := { name := "ytnjcpbkpcmemeac", sum := "0cd4564ce09a59fbe380f105db293636cd1e36a9d03a5d8835a7c6e5b1a0da47", checked := Try.checked }
namespace Rows
def none {H : Type} : Left H := { results := [], args := [] }

/-- 'laws.FnFlushTwice': WHATEVER THE INPUT: true; the input reads as it did. -/
def fnFlushTwiceSpec : ChangeSpec := { name := "fnFlushTwice", fn := fun _ => fun
  | [d] => { results := [.lit (.bool true)], args := [d] }
  | _ => none }
def fnFlushTwiceRow : OpenClaim := { program := "ytnjcpbkpcmemeac", sum := "0cd4564ce09a59fbe380f105db293636cd1e36a9d03a5d8835a7c6e5b1a0da47", func := "loop.example/mixrelay/laws.FnFlushTwice", spec := "fnFlushTwice", unfollowed := true, recurses := true, apart := false }
def FnFlushTwiceSaid : Prop := fnFlushTwiceRow.holds Try.pinned (OpenSpec.ofChange fnFlushTwiceSpec)

/-- ITS FALSE NEIGHBOUR: 'it returns false'. Refute it at one input. -/
def fnFlushTwiceWrong : ChangeSpec := { name := "fnFlushTwice", fn := fun _ => fun
  | [d] => { results := [.lit (.bool false)], args := [d] }
  | _ => none }
def FnFlushTwiceWrongFalsely : Prop := fnFlushTwiceRow.holds Try.pinned (OpenSpec.ofChange fnFlushTwiceWrong)

/-- 'laws.FnFlushSame': WHATEVER THE INPUT: true; the input reads as it did. -/
def fnFlushSameSpec : ChangeSpec := { name := "fnFlushSame", fn := fun _ => fun
  | [d] => { results := [.lit (.bool true)], args := [d] }
  | _ => none }
def fnFlushSameRow : OpenClaim := { program := "ytnjcpbkpcmemeac", sum := "0cd4564ce09a59fbe380f105db293636cd1e36a9d03a5d8835a7c6e5b1a0da47", func := "loop.example/mixrelay/laws.FnFlushSame", spec := "fnFlushSame", unfollowed := true, recurses := true, apart := false }
def FnFlushSameSaid : Prop := fnFlushSameRow.holds Try.pinned (OpenSpec.ofChange fnFlushSameSpec)

/-- ITS FALSE NEIGHBOUR: 'it returns false'. Refute it at one input. -/
def fnFlushSameWrong : ChangeSpec := { name := "fnFlushSame", fn := fun _ => fun
  | [d] => { results := [.lit (.bool false)], args := [d] }
  | _ => none }
def FnFlushSameWrongFalsely : Prop := fnFlushSameRow.holds Try.pinned (OpenSpec.ofChange fnFlushSameWrong)

/-- 'laws.FnExactMixValid': WHATEVER THE INPUT: true; the input reads as it did. -/
def fnExactMixValidSpec : ChangeSpec := { name := "fnExactMixValid", fn := fun _ => fun
  | [d] => { results := [.lit (.bool true)], args := [d] }
  | _ => none }
def fnExactMixValidRow : OpenClaim := { program := "ytnjcpbkpcmemeac", sum := "0cd4564ce09a59fbe380f105db293636cd1e36a9d03a5d8835a7c6e5b1a0da47", func := "loop.example/mixrelay/laws.FnExactMixValid", spec := "fnExactMixValid", apart := false }
def FnExactMixValidSaid : Prop := fnExactMixValidRow.holds Try.pinned (OpenSpec.ofChange fnExactMixValidSpec)

/-- ITS FALSE NEIGHBOUR: 'it returns false'. Refute it at one input. -/
def fnExactMixValidWrong : ChangeSpec := { name := "fnExactMixValid", fn := fun _ => fun
  | [d] => { results := [.lit (.bool false)], args := [d] }
  | _ => none }
def FnExactMixValidWrongFalsely : Prop := fnExactMixValidRow.holds Try.pinned (OpenSpec.ofChange fnExactMixValidWrong)

/-- 'laws.FnExactMixTake': WHATEVER THE INPUT: true; the input reads as it did. -/
def fnExactMixTakeSpec : ChangeSpec := { name := "fnExactMixTake", fn := fun _ => fun
  | [d1, d2] => { results := [.lit (.bool true)], args := [d1, d2] }
  | _ => none }
def fnExactMixTakeRow : OpenClaim := { program := "ytnjcpbkpcmemeac", sum := "0cd4564ce09a59fbe380f105db293636cd1e36a9d03a5d8835a7c6e5b1a0da47", func := "loop.example/mixrelay/laws.FnExactMixTake", spec := "fnExactMixTake", unfollowed := true, recurses := true, apart := false }
def FnExactMixTakeSaid : Prop := fnExactMixTakeRow.holds Try.pinned (OpenSpec.ofChange fnExactMixTakeSpec)

/-- ITS FALSE NEIGHBOUR: 'it returns false'. Refute it at one input. -/
def fnExactMixTakeWrong : ChangeSpec := { name := "fnExactMixTake", fn := fun _ => fun
  | [d1, d2] => { results := [.lit (.bool false)], args := [d1, d2] }
  | _ => none }
def FnExactMixTakeWrongFalsely : Prop := fnExactMixTakeRow.holds Try.pinned (OpenSpec.ofChange fnExactMixTakeWrong)

/-- 'laws.FnExactMixFlush': WHATEVER THE INPUT: true; the input reads as it did. -/
def fnExactMixFlushSpec : ChangeSpec := { name := "fnExactMixFlush", fn := fun _ => fun
  | [d1, d2] => { results := [.lit (.bool true)], args := [d1, d2] }
  | _ => none }
def fnExactMixFlushRow : OpenClaim := { program := "ytnjcpbkpcmemeac", sum := "0cd4564ce09a59fbe380f105db293636cd1e36a9d03a5d8835a7c6e5b1a0da47", func := "loop.example/mixrelay/laws.FnExactMixFlush", spec := "fnExactMixFlush", unfollowed := true, recurses := true, apart := false }
def FnExactMixFlushSaid : Prop := fnExactMixFlushRow.holds Try.pinned (OpenSpec.ofChange fnExactMixFlushSpec)

/-- ITS FALSE NEIGHBOUR: 'it returns false'. Refute it at one input. -/
def fnExactMixFlushWrong : ChangeSpec := { name := "fnExactMixFlush", fn := fun _ => fun
  | [d1, d2] => { results := [.lit (.bool false)], args := [d1, d2] }
  | _ => none }
def FnExactMixFlushWrongFalsely : Prop := fnExactMixFlushRow.holds Try.pinned (OpenSpec.ofChange fnExactMixFlushWrong)

/-- 'laws.FnExactMixEpoch': WHATEVER THE INPUT: true; the input reads as it did. -/
def fnExactMixEpochSpec : ChangeSpec := { name := "fnExactMixEpoch", fn := fun _ => fun
  | [d1, d2] => { results := [.lit (.bool true)], args := [d1, d2] }
  | _ => none }
def fnExactMixEpochRow : OpenClaim := { program := "ytnjcpbkpcmemeac", sum := "0cd4564ce09a59fbe380f105db293636cd1e36a9d03a5d8835a7c6e5b1a0da47", func := "loop.example/mixrelay/laws.FnExactMixEpoch", spec := "fnExactMixEpoch", apart := false }
def FnExactMixEpochSaid : Prop := fnExactMixEpochRow.holds Try.pinned (OpenSpec.ofChange fnExactMixEpochSpec)

/-- ITS FALSE NEIGHBOUR: 'it returns false'. Refute it at one input. -/
def fnExactMixEpochWrong : ChangeSpec := { name := "fnExactMixEpoch", fn := fun _ => fun
  | [d1, d2] => { results := [.lit (.bool false)], args := [d1, d2] }
  | _ => none }
def FnExactMixEpochWrongFalsely : Prop := fnExactMixEpochRow.holds Try.pinned (OpenSpec.ofChange fnExactMixEpochWrong)

/- THE SECOND FORM. 'bulk': how many values and letters a reading holds, each counted each time it is reached (what is shared counts as often as it is met; a slice's spare places count too). A statement '..UptoSaid' is the law's where the arguments, and the package variables that the reading takes, are together of bulk at most 1048576: NARROWER than '..Said'. Prove '..Said' where nothing that the law and all that it calls make is longer than what came in: it says more and counts as full. Else prove '..UptoSaid'. A law counts once. -/
mutual
def uptoBulk {H : Type} : DataW H → Nat
  | .lit (.string bytes) => bytes.length + 1
  | .lit _ => 1
  | .nil => 1
  | .ptr d => uptoBulk d + 1
  | .slice elems spare => uptoBulkAll elems + uptoBulkAll spare + 1
  | .agg parts => uptoBulkAll parts + 1
  | .iface _ d => uptoBulk d + 1
  | .map entries => uptoBulkEntries entries + 1
  | .held _ => 1
def uptoBulkAll {H : Type} : List (DataW H) → Nat
  | [] => 0
  | d :: r => uptoBulk d + uptoBulkAll r
def uptoBulkEntries {H : Type} : List (Lit × DataW H) → Nat
  | [] => 0
  | x :: r => uptoBulkEntry x + uptoBulkEntries r
def uptoBulkEntry {H : Type} : Lit × DataW H → Nat
  | (.string bytes, d) => bytes.length + uptoBulk d + 1
  | (_, d) => uptoBulk d + 1
 end
def uptoSmall : (H : Type) → List (DataW H) → Bool := fun _ ds => decide (uptoBulkAll ds ≤ 1048576)
def OpenSpec.upto (s : _root_.Go.ChangeSpec) : _root_.Go.OpenSpec := { _root_.Go.OpenSpec.ofChange s with cond := some uptoSmall }

/-- 'laws.FnFlushTwice', WHERE WHAT IT READS IS OF BULK AT MOST 1048576: true; the input reads as it did. -/
def fnFlushTwiceUptoRow : OpenClaim := { program := "ytnjcpbkpcmemeac", sum := "0cd4564ce09a59fbe380f105db293636cd1e36a9d03a5d8835a7c6e5b1a0da47", func := "loop.example/mixrelay/laws.FnFlushTwice", spec := "fnFlushTwice", unfollowed := true, recurses := true, apart := false, narrowed := true }
def FnFlushTwiceUptoSaid : Prop := fnFlushTwiceUptoRow.holds Try.pinned (OpenSpec.upto fnFlushTwiceSpec)

/-- 'laws.FnFlushSame', WHERE WHAT IT READS IS OF BULK AT MOST 1048576: true; the input reads as it did. -/
def fnFlushSameUptoRow : OpenClaim := { program := "ytnjcpbkpcmemeac", sum := "0cd4564ce09a59fbe380f105db293636cd1e36a9d03a5d8835a7c6e5b1a0da47", func := "loop.example/mixrelay/laws.FnFlushSame", spec := "fnFlushSame", unfollowed := true, recurses := true, apart := false, narrowed := true }
def FnFlushSameUptoSaid : Prop := fnFlushSameUptoRow.holds Try.pinned (OpenSpec.upto fnFlushSameSpec)

/-- 'laws.FnExactMixValid', WHERE WHAT IT READS IS OF BULK AT MOST 1048576: true; the input reads as it did. -/
def fnExactMixValidUptoRow : OpenClaim := { program := "ytnjcpbkpcmemeac", sum := "0cd4564ce09a59fbe380f105db293636cd1e36a9d03a5d8835a7c6e5b1a0da47", func := "loop.example/mixrelay/laws.FnExactMixValid", spec := "fnExactMixValid", apart := false, narrowed := true }
def FnExactMixValidUptoSaid : Prop := fnExactMixValidUptoRow.holds Try.pinned (OpenSpec.upto fnExactMixValidSpec)

/-- 'laws.FnExactMixTake', WHERE WHAT IT READS IS OF BULK AT MOST 1048576: true; the input reads as it did. -/
def fnExactMixTakeUptoRow : OpenClaim := { program := "ytnjcpbkpcmemeac", sum := "0cd4564ce09a59fbe380f105db293636cd1e36a9d03a5d8835a7c6e5b1a0da47", func := "loop.example/mixrelay/laws.FnExactMixTake", spec := "fnExactMixTake", unfollowed := true, recurses := true, apart := false, narrowed := true }
def FnExactMixTakeUptoSaid : Prop := fnExactMixTakeUptoRow.holds Try.pinned (OpenSpec.upto fnExactMixTakeSpec)

/-- 'laws.FnExactMixFlush', WHERE WHAT IT READS IS OF BULK AT MOST 1048576: true; the input reads as it did. -/
def fnExactMixFlushUptoRow : OpenClaim := { program := "ytnjcpbkpcmemeac", sum := "0cd4564ce09a59fbe380f105db293636cd1e36a9d03a5d8835a7c6e5b1a0da47", func := "loop.example/mixrelay/laws.FnExactMixFlush", spec := "fnExactMixFlush", unfollowed := true, recurses := true, apart := false, narrowed := true }
def FnExactMixFlushUptoSaid : Prop := fnExactMixFlushUptoRow.holds Try.pinned (OpenSpec.upto fnExactMixFlushSpec)

/-- 'laws.FnExactMixEpoch', WHERE WHAT IT READS IS OF BULK AT MOST 1048576: true; the input reads as it did. -/
def fnExactMixEpochUptoRow : OpenClaim := { program := "ytnjcpbkpcmemeac", sum := "0cd4564ce09a59fbe380f105db293636cd1e36a9d03a5d8835a7c6e5b1a0da47", func := "loop.example/mixrelay/laws.FnExactMixEpoch", spec := "fnExactMixEpoch", apart := false, narrowed := true }
def FnExactMixEpochUptoSaid : Prop := fnExactMixEpochUptoRow.holds Try.pinned (OpenSpec.upto fnExactMixEpochSpec)

end Rows
end Go.Proofs.Ytnjcpbkpcmemeac
