/-
  No cell of these rows narrows 'for every input' (looked for: loops, veiled, ifaces, maps, wideKeys, modest, calm, conditions, laid).
  DERIVED. THE GIVEN ROWS OF THIS SEAT. 8 by the template 'for every input the law returns true; each argument reads behind the call as it read before'; 0 by the template 'total and deterministic' (their statements: YtcbhjnjallnidaaTotals.lean).
  GIVEN WITH THE SEED: the statements are not yours to turn. If you find one false, say at which input.
  Laid BY PROGRAM, IN A SANDBOX (cutbox-rows.mjs): the forced cells as the released guide's own fill.sh prints them over the translation f262cae01325fef1… (all of the seat's roots in one cut). By AI agents, Wed Nov 11 2026. No macro, syntax, notation, axiom, sorry.
-/
import Derived.Test.YtcbhjnjallnidaaChecked
import GoSem.Claim
import GoSem.ClaimJoined
import GoSem.ClaimMapViews
import Derived.JoinedTies
import Derived.KernelRfl
namespace Go.Proofs.Ytcbhjnjallnidaa
/- THE CELL 'sum', in the pinned program and in every row, IS THE sha256 OF THE DUMP (.gsa) THAT YtcbhjnjallnidaaProg.lean LOADS. Nothing in Lean hashes anything: it is a label: what it is worth is what the hold of that sum in a sandbox is worth. -/
noncomputable def Try.pinned : Pinned := { name := "ytcbhjnjallnidaa", sum := "f262cae01325fef1eae593b4cf935be2f10835a2e06931c4e8dc55e1be1fe176", checked := Try.checked }
namespace Rows
def none {H : Type} : Left H := { results := [], args := [] }

/-- 'laws.FnView': WHATEVER THE INPUT: true; the input reads as it did. -/
def fnViewSpec : ChangeSpec := { name := "fnView", fn := fun _ => fun
  | [d] => { results := [.lit (.bool true)], args := [d] }
  | _ => none }
def fnViewRow : OpenClaim := { program := "ytcbhjnjallnidaa", sum := "f262cae01325fef1eae593b4cf935be2f10835a2e06931c4e8dc55e1be1fe176", func := "loop.example/mixrelay/laws.FnView", spec := "fnView", apart := false }
def FnViewSaid : Prop := fnViewRow.holds Try.pinned (OpenSpec.ofChange fnViewSpec)

/-- ITS FALSE NEIGHBOUR: 'it returns false'. Refute it at one input. -/
def fnViewWrong : ChangeSpec := { name := "fnView", fn := fun _ => fun
  | [d] => { results := [.lit (.bool false)], args := [d] }
  | _ => none }
def FnViewWrongFalsely : Prop := fnViewRow.holds Try.pinned (OpenSpec.ofChange fnViewWrong)

/-- 'laws.FnViewKeeps': WHATEVER THE INPUT: true; the input reads as it did. -/
def fnViewKeepsSpec : ChangeSpec := { name := "fnViewKeeps", fn := fun _ => fun
  | [d] => { results := [.lit (.bool true)], args := [d] }
  | _ => none }
def fnViewKeepsRow : OpenClaim := { program := "ytcbhjnjallnidaa", sum := "f262cae01325fef1eae593b4cf935be2f10835a2e06931c4e8dc55e1be1fe176", func := "loop.example/mixrelay/laws.FnViewKeeps", spec := "fnViewKeeps", apart := false }
def FnViewKeepsSaid : Prop := fnViewKeepsRow.holds Try.pinned (OpenSpec.ofChange fnViewKeepsSpec)

/-- ITS FALSE NEIGHBOUR: 'it returns false'. Refute it at one input. -/
def fnViewKeepsWrong : ChangeSpec := { name := "fnViewKeeps", fn := fun _ => fun
  | [d] => { results := [.lit (.bool false)], args := [d] }
  | _ => none }
def FnViewKeepsWrongFalsely : Prop := fnViewKeepsRow.holds Try.pinned (OpenSpec.ofChange fnViewKeepsWrong)

/-- 'laws.FnViewTwice': WHATEVER THE INPUT: true; the input reads as it did. -/
def fnViewTwiceSpec : ChangeSpec := { name := "fnViewTwice", fn := fun _ => fun
  | [d] => { results := [.lit (.bool true)], args := [d] }
  | _ => none }
def fnViewTwiceRow : OpenClaim := { program := "ytcbhjnjallnidaa", sum := "f262cae01325fef1eae593b4cf935be2f10835a2e06931c4e8dc55e1be1fe176", func := "loop.example/mixrelay/laws.FnViewTwice", spec := "fnViewTwice", apart := false }
def FnViewTwiceSaid : Prop := fnViewTwiceRow.holds Try.pinned (OpenSpec.ofChange fnViewTwiceSpec)

/-- ITS FALSE NEIGHBOUR: 'it returns false'. Refute it at one input. -/
def fnViewTwiceWrong : ChangeSpec := { name := "fnViewTwice", fn := fun _ => fun
  | [d] => { results := [.lit (.bool false)], args := [d] }
  | _ => none }
def FnViewTwiceWrongFalsely : Prop := fnViewTwiceRow.holds Try.pinned (OpenSpec.ofChange fnViewTwiceWrong)

/-- 'laws.FnViewSame': WHATEVER THE INPUT: true; the input reads as it did. -/
def fnViewSameSpec : ChangeSpec := { name := "fnViewSame", fn := fun _ => fun
  | [d] => { results := [.lit (.bool true)], args := [d] }
  | _ => none }
def fnViewSameRow : OpenClaim := { program := "ytcbhjnjallnidaa", sum := "f262cae01325fef1eae593b4cf935be2f10835a2e06931c4e8dc55e1be1fe176", func := "loop.example/mixrelay/laws.FnViewSame", spec := "fnViewSame", apart := false }
def FnViewSameSaid : Prop := fnViewSameRow.holds Try.pinned (OpenSpec.ofChange fnViewSameSpec)

/-- ITS FALSE NEIGHBOUR: 'it returns false'. Refute it at one input. -/
def fnViewSameWrong : ChangeSpec := { name := "fnViewSame", fn := fun _ => fun
  | [d] => { results := [.lit (.bool false)], args := [d] }
  | _ => none }
def FnViewSameWrongFalsely : Prop := fnViewSameRow.holds Try.pinned (OpenSpec.ofChange fnViewSameWrong)

/-- 'laws.FnViewRename': WHATEVER THE INPUT: true; the input reads as it did. -/
def fnViewRenameSpec : ChangeSpec := { name := "fnViewRename", fn := fun _ => fun
  | [d1, d2] => { results := [.lit (.bool true)], args := [d1, d2] }
  | _ => none }
def fnViewRenameRow : OpenClaim := { program := "ytcbhjnjallnidaa", sum := "f262cae01325fef1eae593b4cf935be2f10835a2e06931c4e8dc55e1be1fe176", func := "loop.example/mixrelay/laws.FnViewRename", spec := "fnViewRename", apart := false }
def FnViewRenameSaid : Prop := fnViewRenameRow.holds Try.pinned (OpenSpec.ofChange fnViewRenameSpec)

/-- ITS FALSE NEIGHBOUR: 'it returns false'. Refute it at one input. -/
def fnViewRenameWrong : ChangeSpec := { name := "fnViewRename", fn := fun _ => fun
  | [d1, d2] => { results := [.lit (.bool false)], args := [d1, d2] }
  | _ => none }
def FnViewRenameWrongFalsely : Prop := fnViewRenameRow.holds Try.pinned (OpenSpec.ofChange fnViewRenameWrong)

/-- 'laws.FnViewPart': WHATEVER THE INPUT: true; the input reads as it did. -/
def fnViewPartSpec : ChangeSpec := { name := "fnViewPart", fn := fun _ => fun
  | [d1, d2] => { results := [.lit (.bool true)], args := [d1, d2] }
  | _ => none }
def fnViewPartRow : OpenClaim := { program := "ytcbhjnjallnidaa", sum := "f262cae01325fef1eae593b4cf935be2f10835a2e06931c4e8dc55e1be1fe176", func := "loop.example/mixrelay/laws.FnViewPart", spec := "fnViewPart", apart := false }
def FnViewPartSaid : Prop := fnViewPartRow.holds Try.pinned (OpenSpec.ofChange fnViewPartSpec)

/-- ITS FALSE NEIGHBOUR: 'it returns false'. Refute it at one input. -/
def fnViewPartWrong : ChangeSpec := { name := "fnViewPart", fn := fun _ => fun
  | [d1, d2] => { results := [.lit (.bool false)], args := [d1, d2] }
  | _ => none }
def FnViewPartWrongFalsely : Prop := fnViewPartRow.holds Try.pinned (OpenSpec.ofChange fnViewPartWrong)

/-- 'laws.FnExactViewOf': WHATEVER THE INPUT: true; the input reads as it did. -/
def fnExactViewOfSpec : ChangeSpec := { name := "fnExactViewOf", fn := fun _ => fun
  | [d] => { results := [.lit (.bool true)], args := [d] }
  | _ => none }
def fnExactViewOfRow : OpenClaim := { program := "ytcbhjnjallnidaa", sum := "f262cae01325fef1eae593b4cf935be2f10835a2e06931c4e8dc55e1be1fe176", func := "loop.example/mixrelay/laws.FnExactViewOf", spec := "fnExactViewOf", apart := false }
def FnExactViewOfSaid : Prop := fnExactViewOfRow.holds Try.pinned (OpenSpec.ofChange fnExactViewOfSpec)

/-- ITS FALSE NEIGHBOUR: 'it returns false'. Refute it at one input. -/
def fnExactViewOfWrong : ChangeSpec := { name := "fnExactViewOf", fn := fun _ => fun
  | [d] => { results := [.lit (.bool false)], args := [d] }
  | _ => none }
def FnExactViewOfWrongFalsely : Prop := fnExactViewOfRow.holds Try.pinned (OpenSpec.ofChange fnExactViewOfWrong)

/-- 'laws.FnExactViewSame': WHATEVER THE INPUT: true; the input reads as it did. -/
def fnExactViewSameSpec : ChangeSpec := { name := "fnExactViewSame", fn := fun _ => fun
  | [d1, d2] => { results := [.lit (.bool true)], args := [d1, d2] }
  | _ => none }
def fnExactViewSameRow : OpenClaim := { program := "ytcbhjnjallnidaa", sum := "f262cae01325fef1eae593b4cf935be2f10835a2e06931c4e8dc55e1be1fe176", func := "loop.example/mixrelay/laws.FnExactViewSame", spec := "fnExactViewSame", apart := false }
def FnExactViewSameSaid : Prop := fnExactViewSameRow.holds Try.pinned (OpenSpec.ofChange fnExactViewSameSpec)

/-- ITS FALSE NEIGHBOUR: 'it returns false'. Refute it at one input. -/
def fnExactViewSameWrong : ChangeSpec := { name := "fnExactViewSame", fn := fun _ => fun
  | [d1, d2] => { results := [.lit (.bool false)], args := [d1, d2] }
  | _ => none }
def FnExactViewSameWrongFalsely : Prop := fnExactViewSameRow.holds Try.pinned (OpenSpec.ofChange fnExactViewSameWrong)

/- THE SECOND FORM. 'bulk': how many values and letters a reading holds, each counted each time it is reached (what is shared counts as often as it is met; a slice's spare places count too). A statement '..UptoSaid' is the law's where the arguments, and the package variables that the reading takes, are together of bulk at most 1048576: NARROWER than '..Said'. Prove '..Said' where nothing that the law and all that it calls make is longer than what came in: it says more and counts as full. Else prove '..UptoSaid'. A law counts once. -/
mutual
def uptoBulk {H : Type} : DataW H → Nat
  | .lit (.string bytes) => bytes.length + 1
  | .lit _ => 1
  | .nil => 1
  | .ptr d => uptoBulk d + 1
  | .slice elems spare => uptoBulkAll elems + uptoBulkAll spare + 1
  | .agg parts => uptoBulkAll parts + 1
  | .iface _ d => uptoBulk d + 1
  | .map entries => uptoBulkEntries entries + 1
  | .held _ => 1
def uptoBulkAll {H : Type} : List (DataW H) → Nat
  | [] => 0
  | d :: r => uptoBulk d + uptoBulkAll r
def uptoBulkEntries {H : Type} : List (Lit × DataW H) → Nat
  | [] => 0
  | x :: r => uptoBulkEntry x + uptoBulkEntries r
def uptoBulkEntry {H : Type} : Lit × DataW H → Nat
  | (.string bytes, d) => bytes.length + uptoBulk d + 1
  | (_, d) => uptoBulk d + 1
 end
def uptoSmall : (H : Type) → List (DataW H) → Bool := fun _ ds => decide (uptoBulkAll ds ≤ 1048576)
def OpenSpec.upto (s : _root_.Go.ChangeSpec) : _root_.Go.OpenSpec := { _root_.Go.OpenSpec.ofChange s with cond := some uptoSmall }

/-- 'laws.FnView', WHERE WHAT IT READS IS OF BULK AT MOST 1048576: true; the input reads as it did. -/
def fnViewUptoRow : OpenClaim := { program := "ytcbhjnjallnidaa", sum := "f262cae01325fef1eae593b4cf935be2f10835a2e06931c4e8dc55e1be1fe176", func := "loop.example/mixrelay/laws.FnView", spec := "fnView", apart := false, narrowed := true }
def FnViewUptoSaid : Prop := fnViewUptoRow.holds Try.pinned (OpenSpec.upto fnViewSpec)

/-- 'laws.FnViewKeeps', WHERE WHAT IT READS IS OF BULK AT MOST 1048576: true; the input reads as it did. -/
def fnViewKeepsUptoRow : OpenClaim := { program := "ytcbhjnjallnidaa", sum := "f262cae01325fef1eae593b4cf935be2f10835a2e06931c4e8dc55e1be1fe176", func := "loop.example/mixrelay/laws.FnViewKeeps", spec := "fnViewKeeps", apart := false, narrowed := true }
def FnViewKeepsUptoSaid : Prop := fnViewKeepsUptoRow.holds Try.pinned (OpenSpec.upto fnViewKeepsSpec)

/-- 'laws.FnViewTwice', WHERE WHAT IT READS IS OF BULK AT MOST 1048576: true; the input reads as it did. -/
def fnViewTwiceUptoRow : OpenClaim := { program := "ytcbhjnjallnidaa", sum := "f262cae01325fef1eae593b4cf935be2f10835a2e06931c4e8dc55e1be1fe176", func := "loop.example/mixrelay/laws.FnViewTwice", spec := "fnViewTwice", apart := false, narrowed := true }
def FnViewTwiceUptoSaid : Prop := fnViewTwiceUptoRow.holds Try.pinned (OpenSpec.upto fnViewTwiceSpec)

/-- 'laws.FnViewSame', WHERE WHAT IT READS IS OF BULK AT MOST 1048576: true; the input reads as it did. -/
def fnViewSameUptoRow : OpenClaim := { program := "ytcbhjnjallnidaa", sum := "f262cae01325fef1eae593b4cf935be2f10835a2e06931c4e8dc55e1be1fe176", func := "loop.example/mixrelay/laws.FnViewSame", spec := "fnViewSame", apart := false, narrowed := true }
def FnViewSameUptoSaid : Prop := fnViewSameUptoRow.holds Try.pinned (OpenSpec.upto fnViewSameSpec)

/-- 'laws.FnViewRename', WHERE WHAT IT READS IS OF BULK AT MOST 1048576: true; the input reads as it did. -/
def fnViewRenameUptoRow : OpenClaim := { program := "ytcbhjnjallnidaa", sum := "f262cae01325fef1eae593b4cf935be2f10835a2e06931c4e8dc55e1be1fe176", func := "loop.example/mixrelay/laws.FnViewRename", spec := "fnViewRename", apart := false, narrowed := true }
def FnViewRenameUptoSaid : Prop := fnViewRenameUptoRow.holds Try.pinned (OpenSpec.upto fnViewRenameSpec)

/-- 'laws.FnViewPart', WHERE WHAT IT READS IS OF BULK AT MOST 1048576: true; the input reads as it did. -/
def fnViewPartUptoRow : OpenClaim := { program := "ytcbhjnjallnidaa", sum := "f262cae01325fef1eae593b4cf935be2f10835a2e06931c4e8dc55e1be1fe176", func := "loop.example/mixrelay/laws.FnViewPart", spec := "fnViewPart", apart := false, narrowed := true }
def FnViewPartUptoSaid : Prop := fnViewPartUptoRow.holds Try.pinned (OpenSpec.upto fnViewPartSpec)

/-- 'laws.FnExactViewOf', WHERE WHAT IT READS IS OF BULK AT MOST 1048576: true; the input reads as it did. -/
def fnExactViewOfUptoRow : OpenClaim := { program := "ytcbhjnjallnidaa", sum := "f262cae01325fef1eae593b4cf935be2f10835a2e06931c4e8dc55e1be1fe176", func := "loop.example/mixrelay/laws.FnExactViewOf", spec := "fnExactViewOf", apart := false, narrowed := true }
def FnExactViewOfUptoSaid : Prop := fnExactViewOfUptoRow.holds Try.pinned (OpenSpec.upto fnExactViewOfSpec)

/-- 'laws.FnExactViewSame', WHERE WHAT IT READS IS OF BULK AT MOST 1048576: true; the input reads as it did. -/
def fnExactViewSameUptoRow : OpenClaim := { program := "ytcbhjnjallnidaa", sum := "f262cae01325fef1eae593b4cf935be2f10835a2e06931c4e8dc55e1be1fe176", func := "loop.example/mixrelay/laws.FnExactViewSame", spec := "fnExactViewSame", apart := false, narrowed := true }
def FnExactViewSameUptoSaid : Prop := fnExactViewSameUptoRow.holds Try.pinned (OpenSpec.upto fnExactViewSameSpec)

end Rows
end Go.Proofs.Ytcbhjnjallnidaa
