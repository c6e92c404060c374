/-
  No cell of these rows narrows 'for every input' (looked for: loops, veiled, ifaces, maps, wideKeys, modest, calm, conditions, laid).
  DERIVED. THE GIVEN ROWS OF THIS SEAT. 14 by the template 'for every input the law returns true; each argument reads behind the call as it read before'; 0 by the template 'total and deterministic' (their statements: YtmmnpmfkpieoiaaTotals.lean).
  GIVEN WITH THE SEED: the statements are not yours to turn. If you find one false, say at which input.
  Laid BY PROGRAM, IN A SANDBOX (cutbox-rows.mjs): the forced cells as the released guide's own fill.sh prints them over the translation 1babdb76264c838f… (all of the seat's roots in one cut). By AI agents, Wed Nov 11 2026. No macro, syntax, notation, axiom, sorry.
-/
import Derived.Test.YtmmnpmfkpieoiaaChecked
import GoSem.Claim
import GoSem.ClaimJoined
import GoSem.ClaimMapViews
import Derived.JoinedTies
import Derived.KernelRfl
namespace Go.Proofs.Ytmmnpmfkpieoiaa
/- THE CELL 'sum', in the pinned program and in every row, IS THE sha256 OF THE DUMP (.gsa) THAT YtmmnpmfkpieoiaaProg.lean LOADS. Nothing in Lean hashes anything: it is a label: what it is worth is what the hold of that sum in a sandbox is worth. -/
noncomputable def Try.pinned : Pinned := { name := "ytmmnpmfkpieoiaa", sum := "1babdb76264c838f78143829ead250bd36798e88451ee11859657a2caa5d598c", checked := Try.checked }
namespace Rows
def none {H : Type} : Left H := { results := [], args := [] }

/-- 'laws.FnCacheNew': WHATEVER THE INPUT: true; the input reads as it did. -/
def fnCacheNewSpec : ChangeSpec := { name := "fnCacheNew", fn := fun _ => fun
  | [d] => { results := [.lit (.bool true)], args := [d] }
  | _ => none }
def fnCacheNewRow : OpenClaim := { program := "ytmmnpmfkpieoiaa", sum := "1babdb76264c838f78143829ead250bd36798e88451ee11859657a2caa5d598c", func := "loop.example/mixrelay/laws.FnCacheNew", spec := "fnCacheNew", unfollowed := true, recurses := true, apart := false }
def FnCacheNewSaid : Prop := fnCacheNewRow.holds Try.pinned (OpenSpec.ofChange fnCacheNewSpec)

/-- ITS FALSE NEIGHBOUR: 'it returns false'. Refute it at one input. -/
def fnCacheNewWrong : ChangeSpec := { name := "fnCacheNew", fn := fun _ => fun
  | [d] => { results := [.lit (.bool false)], args := [d] }
  | _ => none }
def FnCacheNewWrongFalsely : Prop := fnCacheNewRow.holds Try.pinned (OpenSpec.ofChange fnCacheNewWrong)

/-- 'laws.FnCacheAdd': WHATEVER THE INPUT: true; the input reads as it did. -/
def fnCacheAddSpec : ChangeSpec := { name := "fnCacheAdd", fn := fun _ => fun
  | [d] => { results := [.lit (.bool true)], args := [d] }
  | _ => none }
def fnCacheAddRow : OpenClaim := { program := "ytmmnpmfkpieoiaa", sum := "1babdb76264c838f78143829ead250bd36798e88451ee11859657a2caa5d598c", func := "loop.example/mixrelay/laws.FnCacheAdd", spec := "fnCacheAdd", inPlace := ["slices.overlaps[int]"], unfollowed := true, recurses := true, apart := false }
def FnCacheAddSaid : Prop := fnCacheAddRow.holds Try.pinned (OpenSpec.ofChange fnCacheAddSpec)

/-- ITS FALSE NEIGHBOUR: 'it returns false'. Refute it at one input. -/
def fnCacheAddWrong : ChangeSpec := { name := "fnCacheAdd", fn := fun _ => fun
  | [d] => { results := [.lit (.bool false)], args := [d] }
  | _ => none }
def FnCacheAddWrongFalsely : Prop := fnCacheAddRow.holds Try.pinned (OpenSpec.ofChange fnCacheAddWrong)

/-- 'laws.FnCacheTwice': WHATEVER THE INPUT: true; the input reads as it did. -/
def fnCacheTwiceSpec : ChangeSpec := { name := "fnCacheTwice", fn := fun _ => fun
  | [d] => { results := [.lit (.bool true)], args := [d] }
  | _ => none }
def fnCacheTwiceRow : OpenClaim := { program := "ytmmnpmfkpieoiaa", sum := "1babdb76264c838f78143829ead250bd36798e88451ee11859657a2caa5d598c", func := "loop.example/mixrelay/laws.FnCacheTwice", spec := "fnCacheTwice", inPlace := ["slices.overlaps[int]"], unfollowed := true, recurses := true, apart := false }
def FnCacheTwiceSaid : Prop := fnCacheTwiceRow.holds Try.pinned (OpenSpec.ofChange fnCacheTwiceSpec)

/-- ITS FALSE NEIGHBOUR: 'it returns false'. Refute it at one input. -/
def fnCacheTwiceWrong : ChangeSpec := { name := "fnCacheTwice", fn := fun _ => fun
  | [d] => { results := [.lit (.bool false)], args := [d] }
  | _ => none }
def FnCacheTwiceWrongFalsely : Prop := fnCacheTwiceRow.holds Try.pinned (OpenSpec.ofChange fnCacheTwiceWrong)

/-- 'laws.FnCacheCodes': WHATEVER THE INPUT: true; the input reads as it did. -/
def fnCacheCodesSpec : ChangeSpec := { name := "fnCacheCodes", fn := fun _ => fun
  | [d] => { results := [.lit (.bool true)], args := [d] }
  | _ => none }
def fnCacheCodesRow : OpenClaim := { program := "ytmmnpmfkpieoiaa", sum := "1babdb76264c838f78143829ead250bd36798e88451ee11859657a2caa5d598c", func := "loop.example/mixrelay/laws.FnCacheCodes", spec := "fnCacheCodes", inPlace := ["slices.overlaps[int]"], unfollowed := true, recurses := true, apart := false }
def FnCacheCodesSaid : Prop := fnCacheCodesRow.holds Try.pinned (OpenSpec.ofChange fnCacheCodesSpec)

/-- ITS FALSE NEIGHBOUR: 'it returns false'. Refute it at one input. -/
def fnCacheCodesWrong : ChangeSpec := { name := "fnCacheCodes", fn := fun _ => fun
  | [d] => { results := [.lit (.bool false)], args := [d] }
  | _ => none }
def FnCacheCodesWrongFalsely : Prop := fnCacheCodesRow.holds Try.pinned (OpenSpec.ofChange fnCacheCodesWrong)

/-- 'laws.FnCacheOrder': WHATEVER THE INPUT: true; the input reads as it did. -/
def fnCacheOrderSpec : ChangeSpec := { name := "fnCacheOrder", fn := fun _ => fun
  | [d1, d2] => { results := [.lit (.bool true)], args := [d1, d2] }
  | _ => none }
def fnCacheOrderRow : OpenClaim := { program := "ytmmnpmfkpieoiaa", sum := "1babdb76264c838f78143829ead250bd36798e88451ee11859657a2caa5d598c", func := "loop.example/mixrelay/laws.FnCacheOrder", spec := "fnCacheOrder", inPlace := ["slices.overlaps[int]"], unfollowed := true, recurses := true, apart := false }
def FnCacheOrderSaid : Prop := fnCacheOrderRow.holds Try.pinned (OpenSpec.ofChange fnCacheOrderSpec)

/-- ITS FALSE NEIGHBOUR: 'it returns false'. Refute it at one input. -/
def fnCacheOrderWrong : ChangeSpec := { name := "fnCacheOrder", fn := fun _ => fun
  | [d1, d2] => { results := [.lit (.bool false)], args := [d1, d2] }
  | _ => none }
def FnCacheOrderWrongFalsely : Prop := fnCacheOrderRow.holds Try.pinned (OpenSpec.ofChange fnCacheOrderWrong)

/-- 'laws.FnCacheTurn': WHATEVER THE INPUT: true; the input reads as it did. -/
def fnCacheTurnSpec : ChangeSpec := { name := "fnCacheTurn", fn := fun _ => fun
  | [d] => { results := [.lit (.bool true)], args := [d] }
  | _ => none }
def fnCacheTurnRow : OpenClaim := { program := "ytmmnpmfkpieoiaa", sum := "1babdb76264c838f78143829ead250bd36798e88451ee11859657a2caa5d598c", func := "loop.example/mixrelay/laws.FnCacheTurn", spec := "fnCacheTurn", inPlace := ["slices.overlaps[int]"], unfollowed := true, recurses := true, apart := false }
def FnCacheTurnSaid : Prop := fnCacheTurnRow.holds Try.pinned (OpenSpec.ofChange fnCacheTurnSpec)

/-- ITS FALSE NEIGHBOUR: 'it returns false'. Refute it at one input. -/
def fnCacheTurnWrong : ChangeSpec := { name := "fnCacheTurn", fn := fun _ => fun
  | [d] => { results := [.lit (.bool false)], args := [d] }
  | _ => none }
def FnCacheTurnWrongFalsely : Prop := fnCacheTurnRow.holds Try.pinned (OpenSpec.ofChange fnCacheTurnWrong)

/-- 'laws.FnCacheTurnAll': WHATEVER THE INPUT: true; the input reads as it did. -/
def fnCacheTurnAllSpec : ChangeSpec := { name := "fnCacheTurnAll", fn := fun _ => fun
  | [d] => { results := [.lit (.bool true)], args := [d] }
  | _ => none }
def fnCacheTurnAllRow : OpenClaim := { program := "ytmmnpmfkpieoiaa", sum := "1babdb76264c838f78143829ead250bd36798e88451ee11859657a2caa5d598c", func := "loop.example/mixrelay/laws.FnCacheTurnAll", spec := "fnCacheTurnAll", unfollowed := true, recurses := true, apart := false }
def FnCacheTurnAllSaid : Prop := fnCacheTurnAllRow.holds Try.pinned (OpenSpec.ofChange fnCacheTurnAllSpec)

/-- ITS FALSE NEIGHBOUR: 'it returns false'. Refute it at one input. -/
def fnCacheTurnAllWrong : ChangeSpec := { name := "fnCacheTurnAll", fn := fun _ => fun
  | [d] => { results := [.lit (.bool false)], args := [d] }
  | _ => none }
def FnCacheTurnAllWrongFalsely : Prop := fnCacheTurnAllRow.holds Try.pinned (OpenSpec.ofChange fnCacheTurnAllWrong)

/-- 'laws.FnCacheKeys': WHATEVER THE INPUT: true; the input reads as it did. -/
def fnCacheKeysSpec : ChangeSpec := { name := "fnCacheKeys", fn := fun _ => fun
  | [d] => { results := [.lit (.bool true)], args := [d] }
  | _ => none }
def fnCacheKeysRow : OpenClaim := { program := "ytmmnpmfkpieoiaa", sum := "1babdb76264c838f78143829ead250bd36798e88451ee11859657a2caa5d598c", func := "loop.example/mixrelay/laws.FnCacheKeys", spec := "fnCacheKeys", unfollowed := true, recurses := true, apart := false }
def FnCacheKeysSaid : Prop := fnCacheKeysRow.holds Try.pinned (OpenSpec.ofChange fnCacheKeysSpec)

/-- ITS FALSE NEIGHBOUR: 'it returns false'. Refute it at one input. -/
def fnCacheKeysWrong : ChangeSpec := { name := "fnCacheKeys", fn := fun _ => fun
  | [d] => { results := [.lit (.bool false)], args := [d] }
  | _ => none }
def FnCacheKeysWrongFalsely : Prop := fnCacheKeysRow.holds Try.pinned (OpenSpec.ofChange fnCacheKeysWrong)

/-- 'laws.FnCacheOld': WHATEVER THE INPUT: true; the input reads as it did. -/
def fnCacheOldSpec : ChangeSpec := { name := "fnCacheOld", fn := fun _ => fun
  | [d1, d2] => { results := [.lit (.bool true)], args := [d1, d2] }
  | _ => none }
def fnCacheOldRow : OpenClaim := { program := "ytmmnpmfkpieoiaa", sum := "1babdb76264c838f78143829ead250bd36798e88451ee11859657a2caa5d598c", func := "loop.example/mixrelay/laws.FnCacheOld", spec := "fnCacheOld", unfollowed := true, recurses := true, apart := false }
def FnCacheOldSaid : Prop := fnCacheOldRow.holds Try.pinned (OpenSpec.ofChange fnCacheOldSpec)

/-- ITS FALSE NEIGHBOUR: 'it returns false'. Refute it at one input. -/
def fnCacheOldWrong : ChangeSpec := { name := "fnCacheOld", fn := fun _ => fun
  | [d1, d2] => { results := [.lit (.bool false)], args := [d1, d2] }
  | _ => none }
def FnCacheOldWrongFalsely : Prop := fnCacheOldRow.holds Try.pinned (OpenSpec.ofChange fnCacheOldWrong)

/-- 'laws.FnExactCacheNew': WHATEVER THE INPUT: true; the input reads as it did. -/
def fnExactCacheNewSpec : ChangeSpec := { name := "fnExactCacheNew", fn := fun _ => fun
  | [d] => { results := [.lit (.bool true)], args := [d] }
  | _ => none }
def fnExactCacheNewRow : OpenClaim := { program := "ytmmnpmfkpieoiaa", sum := "1babdb76264c838f78143829ead250bd36798e88451ee11859657a2caa5d598c", func := "loop.example/mixrelay/laws.FnExactCacheNew", spec := "fnExactCacheNew", apart := false }
def FnExactCacheNewSaid : Prop := fnExactCacheNewRow.holds Try.pinned (OpenSpec.ofChange fnExactCacheNewSpec)

/-- ITS FALSE NEIGHBOUR: 'it returns false'. Refute it at one input. -/
def fnExactCacheNewWrong : ChangeSpec := { name := "fnExactCacheNew", fn := fun _ => fun
  | [d] => { results := [.lit (.bool false)], args := [d] }
  | _ => none }
def FnExactCacheNewWrongFalsely : Prop := fnExactCacheNewRow.holds Try.pinned (OpenSpec.ofChange fnExactCacheNewWrong)

/-- 'laws.FnExactCacheValid': WHATEVER THE INPUT: true; the input reads as it did. -/
def fnExactCacheValidSpec : ChangeSpec := { name := "fnExactCacheValid", fn := fun _ => fun
  | [d] => { results := [.lit (.bool true)], args := [d] }
  | _ => none }
def fnExactCacheValidRow : OpenClaim := { program := "ytmmnpmfkpieoiaa", sum := "1babdb76264c838f78143829ead250bd36798e88451ee11859657a2caa5d598c", func := "loop.example/mixrelay/laws.FnExactCacheValid", spec := "fnExactCacheValid", apart := false }
def FnExactCacheValidSaid : Prop := fnExactCacheValidRow.holds Try.pinned (OpenSpec.ofChange fnExactCacheValidSpec)

/-- ITS FALSE NEIGHBOUR: 'it returns false'. Refute it at one input. -/
def fnExactCacheValidWrong : ChangeSpec := { name := "fnExactCacheValid", fn := fun _ => fun
  | [d] => { results := [.lit (.bool false)], args := [d] }
  | _ => none }
def FnExactCacheValidWrongFalsely : Prop := fnExactCacheValidRow.holds Try.pinned (OpenSpec.ofChange fnExactCacheValidWrong)

/-- 'laws.FnExactCacheAdd': WHATEVER THE INPUT: true; the input reads as it did. -/
def fnExactCacheAddSpec : ChangeSpec := { name := "fnExactCacheAdd", fn := fun _ => fun
  | [d1, d2, d3] => { results := [.lit (.bool true)], args := [d1, d2, d3] }
  | _ => none }
def fnExactCacheAddRow : OpenClaim := { program := "ytmmnpmfkpieoiaa", sum := "1babdb76264c838f78143829ead250bd36798e88451ee11859657a2caa5d598c", func := "loop.example/mixrelay/laws.FnExactCacheAdd", spec := "fnExactCacheAdd", inPlace := ["slices.overlaps[int]"], unfollowed := true, recurses := true, apart := false }
def FnExactCacheAddSaid : Prop := fnExactCacheAddRow.holds Try.pinned (OpenSpec.ofChange fnExactCacheAddSpec)

/-- ITS FALSE NEIGHBOUR: 'it returns false'. Refute it at one input. -/
def fnExactCacheAddWrong : ChangeSpec := { name := "fnExactCacheAdd", fn := fun _ => fun
  | [d1, d2, d3] => { results := [.lit (.bool false)], args := [d1, d2, d3] }
  | _ => none }
def FnExactCacheAddWrongFalsely : Prop := fnExactCacheAddRow.holds Try.pinned (OpenSpec.ofChange fnExactCacheAddWrong)

/-- 'laws.FnExactCacheTurn': WHATEVER THE INPUT: true; the input reads as it did. -/
def fnExactCacheTurnSpec : ChangeSpec := { name := "fnExactCacheTurn", fn := fun _ => fun
  | [d] => { results := [.lit (.bool true)], args := [d] }
  | _ => none }
def fnExactCacheTurnRow : OpenClaim := { program := "ytmmnpmfkpieoiaa", sum := "1babdb76264c838f78143829ead250bd36798e88451ee11859657a2caa5d598c", func := "loop.example/mixrelay/laws.FnExactCacheTurn", spec := "fnExactCacheTurn", unfollowed := true, recurses := true, apart := false }
def FnExactCacheTurnSaid : Prop := fnExactCacheTurnRow.holds Try.pinned (OpenSpec.ofChange fnExactCacheTurnSpec)

/-- ITS FALSE NEIGHBOUR: 'it returns false'. Refute it at one input. -/
def fnExactCacheTurnWrong : ChangeSpec := { name := "fnExactCacheTurn", fn := fun _ => fun
  | [d] => { results := [.lit (.bool false)], args := [d] }
  | _ => none }
def FnExactCacheTurnWrongFalsely : Prop := fnExactCacheTurnRow.holds Try.pinned (OpenSpec.ofChange fnExactCacheTurnWrong)

/-- 'laws.FnExactCacheKeys': WHATEVER THE INPUT: true; the input reads as it did. -/
def fnExactCacheKeysSpec : ChangeSpec := { name := "fnExactCacheKeys", fn := fun _ => fun
  | [d1, d2] => { results := [.lit (.bool true)], args := [d1, d2] }
  | _ => none }
def fnExactCacheKeysRow : OpenClaim := { program := "ytmmnpmfkpieoiaa", sum := "1babdb76264c838f78143829ead250bd36798e88451ee11859657a2caa5d598c", func := "loop.example/mixrelay/laws.FnExactCacheKeys", spec := "fnExactCacheKeys", unfollowed := true, recurses := true, apart := false }
def FnExactCacheKeysSaid : Prop := fnExactCacheKeysRow.holds Try.pinned (OpenSpec.ofChange fnExactCacheKeysSpec)

/-- ITS FALSE NEIGHBOUR: 'it returns false'. Refute it at one input. -/
def fnExactCacheKeysWrong : ChangeSpec := { name := "fnExactCacheKeys", fn := fun _ => fun
  | [d1, d2] => { results := [.lit (.bool false)], args := [d1, d2] }
  | _ => none }
def FnExactCacheKeysWrongFalsely : Prop := fnExactCacheKeysRow.holds Try.pinned (OpenSpec.ofChange fnExactCacheKeysWrong)

/- THE SECOND FORM. 'bulk': how many values and letters a reading holds, each counted each time it is reached (what is shared counts as often as it is met; a slice's spare places count too). A statement '..UptoSaid' is the law's where the arguments, and the package variables that the reading takes, are together of bulk at most 1048576: NARROWER than '..Said'. Prove '..Said' where nothing that the law and all that it calls make is longer than what came in: it says more and counts as full. Else prove '..UptoSaid'. A law counts once. -/
mutual
def uptoBulk {H : Type} : DataW H → Nat
  | .lit (.string bytes) => bytes.length + 1
  | .lit _ => 1
  | .nil => 1
  | .ptr d => uptoBulk d + 1
  | .slice elems spare => uptoBulkAll elems + uptoBulkAll spare + 1
  | .agg parts => uptoBulkAll parts + 1
  | .iface _ d => uptoBulk d + 1
  | .map entries => uptoBulkEntries entries + 1
  | .held _ => 1
def uptoBulkAll {H : Type} : List (DataW H) → Nat
  | [] => 0
  | d :: r => uptoBulk d + uptoBulkAll r
def uptoBulkEntries {H : Type} : List (Lit × DataW H) → Nat
  | [] => 0
  | x :: r => uptoBulkEntry x + uptoBulkEntries r
def uptoBulkEntry {H : Type} : Lit × DataW H → Nat
  | (.string bytes, d) => bytes.length + uptoBulk d + 1
  | (_, d) => uptoBulk d + 1
 end
def uptoSmall : (H : Type) → List (DataW H) → Bool := fun _ ds => decide (uptoBulkAll ds ≤ 1048576)
def OpenSpec.upto (s : _root_.Go.ChangeSpec) : _root_.Go.OpenSpec := { _root_.Go.OpenSpec.ofChange s with cond := some uptoSmall }

/-- 'laws.FnCacheNew', WHERE WHAT IT READS IS OF BULK AT MOST 1048576: true; the input reads as it did. -/
def fnCacheNewUptoRow : OpenClaim := { program := "ytmmnpmfkpieoiaa", sum := "1babdb76264c838f78143829ead250bd36798e88451ee11859657a2caa5d598c", func := "loop.example/mixrelay/laws.FnCacheNew", spec := "fnCacheNew", unfollowed := true, recurses := true, apart := false, narrowed := true }
def FnCacheNewUptoSaid : Prop := fnCacheNewUptoRow.holds Try.pinned (OpenSpec.upto fnCacheNewSpec)

/-- 'laws.FnCacheAdd', WHERE WHAT IT READS IS OF BULK AT MOST 1048576: true; the input reads as it did. -/
def fnCacheAddUptoRow : OpenClaim := { program := "ytmmnpmfkpieoiaa", sum := "1babdb76264c838f78143829ead250bd36798e88451ee11859657a2caa5d598c", func := "loop.example/mixrelay/laws.FnCacheAdd", spec := "fnCacheAdd", inPlace := ["slices.overlaps[int]"], unfollowed := true, recurses := true, apart := false, narrowed := true }
def FnCacheAddUptoSaid : Prop := fnCacheAddUptoRow.holds Try.pinned (OpenSpec.upto fnCacheAddSpec)

/-- 'laws.FnCacheTwice', WHERE WHAT IT READS IS OF BULK AT MOST 1048576: true; the input reads as it did. -/
def fnCacheTwiceUptoRow : OpenClaim := { program := "ytmmnpmfkpieoiaa", sum := "1babdb76264c838f78143829ead250bd36798e88451ee11859657a2caa5d598c", func := "loop.example/mixrelay/laws.FnCacheTwice", spec := "fnCacheTwice", inPlace := ["slices.overlaps[int]"], unfollowed := true, recurses := true, apart := false, narrowed := true }
def FnCacheTwiceUptoSaid : Prop := fnCacheTwiceUptoRow.holds Try.pinned (OpenSpec.upto fnCacheTwiceSpec)

/-- 'laws.FnCacheCodes', WHERE WHAT IT READS IS OF BULK AT MOST 1048576: true; the input reads as it did. -/
def fnCacheCodesUptoRow : OpenClaim := { program := "ytmmnpmfkpieoiaa", sum := "1babdb76264c838f78143829ead250bd36798e88451ee11859657a2caa5d598c", func := "loop.example/mixrelay/laws.FnCacheCodes", spec := "fnCacheCodes", inPlace := ["slices.overlaps[int]"], unfollowed := true, recurses := true, apart := false, narrowed := true }
def FnCacheCodesUptoSaid : Prop := fnCacheCodesUptoRow.holds Try.pinned (OpenSpec.upto fnCacheCodesSpec)

/-- 'laws.FnCacheOrder', WHERE WHAT IT READS IS OF BULK AT MOST 1048576: true; the input reads as it did. -/
def fnCacheOrderUptoRow : OpenClaim := { program := "ytmmnpmfkpieoiaa", sum := "1babdb76264c838f78143829ead250bd36798e88451ee11859657a2caa5d598c", func := "loop.example/mixrelay/laws.FnCacheOrder", spec := "fnCacheOrder", inPlace := ["slices.overlaps[int]"], unfollowed := true, recurses := true, apart := false, narrowed := true }
def FnCacheOrderUptoSaid : Prop := fnCacheOrderUptoRow.holds Try.pinned (OpenSpec.upto fnCacheOrderSpec)

/-- 'laws.FnCacheTurn', WHERE WHAT IT READS IS OF BULK AT MOST 1048576: true; the input reads as it did. -/
def fnCacheTurnUptoRow : OpenClaim := { program := "ytmmnpmfkpieoiaa", sum := "1babdb76264c838f78143829ead250bd36798e88451ee11859657a2caa5d598c", func := "loop.example/mixrelay/laws.FnCacheTurn", spec := "fnCacheTurn", inPlace := ["slices.overlaps[int]"], unfollowed := true, recurses := true, apart := false, narrowed := true }
def FnCacheTurnUptoSaid : Prop := fnCacheTurnUptoRow.holds Try.pinned (OpenSpec.upto fnCacheTurnSpec)

/-- 'laws.FnCacheTurnAll', WHERE WHAT IT READS IS OF BULK AT MOST 1048576: true; the input reads as it did. -/
def fnCacheTurnAllUptoRow : OpenClaim := { program := "ytmmnpmfkpieoiaa", sum := "1babdb76264c838f78143829ead250bd36798e88451ee11859657a2caa5d598c", func := "loop.example/mixrelay/laws.FnCacheTurnAll", spec := "fnCacheTurnAll", unfollowed := true, recurses := true, apart := false, narrowed := true }
def FnCacheTurnAllUptoSaid : Prop := fnCacheTurnAllUptoRow.holds Try.pinned (OpenSpec.upto fnCacheTurnAllSpec)

/-- 'laws.FnCacheKeys', WHERE WHAT IT READS IS OF BULK AT MOST 1048576: true; the input reads as it did. -/
def fnCacheKeysUptoRow : OpenClaim := { program := "ytmmnpmfkpieoiaa", sum := "1babdb76264c838f78143829ead250bd36798e88451ee11859657a2caa5d598c", func := "loop.example/mixrelay/laws.FnCacheKeys", spec := "fnCacheKeys", unfollowed := true, recurses := true, apart := false, narrowed := true }
def FnCacheKeysUptoSaid : Prop := fnCacheKeysUptoRow.holds Try.pinned (OpenSpec.upto fnCacheKeysSpec)

/-- 'laws.FnCacheOld', WHERE WHAT IT READS IS OF BULK AT MOST 1048576: true; the input reads as it did. -/
def fnCacheOldUptoRow : OpenClaim := { program := "ytmmnpmfkpieoiaa", sum := "1babdb76264c838f78143829ead250bd36798e88451ee11859657a2caa5d598c", func := "loop.example/mixrelay/laws.FnCacheOld", spec := "fnCacheOld", unfollowed := true, recurses := true, apart := false, narrowed := true }
def FnCacheOldUptoSaid : Prop := fnCacheOldUptoRow.holds Try.pinned (OpenSpec.upto fnCacheOldSpec)

/-- 'laws.FnExactCacheNew', WHERE WHAT IT READS IS OF BULK AT MOST 1048576: true; the input reads as it did. -/
def fnExactCacheNewUptoRow : OpenClaim := { program := "ytmmnpmfkpieoiaa", sum := "1babdb76264c838f78143829ead250bd36798e88451ee11859657a2caa5d598c", func := "loop.example/mixrelay/laws.FnExactCacheNew", spec := "fnExactCacheNew", apart := false, narrowed := true }
def FnExactCacheNewUptoSaid : Prop := fnExactCacheNewUptoRow.holds Try.pinned (OpenSpec.upto fnExactCacheNewSpec)

/-- 'laws.FnExactCacheValid', WHERE WHAT IT READS IS OF BULK AT MOST 1048576: true; the input reads as it did. -/
def fnExactCacheValidUptoRow : OpenClaim := { program := "ytmmnpmfkpieoiaa", sum := "1babdb76264c838f78143829ead250bd36798e88451ee11859657a2caa5d598c", func := "loop.example/mixrelay/laws.FnExactCacheValid", spec := "fnExactCacheValid", apart := false, narrowed := true }
def FnExactCacheValidUptoSaid : Prop := fnExactCacheValidUptoRow.holds Try.pinned (OpenSpec.upto fnExactCacheValidSpec)

/-- 'laws.FnExactCacheAdd', WHERE WHAT IT READS IS OF BULK AT MOST 1048576: true; the input reads as it did. -/
def fnExactCacheAddUptoRow : OpenClaim := { program := "ytmmnpmfkpieoiaa", sum := "1babdb76264c838f78143829ead250bd36798e88451ee11859657a2caa5d598c", func := "loop.example/mixrelay/laws.FnExactCacheAdd", spec := "fnExactCacheAdd", inPlace := ["slices.overlaps[int]"], unfollowed := true, recurses := true, apart := false, narrowed := true }
def FnExactCacheAddUptoSaid : Prop := fnExactCacheAddUptoRow.holds Try.pinned (OpenSpec.upto fnExactCacheAddSpec)

/-- 'laws.FnExactCacheTurn', WHERE WHAT IT READS IS OF BULK AT MOST 1048576: true; the input reads as it did. -/
def fnExactCacheTurnUptoRow : OpenClaim := { program := "ytmmnpmfkpieoiaa", sum := "1babdb76264c838f78143829ead250bd36798e88451ee11859657a2caa5d598c", func := "loop.example/mixrelay/laws.FnExactCacheTurn", spec := "fnExactCacheTurn", unfollowed := true, recurses := true, apart := false, narrowed := true }
def FnExactCacheTurnUptoSaid : Prop := fnExactCacheTurnUptoRow.holds Try.pinned (OpenSpec.upto fnExactCacheTurnSpec)

/-- 'laws.FnExactCacheKeys', WHERE WHAT IT READS IS OF BULK AT MOST 1048576: true; the input reads as it did. -/
def fnExactCacheKeysUptoRow : OpenClaim := { program := "ytmmnpmfkpieoiaa", sum := "1babdb76264c838f78143829ead250bd36798e88451ee11859657a2caa5d598c", func := "loop.example/mixrelay/laws.FnExactCacheKeys", spec := "fnExactCacheKeys", unfollowed := true, recurses := true, apart := false, narrowed := true }
def FnExactCacheKeysUptoSaid : Prop := fnExactCacheKeysUptoRow.holds Try.pinned (OpenSpec.upto fnExactCacheKeysSpec)

end Rows
end Go.Proofs.Ytmmnpmfkpieoiaa
