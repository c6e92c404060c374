/-
  Contracts of the program's chapter 4: the body of a letter as an array, the letter of a body.
-/
import Derived.Test.YtnjcpbkpcmemeacIm3
import Derived.Test.YtnjcpbkpcmemeacLm
import Derived.Test.YtnjcpbkpcmemeacIla
import Derived.BigQuiet
import Derived.Laws.CopyOwn
import Derived.Laws.ResultCell
import Derived.Deep.MidRow
namespace Go.Proofs.Ytnjcpbkpcmemeac
open Go.RowKit
namespace Im4
open Il Gm Mm Tm Lm Im2 Im3

def vals (l : List Int) : List Value := l.map (Value.int .i64)
theorem sizeInt : (Try.prog.info? 3).map (·.size) = some 1 := by kernel_rfl
theorem underInts : Try.prog.underlying 23 = some (.slice 3) := by kernel_rfl
/-- A block that holds a list, as a slice of the whole of it. -/
theorem own_block {w : World} {b : Nat} {l : List Int} {t : TypeId} (h : w.heap[b]? = some (.cells (vals l).toArray t (0, 0))) (hl : l.length ≤ maxLen) :
    Il.Own b w.heap.size w (some ⟨b, 0, none⟩) l.length l.length l := by
  have hlt := (Array.getElem?_eq_some_iff.1 h).1
  refine ⟨⟨rfl, Nat.le_refl _, hl, fun _ => ⟨b, 0, rfl, Nat.le_refl _, hlt, hlt, fun j hj => ?_⟩⟩, fun b' off' _ e j _ => ?_⟩
  · rw [cell_of_row _ _ _ _ _ _ h]
    simp [vals, List.getElem?_eq_getElem hj]
  · simp only [Option.some.injEq, Addr.mk.injEq, and_true] at e
    obtain ⟨rfl, rfl⟩ := e
    simp [World.frozen?, h]




end Im4
end Go.Proofs.Ytnjcpbkpcmemeac
