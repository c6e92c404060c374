/-
  A region that draws its order and whose callees make memory, but leave what was there: one walk in the order of the text, over a class of worlds. Nothing of any program.
-/
import Derived.WalkKit
import Derived.Below
import Derived.BigQuiet
import Derived.Deep.QuietTactic
import Derived.Lib.Hide
namespace Go.Proofs.Ytcbhjnjallnidab
open Go.RowKit
namespace Qc

/-- A world of the class S. -/
structure Wd (S : World → Prop) where
  w : World
  h : S w

theorem region {P : Program} {id : Nat} {Q : Exit → Act → World → Prop} {a : Act} {w : World} {l : List Oper} (S : World → Prop) (hm : P.follows .mixedOrders = true) (hB : Region.lexB .any l.toArray = true) (hS : S { w with drawn := w.drawn + 1 })
    (h : Nonempty (Wd S) → wpQuiet P l.toArray (fun w' => ∃ i : Wd S, w' = i.w) (fun a' => ∀ i : Wd S, Q .normal a' i.w) l a) : (Code.region id l.toArray true).wp P Q a w := by
  refine wp_region_quiet (C := fun w' => ∃ i : Wd S, w' = i.w) hm hB ⟨⟨_, hS⟩, rfl⟩ ?_
  have h2 := h ⟨⟨_, hS⟩⟩
  have e : (fun a' => ∀ w', (∃ i : Wd S, w' = i.w) → Q .normal a' w') = (fun a' => ∀ i : Wd S, Q .normal a' i.w) := by
    funext a'
    apply propext
    exact ⟨fun q i => q _ ⟨i, rfl⟩, fun q w' ⟨i, hi⟩ => hi ▸ q i⟩
  rw [e]
  simpa using h2

/-- A call that leaves what was there. -/
theorem call {P : Program} {f : FuncId} {args : Array Value} {v : Value} {S : World → Prop} {i : Wd S} (hS : ∀ w' w'', S w' → Below w'.heap.size w' w'' → S w'')
    (h : Calls P f args i.w fun e w'' => e = .returned v ∧ Below i.w.heap.size i.w w'') : Calls P f args i.w fun e w'' => e = .returned v ∧ ∃ j : Wd S, w'' = j.w :=
  h.mono fun _ w'' ⟨he, hb⟩ => ⟨he, ⟨w'', hS _ _ i.h hb⟩, rfl⟩
/-- A call that leaves the world. -/
theorem same {P : Program} {f : FuncId} {args : Array Value} {v : Value} {S : World → Prop} {i : Wd S}
    (h : Calls P f args i.w fun e w'' => e = .returned v ∧ i.w = w'') : Calls P f args i.w fun e w'' => e = .returned v ∧ ∃ j : Wd S, w'' = j.w :=
  h.mono fun _ _ ⟨he, hb⟩ => ⟨he, i, hb.symm⟩
theorem hs_step {w w' : World} (hb : Below w.heap.size w w') {p : Addr} {v : Value} (h : w.cell? p = some v) : w'.cell? p = some v := (hb.cell (p := p) (World.block_lt_of_cell? w _ h)).trans h

end Qc
end Go.Proofs.Ytcbhjnjallnidab
