/-
  Counts gathered by append: what else stands as it was.
-/
import Derived.Test.YtbhafchdcofceaaLc
namespace Go.Proofs.Ytbhafchdcofceaa
open Go.RowKit
namespace Lc
open Il Sl

/-- Every object but rows of counts is as it was. -/
def Others (w w' : World) : Prop := ∀ (q : Nat) (o : Obj), w.heap[q]? = some o → (∀ cs fr, o ≠ Obj.cells cs 37 fr) → w'.heap[q]? = some o
theorem AccV.typed {e : TypeId} {sz g : Nat} {w : World} {v : Value} {n : Nat} {vs : List Value} (h : AccV e sz g w v n vs) : ∃ cs fr, w.heap[g]? = some (.cells cs e fr) := by
  obtain ⟨cap, rfl, ho⟩ := h
  rcases ho.2 with ⟨q, _⟩ | ⟨g1, cap1, cur, q, hb, hh, h1, h2, h3, h4⟩
  · simp at q
  · simp only [Value.slice.injEq, Option.some.injEq, Addr.mk.injEq, and_true] at q
    obtain ⟨rfl, _, rfl⟩ := q
    exact ⟨cur, (0, 0), hh⟩
theorem others_of {w w' : World} {g : Nat} (ht : ∃ cs fr, w.heap[g]? = some (.cells cs 37 fr)) (hg : w.grownBy w' (some g)) : Others w w' := fun q o hq ho => by
  have hne : q ≠ g := fun e => by
    subst e
    obtain ⟨cs, fr, h⟩ := ht
    rw [h] at hq
    exact ho cs fr (Option.some.inj hq).symm
  exact (hg.block q (Array.getElem?_eq_some_iff.1 hq).1 (by simpa using hne)).trans hq
section
variable {o : Oper} {a : Act} {Q : Exit → Act → World → Prop} {K : Act → World → Prop}
/-- append(out, c), in a region of a fixed order. -/
theorem wpList_cAppK {ops : Array Oper} {rest : List Oper} (w0 w : World) (v : Value) (xs : List Cnt) (hacc : CAcc w0 w v xs) (c : Cnt) (hl : xs.length ≤ 100000) (s y : Operand)
    (hgd : o.guard = none) (ho : o.op = .call { callee := .builtin .append, args := #[s, y], argTypes := #[23, 23] }) (hs : a.eval s = v) (hy : a.eval y = .slice (some ⟨w.heap.size, 0, none⟩) 1 1)
    (h : ∀ v' w', CAcc w0 w' v' (xs ++ [c]) → Below w0.heap.size w w' → Others w w' → wpList Try.prog ops Q rest (a.put o.dst v') w') :
    wpList Try.prog ops Q (o :: rest) a (w.alloc (.cells #[.int .i64 c.fr, .int .i64 c.to_, .int .i64 c.se, .int .i64 c.ba] 37)) := by
  obtain ⟨g, h1, h2, h3, h4⟩ := (hacc.alloc (.cells #[.int .i64 c.fr, .int .i64 c.to_, .int .i64 c.se, .int .i64 c.ba] 37)).dest
  have hb0 := hacc.below
  refine wpList_appD elCnt (some g) _ v _ _ h3 w.heap.size (w.heap.size + 1) _ 1 1 c.cells (row_lit w _ c.cells rfl) (cells_one c) (by omega) s y hgd ho hs hy fun g' v' w' q1 q2 q3 => ?_
  have hsz : (w.alloc (.cells #[.int .i64 c.fr, .int .i64 c.to_, .int .i64 c.se, .int .i64 c.ba] 37)).heap.size = w.heap.size + 1 := by simp
  have := cacc_app (ys := [c]) h1 h4 (by simpa using q1) q2 q3
  have hty : ∃ cs fr, (w.alloc (.cells #[.int .i64 c.fr, .int .i64 c.to_, .int .i64 c.se, .int .i64 c.ba] 37)).heap[g]? = some (.cells cs 37 fr) := by
    rcases h3 with ⟨q, _⟩ | ⟨k, e, ha⟩
    · cases q
    · cases e; exact AccV.typed ha
  refine h v' w' this ?_ ?_
  · exact ((Below.refl w0.heap.size w).alloc hb0.size _).grown q3 (by have := hb0.size; omega) fun k hk => by cases hk; exact h1
  · intro q o2 hq ho2
    exact others_of hty q3 q o2 (by rw [Below.heap_alloc w _ q (Array.getElem?_eq_some_iff.1 hq).1]; exact hq) ho2
/-- .. in a region that draws its order. -/
theorem step_cAppK {ops : Array Oper} {E : Prop} (w0 w : World) (v : Value) (xs : List Cnt) (hacc : CAcc w0 w v xs) (c : Cnt) (hl : xs.length ≤ 100000) (s y : Operand)
    (hgd : o.guard = none) (ho : o.op = .call { callee := .builtin .append, args := #[s, y], argTypes := #[23, 23] }) (hs : a.eval s = v) (hy : a.eval y = .slice (some ⟨w.heap.size, 0, none⟩) 1 1)
    (h : ∀ v' w', CAcc w0 w' v' (xs ++ [c]) → Below w0.heap.size w w' → Others w w' → K (a.put o.dst v') w') :
    if Region.wanted o (yielded ops a.tmps) = true then Oper.wp Try.prog o a (w.alloc (.cells #[.int .i64 c.fr, .int .i64 c.to_, .int .i64 c.se, .int .i64 c.ba] 37)) K Q else E := by
  obtain ⟨g, h1, h2, h3, h4⟩ := (hacc.alloc (.cells #[.int .i64 c.fr, .int .i64 c.to_, .int .i64 c.se, .int .i64 c.ba] 37)).dest
  have hb0 := hacc.below
  refine step_appD elCnt (some g) _ v _ _ h3 w.heap.size (w.heap.size + 1) _ 1 1 c.cells (row_lit w _ c.cells rfl) (cells_one c) (by omega) s y hgd ho hs hy fun g' v' w' q1 q2 q3 => ?_
  have hsz : (w.alloc (.cells #[.int .i64 c.fr, .int .i64 c.to_, .int .i64 c.se, .int .i64 c.ba] 37)).heap.size = w.heap.size + 1 := by simp
  have := cacc_app (ys := [c]) h1 h4 (by simpa using q1) q2 q3
  have hty : ∃ cs fr, (w.alloc (.cells #[.int .i64 c.fr, .int .i64 c.to_, .int .i64 c.se, .int .i64 c.ba] 37)).heap[g]? = some (.cells cs 37 fr) := by
    rcases h3 with ⟨q, _⟩ | ⟨k, e, ha⟩
    · cases q
    · cases e; exact AccV.typed ha
  refine h v' w' this ?_ ?_
  · exact ((Below.refl w0.heap.size w).alloc hb0.size _).grown q3 (by have := hb0.size; omega) fun k hk => by cases hk; exact h1
  · intro q o2 hq ho2
    exact others_of hty q3 q o2 (by rw [Below.heap_alloc w _ q (Array.getElem?_eq_some_iff.1 hq).1]; exact hq) ho2
end

end Lc
end Go.Proofs.Ytbhafchdcofceaa
