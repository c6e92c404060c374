/-
  Counts gathered by append, the block known.
-/
import Derived.Test.YtbhafchdcofceaaLa
namespace Go.Proofs.Ytbhafchdcofceaa
open Go.RowKit
namespace Lc
open Il Sl

/-- The gathered slice v lies in block g. -/
def Gat (g : Nat) (w : World) (v : Value) (xs : List Cnt) : Prop := AccV 37 4 g w v xs.length (xs.flatMap Cnt.cells)
theorem Gat.lt {g : Nat} {w : World} {v : Value} {xs : List Cnt} (h : Gat g w v xs) : g < w.heap.size := AccV.lt h
theorem Gat.block {g : Nat} {w w' : World} {v : Value} {xs : List Cnt} (h : Gat g w v xs) (hs : w'.heap[g]? = w.heap[g]?) : Gat g w' v xs := AccV.block h hs
theorem Gat.below {g B : Nat} {w w' : World} {v : Value} {xs : List Cnt} (h : Gat g w v xs) (hb : Below B w w') (hB : w.heap.size ≤ B) : Gat g w' v xs := h.block (hb.block g (by have := h.lt; omega))
theorem Gat.own {g : Nat} {w : World} {v : Value} {xs : List Cnt} (h : Gat g w v xs) : ∃ A c, v = .slice A xs.length c ∧ CntsO g (g + 1) w A xs.length c xs := by
  obtain ⟨cap, e, hr⟩ := AccV.row h
  exact ⟨_, cap, e, hr⟩
theorem gat_new (w : World) : Gat w.heap.size (w.alloc (.cells #[] 37)) (.slice (some ⟨w.heap.size, 0, none⟩) 0 0) [] := accV_new w _ _
section
variable {o : Oper} {a : Act} {Q : Exit → Act → World → Prop} {K : Act → World → Prop}
/-- append(out, c), in a region of a fixed order. -/
theorem wpList_gApp {ops : Array Oper} {rest : List Oper} (g : Nat) (w : World) (v : Value) (xs : List Cnt) (hg : Gat g w v xs) (c : Cnt) (hl : xs.length ≤ 100000) (s y : Operand)
    (hgd : o.guard = none) (ho : o.op = .call { callee := .builtin .append, args := #[s, y], argTypes := #[23, 23] }) (hs : a.eval s = v) (hy : a.eval y = .slice (some ⟨w.heap.size, 0, none⟩) 1 1)
    (h : ∀ g' v' w', Gat g' w' v' (xs ++ [c]) → (g' = g ∨ w.heap.size ≤ g') → w.grownBy w' (some g) → wpList Try.prog ops Q rest (a.put o.dst v') w') :
    wpList Try.prog ops Q (o :: rest) a (w.alloc (.cells #[.int .i64 c.fr, .int .i64 c.to_, .int .i64 c.se, .int .i64 c.ba] 37)) := by
  have hsz : (w.alloc (.cells #[.int .i64 c.fr, .int .i64 c.to_, .int .i64 c.se, .int .i64 c.ba] 37)).heap.size = w.heap.size + 1 := by simp
  have hglt := hg.lt
  have hd : Dest 37 4 (some g) (w.alloc (.cells #[.int .i64 c.fr, .int .i64 c.to_, .int .i64 c.se, .int .i64 c.ba] 37)) v xs.length (xs.flatMap Cnt.cells) := .inr ⟨g, rfl, AccV.alloc hg _⟩
  refine wpList_appD elCnt (some g) _ v _ _ hd w.heap.size (w.heap.size + 1) _ 1 1 c.cells (row_lit w _ c.cells rfl) (cells_one c) (by omega) s y hgd ho hs hy fun g' v' w' q1 q2 q3 => ?_
  have hgr : w.grownBy w' (some g) := grown_trans (row := some g) (grown_alloc (World.grownBy.refl w (some g)) _) q3
  rcases q1 with ⟨rfl, _⟩ | ⟨k, rfl, ha⟩
  · rcases q2 with e | ⟨k, e, _⟩ <;> cases e
  · refine h k v' w' (by unfold Gat; rw [List.length_append, List.flatMap_append]; simpa using ha) ?_ hgr
    rcases q2 with e | ⟨q, e, hq⟩
    · cases e; exact .inl rfl
    · cases e; right; omega
end
/-- A struct in a block of its own. -/
def Blk4 (w : World) (b : Nat) (x : Cnt) : Prop := w.heap[b]? = some (.cells #[.int .i64 x.fr, .int .i64 x.to_, .int .i64 x.se, .int .i64 x.ba] 37 (0, 0))
theorem Blk4.cells {w : World} {b : Nat} {x : Cnt} (h : Blk4 w b x) : w.cell? ⟨b, 0, none⟩ = some (.int .i64 x.fr) ∧ w.cell? ⟨b, 1, none⟩ = some (.int .i64 x.to_) ∧ w.cell? ⟨b, 2, none⟩ = some (.int .i64 x.se) ∧ w.cell? ⟨b, 3, none⟩ = some (.int .i64 x.ba) ∧
    w.frozen? ⟨b, 0, none⟩ = false ∧ w.frozen? ⟨b, 1, none⟩ = false ∧ w.frozen? ⟨b, 2, none⟩ = false ∧ w.frozen? ⟨b, 3, none⟩ = false := by
  unfold Blk4 at h
  refine ⟨?_, ?_, ?_, ?_, ?_, ?_, ?_, ?_⟩
  iterate 4 (rw [cell_of_row _ _ _ _ _ _ h]; rfl)
  all_goals simp [World.frozen?, h]
theorem Blk4.lt {w : World} {b : Nat} {x : Cnt} (h : Blk4 w b x) : b < w.heap.size := (Array.getElem?_eq_some_iff.1 h).1
theorem Blk4.same {w w' : World} {b : Nat} {x : Cnt} (h : Blk4 w b x) (hs : w'.heap[b]? = w.heap[b]?) : Blk4 w' b x := hs.trans h
theorem Blk4.below {w w' : World} {b : Nat} {x : Cnt} (h : Blk4 w b x) (hb : Below w.heap.size w w') : Blk4 w' b x := h.same (hb.block b h.lt)
theorem Blk4.set2 {w : World} {b : Nat} {x : Cnt} (h : Blk4 w b x) (v : Int) : Blk4 (w.setCell ⟨b, 2, none⟩ (.int .i64 v)) b ⟨x.fr, x.to_, v, x.ba⟩ := by
  unfold Blk4 at *
  simp [World.setCell, Array.getElem?_modify, h]
theorem Blk4.set3 {w : World} {b : Nat} {x : Cnt} (h : Blk4 w b x) (v : Int) : Blk4 (w.setCell ⟨b, 3, none⟩ (.int .i64 v)) b ⟨x.fr, x.to_, x.se, v⟩ := by
  unfold Blk4 at *
  simp [World.setCell, Array.getElem?_modify, h]
theorem Blk4.put {w : World} {b : Nat} {x : Cnt} (h : Blk4 w b x) (y : Cnt) : Blk4 ((((w.setCell ⟨b, 0, none⟩ (.int .i64 y.fr)).setCell ⟨b, 1, none⟩ (.int .i64 y.to_)).setCell ⟨b, 2, none⟩ (.int .i64 y.se)).setCell ⟨b, 3, none⟩ (.int .i64 y.ba)) b y := by
  unfold Blk4 at *
  simp [World.setCell, Array.getElem?_modify, h]
/-- Only block b has turned. -/
theorem set_other {w : World} {b q : Nat} {i : Nat} {v : Value} (h : q ≠ b) : (w.setCell ⟨b, i, none⟩ v).heap[q]? = w.heap[q]? := Below.heap_setCell w ⟨b, i, none⟩ v q h

end Lc
end Go.Proofs.Ytbhafchdcofceaa
