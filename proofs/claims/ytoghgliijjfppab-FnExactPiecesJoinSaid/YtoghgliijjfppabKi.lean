/-
  A list of keys that can be appended to, in a block that is known.
-/
import Derived.Test.YtoghgliijjfppabAv
import Derived.Test.YtoghgliijjfppabCs
namespace Go.Proofs.Ytoghgliijjfppab
open Go.RowKit
namespace Cs
open Il Sl Fo Cm
section
variable {w w' : World} {v : Value}
theorem dest_lt {e : TypeId} {sz : Nat} {g : Option Nat} {n : Nat} {vs : List Value} (h : Dest e sz g w v n vs) (k : Nat) (hk : g = some k) : k < w.heap.size := by
  rcases h with ⟨rfl, _⟩ | ⟨q, rfl, ha⟩
  · cases hk
  · cases hk; exact ha.lt
theorem dest_keep {e : TypeId} {sz : Nat} {g : Option Nat} {n : Nat} {vs : List Value} (h : Dest e sz g w v n vs) (hk : ∀ k, g = some k → w'.heap[k]? = w.heap[k]?) : Dest e sz g w' v n vs := by
  rcases h with h | ⟨q, rfl, ha⟩
  · exact .inl h
  · exact .inr ⟨q, rfl, ha.block (hk q rfl)⟩
end
/-! ### structs in blocks -/
def Blk (w : World) (b : Nat) (cs : Array Value) (t : TypeId) : Prop := w.heap[b]? = some (.cells cs t (0, 0))
theorem Blk.below {w w' : World} {b K : Nat} {cs : Array Value} {t : TypeId} (h : Blk w b cs t) (hb : Below K w w') (hB : w.heap.size ≤ K) : Blk w' b cs t := (hb.block b (by have := (Array.getElem?_eq_some_iff.1 h).1; omega)).trans h
theorem Blk.same {w w' : World} {b : Nat} {cs : Array Value} {t : TypeId} (h : Blk w b cs t) (hb : w'.heap[b]? = w.heap[b]?) : Blk w' b cs t := hb.trans h
theorem Blk.lt {w : World} {b : Nat} {cs : Array Value} {t : TypeId} (h : Blk w b cs t) : b < w.heap.size := (Array.getElem?_eq_some_iff.1 h).1
theorem blk_new (w : World) (cs : Array Value) (t : TypeId) : Blk (w.alloc (.cells cs t)) w.heap.size cs t := heap_alloc_new _ _
theorem blk_set0 {w : World} {b : Nat} {v0 v1 v : Value} {t : TypeId} (h : Blk w b #[v0, v1] t) : Blk (w.setCell ⟨b, 0, none⟩ v) b #[v, v1] t := by
  unfold Blk at h ⊢
  simp [World.setCell, Array.getElem?_modify, h]
theorem blk_set1 {w : World} {b : Nat} {v0 v1 v : Value} {t : TypeId} (h : Blk w b #[v0, v1] t) : Blk (w.setCell ⟨b, 1, none⟩ v) b #[v0, v] t := by
  unfold Blk at h ⊢
  simp [World.setCell, Array.getElem?_modify, h]
theorem two_cells {w : World} {b : Nat} {v0 v1 : Value} {t : TypeId} (h : Blk w b #[v0, v1] t) : w.cell? ⟨b, 0, none⟩ = some v0 ∧ w.cell? ⟨b, 1, none⟩ = some v1 ∧ ∀ j, w.frozen? ⟨b, j, none⟩ = false := by
  refine ⟨?_, ?_, fun j => by unfold Blk at h; simp [World.frozen?, h]⟩
  all_goals rw [cell_of_row _ _ _ _ _ _ h]; rfl
theorem results_cell1 {fn : Func} {p : Tmp} {ty : TypeId} (h : fn.results = #[.cell p ty]) (tmps : Array Value) (P : Program) (w : World) :
    (results fn tmps).run P w = ((asAddr (tmps.getD p undef)).run P w).andThen fun a w₁ => (loadVar ty a).run P w₁ := by
  simp only [results, h]
  simp [Sem.run_bind, Result.andThen]

end Cs
namespace Im8
open Il Sl Fo Cm Cs Gm

/-- A list of keys that can be appended to. -/
structure Kd where
  xs : List Int
  A : Option Addr
  c : Nat
  g : Option Nat
def Kd.cell (s : Kd) : Value := .slice s.A s.xs.length s.c
def KdO (w : World) (s : Kd) : Prop := Dest 3 1 s.g w s.cell s.xs.length (s.xs.map (Value.int .i64))
def Kd.sk (s : Kd) : Sk := ⟨s.xs, s.A, s.c, s.g.getD 0⟩
theorem KdO.keep {w w' : World} {s : Kd} (h : KdO w s) (hk : ∀ x ∈ s.g.toList, w'.heap[x]? = w.heap[x]?) : KdO w' s := dest_keep h fun k e => hk k (by rw [e]; simp)
theorem KdO.lt_ {w : World} {s : Kd} (h : KdO w s) : ∀ x ∈ s.g.toList, x < w.heap.size := fun x hx => dest_lt h x (by simpa using hx)
theorem KdO.sk {w : World} {s : Kd} (h : KdO w s) : SkO w s.sk := by
  obtain ⟨A, c, b, e, ho, hk⟩ := dest_ints h
  simp only [Kd.cell, Value.slice.injEq, true_and] at e
  obtain ⟨rfl, rfl⟩ := e
  cases hg : s.g with
  | some k =>
    have := hk k hg
    subst this
    show Il.Own (s.g.getD 0) (s.g.getD 0 + 1) w s.A s.xs.length s.c s.xs
    rw [hg]; exact ho
  | none =>
    have hz : s.xs.length = 0 := by
      rcases h with ⟨_, hz, _⟩ | ⟨k, e, _⟩
      · exact hz
      · rw [hg] at e; cases e
    show Il.Own (s.g.getD 0) (s.g.getD 0 + 1) w s.A s.xs.length s.c s.xs
    rw [hg]
    refine ⟨⟨rfl, ho.1.2.1, ho.1.2.2.1, fun hn => absurd hn (by omega)⟩, fun _ _ hn => absurd hn (by omega)⟩
theorem fpk_sub {w : World} {s : Kd} (h : KdO w s) : ∀ x ∈ fpk s.sk, x ∈ s.g.toList := fun x hx => by
  obtain ⟨hn, rfl⟩ := mem_fp.1 hx
  cases hg : s.g with
  | some k => simp [Kd.sk, hg]
  | none =>
    rcases h with ⟨_, hz, _⟩ | ⟨k, e, _⟩
    · exact absurd hz (by show ¬ s.xs.length = 0; exact Nat.pos_iff_ne_zero.1 hn)
    · rw [hg] at e; cases e

end Im8
end Go.Proofs.Ytoghgliijjfppab
