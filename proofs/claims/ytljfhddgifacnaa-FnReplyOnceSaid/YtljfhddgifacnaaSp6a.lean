/-
  Contracts of the model's chapter 11, the first ones: a new mix, valid mixes.
-/
import Derived.Test.YtljfhddgifacnaaSp5c
import Derived.Test.YtljfhddgifacnaaGt
import Derived.Deep.QuietTactic
import Derived.BigQuiet
namespace Go.Proofs.Ytljfhddgifacnaa
open Go.RowKit
namespace Sp6
open Il Gm Mm Tm Lm Pm Pq Hlp5 Sl Mm6 Sp2

theorem three_cells {w : World} {b : Nat} {v0 v1 v2 : Value} {t : TypeId} (h : Blk w b #[v0, v1, v2] t) :
    w.cell? ⟨b, 0, none⟩ = some v0 ∧ w.cell? ⟨b, 1, none⟩ = some v1 ∧ w.cell? ⟨b, 2, none⟩ = some v2 ∧ ∀ j, w.frozen? ⟨b, j, none⟩ = false := by
  refine ⟨?_, ?_, ?_, fun j => by unfold Blk at h; simp [World.frozen?, h]⟩
  all_goals rw [cell_of_row _ _ _ _ _ _ h]; rfl
theorem six_cellsB {w : World} {b : Nat} {v0 v1 v2 v3 v4 v5 : Value} {t : TypeId} (h : Blk w b #[v0, v1, v2, v3, v4, v5] t) :
    w.cell? ⟨b, 0, none⟩ = some v0 ∧ w.cell? ⟨b, 1, none⟩ = some v1 ∧ w.cell? ⟨b, 2, none⟩ = some v2 ∧ w.cell? ⟨b, 3, none⟩ = some v3 ∧ w.cell? ⟨b, 4, none⟩ = some v4 ∧ w.cell? ⟨b, 5, none⟩ = some v5 ∧ ∀ j, w.frozen? ⟨b, j, none⟩ = false := six_cells h

/-- A mix and another value are returned; the mix lies in new memory. -/
def MixB (x : Mx) (v : Value) (w : World) (e : Ending) (w' : World) : Prop :=
  ∃ A c B d, e = .returned (.tuple #[.agg #[.int .i64 x.sec, .slice A x.seen.length c, .slice B x.pool.length d], v]) ∧ MixR w.heap.size w'.heap.size w' A x.seen.length c B x.pool.length d x ∧ Below w.heap.size w w'
/-- .. it is the caller's own, and its keys can be appended to. -/
def MixS (x : Mx) (v : Value) (w : World) (e : Ending) (w' : World) : Prop :=
  ∃ A c B d, e = .returned (.tuple #[.agg #[.int .i64 x.sec, .slice A x.seen.length c, .slice B x.pool.length d], v]) ∧ MixD w.heap.size w' A c B d x ∧ Below w.heap.size w w'
theorem MixS.b {x : Mx} {v : Value} {w : World} {e : Ending} {w' : World} (h : MixS x v w e w') : MixB x v w e w' := by
  obtain ⟨A, c, B, d, rfl, h1, h2⟩ := h
  exact ⟨A, c, B, d, rfl, h1.mix, h2⟩
theorem mixS_zero {w w' : World} (v : Value) (hb : Below w.heap.size w w') : MixS Mx.zero v w (.returned (.tuple #[.agg #[.int .i64 0, .slice none 0 0, .slice none 0 0], v])) w' :=
  ⟨none, 0, none, 0, rfl, mixD_empty rfl (Nat.zero_le _), hb⟩
theorem mix_zero {w w' : World} (v : Value) (hb : Below w.heap.size w w') : MixB Mx.zero v w (.returned (.tuple #[.agg #[.int .i64 0, .slice none 0 0, .slice none 0 0], v])) w' :=
  ⟨none, 0, none, 0, rfl, ⟨Ints.nil_ (Nat.zero_le _), Pool.nil_ (Nat.zero_le _)⟩, hb⟩

/-- The first k numbers are not x. -/
def lacksTo (xs : List Int) (x : Int) (k : Nat) : Prop := ∀ i, i < k → ¬ xs.getD i 0 = x
theorem lacks_succ {xs : List Int} {x : Int} {k : Nat} (h : lacksTo xs x k) (h2 : ¬ xs.getD k 0 = x) : lacksTo xs x (k + 1) := fun i hi => by
  rcases Nat.lt_or_ge i k with h3 | h3
  · exact h i h3
  · obtain rfl : i = k := by omega
    exact h2
theorem lacks_all {xs : List Int} {x : Int} {n : Nat} (hl : xs.length = n) (h : lacksTo xs x n) : has xs x = false := by
  cases hc : has xs x
  · rfl
  · obtain ⟨i, hi, e⟩ := List.getElem_of_mem (has_iff.1 hc)
    refine absurd ?_ (h i (by omega))
    rw [List.getD_eq_getElem?_getD, List.getElem?_eq_getElem hi, e]; rfl
theorem has_at {xs : List Int} {x : Int} {k : Nat} (hk : k < xs.length) (e : xs.getD k 0 = x) : has xs x = true := by
  rw [has_iff, ← e, List.getD_eq_getElem?_getD, List.getElem?_eq_getElem hk]
  exact List.getElem_mem hk


def newM (s : Int) : Mx := bif inG s then ⟨s, [], []⟩ else Mx.zero


theorem seen_succ {xs : List Int} {k : Nat} (h : ∀ i, i < k → seenAt xs i = true) (h2 : seenAt xs k = true) : ∀ i, i < k + 1 → seenAt xs i = true := fun i hi => by
  rcases Nat.lt_or_ge i k with h3 | h3
  · exact h i h3
  · obtain rfl : i = k := by omega
    exact h2
theorem pool_succ {ps : List Pld} {k : Nat} (h : ∀ i, i < k → pldOk (pldAt ps i) = true) (h2 : pldOk (pldAt ps k) = true) : ∀ i, i < k + 1 → pldOk (pldAt ps i) = true := fun i hi => by
  rcases Nat.lt_or_ge i k with h3 | h3
  · exact h i h3
  · obtain rfl : i = k := by omega
    exact h2
theorem pool_all {ps : List Pld} {n : Nat} (hl : ps.length = n) (h : ∀ i, i < n → pldOk (pldAt ps i) = true) : poolOk ps = true := by
  unfold poolOk
  rw [List.all_eq_true]
  intro x hx
  obtain ⟨i, hi, e⟩ := List.getElem_of_mem hx
  have := h i (by omega)
  unfold pldAt at this
  rw [List.getD_eq_getElem?_getD, List.getElem?_eq_getElem hi, e] at this
  exact this
theorem pool_no {ps : List Pld} {i : Nat} (hi : i < ps.length) (h : pldOk (pldAt ps i) = false) : poolOk ps = false := by
  cases hb : poolOk ps
  · rfl
  · unfold poolOk at hb
    rw [List.all_eq_true] at hb
    have := hb (ps[i]) (List.getElem_mem hi)
    unfold pldAt at h
    rw [List.getD_eq_getElem?_getD, List.getElem?_eq_getElem hi] at h
    rw [show pldOk ((some ps[i]).getD Pld.zero) = pldOk ps[i] from rfl, this] at h
    cases h
theorem mix_no {m : Mx} (h : inG m.sec = false ∨ seenB m.seen = false ∨ ¬ m.seen.length ≤ 12 ∨ poolOk m.pool = false ∨ ¬ m.pool.length ≤ 5) : mixOk m = false := by
  cases hb : mixOk m
  · rfl
  · obtain ⟨h1, h2, h3, h4, h5⟩ := mixOk_iff.1 hb
    rw [h1, h2, h4] at h
    rcases h with h | h | h | h | h
    · cases h
    · cases h
    · omega
    · cases h
    · omega


end Sp6
end Go.Proofs.Ytljfhddgifacnaa
