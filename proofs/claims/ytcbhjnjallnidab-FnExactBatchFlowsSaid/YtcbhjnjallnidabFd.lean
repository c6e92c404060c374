/-
  Rows of impl.Flow that are written. Nothing of any program but the type's numbers.
-/
import Derived.Test.YtcbhjnjallnidabFc
namespace Go.Proofs.Ytcbhjnjallnidab
open Go.RowKit
namespace Fc
open Il Sl

theorem rowO_set {lo hi b off n c sz i : Nat} {w : World} {vs : List Value} (h : RowO lo hi w (some ⟨b, off, none⟩) n c sz vs) (hi' : i < n * sz) (v : Value) :
    RowO lo hi (w.setCell ⟨b, off + i, none⟩ v) (some ⟨b, off, none⟩) n c sz (vs.set i v) := by
  have hl := h.1.1
  have hn : 0 < n := by
    rcases Nat.eq_zero_or_pos n with rfl | h
    · omega
    · exact h
  obtain ⟨b', off', e, hb, hb', hz, hc⟩ := h.1.2.2.2 hn
  simp only [Option.some.injEq, Addr.mk.injEq, and_true] at e
  obtain ⟨rfl, rfl⟩ := e
  refine ⟨⟨by rw [List.length_set]; exact hl, h.1.2.1, h.1.2.2.1, fun _ => ⟨b, off, rfl, hb, hb', by simpa [World.setCell] using hz, fun j u hj => ?_⟩⟩, fun b2 off2 hn e j hj => ?_⟩
  · have hjl : j < vs.length := by
      have := (List.getElem?_eq_some_iff.1 hj).1
      rwa [List.length_set] at this
    by_cases hji : j = i
    · subst hji
      rw [List.getElem?_set_self hjl] at hj
      rw [World.cell?_setCell_same _ _ _ (hc j _ (List.getElem?_eq_getElem hjl))]
      exact hj
    · rw [List.getElem?_set_ne (by omega)] at hj
      rw [World.cell?_setCell_other w _ _ _ (by simp only [ne_eq, Addr.mk.injEq, true_and, and_true]; omega)]
      exact hc j u hj
  · simp only [Option.some.injEq, Addr.mk.injEq, and_true] at e
    obtain ⟨rfl, rfl⟩ := e
    rw [World.frozen?_setCell]
    exact h.2 b off hn rfl j hj
theorem flat_set1 {v : Value} (y : Fl) {j : Nat} (hj : j < 3) : ∀ (xs : List Fl) (k : Nat), k < xs.length → y.cells = (flAt xs k).cells.set j v → (xs.flatMap Fl.cells).set (k * 3 + j) v = (xs.set k y).flatMap Fl.cells
  | [], k, hk, _ => absurd hk (by simp)
  | x :: xs, 0, _, hy => by
    have hx : flAt (x :: xs) 0 = x := rfl
    rw [hx] at hy
    rw [List.set_cons_zero, List.flatMap_cons, List.flatMap_cons, hy, List.set_append_left _ _ (by rw [cells_len]; omega)]
    simp
  | x :: xs, k + 1, hk, hy => by
    rw [List.set_cons_succ, List.flatMap_cons, List.flatMap_cons, ← flat_set1 y hj xs k (by simpa using hk) hy, List.set_append_right _ _ (by rw [cells_len]; omega), cells_len, show (k + 1) * 3 + j - 3 = k * 3 + j by omega]
theorem flat_set3 {xs : List Fl} {k : Nat} (y : Fl) (hk : k < xs.length) :
    (((xs.flatMap Fl.cells).set (k * 3) (.int .i64 y.fr)).set (k * 3 + 1) (.int .i64 y.to)).set (k * 3 + 2) (.int .i64 y.nm) = (xs.set k y).flatMap Fl.cells := by
  induction xs generalizing k with
  | nil => simp at hk
  | cons x xs ih =>
    cases k with
    | zero => rw [List.set_cons_zero, List.flatMap_cons, List.flatMap_cons]; rfl
    | succ k =>
      rw [List.set_cons_succ, List.flatMap_cons, List.flatMap_cons, ← ih (by simpa using hk)]
      rw [List.set_append_right _ _ (by rw [cells_len]; omega), List.set_append_right _ _ (by rw [cells_len]; omega), List.set_append_right _ _ (by rw [cells_len]; omega), cells_len]
      rw [show (k + 1) * 3 - 3 = k * 3 by omega, show (k + 1) * 3 + 1 - 3 = k * 3 + 1 by omega, show (k + 1) * 3 + 2 - 3 = k * 3 + 2 by omega]
/-- One field of one place is written. -/
theorem FlsO.set1 {lo hi b off n c k j : Nat} {w : World} {xs : List Fl} {v : Value} (h : FlsO lo hi w (some ⟨b, off, none⟩) n c xs) (hk : k < n) (y : Fl) (hj : j < 3) (hy : y.cells = (flAt xs k).cells.set j v) :
    FlsO lo hi (w.setCell ⟨b, off + (k * 3 + j), none⟩ v) (some ⟨b, off, none⟩) n c (xs.set k y) := by
  have hl := h.row_.len_
  unfold FlsO
  rw [← flat_set1 y hj xs k (by omega) hy]
  exact rowO_set h (by omega) v
/-- One place is written. -/
theorem FlsO.put {lo hi b off n c k : Nat} {w : World} {xs : List Fl} (h : FlsO lo hi w (some ⟨b, off, none⟩) n c xs) (hk : k < n) (y : Fl) :
    FlsO lo hi (((w.setCell ⟨b, off + k * 3, none⟩ (.int .i64 y.fr)).setCell ⟨b, off + k * 3 + 1, none⟩ (.int .i64 y.to)).setCell ⟨b, off + k * 3 + 2, none⟩ (.int .i64 y.nm)) (some ⟨b, off, none⟩) n c (xs.set k y) := by
  have hl := h.row_.len_
  unfold FlsO
  rw [← flat_set3 y (by omega)]
  have q1 := rowO_set h (i := k * 3) (by omega) (.int .i64 y.fr)
  have q2 := rowO_set q1 (i := k * 3 + 1) (by omega) (.int .i64 y.to)
  exact rowO_set q2 (i := k * 3 + 2) (by omega) (.int .i64 y.nm)
theorem FlsO.free {lo hi b off n c k : Nat} {w : World} {xs : List Fl} (h : FlsO lo hi w (some ⟨b, off, none⟩) n c xs) (hk : k < n) :
    w.frozen? ⟨b, off + k * 3, none⟩ = false ∧ w.frozen? ⟨b, off + k * 3 + 1, none⟩ = false ∧ w.frozen? ⟨b, off + k * 3 + 2, none⟩ = false := by
  refine ⟨h.2 b off (by omega) rfl (k * 3) (by omega), ?_, ?_⟩
  all_goals rw [Nat.add_assoc]; exact h.2 b off (by omega) rfl _ (by omega)

end Fc
end Go.Proofs.Ytcbhjnjallnidab
