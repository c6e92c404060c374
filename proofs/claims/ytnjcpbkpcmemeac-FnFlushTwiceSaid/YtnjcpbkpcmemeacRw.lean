/-
  Slices of structs in memory: cells that read as lists of values. Nothing of any program.
-/
import Derived.Test.YtnjcpbkpcmemeacIla
import Derived.ArgAppend
namespace Go.Proofs.Ytnjcpbkpcmemeac
open Go.RowKit
namespace Sl
open Il

/-- The slice A, of n places of sz cells each, holds vs; its block lies from lo on, below hi. -/
def Row (lo hi : Nat) (w : World) (A : Option Addr) (n c sz : Nat) (vs : List Value) : Prop :=
  vs.length = n * sz ∧ n ≤ c ∧ c ≤ maxLen ∧ (0 < n → ∃ b off, A = some ⟨b, off, none⟩ ∧ lo ≤ b ∧ b < hi ∧ b < w.heap.size ∧ ∀ j v, vs[j]? = some v → w.cell? ⟨b, off + j, none⟩ = some v)
/-- .. and its cells can be written. -/
def RowO (lo hi : Nat) (w : World) (A : Option Addr) (n c sz : Nat) (vs : List Value) : Prop :=
  Row lo hi w A n c sz vs ∧ ∀ b off, 0 < n → A = some ⟨b, off, none⟩ → ∀ j, j < n * sz → w.frozen? ⟨b, off + j, none⟩ = false

section
variable {lo hi lo' hi' : Nat} {w w' : World} {A : Option Addr} {n c sz : Nat} {vs : List Value}
theorem RowO.row (h : RowO lo hi w A n c sz vs) : Row lo hi w A n c sz vs := h.1
theorem Row.mono (h : Row lo hi w A n c sz vs) (h1 : lo' ≤ lo) (h2 : hi ≤ hi') : Row lo' hi' w A n c sz vs :=
  ⟨h.1, h.2.1, h.2.2.1, fun hn => by
    obtain ⟨b, off, e, hb, hb', hz, hc⟩ := h.2.2.2 hn
    exact ⟨b, off, e, by omega, by omega, hz, hc⟩⟩
theorem Row.keep (h : Row lo hi w A n c sz vs) (hs : w.heap.size ≤ w'.heap.size) (hk : ∀ b, lo ≤ b → b < hi → b < w.heap.size → w'.heap[b]? = w.heap[b]?) : Row lo hi w' A n c sz vs :=
  ⟨h.1, h.2.1, h.2.2.1, fun hn => by
    obtain ⟨b, off, e, hb, hb', hz, hc⟩ := h.2.2.2 hn
    exact ⟨b, off, e, hb, hb', by omega, fun j v hj => (World.cell?_of_block (hk b hb hb' hz)).trans (hc j v hj)⟩⟩
theorem RowO.keep (h : RowO lo hi w A n c sz vs) (hs : w.heap.size ≤ w'.heap.size) (hk : ∀ b, lo ≤ b → b < hi → b < w.heap.size → w'.heap[b]? = w.heap[b]?) : RowO lo hi w' A n c sz vs :=
  ⟨h.1.keep hs hk, fun b off hn e j hj => by
    obtain ⟨b', off', e', hb, hb', hz, _⟩ := h.1.2.2.2 hn
    have : b = b' := by rw [e'] at e; simp at e; exact e.1.symm
    subst this
    exact (World.frozen?_of_block (hk b hb hb' hz)).trans (h.2 b off hn e j hj)⟩
theorem Row.below {B : Nat} (h : Row lo hi w A n c sz vs) (hb : Below B w w') (hB : w.heap.size ≤ B) : Row lo hi w' A n c sz vs := h.keep hb.size fun b _ _ hz => hb.block b (by omega)
theorem RowO.below {B : Nat} (h : RowO lo hi w A n c sz vs) (hb : Below B w w') (hB : w.heap.size ≤ B) : RowO lo hi w' A n c sz vs := h.keep hb.size fun b _ _ hz => hb.block b (by omega)
theorem Row.top (h : Row lo hi w A n c sz vs) (hl : lo' ≤ lo) : Row lo' w.heap.size w A n c sz vs :=
  ⟨h.1, h.2.1, h.2.2.1, fun hn => by
    obtain ⟨b, off, e, h1, _, hz, hc⟩ := h.2.2.2 hn
    exact ⟨b, off, e, by omega, hz, hz, hc⟩⟩
theorem Row.nil_ (hc : c ≤ maxLen) : Row lo hi w A 0 c sz [] := ⟨by simp, Nat.zero_le _, hc, fun h => absurd h (by omega)⟩
theorem RowO.nil_ (hc : c ≤ maxLen) : RowO lo hi w A 0 c sz [] := ⟨Row.nil_ hc, fun _ _ h => absurd h (by omega)⟩
theorem Row.take {k : Nat} (h : Row lo hi w A n c sz vs) (hk : k ≤ n) : Row lo hi w A k c sz (vs.take (k * sz)) :=
  ⟨by rw [List.length_take, h.1]; exact Nat.min_eq_left (Nat.mul_le_mul_right _ hk), Nat.le_trans hk h.2.1, h.2.2.1, fun hn => by
    obtain ⟨b, off, e, hb, hb', hz, hc⟩ := h.2.2.2 (by omega)
    refine ⟨b, off, e, hb, hb', hz, fun j v hj => hc j v ?_⟩
    have hjl : j < k * sz := by
      have := (List.getElem?_eq_some_iff.1 hj).1
      rw [List.length_take] at this; omega
    rwa [List.getElem?_take_of_lt hjl] at hj⟩
/-- What a row of the call's own holds. -/
theorem row_of {e : TypeId} {v : Value} (h : w.ownsRow lo e sz v n vs) : ∃ A c, v = .slice A n c ∧ RowO lo w.heap.size w A n c sz vs := by
  have hl : vs.length = n * sz := h.1
  rcases h.2 with ⟨rfl, rfl⟩ | ⟨g, cap, cur, rfl, hg, hh, hnc, hm, hs, ht⟩
  · have : vs = [] := List.eq_nil_of_length_eq_zero (by omega)
    subst this
    exact ⟨none, 0, rfl, RowO.nil_ (Nat.zero_le _)⟩
  · have hz : g < w.heap.size := (Array.getElem?_eq_some_iff.1 hh).1
    refine ⟨_, cap, rfl, ⟨hl, hnc, hm, fun _ => ⟨g, 0, rfl, hg, hz, hz, fun j v hj => ?_⟩⟩, fun b off _ e j _ => ?_⟩
    · rw [Nat.zero_add, cell_of_row w g j cur e (0, 0) hh]
      have hjl := (List.getElem?_eq_some_iff.1 hj).1
      rw [← ht, List.getElem?_take_of_lt (by omega), Array.getElem?_toList] at hj
      exact hj
    · simp at e
      obtain ⟨rfl, rfl⟩ := e
      simp [World.frozen?, hh]
end

theorem flat_len {α : Type} {f : α → List Value} {sz : Nat} (hf : ∀ x, (f x).length = sz) (xs : List α) : (xs.flatMap f).length = xs.length * sz := by
  induction xs with
  | nil => simp
  | cons x xs ih => rw [List.flatMap_cons, List.length_append, hf, ih, List.length_cons, Nat.add_mul]; omega
theorem flat_at {α : Type} {f : α → List Value} {sz : Nat} (hf : ∀ x, (f x).length = sz) {xs : List α} {i k : Nat} {x : α} (hx : xs[i]? = some x) (hk : k < sz) : (xs.flatMap f)[i * sz + k]? = (f x)[k]? := by
  induction xs generalizing i with
  | nil => simp at hx
  | cons y ys ih =>
    rw [List.flatMap_cons]
    cases i with
    | zero =>
      simp only [List.getElem?_cons_zero, Option.some.injEq] at hx
      subst hx
      rw [Nat.zero_mul, Nat.zero_add, List.getElem?_append_left (by rw [hf]; exact hk)]
    | succ i =>
      rw [List.getElem?_cons_succ] at hx
      rw [List.getElem?_append_right (by rw [hf, Nat.add_mul]; omega), hf]
      have : (i + 1) * sz + k - sz = i * sz + k := by rw [Nat.add_mul]; omega
      rw [this]
      exact ih hx
theorem flat_take {α : Type} {f : α → List Value} {sz : Nat} (hf : ∀ x, (f x).length = sz) (xs : List α) (k : Nat) : (xs.take k).flatMap f = (xs.flatMap f).take (k * sz) := by
  induction xs generalizing k with
  | nil => simp
  | cons y ys ih =>
    cases k with
    | zero => simp
    | succ k =>
      rw [List.take_succ_cons, List.flatMap_cons, List.flatMap_cons, ih, List.take_append, hf, List.take_of_length_le (l := f y) (by rw [hf, Nat.add_mul]; omega)]
      have : (k + 1) * sz - sz = k * sz := by rw [Nat.add_mul]; omega
      rw [this]
theorem flat_drop {α : Type} {f : α → List Value} {sz : Nat} (hf : ∀ x, (f x).length = sz) (xs : List α) (k : Nat) : (xs.drop k).flatMap f = (xs.flatMap f).drop (k * sz) := by
  induction xs generalizing k with
  | nil => simp
  | cons y ys ih =>
    cases k with
    | zero => simp
    | succ k =>
      rw [List.drop_succ_cons, List.flatMap_cons, ih, List.drop_append, hf, List.drop_of_length_le (l := f y) (by rw [hf, Nat.add_mul]; omega)]
      have : (k + 1) * sz - sz = k * sz := by rw [Nat.add_mul]; omega
      rw [this, List.nil_append]

end Sl
end Go.Proofs.Ytnjcpbkpcmemeac
