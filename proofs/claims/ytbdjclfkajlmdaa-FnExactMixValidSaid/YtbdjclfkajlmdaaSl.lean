/-
  Slices of structs in memory: cells that read as lists of values; pools of peeled packets. Nothing of any program.
-/
import Derived.Test.YtbdjclfkajlmdaaPq
import Derived.Test.YtbdjclfkajlmdaaHla
namespace Go.Proofs.Ytbdjclfkajlmdaa
open Go.RowKit
namespace Sl
open Il Pm Pq Hlp5

/-- The slice A, of n places of sz cells each, holds vs; its block lies from lo on, below hi. -/
def Row (lo hi : Nat) (w : World) (A : Option Addr) (n c sz : Nat) (vs : List Value) : Prop :=
  vs.length = n * sz ∧ n ≤ c ∧ c ≤ maxLen ∧ (0 < n → ∃ b off, A = some ⟨b, off, none⟩ ∧ lo ≤ b ∧ b < hi ∧ b < w.heap.size ∧ ∀ j v, vs[j]? = some v → w.cell? ⟨b, off + j, none⟩ = some v)
/-- .. and its cells can be written. -/
def RowO (lo hi : Nat) (w : World) (A : Option Addr) (n c sz : Nat) (vs : List Value) : Prop :=
  Row lo hi w A n c sz vs ∧ ∀ b off, 0 < n → A = some ⟨b, off, none⟩ → ∀ j, j < n * sz → w.frozen? ⟨b, off + j, none⟩ = false

section
variable {lo hi lo' hi' : Nat} {w w' : World} {A : Option Addr} {n c sz : Nat} {vs : List Value}
theorem RowO.row (h : RowO lo hi w A n c sz vs) : Row lo hi w A n c sz vs := h.1
theorem Row.mono (h : Row lo hi w A n c sz vs) (h1 : lo' ≤ lo) (h2 : hi ≤ hi') : Row lo' hi' w A n c sz vs :=
  ⟨h.1, h.2.1, h.2.2.1, fun hn => by
    obtain ⟨b, off, e, hb, hb', hz, hc⟩ := h.2.2.2 hn
    exact ⟨b, off, e, by omega, by omega, hz, hc⟩⟩
theorem Row.keep (h : Row lo hi w A n c sz vs) (hs : w.heap.size ≤ w'.heap.size) (hk : ∀ b, lo ≤ b → b < hi → b < w.heap.size → w'.heap[b]? = w.heap[b]?) : Row lo hi w' A n c sz vs :=
  ⟨h.1, h.2.1, h.2.2.1, fun hn => by
    obtain ⟨b, off, e, hb, hb', hz, hc⟩ := h.2.2.2 hn
    exact ⟨b, off, e, hb, hb', by omega, fun j v hj => (World.cell?_of_block (hk b hb hb' hz)).trans (hc j v hj)⟩⟩
theorem RowO.keep (h : RowO lo hi w A n c sz vs) (hs : w.heap.size ≤ w'.heap.size) (hk : ∀ b, lo ≤ b → b < hi → b < w.heap.size → w'.heap[b]? = w.heap[b]?) : RowO lo hi w' A n c sz vs :=
  ⟨h.1.keep hs hk, fun b off hn e j hj => by
    obtain ⟨b', off', e', hb, hb', hz, _⟩ := h.1.2.2.2 hn
    have : b = b' := by rw [e'] at e; simp at e; exact e.1.symm
    subst this
    exact (World.frozen?_of_block (hk b hb hb' hz)).trans (h.2 b off hn e j hj)⟩
theorem Row.below {B : Nat} (h : Row lo hi w A n c sz vs) (hb : Below B w w') (hB : w.heap.size ≤ B) : Row lo hi w' A n c sz vs := h.keep hb.size fun b _ _ hz => hb.block b (by omega)
theorem RowO.below {B : Nat} (h : RowO lo hi w A n c sz vs) (hb : Below B w w') (hB : w.heap.size ≤ B) : RowO lo hi w' A n c sz vs := h.keep hb.size fun b _ _ hz => hb.block b (by omega)
theorem Row.top (h : Row lo hi w A n c sz vs) (hl : lo' ≤ lo) : Row lo' w.heap.size w A n c sz vs :=
  ⟨h.1, h.2.1, h.2.2.1, fun hn => by
    obtain ⟨b, off, e, h1, _, hz, hc⟩ := h.2.2.2 hn
    exact ⟨b, off, e, by omega, hz, hz, hc⟩⟩
theorem Row.nil_ (hc : c ≤ maxLen) : Row lo hi w A 0 c sz [] := ⟨by simp, Nat.zero_le _, hc, fun h => absurd h (by omega)⟩
theorem RowO.nil_ (hc : c ≤ maxLen) : RowO lo hi w A 0 c sz [] := ⟨Row.nil_ hc, fun _ _ h => absurd h (by omega)⟩
theorem Row.take {k : Nat} (h : Row lo hi w A n c sz vs) (hk : k ≤ n) : Row lo hi w A k c sz (vs.take (k * sz)) :=
  ⟨by rw [List.length_take, h.1]; exact Nat.min_eq_left (Nat.mul_le_mul_right _ hk), Nat.le_trans hk h.2.1, h.2.2.1, fun hn => by
    obtain ⟨b, off, e, hb, hb', hz, hc⟩ := h.2.2.2 (by omega)
    refine ⟨b, off, e, hb, hb', hz, fun j v hj => hc j v ?_⟩
    have hjl : j < k * sz := by
      have := (List.getElem?_eq_some_iff.1 hj).1
      rw [List.length_take] at this; omega
    rwa [List.getElem?_take_of_lt hjl] at hj⟩
/-- What a row of the call's own holds. -/
theorem row_of {e : TypeId} {v : Value} (h : w.ownsRow lo e sz v n vs) : ∃ A c, v = .slice A n c ∧ RowO lo w.heap.size w A n c sz vs := by
  have hl : vs.length = n * sz := h.1
  rcases h.2 with ⟨rfl, rfl⟩ | ⟨g, cap, cur, rfl, hg, hh, hnc, hm, hs, ht⟩
  · have : vs = [] := List.eq_nil_of_length_eq_zero (by omega)
    subst this
    exact ⟨none, 0, rfl, RowO.nil_ (Nat.zero_le _)⟩
  · have hz : g < w.heap.size := (Array.getElem?_eq_some_iff.1 hh).1
    refine ⟨_, cap, rfl, ⟨hl, hnc, hm, fun _ => ⟨g, 0, rfl, hg, hz, hz, fun j v hj => ?_⟩⟩, fun b off _ e j _ => ?_⟩
    · rw [Nat.zero_add, cell_of_row w g j cur e (0, 0) hh]
      have hjl := (List.getElem?_eq_some_iff.1 hj).1
      rw [← ht, List.getElem?_take_of_lt (by omega), Array.getElem?_toList] at hj
      exact hj
    · simp at e
      obtain ⟨rfl, rfl⟩ := e
      simp [World.frozen?, hh]
end

theorem flat_len {α : Type} {f : α → List Value} {sz : Nat} (hf : ∀ x, (f x).length = sz) (xs : List α) : (xs.flatMap f).length = xs.length * sz := by
  induction xs with
  | nil => simp
  | cons x xs ih => rw [List.flatMap_cons, List.length_append, hf, ih, List.length_cons, Nat.add_mul]; omega
theorem flat_at {α : Type} {f : α → List Value} {sz : Nat} (hf : ∀ x, (f x).length = sz) {xs : List α} {i k : Nat} {x : α} (hx : xs[i]? = some x) (hk : k < sz) : (xs.flatMap f)[i * sz + k]? = (f x)[k]? := by
  induction xs generalizing i with
  | nil => simp at hx
  | cons y ys ih =>
    rw [List.flatMap_cons]
    cases i with
    | zero =>
      simp only [List.getElem?_cons_zero, Option.some.injEq] at hx
      subst hx
      rw [Nat.zero_mul, Nat.zero_add, List.getElem?_append_left (by rw [hf]; exact hk)]
    | succ i =>
      rw [List.getElem?_cons_succ] at hx
      rw [List.getElem?_append_right (by rw [hf, Nat.add_mul]; omega), hf]
      have : (i + 1) * sz + k - sz = i * sz + k := by rw [Nat.add_mul]; omega
      rw [this]
      exact ih hx
theorem flat_take {α : Type} {f : α → List Value} {sz : Nat} (hf : ∀ x, (f x).length = sz) (xs : List α) (k : Nat) : (xs.take k).flatMap f = (xs.flatMap f).take (k * sz) := by
  induction xs generalizing k with
  | nil => simp
  | cons y ys ih =>
    cases k with
    | zero => simp
    | succ k =>
      rw [List.take_succ_cons, List.flatMap_cons, List.flatMap_cons, ih, List.take_append, hf, List.take_of_length_le (l := f y) (by rw [hf, Nat.add_mul]; omega)]
      have : (k + 1) * sz - sz = k * sz := by rw [Nat.add_mul]; omega
      rw [this]
theorem flat_drop {α : Type} {f : α → List Value} {sz : Nat} (hf : ∀ x, (f x).length = sz) (xs : List α) (k : Nat) : (xs.drop k).flatMap f = (xs.flatMap f).drop (k * sz) := by
  induction xs generalizing k with
  | nil => simp
  | cons y ys ih =>
    cases k with
    | zero => simp
    | succ k =>
      rw [List.drop_succ_cons, List.flatMap_cons, ih, List.drop_append, hf, List.drop_of_length_le (l := f y) (by rw [hf, Nat.add_mul]; omega)]
      have : (k + 1) * sz - sz = k * sz := by rw [Nat.add_mul]; omega
      rw [this, List.nil_append]

/-- A peeled packet with its two slices, and the blocks that they lie in (where that is asked). -/
structure Slot where
  p : Pld
  A : Option Addr
  c : Nat
  B : Option Addr
  d : Nat
  h : Nat
  g : Nat
def Slot.cells (s : Slot) : List Value := [.int .i64 s.p.kind, .int .i64 s.p.next, .int .i64 s.p.pk.el, .slice s.A s.p.pk.hd.length s.c, .int .i64 s.p.pk.tag, .slice s.B s.p.pk.bd.length s.d]
theorem cells_len (s : Slot) : s.cells.length = 6 := rfl
def SlotR (lo hi : Nat) (w : World) (s : Slot) : Prop := Ints lo hi w s.A s.p.pk.hd.length s.c s.p.pk.hd ∧ Ints lo hi w s.B s.p.pk.bd.length s.d s.p.pk.bd
/-- A pool of peeled packets that can be read; all of it lies from lo on, below hi. -/
def Pool (lo hi : Nat) (w : World) (A : Option Addr) (n c : Nat) (ps : List Pld) : Prop :=
  ∃ ss : List Slot, ss.map (·.p) = ps ∧ Row lo hi w A n c 6 (ss.flatMap Slot.cells) ∧ ∀ s ∈ ss, SlotR lo hi w s

section
variable {lo hi lo' hi' : Nat} {w w' : World} {A : Option Addr} {n c : Nat} {ps : List Pld}
theorem SlotR.keep {s : Slot} (h : SlotR lo hi w s) (hs : w.heap.size ≤ w'.heap.size) (hk : ∀ b, lo ≤ b → b < hi → b < w.heap.size → w'.heap[b]? = w.heap[b]?) : SlotR lo hi w' s := ⟨h.1.keep hs hk, h.2.keep hs hk⟩
theorem Pool.keep (h : Pool lo hi w A n c ps) (hs : w.heap.size ≤ w'.heap.size) (hk : ∀ b, lo ≤ b → b < hi → b < w.heap.size → w'.heap[b]? = w.heap[b]?) : Pool lo hi w' A n c ps := by
  obtain ⟨ss, h1, h2, h3⟩ := h
  exact ⟨ss, h1, h2.keep hs hk, fun s hs' => (h3 s hs').keep hs hk⟩
theorem Pool.mono (h : Pool lo hi w A n c ps) (h1 : lo' ≤ lo) (h2 : hi ≤ hi') : Pool lo' hi' w A n c ps := by
  obtain ⟨ss, e1, e2, e3⟩ := h
  exact ⟨ss, e1, e2.mono h1 h2, fun s hs => ⟨(e3 s hs).1.mono h1 h2, (e3 s hs).2.mono h1 h2⟩⟩
theorem Pool.below {B : Nat} (h : Pool lo hi w A n c ps) (hb : Below B w w') (hB : w.heap.size ≤ B) : Pool lo hi w' A n c ps := h.keep hb.size fun b _ _ hz => hb.block b (by omega)
theorem Pool.kept {l2 h2 : Nat} (h : Pool lo hi w A n c ps) (hk : Kept l2 h2 w w') (hd : hi ≤ l2 ∨ h2 ≤ lo) : Pool lo hi w' A n c ps := h.keep (Nat.le_of_eq hk.size.symm) fun b h1 h2 _ => hk.block b (by omega)
theorem Pool.grown {row : Option Nat} (h : Pool lo hi w A n c ps) (hg : w.grownBy w' row) (hr : ∀ k, row = some k → k < lo ∨ hi ≤ k) : Pool lo hi w' A n c ps :=
  h.keep hg.size fun b h1 h2 hz => hg.block b hz (fun e => by have := hr b e.symm; omega)
theorem Pool.drewN (h : Pool lo hi w A n c ps) (d : Nat) : Pool lo hi (w.drewN d) A n c ps := h
theorem ints_top' {xs : List Int} (h : Ints lo hi w A n c xs) (hl : lo' ≤ lo) : Ints lo' w.heap.size w A n c xs :=
  ⟨h.1, h.2.1, h.2.2.1, fun hn => by
    obtain ⟨b, off, e, h1, _, hz, hc⟩ := h.2.2.2 hn
    exact ⟨b, off, e, by omega, hz, hz, hc⟩⟩
theorem Pool.top (h : Pool lo hi w A n c ps) (hl : lo' ≤ lo) : Pool lo' w.heap.size w A n c ps := by
  obtain ⟨ss, e1, e2, e3⟩ := h
  exact ⟨ss, e1, e2.top hl, fun s hs => ⟨ints_top' (e3 s hs).1 hl, ints_top' (e3 s hs).2 hl⟩⟩
theorem Pool.len_ (h : Pool lo hi w A n c ps) : ps.length = n := by
  obtain ⟨ss, rfl, h2, _⟩ := h
  have := h2.1
  rw [flat_len cells_len] at this
  rw [List.length_map]; omega
theorem Pool.cap_ (h : Pool lo hi w A n c ps) : n ≤ c := by
  obtain ⟨ss, _, h2, _⟩ := h
  exact h2.2.1
theorem Pool.max_ (h : Pool lo hi w A n c ps) : c ≤ maxLen := by
  obtain ⟨ss, _, h2, _⟩ := h
  exact h2.2.2.1
theorem Pool.nil_ (hc : c ≤ maxLen) : Pool lo hi w A 0 c [] := ⟨[], rfl, Row.nil_ hc, fun _ h => by simp at h⟩
theorem Pool.take {k : Nat} (h : Pool lo hi w A n c ps) (hk : k ≤ n) : Pool lo hi w A k c (ps.take k) := by
  obtain ⟨ss, rfl, h2, h3⟩ := h
  exact ⟨ss.take k, by rw [List.map_take], by rw [flat_take cells_len]; exact h2.take hk, fun s hs => h3 s (List.mem_of_mem_take hs)⟩

def pldAt (ps : List Pld) (k : Nat) : Pld := ps.getD k Pld.zero
/-- One place of a pool. -/
theorem Pool.at_ {k : Nat} (h : Pool lo hi w A n c ps) (hk : k < n) : ∃ b off H e G f, A = some ⟨b, off, none⟩ ∧ lo ≤ b ∧ b < hi ∧
    w.cell? ⟨b, off + k * 6, none⟩ = some (.int .i64 (pldAt ps k).kind) ∧ w.cell? ⟨b, off + k * 6 + 1, none⟩ = some (.int .i64 (pldAt ps k).next) ∧ w.cell? ⟨b, off + k * 6 + 2, none⟩ = some (.int .i64 (pldAt ps k).pk.el) ∧
    w.cell? ⟨b, off + k * 6 + 3, none⟩ = some (.slice H (pldAt ps k).pk.hd.length e) ∧ w.cell? ⟨b, off + k * 6 + 4, none⟩ = some (.int .i64 (pldAt ps k).pk.tag) ∧ w.cell? ⟨b, off + k * 6 + 5, none⟩ = some (.slice G (pldAt ps k).pk.bd.length f) ∧
    Ints lo hi w H (pldAt ps k).pk.hd.length e (pldAt ps k).pk.hd ∧ Ints lo hi w G (pldAt ps k).pk.bd.length f (pldAt ps k).pk.bd := by
  have hl := h.len_
  obtain ⟨ss, rfl, h2, h3⟩ := h
  rw [List.length_map] at hl
  have hx : ss[k]? = some (ss[k]'(by omega)) := List.getElem?_eq_getElem (by omega)
  have hp : pldAt (ss.map (·.p)) k = (ss[k]'(by omega)).p := by
    unfold pldAt
    rw [List.getD_eq_getElem?_getD, List.getElem?_map, hx]; rfl
  obtain ⟨b, off, rfl, hb, hb', hz, hc⟩ := h2.2.2.2 (by omega)
  have hm := h3 _ (List.mem_of_getElem? hx)
  rw [hp]
  generalize ss[k]'(by omega) = s at *
  have hcell : ∀ i v, i < 6 → s.cells[i]? = some v → w.cell? ⟨b, off + k * 6 + i, none⟩ = some v := fun i v hi hv => by
    rw [Nat.add_assoc]
    exact hc _ v (by rw [flat_at cells_len hx hi]; exact hv)
  exact ⟨b, off, s.A, s.c, s.B, s.d, rfl, hb, hb', hcell 0 _ (by omega) rfl, hcell 1 _ (by omega) rfl, hcell 2 _ (by omega) rfl, hcell 3 _ (by omega) rfl, hcell 4 _ (by omega) rfl, hcell 5 _ (by omega) rfl, hm.1, hm.2⟩
end

/-- A mix's data. -/
structure Mx where
  sec : Int
  seen : List Int
  pool : List Pld
def Mx.zero : Mx := ⟨0, [], []⟩
/-- A mix that can be read. -/
def MixR (lo hi : Nat) (w : World) (A : Option Addr) (n c : Nat) (B : Option Addr) (m d : Nat) (x : Mx) : Prop := Ints lo hi w A n c x.seen ∧ Pool lo hi w B m d x.pool

end Sl
end Go.Proofs.Ytbdjclfkajlmdaa
