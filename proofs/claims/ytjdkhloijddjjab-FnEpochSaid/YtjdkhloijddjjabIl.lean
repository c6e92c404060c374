/-
  Slices of ints in memory that read as lists: in an older block, or owned by the call. Nothing of any program.
-/
import Derived.WalkKit
import Derived.Below
import Derived.Laws.OwnMore
import Derived.Laws.AppendOwn
import Derived.Laws.Rows
import Derived.Lib.Hide
import Derived.OpenShut
import Derived.Deep.QuietTactic
import Derived.Deep.Draws
import Derived.Deep.OwnRows
import Derived.Laws.MakeOwn
namespace Go.Proofs.Ytjdkhloijddjjab
open Go.RowKit
namespace Il

theorem below_of_grown {w0 w : World} (h : w0.grownBy w none) : Below w0.heap.size w0 w := ⟨h.os, h.tape, h.output, h.size, fun k hk => h.block k hk (by simp)⟩
theorem grown_of_below {w0 w : World} {row : Option Nat} (h : Below w0.heap.size w0 w) : w0.grownBy w row := ⟨h.os, h.tape, h.output, h.size, fun k hk _ => h.block k hk⟩
theorem grown_alloc {a w : World} {row : Option Nat} (h : a.grownBy w row) (o : Obj) : a.grownBy (w.alloc o) row :=
  ⟨h.os, h.tape, h.output, Nat.le_trans h.size (by simp), fun i hi hne => (Below.heap_alloc w o i (Nat.lt_of_lt_of_le hi h.size)).trans (h.block i hi hne)⟩
theorem grown_trans {a b c : World} {row : Option Nat} (h : a.grownBy b row) (k : b.grownBy c row) : a.grownBy c row :=
  ⟨k.os.trans h.os, k.tape.trans h.tape, k.output.trans h.output, Nat.le_trans h.size k.size, fun i hi hne => (k.block i (Nat.lt_of_lt_of_le hi h.size) hne).trans (h.block i hi hne)⟩
/-- Writes to a block of the call's own do not count. -/
theorem grown_trans' {a b c : World} {row row2 : Option Nat} (h : a.grownBy b row) (k : b.grownBy c row2) (hr : ∀ g, row2 = some g → a.heap.size ≤ g) : a.grownBy c row :=
  ⟨k.os.trans h.os, k.tape.trans h.tape, k.output.trans h.output, Nat.le_trans h.size k.size, fun i hi hne => (k.block i (Nat.lt_of_lt_of_le hi h.size) (fun e => by have := hr i e.symm; omega)).trans (h.block i hi hne)⟩
theorem grown_below {a b : World} {rb : Nat} (h : a.grownBy b (some rb)) (hr : rb ≤ a.heap.size) : Below rb a b :=
  ⟨h.os, h.tape, h.output, h.size, fun i hi => h.block i (by omega) (by simp; omega)⟩

/-- The slice A, of n places and room for c, holds the numbers xs; its block lies from lo on, below hi. -/
def Ints (lo hi : Nat) (w : World) (A : Option Addr) (n c : Nat) (xs : List Int) : Prop :=
  xs.length = n ∧ n ≤ c ∧ c ≤ maxLen ∧ (0 < n → ∃ b off, A = some ⟨b, off, none⟩ ∧ lo ≤ b ∧ b < hi ∧ b < w.heap.size ∧ ∀ j, j < n → w.cell? ⟨b, off + j, none⟩ = some (.int .i64 (xs.getD j 0)))

/-- .. and its places can be written. -/
def Own (lo hi : Nat) (w : World) (A : Option Addr) (n c : Nat) (xs : List Int) : Prop :=
  Ints lo hi w A n c xs ∧ ∀ b off, 0 < n → A = some ⟨b, off, none⟩ → ∀ j, j < n → w.frozen? ⟨b, off + j, none⟩ = false

section
variable {lo hi lo' hi' : Nat} {w w' : World} {A : Option Addr} {n c : Nat} {xs : List Int}

theorem Own.ints (h : Own lo hi w A n c xs) : Ints lo hi w A n c xs := h.1
theorem Ints.mono (h : Ints lo hi w A n c xs) (h1 : lo' ≤ lo) (h2 : hi ≤ hi') : Ints lo' hi' w A n c xs :=
  ⟨h.1, h.2.1, h.2.2.1, fun hn => by
    obtain ⟨b, off, e, hb, hb', hz, hc⟩ := h.2.2.2 hn
    exact ⟨b, off, e, by omega, by omega, hz, hc⟩⟩
theorem Own.mono (h : Own lo hi w A n c xs) (h1 : lo' ≤ lo) (h2 : hi ≤ hi') : Own lo' hi' w A n c xs := ⟨h.1.mono h1 h2, h.2⟩
theorem Ints.keep (h : Ints lo hi w A n c xs) (hs : w.heap.size ≤ w'.heap.size) (hk : ∀ b, lo ≤ b → b < hi → b < w.heap.size → w'.heap[b]? = w.heap[b]?) : Ints lo hi w' A n c xs :=
  ⟨h.1, h.2.1, h.2.2.1, fun hn => by
    obtain ⟨b, off, e, hb, hb', hz, hc⟩ := h.2.2.2 hn
    exact ⟨b, off, e, hb, hb', by omega, fun j hj => (World.cell?_of_block (hk b hb hb' hz)).trans (hc j hj)⟩⟩
theorem Own.keep (h : Own lo hi w A n c xs) (hs : w.heap.size ≤ w'.heap.size) (hk : ∀ b, lo ≤ b → b < hi → b < w.heap.size → w'.heap[b]? = w.heap[b]?) : Own lo hi w' A n c xs :=
  ⟨h.1.keep hs hk, fun b off hn e j hj => by
    obtain ⟨b', off', e', hb, hb', hz, _⟩ := h.1.2.2.2 hn
    have : b = b' := by rw [e'] at e; simp at e; exact e.1.symm
    subst this
    exact (World.frozen?_of_block (hk b hb hb' hz)).trans (h.2 b off hn e j hj)⟩
theorem Ints.below {B : Nat} (h : Ints lo hi w A n c xs) (hb : Below B w w') (hB : w.heap.size ≤ B) : Ints lo hi w' A n c xs := h.keep hb.size fun b _ _ hz => hb.block b (by omega)
theorem Own.below {B : Nat} (h : Own lo hi w A n c xs) (hb : Below B w w') (hB : w.heap.size ≤ B) : Own lo hi w' A n c xs := h.keep hb.size fun b _ _ hz => hb.block b (by omega)
theorem Ints.below' {B : Nat} (h : Ints lo hi w A n c xs) (hb : Below B w w') (hB : hi ≤ B) : Ints lo hi w' A n c xs := h.keep hb.size fun b _ h2 _ => hb.block b (by omega)
theorem Own.below' {B : Nat} (h : Own lo hi w A n c xs) (hb : Below B w w') (hB : hi ≤ B) : Own lo hi w' A n c xs := h.keep hb.size fun b _ h2 _ => hb.block b (by omega)
/-- Behind writes to one block alone, which is another's. -/
theorem Ints.grown {row : Option Nat} (h : Ints lo hi w A n c xs) (hg : w.grownBy w' row) (hr : ∀ k, row = some k → k < lo ∨ hi ≤ k) : Ints lo hi w' A n c xs :=
  h.keep hg.size fun b h1 h2 hz => hg.block b hz (fun e => by have := hr b e.symm; omega)
theorem Own.grown {row : Option Nat} (h : Own lo hi w A n c xs) (hg : w.grownBy w' row) (hr : ∀ k, row = some k → k < lo ∨ hi ≤ k) : Own lo hi w' A n c xs :=
  h.keep hg.size fun b h1 h2 hz => hg.block b hz (fun e => by have := hr b e.symm; omega)
theorem Ints.drewN (h : Ints lo hi w A n c xs) (d : Nat) : Ints lo hi (w.drewN d) A n c xs := h
theorem Own.drewN (h : Own lo hi w A n c xs) (d : Nat) : Own lo hi (w.drewN d) A n c xs := h

theorem Ints.at_ {k : Nat} (h : Ints lo hi w A n c xs) (hk : k < n) : ∃ b off, A = some ⟨b, off, none⟩ ∧ lo ≤ b ∧ b < hi ∧ w.cell? ⟨b, off + k, none⟩ = some (.int .i64 (xs.getD k 0)) := by
  obtain ⟨b, off, e, hb, hb', _, hc⟩ := h.2.2.2 (by omega)
  exact ⟨b, off, e, hb, hb', hc k hk⟩

theorem Ints.take {k : Nat} (h : Ints lo hi w A n c xs) (hk : k ≤ n) : Ints lo hi w A k c (xs.take k) :=
  ⟨by rw [List.length_take, h.1]; omega, Nat.le_trans hk h.2.1, h.2.2.1, fun hn => by
    obtain ⟨b, off, e, hb, hb', hz, hc⟩ := h.2.2.2 (by omega)
    refine ⟨b, off, e, hb, hb', hz, fun j hj => ?_⟩
    rw [hc j (by omega), List.getD_eq_getElem?_getD, List.getD_eq_getElem?_getD, List.getElem?_take_of_lt hj]⟩
theorem Ints.len_ (h : Ints lo hi w A n c xs) : xs.length = n := h.1
theorem Ints.cap_ (h : Ints lo hi w A n c xs) : n ≤ c := h.2.1
theorem below_drew {B : Nat} (h : Below B w.drew w') : Below B w w' := ⟨h.os, h.tape, h.output, h.size, h.block⟩
theorem below_drewN {B d : Nat} (h : Below B (w.drewN d) w') : Below B w w' := ⟨h.os, h.tape, h.output, h.size, h.block⟩

theorem Ints.nil_ (hc : c ≤ maxLen) : Ints lo hi w A 0 c [] := ⟨rfl, Nat.zero_le _, hc, fun h => absurd h (by omega)⟩
theorem Own.nil_ (hc : c ≤ maxLen) : Own lo hi w A 0 c [] := ⟨Ints.nil_ hc, fun _ _ h => absurd h (by omega)⟩

/-- What a row of the call's own holds. -/
theorem own_of {e : TypeId} {v : Value} (h : w.ownsRow lo e 1 v n (xs.map (Value.int .i64))) : ∃ A c, v = .slice A n c ∧ Own lo w.heap.size w A n c xs := by
  have hl : xs.length = n := by simpa using h.1
  rcases h.2 with ⟨rfl, rfl⟩ | ⟨g, cap, cur, rfl, hg, hh, hnc, hm, hs, ht⟩
  · have : xs = [] := List.eq_nil_of_length_eq_zero hl
    subst this
    exact ⟨none, 0, rfl, Own.nil_ (Nat.zero_le _)⟩
  · have hz : g < w.heap.size := (Array.getElem?_eq_some_iff.1 hh).1
    refine ⟨_, cap, rfl, ⟨hl, hnc, hm, fun _ => ⟨g, 0, rfl, hg, hz, hz, fun j hj => ?_⟩⟩, fun b off _ e j _ => ?_⟩
    · rw [Nat.zero_add, cell_of_row w g j cur e (0, 0) hh]
      have h1 : (cur.toList.take (n * 1))[j]? = (xs.map (Value.int .i64))[j]? := by rw [ht]
      rw [List.getElem?_take_of_lt (by omega), Array.getElem?_toList] at h1
      rw [h1, List.getElem?_map, List.getElem?_eq_getElem (by omega), List.getD_eq_getElem?_getD, List.getElem?_eq_getElem (by omega)]
      rfl
    · simp at e
      obtain ⟨rfl, rfl⟩ := e
      simp [World.frozen?, hh]

/-- A slice of integers that came in. -/
def IsRow (k : IntKind) (w : World) (a : Option Addr) (len cap : Nat) (zs : List Int) : Prop :=
  (a = none ∧ len = 0 ∧ cap = 0 ∧ zs = []) ∨
  ∃ x, a = some x ∧ len ≤ cap ∧ cap ≤ maxLen ∧ zs.length = cap ∧ (∀ i, i < zs.length → w.cell? (x.add i) = some (.int k (zs.getD i 0))) ∧ ∀ n ∈ zs, (Lit.int k n).wf = true

theorem ints_of_row {zs : List Int} (h : IsRow .i64 w A n c zs) : Ints 0 w.heap.size w A n c (zs.take n) := by
  rcases h with ⟨rfl, rfl, rfl, rfl⟩ | ⟨x, rfl, hl, hm, hz, hcell, hwf⟩
  · exact Ints.nil_ (Nat.zero_le _)
  · refine ⟨by rw [List.length_take]; omega, hl, hm, fun hn => ?_⟩
    obtain ⟨b, off, spot⟩ := x
    have h0 := hcell 0 (by omega)
    have hs : spot = none := by simpa [Addr.add] using World.cell?_spot h0
    subst hs
    have hb : b < w.heap.size := by
      have := World.block_lt_of_cell? w _ h0
      simpa [Addr.add] using this
    refine ⟨b, off, rfl, Nat.zero_le _, hb, hb, fun j hj => ?_⟩
    have hc := hcell j (by omega)
    have e : (Addr.add ⟨b, off, none⟩ j) = ⟨b, off + j, none⟩ := by
      unfold Addr.add; split <;> simp_all
    rw [e] at hc
    rw [hc, List.getD_eq_getElem?_getD, List.getD_eq_getElem?_getD, List.getElem?_take_of_lt hj]

end

/-- Only blocks from lo on and below hi have been written; none has come or gone. -/
structure Kept (lo hi : Nat) (w w' : World) : Prop where
  os : w'.os = w.os
  tape : w'.tape = w.tape
  output : w'.output = w.output
  size : w'.heap.size = w.heap.size
  block : ∀ b, b < lo ∨ hi ≤ b → w'.heap[b]? = w.heap[b]?

theorem Kept.refl (lo hi : Nat) (w : World) : Kept lo hi w w := ⟨rfl, rfl, rfl, rfl, fun _ _ => rfl⟩
theorem Kept.set {lo hi : Nat} {w w' : World} (h : Kept lo hi w w') {p : Addr} (h1 : lo ≤ p.block) (h2 : p.block < hi) (v : Value) : Kept lo hi w (w'.setCell p v) :=
  ⟨h.os, h.tape, h.output, by rw [← h.size]; simp [World.setCell], fun b hb => (Below.heap_setCell w' p v b (by omega)).trans (h.block b hb)⟩
theorem Kept.drewN {lo hi : Nat} {w w' : World} (h : Kept lo hi w w') (d : Nat) : Kept lo hi w (w'.drewN d) := ⟨h.os, h.tape, h.output, h.size, h.block⟩
theorem Kept.below {lo hi B : Nat} {w w' : World} (h : Kept lo hi w w') (hB : B ≤ lo) : Below B w w' :=
  ⟨h.os, h.tape, h.output, Nat.le_of_eq h.size.symm, fun k hk => h.block k (by omega)⟩
theorem Ints.kept {lo hi lo' hi' : Nat} {w w' : World} {A : Option Addr} {n c : Nat} {xs : List Int} (h : Ints lo hi w A n c xs) (hk : Kept lo' hi' w w') (hd : hi ≤ lo' ∨ hi' ≤ lo) : Ints lo hi w' A n c xs :=
  h.keep (Nat.le_of_eq hk.size.symm) fun b h1 h2 _ => hk.block b (by omega)
theorem Own.kept {lo hi lo' hi' : Nat} {w w' : World} {A : Option Addr} {n c : Nat} {xs : List Int} (h : Own lo hi w A n c xs) (hk : Kept lo' hi' w w') (hd : hi ≤ lo' ∨ hi' ≤ lo) : Own lo hi w' A n c xs :=
  h.keep (Nat.le_of_eq hk.size.symm) fun b h1 h2 _ => hk.block b (by omega)

/-- One place is written. -/
theorem Own.set_ {lo hi : Nat} {w : World} {b off n c k : Nat} {xs : List Int} (h : Own lo hi w (some ⟨b, off, none⟩) n c xs) (hk : k < n) (v : Int) :
    Own lo hi (w.setCell ⟨b, off + k, none⟩ (.int .i64 v)) (some ⟨b, off, none⟩) n c (xs.set k v) := by
  have hl := h.1.1
  obtain ⟨b', off', e, hb, hb', hz, hc⟩ := h.1.2.2.2 (by omega)
  simp at e
  obtain ⟨rfl, rfl⟩ := e
  have hsz : (w.setCell ⟨b, off + k, none⟩ (.int .i64 v)).heap.size = w.heap.size := by simp [World.setCell]
  refine ⟨⟨by simpa using hl, h.1.2.1, h.1.2.2.1, fun hn => ⟨b, off, rfl, hb, hb', by rw [hsz]; exact hz, fun j hj => ?_⟩⟩, fun b2 off2 hn e j hj => ?_⟩
  · by_cases hjk : j = k
    · subst hjk
      rw [World.cell?_setCell_same _ _ _ (hc j hj)]
      rw [List.getD_eq_getElem?_getD, List.getElem?_set_self (by omega)]
      rfl
    · rw [World.cell?_setCell_other w _ _ _ (by simp only [ne_eq, Addr.mk.injEq, true_and, and_true]; omega), hc j hj]
      rw [List.getD_eq_getElem?_getD, List.getD_eq_getElem?_getD, List.getElem?_set_ne (by omega)]
  · simp at e
    obtain ⟨rfl, rfl⟩ := e
    rw [World.frozen?_setCell]
    exact h.2 b off hn rfl j hj

/-- make([]int, n). -/
theorem own_made (w : World) (e : TypeId) (n : Nat) (hn : n ≤ maxLen) :
    Own w.heap.size (w.heap.size + 1) (w.alloc (.cells (madeCells #[.int .i64 0] n) e)) (some ⟨w.heap.size, 0, none⟩) n n (List.replicate n 0) := by
  have hh : (w.alloc (.cells (madeCells #[.int .i64 0] n) e)).heap[w.heap.size]? = some (.cells (madeCells #[.int .i64 0] n) e (0, 0)) := heap_alloc_new _ _
  refine ⟨⟨by simp, Nat.le_refl _, hn, fun _ => ⟨_, 0, rfl, Nat.le_refl _, by omega, by simp, fun j hj => ?_⟩⟩, fun b off _ e j _ => ?_⟩
  · rw [Nat.zero_add, cell_of_row _ _ j _ _ _ hh]
    simp [madeCells, hj, Nat.mod_one]
  · simp only [Option.some.injEq, Addr.mk.injEq, and_true] at e
    obtain ⟨rfl, rfl⟩ := e
    unfold World.frozen?
    rw [hh]
    simp

/-- The marks that markIntS writes. -/
def marks (k : Int) (n : Nat) : List Int := (List.range n).map (fun i : Nat => k + (i : Int))
theorem marks_len (k : Int) (n : Nat) : (marks k n).length = n := by simp [marks]
theorem marks_at (k : Int) {n j : Nat} (h : j < n) : (marks k n).getD j 0 = k + (j : Int) := by
  rw [List.getD_eq_getElem?_getD]; simp [marks, h]
theorem marks_step (k : Int) (xs : List Int) {j : Nat} (h : j < xs.length) : (marks k j ++ xs.drop j).set j (k + (j : Int)) = marks k (j + 1) ++ xs.drop (j + 1) := by
  rw [List.set_append_right _ _ (by rw [marks_len]; exact Nat.le_refl _), marks_len, Nat.sub_self]
  rw [List.drop_eq_getElem_cons h, List.set_cons_zero]
  simp [marks, List.range_succ]
theorem copy_step (xs : List Int) {j n : Nat} (hn : xs.length = n) (h : j < n) : (xs.take j ++ List.replicate (n - j) 0).set j (xs.getD j 0) = xs.take (j + 1) ++ List.replicate (n - (j + 1)) 0 := by
  have h1 : (xs.take j).length = j := by rw [List.length_take]; omega
  rw [List.set_append_right _ _ (by omega), h1, Nat.sub_self]
  have h2 : n - j = (n - (j + 1)) + 1 := by omega
  rw [h2, List.replicate_succ, List.set_cons_zero, List.take_succ_eq_append_getElem (by omega), List.append_assoc]
  rw [List.getD_eq_getElem?_getD, List.getElem?_eq_getElem (by omega)]
  rfl

/-- A contract that leaves the world alone, inside a region that draws. -/
theorem quiet_eq {P : Program} {f : FuncId} {args : Array Value} {w : World} {n : Nat} {v : Value} (h : Calls P f args (w.drewN n) fun e w' => e = .returned v ∧ w.drewN n = w') :
    Calls P f args (w.drewN n) fun e w'' => e = .returned v ∧ ∃ m, w'' = w.drewN m := h.mono fun _ _ ⟨he, hm⟩ => ⟨he, n, hm.symm⟩

/-- list[k:k+m], where there is more room than k. -/
theorem Ints.sub_ {lo hi : Nat} {w : World} {b off n c k m : Nat} {xs : List Int} (h : Ints lo hi w (some ⟨b, off, none⟩) n c xs) (hk : k + m ≤ n) : Ints lo hi w (some ⟨b, off + k, none⟩) m (c - k) ((xs.drop k).take m) := by
  have hl := h.1
  have hc := h.2.1
  refine ⟨by rw [List.length_take, List.length_drop]; omega, by omega, by have := h.2.2.1; omega, fun hm => ?_⟩
  obtain ⟨b', off', e, h1, h2, h3, h4⟩ := h.2.2.2 (by omega)
  simp only [Option.some.injEq, Addr.mk.injEq, and_true] at e
  obtain ⟨rfl, rfl⟩ := e
  refine ⟨b, off + k, rfl, h1, h2, h3, fun j hj => ?_⟩
  rw [Nat.add_assoc, h4 (k + j) (by omega), List.getD_eq_getElem?_getD, List.getD_eq_getElem?_getD, List.getElem?_take_of_lt hj, List.getElem?_drop]

/-- A new slice that holds xs is returned; nothing that was there has turned. -/
def NewInts (w : World) (xs : List Int) (e : Ending) (w' : World) : Prop :=
  ∃ A c, e = .returned (.slice A xs.length c) ∧ Own w.heap.size w'.heap.size w' A xs.length c xs ∧ Below w.heap.size w w'

/-- .. and it has no room for more. -/
def NewIntsT (w : World) (xs : List Int) (e : Ending) (w' : World) : Prop :=
  ∃ A, e = .returned (.slice A xs.length xs.length) ∧ Own w.heap.size w'.heap.size w' A xs.length xs.length xs ∧ Below w.heap.size w w'
theorem NewIntsT.new_ {w : World} {xs : List Int} {e : Ending} {w' : World} (h : NewIntsT w xs e w') : NewInts w xs e w' := by
  obtain ⟨A, he, ho, hb⟩ := h
  exact ⟨A, _, he, ho, hb⟩

/-- A number, or a bool, is returned; nothing that was there has turned. -/
def IntB (v : Int) (w : World) (e : Ending) (w' : World) : Prop := e = .returned (.int .i64 v) ∧ Below w.heap.size w w'
def BoolB (b : Bool) (w : World) (e : Ending) (w' : World) : Prop := e = .returned (.bool b) ∧ Below w.heap.size w w'
/-- A new slice and a bool are returned. -/
def PairB (xs : List Int) (b : Bool) (w : World) (e : Ending) (w' : World) : Prop :=
  ∃ A c, e = .returned (.tuple #[.slice A xs.length c, .bool b]) ∧ Own w.heap.size w'.heap.size w' A xs.length c xs ∧ Below w.heap.size w w'

/-- A bool is returned; memory is as it was. -/
def BoolPost (b : Bool) (w : World) (e : Ending) (w' : World) : Prop := e = .returned (.bool b) ∧ ∃ d, w' = w.drewN d

theorem take_eq_succ {xs ys : List Int} {k : Nat} (hx : k < xs.length) (hy : k < ys.length) (h : xs.take k = ys.take k) (he : xs.getD k 0 = ys.getD k 0) : xs.take (k + 1) = ys.take (k + 1) := by
  rw [List.take_succ_eq_append_getElem hx, List.take_succ_eq_append_getElem hy, h]
  rw [List.getD_eq_getElem?_getD, List.getD_eq_getElem?_getD, List.getElem?_eq_getElem hx, List.getElem?_eq_getElem hy] at he
  have he' : xs[k] = ys[k] := by simpa using he
  rw [he']

end Il
end Go.Proofs.Ytjdkhloijddjjab
