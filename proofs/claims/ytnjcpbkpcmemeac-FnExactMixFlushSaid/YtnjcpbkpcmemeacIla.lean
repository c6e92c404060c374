/-
  Several parts of the proof in one text.
-/
import Derived.WalkKit
import Derived.Below
import Derived.Laws.OwnMore
import Derived.Laws.AppendOwn
import Derived.Laws.Rows
import Derived.Lib.Hide
import Derived.OpenShut
import Derived.Deep.QuietTactic
import Derived.Deep.Draws
import Derived.Deep.OwnRows
import Derived.Laws.MakeOwn
import Derived.Test.YtnjcpbkpcmemeacChecked
import Derived.Deep.AppendLies
import Derived.OwnWalk
import Derived.ArgAppend
/-
  Slices of ints in memory that read as lists: in an older block, or owned by the call. Nothing of any program.
-/
namespace Go.Proofs.Ytnjcpbkpcmemeac
open Go.RowKit
namespace Il

theorem below_of_grown {w0 w : World} (h : w0.grownBy w none) : Below w0.heap.size w0 w := ⟨h.os, h.tape, h.output, h.size, fun k hk => h.block k hk (by simp)⟩
theorem grown_of_below {w0 w : World} {row : Option Nat} (h : Below w0.heap.size w0 w) : w0.grownBy w row := ⟨h.os, h.tape, h.output, h.size, fun k hk _ => h.block k hk⟩
theorem grown_alloc {a w : World} {row : Option Nat} (h : a.grownBy w row) (o : Obj) : a.grownBy (w.alloc o) row :=
  ⟨h.os, h.tape, h.output, Nat.le_trans h.size (by simp), fun i hi hne => (Below.heap_alloc w o i (Nat.lt_of_lt_of_le hi h.size)).trans (h.block i hi hne)⟩
theorem grown_trans {a b c : World} {row : Option Nat} (h : a.grownBy b row) (k : b.grownBy c row) : a.grownBy c row :=
  ⟨k.os.trans h.os, k.tape.trans h.tape, k.output.trans h.output, Nat.le_trans h.size k.size, fun i hi hne => (k.block i (Nat.lt_of_lt_of_le hi h.size) hne).trans (h.block i hi hne)⟩
/-- Writes to a block of the call's own do not count. -/
theorem grown_trans' {a b c : World} {row row2 : Option Nat} (h : a.grownBy b row) (k : b.grownBy c row2) (hr : ∀ g, row2 = some g → a.heap.size ≤ g) : a.grownBy c row :=
  ⟨k.os.trans h.os, k.tape.trans h.tape, k.output.trans h.output, Nat.le_trans h.size k.size, fun i hi hne => (k.block i (Nat.lt_of_lt_of_le hi h.size) (fun e => by have := hr i e.symm; omega)).trans (h.block i hi hne)⟩
theorem grown_below {a b : World} {rb : Nat} (h : a.grownBy b (some rb)) (hr : rb ≤ a.heap.size) : Below rb a b :=
  ⟨h.os, h.tape, h.output, h.size, fun i hi => h.block i (by omega) (by simp; omega)⟩

/-- The slice A, of n places and room for c, holds the numbers xs; its block lies from lo on, below hi. -/
def Ints (lo hi : Nat) (w : World) (A : Option Addr) (n c : Nat) (xs : List Int) : Prop :=
  xs.length = n ∧ n ≤ c ∧ c ≤ maxLen ∧ (0 < n → ∃ b off, A = some ⟨b, off, none⟩ ∧ lo ≤ b ∧ b < hi ∧ b < w.heap.size ∧ ∀ j, j < n → w.cell? ⟨b, off + j, none⟩ = some (.int .i64 (xs.getD j 0)))

/-- .. and its places can be written. -/
def Own (lo hi : Nat) (w : World) (A : Option Addr) (n c : Nat) (xs : List Int) : Prop :=
  Ints lo hi w A n c xs ∧ ∀ b off, 0 < n → A = some ⟨b, off, none⟩ → ∀ j, j < n → w.frozen? ⟨b, off + j, none⟩ = false

section
variable {lo hi lo' hi' : Nat} {w w' : World} {A : Option Addr} {n c : Nat} {xs : List Int}

theorem Own.ints (h : Own lo hi w A n c xs) : Ints lo hi w A n c xs := h.1
theorem Ints.mono (h : Ints lo hi w A n c xs) (h1 : lo' ≤ lo) (h2 : hi ≤ hi') : Ints lo' hi' w A n c xs :=
  ⟨h.1, h.2.1, h.2.2.1, fun hn => by
    obtain ⟨b, off, e, hb, hb', hz, hc⟩ := h.2.2.2 hn
    exact ⟨b, off, e, by omega, by omega, hz, hc⟩⟩
theorem Own.mono (h : Own lo hi w A n c xs) (h1 : lo' ≤ lo) (h2 : hi ≤ hi') : Own lo' hi' w A n c xs := ⟨h.1.mono h1 h2, h.2⟩
theorem Ints.keep (h : Ints lo hi w A n c xs) (hs : w.heap.size ≤ w'.heap.size) (hk : ∀ b, lo ≤ b → b < hi → b < w.heap.size → w'.heap[b]? = w.heap[b]?) : Ints lo hi w' A n c xs :=
  ⟨h.1, h.2.1, h.2.2.1, fun hn => by
    obtain ⟨b, off, e, hb, hb', hz, hc⟩ := h.2.2.2 hn
    exact ⟨b, off, e, hb, hb', by omega, fun j hj => (World.cell?_of_block (hk b hb hb' hz)).trans (hc j hj)⟩⟩
theorem Own.keep (h : Own lo hi w A n c xs) (hs : w.heap.size ≤ w'.heap.size) (hk : ∀ b, lo ≤ b → b < hi → b < w.heap.size → w'.heap[b]? = w.heap[b]?) : Own lo hi w' A n c xs :=
  ⟨h.1.keep hs hk, fun b off hn e j hj => by
    obtain ⟨b', off', e', hb, hb', hz, _⟩ := h.1.2.2.2 hn
    have : b = b' := by rw [e'] at e; simp at e; exact e.1.symm
    subst this
    exact (World.frozen?_of_block (hk b hb hb' hz)).trans (h.2 b off hn e j hj)⟩
theorem Ints.below {B : Nat} (h : Ints lo hi w A n c xs) (hb : Below B w w') (hB : w.heap.size ≤ B) : Ints lo hi w' A n c xs := h.keep hb.size fun b _ _ hz => hb.block b (by omega)
theorem Own.below {B : Nat} (h : Own lo hi w A n c xs) (hb : Below B w w') (hB : w.heap.size ≤ B) : Own lo hi w' A n c xs := h.keep hb.size fun b _ _ hz => hb.block b (by omega)
theorem Ints.below' {B : Nat} (h : Ints lo hi w A n c xs) (hb : Below B w w') (hB : hi ≤ B) : Ints lo hi w' A n c xs := h.keep hb.size fun b _ h2 _ => hb.block b (by omega)
theorem Own.below' {B : Nat} (h : Own lo hi w A n c xs) (hb : Below B w w') (hB : hi ≤ B) : Own lo hi w' A n c xs := h.keep hb.size fun b _ h2 _ => hb.block b (by omega)
/-- Behind writes to one block alone, which is another's. -/
theorem Ints.grown {row : Option Nat} (h : Ints lo hi w A n c xs) (hg : w.grownBy w' row) (hr : ∀ k, row = some k → k < lo ∨ hi ≤ k) : Ints lo hi w' A n c xs :=
  h.keep hg.size fun b h1 h2 hz => hg.block b hz (fun e => by have := hr b e.symm; omega)
theorem Own.grown {row : Option Nat} (h : Own lo hi w A n c xs) (hg : w.grownBy w' row) (hr : ∀ k, row = some k → k < lo ∨ hi ≤ k) : Own lo hi w' A n c xs :=
  h.keep hg.size fun b h1 h2 hz => hg.block b hz (fun e => by have := hr b e.symm; omega)
theorem Ints.drewN (h : Ints lo hi w A n c xs) (d : Nat) : Ints lo hi (w.drewN d) A n c xs := h
theorem Own.drewN (h : Own lo hi w A n c xs) (d : Nat) : Own lo hi (w.drewN d) A n c xs := h

theorem Ints.at_ {k : Nat} (h : Ints lo hi w A n c xs) (hk : k < n) : ∃ b off, A = some ⟨b, off, none⟩ ∧ lo ≤ b ∧ b < hi ∧ w.cell? ⟨b, off + k, none⟩ = some (.int .i64 (xs.getD k 0)) := by
  obtain ⟨b, off, e, hb, hb', _, hc⟩ := h.2.2.2 (by omega)
  exact ⟨b, off, e, hb, hb', hc k hk⟩

theorem Ints.take {k : Nat} (h : Ints lo hi w A n c xs) (hk : k ≤ n) : Ints lo hi w A k c (xs.take k) :=
  ⟨by rw [List.length_take, h.1]; omega, Nat.le_trans hk h.2.1, h.2.2.1, fun hn => by
    obtain ⟨b, off, e, hb, hb', hz, hc⟩ := h.2.2.2 (by omega)
    refine ⟨b, off, e, hb, hb', hz, fun j hj => ?_⟩
    rw [hc j (by omega), List.getD_eq_getElem?_getD, List.getD_eq_getElem?_getD, List.getElem?_take_of_lt hj]⟩
theorem Ints.len_ (h : Ints lo hi w A n c xs) : xs.length = n := h.1
theorem Ints.cap_ (h : Ints lo hi w A n c xs) : n ≤ c := h.2.1
theorem below_drew {B : Nat} (h : Below B w.drew w') : Below B w w' := ⟨h.os, h.tape, h.output, h.size, h.block⟩
theorem below_drewN {B d : Nat} (h : Below B (w.drewN d) w') : Below B w w' := ⟨h.os, h.tape, h.output, h.size, h.block⟩

theorem Ints.nil_ (hc : c ≤ maxLen) : Ints lo hi w A 0 c [] := ⟨rfl, Nat.zero_le _, hc, fun h => absurd h (by omega)⟩
theorem Own.nil_ (hc : c ≤ maxLen) : Own lo hi w A 0 c [] := ⟨Ints.nil_ hc, fun _ _ h => absurd h (by omega)⟩

/-- What a row of the call's own holds. -/
theorem own_of {e : TypeId} {v : Value} (h : w.ownsRow lo e 1 v n (xs.map (Value.int .i64))) : ∃ A c, v = .slice A n c ∧ Own lo w.heap.size w A n c xs := by
  have hl : xs.length = n := by simpa using h.1
  rcases h.2 with ⟨rfl, rfl⟩ | ⟨g, cap, cur, rfl, hg, hh, hnc, hm, hs, ht⟩
  · have : xs = [] := List.eq_nil_of_length_eq_zero hl
    subst this
    exact ⟨none, 0, rfl, Own.nil_ (Nat.zero_le _)⟩
  · have hz : g < w.heap.size := (Array.getElem?_eq_some_iff.1 hh).1
    refine ⟨_, cap, rfl, ⟨hl, hnc, hm, fun _ => ⟨g, 0, rfl, hg, hz, hz, fun j hj => ?_⟩⟩, fun b off _ e j _ => ?_⟩
    · rw [Nat.zero_add, cell_of_row w g j cur e (0, 0) hh]
      have h1 : (cur.toList.take (n * 1))[j]? = (xs.map (Value.int .i64))[j]? := by rw [ht]
      rw [List.getElem?_take_of_lt (by omega), Array.getElem?_toList] at h1
      rw [h1, List.getElem?_map, List.getElem?_eq_getElem (by omega), List.getD_eq_getElem?_getD, List.getElem?_eq_getElem (by omega)]
      rfl
    · simp at e
      obtain ⟨rfl, rfl⟩ := e
      simp [World.frozen?, hh]

/-- A slice of integers that came in. -/
def IsRow (k : IntKind) (w : World) (a : Option Addr) (len cap : Nat) (zs : List Int) : Prop :=
  (a = none ∧ len = 0 ∧ cap = 0 ∧ zs = []) ∨
  ∃ x, a = some x ∧ len ≤ cap ∧ cap ≤ maxLen ∧ zs.length = cap ∧ (∀ i, i < zs.length → w.cell? (x.add i) = some (.int k (zs.getD i 0))) ∧ ∀ n ∈ zs, (Lit.int k n).wf = true

theorem ints_of_row {zs : List Int} (h : IsRow .i64 w A n c zs) : Ints 0 w.heap.size w A n c (zs.take n) := by
  rcases h with ⟨rfl, rfl, rfl, rfl⟩ | ⟨x, rfl, hl, hm, hz, hcell, hwf⟩
  · exact Ints.nil_ (Nat.zero_le _)
  · refine ⟨by rw [List.length_take]; omega, hl, hm, fun hn => ?_⟩
    obtain ⟨b, off, spot⟩ := x
    have h0 := hcell 0 (by omega)
    have hs : spot = none := by simpa [Addr.add] using World.cell?_spot h0
    subst hs
    have hb : b < w.heap.size := by
      have := World.block_lt_of_cell? w _ h0
      simpa [Addr.add] using this
    refine ⟨b, off, rfl, Nat.zero_le _, hb, hb, fun j hj => ?_⟩
    have hc := hcell j (by omega)
    have e : (Addr.add ⟨b, off, none⟩ j) = ⟨b, off + j, none⟩ := by
      unfold Addr.add; split <;> simp_all
    rw [e] at hc
    rw [hc, List.getD_eq_getElem?_getD, List.getD_eq_getElem?_getD, List.getElem?_take_of_lt hj]

end

/-- Only blocks from lo on and below hi have been written; none has come or gone. -/
structure Kept (lo hi : Nat) (w w' : World) : Prop where
  os : w'.os = w.os
  tape : w'.tape = w.tape
  output : w'.output = w.output
  size : w'.heap.size = w.heap.size
  block : ∀ b, b < lo ∨ hi ≤ b → w'.heap[b]? = w.heap[b]?

theorem Kept.refl (lo hi : Nat) (w : World) : Kept lo hi w w := ⟨rfl, rfl, rfl, rfl, fun _ _ => rfl⟩
theorem Kept.set {lo hi : Nat} {w w' : World} (h : Kept lo hi w w') {p : Addr} (h1 : lo ≤ p.block) (h2 : p.block < hi) (v : Value) : Kept lo hi w (w'.setCell p v) :=
  ⟨h.os, h.tape, h.output, by rw [← h.size]; simp [World.setCell], fun b hb => (Below.heap_setCell w' p v b (by omega)).trans (h.block b hb)⟩
theorem Kept.drewN {lo hi : Nat} {w w' : World} (h : Kept lo hi w w') (d : Nat) : Kept lo hi w (w'.drewN d) := ⟨h.os, h.tape, h.output, h.size, h.block⟩
theorem Kept.below {lo hi B : Nat} {w w' : World} (h : Kept lo hi w w') (hB : B ≤ lo) : Below B w w' :=
  ⟨h.os, h.tape, h.output, Nat.le_of_eq h.size.symm, fun k hk => h.block k (by omega)⟩
theorem Ints.kept {lo hi lo' hi' : Nat} {w w' : World} {A : Option Addr} {n c : Nat} {xs : List Int} (h : Ints lo hi w A n c xs) (hk : Kept lo' hi' w w') (hd : hi ≤ lo' ∨ hi' ≤ lo) : Ints lo hi w' A n c xs :=
  h.keep (Nat.le_of_eq hk.size.symm) fun b h1 h2 _ => hk.block b (by omega)
theorem Own.kept {lo hi lo' hi' : Nat} {w w' : World} {A : Option Addr} {n c : Nat} {xs : List Int} (h : Own lo hi w A n c xs) (hk : Kept lo' hi' w w') (hd : hi ≤ lo' ∨ hi' ≤ lo) : Own lo hi w' A n c xs :=
  h.keep (Nat.le_of_eq hk.size.symm) fun b h1 h2 _ => hk.block b (by omega)

/-- One place is written. -/
theorem Own.set_ {lo hi : Nat} {w : World} {b off n c k : Nat} {xs : List Int} (h : Own lo hi w (some ⟨b, off, none⟩) n c xs) (hk : k < n) (v : Int) :
    Own lo hi (w.setCell ⟨b, off + k, none⟩ (.int .i64 v)) (some ⟨b, off, none⟩) n c (xs.set k v) := by
  have hl := h.1.1
  obtain ⟨b', off', e, hb, hb', hz, hc⟩ := h.1.2.2.2 (by omega)
  simp at e
  obtain ⟨rfl, rfl⟩ := e
  have hsz : (w.setCell ⟨b, off + k, none⟩ (.int .i64 v)).heap.size = w.heap.size := by simp [World.setCell]
  refine ⟨⟨by simpa using hl, h.1.2.1, h.1.2.2.1, fun hn => ⟨b, off, rfl, hb, hb', by rw [hsz]; exact hz, fun j hj => ?_⟩⟩, fun b2 off2 hn e j hj => ?_⟩
  · by_cases hjk : j = k
    · subst hjk
      rw [World.cell?_setCell_same _ _ _ (hc j hj)]
      rw [List.getD_eq_getElem?_getD, List.getElem?_set_self (by omega)]
      rfl
    · rw [World.cell?_setCell_other w _ _ _ (by simp only [ne_eq, Addr.mk.injEq, true_and, and_true]; omega), hc j hj]
      rw [List.getD_eq_getElem?_getD, List.getD_eq_getElem?_getD, List.getElem?_set_ne (by omega)]
  · simp at e
    obtain ⟨rfl, rfl⟩ := e
    rw [World.frozen?_setCell]
    exact h.2 b off hn rfl j hj

/-- make([]int, n). -/
theorem own_made (w : World) (e : TypeId) (n : Nat) (hn : n ≤ maxLen) :
    Own w.heap.size (w.heap.size + 1) (w.alloc (.cells (madeCells #[.int .i64 0] n) e)) (some ⟨w.heap.size, 0, none⟩) n n (List.replicate n 0) := by
  have hh : (w.alloc (.cells (madeCells #[.int .i64 0] n) e)).heap[w.heap.size]? = some (.cells (madeCells #[.int .i64 0] n) e (0, 0)) := heap_alloc_new _ _
  refine ⟨⟨by simp, Nat.le_refl _, hn, fun _ => ⟨_, 0, rfl, Nat.le_refl _, by omega, by simp, fun j hj => ?_⟩⟩, fun b off _ e j _ => ?_⟩
  · rw [Nat.zero_add, cell_of_row _ _ j _ _ _ hh]
    simp [madeCells, hj, Nat.mod_one]
  · simp only [Option.some.injEq, Addr.mk.injEq, and_true] at e
    obtain ⟨rfl, rfl⟩ := e
    unfold World.frozen?
    rw [hh]
    simp

/-- The marks that markIntS writes. -/
def marks (k : Int) (n : Nat) : List Int := (List.range n).map (fun i : Nat => k + (i : Int))
theorem marks_len (k : Int) (n : Nat) : (marks k n).length = n := by simp [marks]
theorem marks_at (k : Int) {n j : Nat} (h : j < n) : (marks k n).getD j 0 = k + (j : Int) := by
  rw [List.getD_eq_getElem?_getD]; simp [marks, h]
theorem marks_step (k : Int) (xs : List Int) {j : Nat} (h : j < xs.length) : (marks k j ++ xs.drop j).set j (k + (j : Int)) = marks k (j + 1) ++ xs.drop (j + 1) := by
  rw [List.set_append_right _ _ (by rw [marks_len]; exact Nat.le_refl _), marks_len, Nat.sub_self]
  rw [List.drop_eq_getElem_cons h, List.set_cons_zero]
  simp [marks, List.range_succ]
theorem copy_step (xs : List Int) {j n : Nat} (hn : xs.length = n) (h : j < n) : (xs.take j ++ List.replicate (n - j) 0).set j (xs.getD j 0) = xs.take (j + 1) ++ List.replicate (n - (j + 1)) 0 := by
  have h1 : (xs.take j).length = j := by rw [List.length_take]; omega
  rw [List.set_append_right _ _ (by omega), h1, Nat.sub_self]
  have h2 : n - j = (n - (j + 1)) + 1 := by omega
  rw [h2, List.replicate_succ, List.set_cons_zero, List.take_succ_eq_append_getElem (by omega), List.append_assoc]
  rw [List.getD_eq_getElem?_getD, List.getElem?_eq_getElem (by omega)]
  rfl

/-- A contract that leaves the world alone, inside a region that draws. -/
theorem quiet_eq {P : Program} {f : FuncId} {args : Array Value} {w : World} {n : Nat} {v : Value} (h : Calls P f args (w.drewN n) fun e w' => e = .returned v ∧ w.drewN n = w') :
    Calls P f args (w.drewN n) fun e w'' => e = .returned v ∧ ∃ m, w'' = w.drewN m := h.mono fun _ _ ⟨he, hm⟩ => ⟨he, n, hm.symm⟩

/-- list[k:k+m], where there is more room than k. -/
theorem Ints.sub_ {lo hi : Nat} {w : World} {b off n c k m : Nat} {xs : List Int} (h : Ints lo hi w (some ⟨b, off, none⟩) n c xs) (hk : k + m ≤ n) : Ints lo hi w (some ⟨b, off + k, none⟩) m (c - k) ((xs.drop k).take m) := by
  have hl := h.1
  have hc := h.2.1
  refine ⟨by rw [List.length_take, List.length_drop]; omega, by omega, by have := h.2.2.1; omega, fun hm => ?_⟩
  obtain ⟨b', off', e, h1, h2, h3, h4⟩ := h.2.2.2 (by omega)
  simp only [Option.some.injEq, Addr.mk.injEq, and_true] at e
  obtain ⟨rfl, rfl⟩ := e
  refine ⟨b, off + k, rfl, h1, h2, h3, fun j hj => ?_⟩
  rw [Nat.add_assoc, h4 (k + j) (by omega), List.getD_eq_getElem?_getD, List.getD_eq_getElem?_getD, List.getElem?_take_of_lt hj, List.getElem?_drop]

/-- A new slice that holds xs is returned; nothing that was there has turned. -/
def NewInts (w : World) (xs : List Int) (e : Ending) (w' : World) : Prop :=
  ∃ A c, e = .returned (.slice A xs.length c) ∧ Own w.heap.size w'.heap.size w' A xs.length c xs ∧ Below w.heap.size w w'

/-- .. and it has no room for more. -/
def NewIntsT (w : World) (xs : List Int) (e : Ending) (w' : World) : Prop :=
  ∃ A, e = .returned (.slice A xs.length xs.length) ∧ Own w.heap.size w'.heap.size w' A xs.length xs.length xs ∧ Below w.heap.size w w'
theorem NewIntsT.new_ {w : World} {xs : List Int} {e : Ending} {w' : World} (h : NewIntsT w xs e w') : NewInts w xs e w' := by
  obtain ⟨A, he, ho, hb⟩ := h
  exact ⟨A, _, he, ho, hb⟩

/-- A number, or a bool, is returned; nothing that was there has turned. -/
def IntB (v : Int) (w : World) (e : Ending) (w' : World) : Prop := e = .returned (.int .i64 v) ∧ Below w.heap.size w w'
def BoolB (b : Bool) (w : World) (e : Ending) (w' : World) : Prop := e = .returned (.bool b) ∧ Below w.heap.size w w'
/-- A new slice and a bool are returned. -/
def PairB (xs : List Int) (b : Bool) (w : World) (e : Ending) (w' : World) : Prop :=
  ∃ A c, e = .returned (.tuple #[.slice A xs.length c, .bool b]) ∧ Own w.heap.size w'.heap.size w' A xs.length c xs ∧ Below w.heap.size w w'

/-- A bool is returned; memory is as it was. -/
def BoolPost (b : Bool) (w : World) (e : Ending) (w' : World) : Prop := e = .returned (.bool b) ∧ ∃ d, w' = w.drewN d

theorem take_eq_succ {xs ys : List Int} {k : Nat} (hx : k < xs.length) (hy : k < ys.length) (h : xs.take k = ys.take k) (he : xs.getD k 0 = ys.getD k 0) : xs.take (k + 1) = ys.take (k + 1) := by
  rw [List.take_succ_eq_append_getElem hx, List.take_succ_eq_append_getElem hy, h]
  rw [List.getD_eq_getElem?_getD, List.getD_eq_getElem?_getD, List.getElem?_eq_getElem hx, List.getElem?_eq_getElem hy] at he
  have he' : xs[k] = ys[k] := by simpa using he
  rw [he']

end Il
end Go.Proofs.Ytnjcpbkpcmemeac

/-
  A slice of ints that a call gathers by append, one number at a time: what it owns, and append's law for one number.
-/
namespace Go.Proofs.Ytnjcpbkpcmemeac
open Go.RowKit
namespace Il

theorem infoInt : (Try.prog.info? 3).map (fun i => (i.zero, i.size, i.bytes)) = some (some (.int .i64 0), 1, 8) := by kernel_rfl

/-- The slice v, gathered since the world was w0, holds ys; of what was there only block 'row' may have turned. -/
def AccR (row : Option Nat) (w0 w : World) (v : Value) (ys : List Int) : Prop :=
  w.ownsRow w0.heap.size 3 1 v ys.length (ys.map (Value.int .i64)) ∧ w0.grownBy w row
/-- .. nothing that was there has turned. -/
abbrev Acc (w0 w : World) (v : Value) (ys : List Int) : Prop := AccR none w0 w v ys

theorem AccR.drewN {row : Option Nat} {w0 w : World} {v : Value} {ys : List Int} (h : AccR row w0 w v ys) (d : Nat) : AccR row w0 (w.drewN d) v ys := ⟨h.1, ⟨h.2.os, h.2.tape, h.2.output, h.2.size, h.2.block⟩⟩
theorem AccR.drew {row : Option Nat} {w0 w : World} {v : Value} {ys : List Int} (h : AccR row w0 w v ys) : AccR row w0 w.drew v ys := ⟨h.1, ⟨h.2.os, h.2.tape, h.2.output, h.2.size, h.2.block⟩⟩
/-- A call in between that turns no block of the slice's own. -/
theorem AccR.step {row : Option Nat} {w0 w w' : World} {v : Value} {ys : List Int} (h : AccR row w0 w v ys) (hg : w.grownBy w' row) (hr : ∀ g, row = some g → g < w0.heap.size) : AccR row w0 w' v ys := by
  refine ⟨h.1.kept hg ?_, grown_trans h.2 hg⟩
  cases hv : v.ownBlock with
  | none => exact .inl rfl
  | some k =>
    right
    intro e
    have h1 := (h.1.lt k hv).1
    have h2 := hr k e.symm
    omega
theorem AccR.alloc {row : Option Nat} {w0 w : World} {v : Value} {ys : List Int} (h : AccR row w0 w v ys) (o : Obj) : AccR row w0 (w.alloc o) v ys := ⟨h.1.alloc o, grown_alloc h.2 o⟩
/-- []int{x, y, z} -/
theorem ints_three (w : World) (x y z : Int) : Ints w.heap.size (w.heap.size + 1) (w.alloc (.cells #[.int .i64 x, .int .i64 y, .int .i64 z] 3)) (some ⟨w.heap.size, 0, none⟩) 3 3 [x, y, z] := by
  have hh : (w.alloc (.cells #[.int .i64 x, .int .i64 y, .int .i64 z] 3)).heap[w.heap.size]? = some (.cells #[.int .i64 x, .int .i64 y, .int .i64 z] 3 (0, 0)) := heap_alloc_new _ _
  refine ⟨rfl, Nat.le_refl _, by unfold maxLen; omega, fun _ => ⟨_, 0, rfl, Nat.le_refl _, by omega, by simp, fun j hj => ?_⟩⟩
  rw [Nat.zero_add, cell_of_row _ _ j _ _ _ hh]
  obtain rfl | rfl | rfl : j = 0 ∨ j = 1 ∨ j = 2 := by omega
  all_goals rfl
theorem acc_three (w : World) (x y z : Int) : AccR none w (w.alloc (.cells #[.int .i64 x, .int .i64 y, .int .i64 z] 3)) (.slice (some ⟨w.heap.size, 0, none⟩) 3 3) [x, y, z] :=
  ⟨⟨rfl, .inr ⟨w.heap.size, 3, #[.int .i64 x, .int .i64 y, .int .i64 z], rfl, Nat.le_refl _, heap_alloc_new w _, Nat.le_refl _, by unfold maxLen; omega, rfl, rfl⟩⟩, World.grownBy_alloc _ _ _⟩
theorem Acc.below {w0 w : World} {v : Value} {ys : List Int} (h : Acc w0 w v ys) : Below w0.heap.size w0 w := below_of_grown h.2

/-- []int{} -/
theorem acc_new (w : World) : Acc w (w.alloc (.cells #[] 3)) (.slice (some ⟨w.heap.size, 0, none⟩) 0 0) [] :=
  ⟨World.ownsRow_made w #[] 0 (Nat.le_refl _) (Nat.zero_le _) rfl, World.grownBy_alloc _ _ _⟩
theorem accR_new (row : Option Nat) (w : World) : AccR row w (w.alloc (.cells #[] 3)) (.slice (some ⟨w.heap.size, 0, none⟩) 0 0) [] :=
  ⟨World.ownsRow_made w #[] 0 (Nat.le_refl _) (Nat.zero_le _) rfl, World.grownBy_alloc _ _ _⟩
/-- []int{x} -/
theorem acc_one (w : World) (x : Int) : Acc w (w.alloc (.cells #[.int .i64 x] 3)) (.slice (some ⟨w.heap.size, 0, none⟩) 1 1) [x] :=
  ⟨⟨rfl, .inr ⟨w.heap.size, 1, #[.int .i64 x], rfl, Nat.le_refl _, heap_alloc_new w _, Nat.le_refl _, by unfold maxLen; omega, rfl, rfl⟩⟩, World.grownBy_alloc _ _ _⟩
/-- var out []int -/
theorem acc_nil (w : World) : Acc w w (.slice none 0 0) [] := ⟨World.ownsRow_nil _ _ _ _, World.grownBy.refl _ _⟩

theorem Acc.post {w0 w : World} {v : Value} {ys : List Int} (h : Acc w0 w v ys) : NewInts w0 ys (.returned v) w := by
  obtain ⟨A, c, rfl, ho⟩ := own_of h.1
  exact ⟨A, c, rfl, ho, Acc.below h⟩

/-- A slice that the call has gathered is returned. -/
def AccPost (xs : List Int) (w : World) (e : Ending) (w' : World) : Prop := ∃ v, e = .returned v ∧ Acc w w' v xs
theorem AccPost.new_ {xs : List Int} {w : World} {e : Ending} {w' : World} (h : AccPost xs w e w') : NewInts w xs e w' := by
  obtain ⟨v, rfl, ha⟩ := h
  exact ha.post

/-- A gathered slice, laid open at one of its places. -/
theorem acc_open {w0 w : World} {v : Value} {ys : List Int} (h : Acc w0 w v ys) {q : Nat} (hq : q < ys.length) : ∃ b f c, v = .slice (some ⟨b, f, none⟩) ys.length c ∧ Hid (Own w0.heap.size w.heap.size w (some ⟨b, f, none⟩) ys.length c ys) ∧
    w0.heap.size ≤ b ∧ b < w.heap.size ∧ w.cell? ⟨b, f + q, none⟩ = some (.int .i64 (ys.getD q 0)) ∧ w.frozen? ⟨b, f + q, none⟩ = false ∧ Hid (Below w0.heap.size w0 w) := by
  obtain ⟨A, c, rfl, ho⟩ := own_of h.1
  obtain ⟨b, f, rfl, h1, h2, hc⟩ := ho.1.at_ hq
  exact ⟨b, f, c, rfl, ho, h1, h2, hc, ho.2 b f (by omega) rfl q hq, Acc.below h⟩

section
variable {o : Oper} {a : Act} {K : Act → World → Prop} {Q : Exit → Act → World → Prop}

theorem acc_step {row : Option Nat} {w0 w w' : World} {v v' : Value} {ys : List Int} {x : Int} {o2 : Obj} (hacc : AccR row w0 w v ys) (h2 : w'.ownsRow w0.heap.size 3 1 v' (ys.length + 1) (ys.map (Value.int .i64) ++ [.int .i64 x]))
    (h3 : (w.alloc o2).grownBy w' v.ownBlock) : AccR row w0 w' v' (ys ++ [x]) :=
  ⟨by simpa using h2, grown_trans' (grown_alloc hacc.2 o2) h3 fun k hk => (hacc.1.lt k hk).1⟩

theorem acc_below {row : Option Nat} {w0 w w' : World} {v : Value} {ys : List Int} {o2 : Obj} (hacc : AccR row w0 w v ys) (h3 : (w.alloc o2).grownBy w' v.ownBlock) : Below w0.heap.size w w' :=
  ((Below.refl _ _).alloc hacc.2.size o2).grown h3 (by have := hacc.2.size; simp; omega) fun k hk => (hacc.1.lt k hk).1

/-- append(out, x), in a region of a fixed order. -/
theorem wpList_app1 {ops : Array Oper} {rest : List Oper} {row : Option Nat} (w0 w : World) (v : Value) (ys : List Int) (x : Int) (hacc : AccR row w0 w v ys) (hl : ys.length ≤ 10000000) (s y : Operand)
    (hgd : o.guard = none) (ho : o.op = .call { callee := .builtin .append, args := #[s, y], argTypes := #[23, 23] })
    (hs : a.eval s = v) (hy : a.eval y = .slice (some ⟨w.heap.size, 0, none⟩) 1 1)
    (h : ∀ v' w', AccR row w0 w' v' (ys ++ [x]) → Below w0.heap.size w w' → wpList Try.prog ops Q rest (a.put o.dst v') w') : wpList Try.prog ops Q (o :: rest) a (w.alloc (.cells #[.int .i64 x] 3)) := by
  obtain ⟨i0, hi, hz0, hz1, hz2⟩ := info_parts infoInt
  refine wpList_append_own _ hgd s y 23 ho w0.heap.size 3 i0 (.int .i64 0) 1 8 Try.underlying23 hi hz0 hz1 hz2 rfl (by decide) v ys.length _ hs (hacc.1.alloc _) ⟨w.heap.size, 0, none⟩ 1 1 [.int .i64 x] hy rfl
    ?_ ?_ (by unfold maxLen; omega) (by omega) (by have := hacc.2.size; simp; omega) ?_
  · intro j u hj
    match j, hj with
    | 0, hj => simp at hj; subst hj; simp [Addr.add]
  · intro u hu; simp at hu; subst hu; rfl
  · intro v' w' h2 h3 _
    exact h v' w' (acc_step hacc h2 h3) (acc_below hacc h3)

/-- append(out, x), in a region that draws its order. -/
theorem step_app1 {ops : Array Oper} {E : Prop} {row : Option Nat} (w0 w : World) (v : Value) (ys : List Int) (x : Int) (hacc : AccR row w0 w v ys) (hl : ys.length ≤ 10000000) (s y : Operand)
    (hgd : o.guard = none) (ho : o.op = .call { callee := .builtin .append, args := #[s, y], argTypes := #[23, 23] })
    (hs : a.eval s = v) (hy : a.eval y = .slice (some ⟨w.heap.size, 0, none⟩) 1 1)
    (h : ∀ v' w', AccR row w0 w' v' (ys ++ [x]) → Below w0.heap.size w w' → K (a.put o.dst v') w') : if Region.wanted o (yielded ops a.tmps) = true then Oper.wp Try.prog o a (w.alloc (.cells #[.int .i64 x] 3)) K Q else E := by
  have hw : Region.wanted o (yielded ops a.tmps) = true := by simp [Region.wanted, hgd]
  rw [if_pos hw]
  obtain ⟨i0, hi, hz0, hz1, hz2⟩ := info_parts infoInt
  refine wp_append_own _ s y 23 ho w0.heap.size 3 i0 (.int .i64 0) 1 8 Try.underlying23 hi hz0 hz1 hz2 rfl (by decide) v ys.length _ hs (hacc.1.alloc _) ⟨w.heap.size, 0, none⟩ 1 1 [.int .i64 x] hy rfl
    ?_ ?_ (by unfold maxLen; omega) (by omega) (by have := hacc.2.size; simp; omega) ?_
  · intro j u hj
    match j, hj with
    | 0, hj => simp at hj; subst hj; simp [Addr.add]
  · intro u hu; simp at hu; subst hu; rfl
  · intro v' w' h2 h3 _
    exact h v' w' (acc_step hacc h2 h3) (acc_below hacc h3)

/-- append(out, list...), in a region of a fixed order; the list has numbers. -/
theorem wpList_appL {ops : Array Oper} {rest : List Oper} {row : Option Nat} (w0 w : World) (v : Value) (ys : List Int) (hacc : AccR row w0 w v ys) (lo hi : Nat) (ad : Addr) (n c : Nat) (xs : List Int) (hx : Ints lo hi w (some ad) n c xs) (hn : 0 < n)
    (hl : ys.length + n ≤ 10000000) (s y : Operand)
    (hgd : o.guard = none) (ho : o.op = .call { callee := .builtin .append, args := #[s, y], argTypes := #[23, 23] })
    (hs : a.eval s = v) (hy : a.eval y = .slice (some ad) n c)
    (h : ∀ v' w', AccR row w0 w' v' (ys ++ xs) → Below w0.heap.size w w' → wpList Try.prog ops Q rest (a.put o.dst v') w') : wpList Try.prog ops Q (o :: rest) a w := by
  obtain ⟨i0, hi0, hz0, hz1, hz2⟩ := info_parts infoInt
  have hxl := hx.1
  obtain ⟨b, off, e, _, _, _, hc⟩ := hx.2.2.2 hn
  obtain rfl : ad = ⟨b, off, none⟩ := by simpa using e
  refine wpList_append_own _ hgd s y 23 ho w0.heap.size 3 i0 (.int .i64 0) 1 8 Try.underlying23 hi0 hz0 hz1 hz2 rfl (by decide) v ys.length _ hs hacc.1 ⟨b, off, none⟩ n c (xs.map (Value.int .i64)) hy (by simp [hxl])
    ?_ ?_ (by unfold maxLen; omega) (by omega) hacc.2.size ?_
  · intro j u hj
    have hjl : j < n := by
      rcases Nat.lt_or_ge j n with h | h
      · exact h
      · rw [List.getElem?_eq_none (by simpa [hxl] using h)] at hj; cases hj
    have e2 : (Addr.add ⟨b, off, none⟩ j) = ⟨b, off + j, none⟩ := by
      unfold Addr.add; split <;> simp_all
    rw [e2, hc j hjl, ← hj, List.getElem?_map, List.getD_eq_getElem?_getD, List.getElem?_eq_getElem (by omega)]
    rfl
  · intro u hu
    obtain ⟨z, _, rfl⟩ := List.mem_map.1 hu
    rfl
  · intro v' w' h2 h3 _
    refine h v' w' ⟨by simpa [hxl] using h2, grown_trans' hacc.2 h3 fun k hk => (hacc.1.lt k hk).1⟩ ?_
    exact (Below.refl _ _).grown h3 hacc.2.size fun k hk => (hacc.1.lt k hk).1

/-- append(out, list...), in a region that draws its order; the list has numbers. -/
theorem step_appL {ops : Array Oper} {E : Prop} {row : Option Nat} (w0 w : World) (v : Value) (ys : List Int) (hacc : AccR row w0 w v ys) (lo hi : Nat) (ad : Addr) (n c : Nat) (xs : List Int) (hx : Ints lo hi w (some ad) n c xs) (hn : 0 < n)
    (hl : ys.length + n ≤ 10000000) (s y : Operand)
    (hgd : o.guard = none) (ho : o.op = .call { callee := .builtin .append, args := #[s, y], argTypes := #[23, 23] })
    (hs : a.eval s = v) (hy : a.eval y = .slice (some ad) n c)
    (h : ∀ v' w', AccR row w0 w' v' (ys ++ xs) → Below w0.heap.size w w' → K (a.put o.dst v') w') : if Region.wanted o (yielded ops a.tmps) = true then Oper.wp Try.prog o a w K Q else E := by
  have hw : Region.wanted o (yielded ops a.tmps) = true := by simp [Region.wanted, hgd]
  rw [if_pos hw]
  obtain ⟨i0, hi0, hz0, hz1, hz2⟩ := info_parts infoInt
  have hxl := hx.1
  obtain ⟨b, off, e, _, _, _, hc⟩ := hx.2.2.2 hn
  obtain rfl : ad = ⟨b, off, none⟩ := by simpa using e
  refine wp_append_own _ s y 23 ho w0.heap.size 3 i0 (.int .i64 0) 1 8 Try.underlying23 hi0 hz0 hz1 hz2 rfl (by decide) v ys.length _ hs hacc.1 ⟨b, off, none⟩ n c (xs.map (Value.int .i64)) hy (by simp [hxl])
    ?_ ?_ (by unfold maxLen; omega) (by omega) hacc.2.size ?_
  · intro j u hj
    have hjl : j < n := by
      rcases Nat.lt_or_ge j n with h | h
      · exact h
      · rw [List.getElem?_eq_none (by simpa [hxl] using h)] at hj; cases hj
    have e2 : (Addr.add ⟨b, off, none⟩ j) = ⟨b, off + j, none⟩ := by
      unfold Addr.add; split <;> simp_all
    rw [e2, hc j hjl, ← hj, List.getElem?_map, List.getD_eq_getElem?_getD, List.getElem?_eq_getElem (by omega)]
    rfl
  · intro u hu
    obtain ⟨z, _, rfl⟩ := List.mem_map.1 hu
    rfl
  · intro v' w' h2 h3 _
    refine h v' w' ⟨by simpa [hxl] using h2, grown_trans' hacc.2 h3 fun k hk => (hacc.1.lt k hk).1⟩ ?_
    exact (Below.refl _ _).grown h3 hacc.2.size fun k hk => (hacc.1.lt k hk).1

/-- Nothing is appended: the slice is as it was. -/
theorem run_app_nil {row : Option Nat} {w0 w : World} {v : Value} {ys : List Int} (hacc : AccR row w0 w v ys) (ty : TypeId) (c : Nat) : (Builtin.append_ #[23, 23] ty #[v, .slice none 0 c]).run Try.prog w = .ok v w := by
  obtain ⟨i0, hi, _, _, _⟩ := info_parts infoInt
  rcases hacc.1.2 with ⟨rfl, _⟩ | ⟨g, cap, cur, rfl, _, _, hnc, _⟩
  · simp [Builtin.append_, run_underlying Try.underlying23, sizeOf, typeInfo, hi, Builtin.lenOf, Builtin.firstCells]
  · simp [Builtin.append_, run_underlying Try.underlying23, sizeOf, typeInfo, hi, Builtin.lenOf, Builtin.firstCells, hnc, storeCells]

/-- append(out, list...), in a region of a fixed order; the list may be nil or empty. -/
theorem wpList_appAny {ops : Array Oper} {rest : List Oper} {row : Option Nat} (w0 w : World) (v : Value) (ys : List Int) (hacc : AccR row w0 w v ys) (lo hi : Nat) (B : Option Addr) (n c : Nat) (xs : List Int) (hx : Ints lo hi w B n c xs)
    (hl : ys.length + n ≤ 10000000) (s y : Operand)
    (hgd : o.guard = none) (ho : o.op = .call { callee := .builtin .append, args := #[s, y], argTypes := #[23, 23] })
    (hs : a.eval s = v) (hy : a.eval y = .slice B n c)
    (h : ∀ v' w', AccR row w0 w' v' (ys ++ xs) → Below w0.heap.size w w' → wpList Try.prog ops Q rest (a.put o.dst v') w') : wpList Try.prog ops Q (o :: rest) a w := by
  rcases Nat.eq_zero_or_pos n with rfl | hn
  · have hxe : xs = [] := List.eq_nil_of_length_eq_zero hx.1
    subst hxe
    rw [List.append_nil] at h
    cases B with
    | none =>
      refine wpList_plain hgd fun _ hK => ?_
      unfold Oper.wp execOp
      simp only [ho, resolve, invoke, builtin, Sem.run_bind, Sem.run_pure, Result.andThen_ok, List.map_toArray, List.map_cons, List.map_nil, hs, hy, run_app_nil hacc]
      exact hK _ _ (h v w hacc (Below.refl _ _))
    | some ad =>
      obtain ⟨i0, hi0, hz0, hz1, hz2⟩ := info_parts infoInt
      refine wpList_append_own _ hgd s y 23 ho w0.heap.size 3 i0 (.int .i64 0) 1 8 Try.underlying23 hi0 hz0 hz1 hz2 rfl (by decide) v ys.length _ hs hacc.1 ad 0 c [] hy rfl
        (fun j u hj => by simp at hj) (fun u hu => by simp at hu) (by unfold maxLen; omega) (by omega) hacc.2.size ?_
      intro v' w' h2 h3 _
      exact h v' w' ⟨by simpa using h2, grown_trans' hacc.2 h3 fun k hk => (hacc.1.lt k hk).1⟩ ((Below.refl _ _).grown h3 hacc.2.size fun k hk => (hacc.1.lt k hk).1)
  · obtain ⟨b, off, rfl, _⟩ := hx.2.2.2 hn
    exact wpList_appL w0 w v ys hacc lo hi ⟨b, off, none⟩ n c xs hx hn hl s y hgd ho hs hy h

end
end Il
end Go.Proofs.Ytnjcpbkpcmemeac

/-
  A slice of ints that a call gathers by append, with the block that it lies in: appending stays there or goes to a new block. So several can be gathered side by side.
-/
namespace Go.Proofs.Ytnjcpbkpcmemeac
open Go.RowKit
namespace Il

/-- The slice v lies in block g from its beginning on and holds ys. -/
def AccB (g : Nat) (w : World) (v : Value) (ys : List Int) : Prop :=
  ∃ cap, v = .slice (some ⟨g, 0, none⟩) ys.length cap ∧ w.ownsRow g 3 1 v ys.length (ys.map (Value.int .i64))

theorem AccB.lt {g : Nat} {w : World} {v : Value} {ys : List Int} (h : AccB g w v ys) : g < w.heap.size := by
  obtain ⟨cap, rfl, ho⟩ := h
  exact (ho.lt g rfl).2
theorem AccB.own {g : Nat} {w : World} {v : Value} {ys : List Int} (h : AccB g w v ys) : ∃ cap, v = .slice (some ⟨g, 0, none⟩) ys.length cap ∧ Own g (g + 1) w (some ⟨g, 0, none⟩) ys.length cap ys := by
  obtain ⟨cap, rfl, ho⟩ := h
  obtain ⟨A, c, e, hown⟩ := own_of ho
  simp only [Value.slice.injEq] at e
  obtain ⟨rfl, _, rfl⟩ := e
  refine ⟨cap, rfl, ⟨hown.1.1, hown.1.2.1, hown.1.2.2.1, fun hn => ?_⟩, hown.2⟩
  obtain ⟨b, off, e, h1, h2, h3, h4⟩ := hown.1.2.2.2 hn
  have e' := e
  simp only [Option.some.injEq, Addr.mk.injEq, and_true] at e'
  obtain ⟨rfl, rfl⟩ := e'
  exact ⟨g, 0, e, Nat.le_refl _, by omega, h3, h4⟩
theorem AccB.keep {g : Nat} {w w' : World} {v : Value} {ys : List Int} {row : Option Nat} (h : AccB g w v ys) (hg : w.grownBy w' row) (hr : row ≠ some g) : AccB g w' v ys := by
  obtain ⟨cap, rfl, ho⟩ := h
  exact ⟨cap, rfl, ho.kept hg (.inr (fun e => hr e.symm))⟩
theorem AccB.alloc {g : Nat} {w : World} {v : Value} {ys : List Int} (h : AccB g w v ys) (o : Obj) : AccB g (w.alloc o) v ys := h.keep (World.grownBy_alloc w o none) (by simp)
/-- []int{} -/
theorem accB_new (w : World) : AccB w.heap.size (w.alloc (.cells #[] 3)) (.slice (some ⟨w.heap.size, 0, none⟩) 0 0) [] :=
  ⟨0, rfl, World.ownsRow_made w #[] 0 (Nat.le_refl _) (Nat.zero_le _) rfl⟩

theorem run_app1B {g : Nat} {w : World} {v : Value} {ys : List Int} (ty : TypeId) (h : AccB g w v ys) (hl : ys.length ≤ 10000000) (x : Int) (ad : Addr) (had : w.cell? (ad.add 0) = some (.int .i64 x)) :
    ∃ g' v' w', (Builtin.append_ #[23, 23] ty #[v, .slice (some ad) 1 1]).run Try.prog w = .ok v' w' ∧ AccB g' w' v' (ys ++ [x]) ∧ (g' = g ∨ w.heap.size ≤ g') ∧ w.grownBy w' (some g) := by
  obtain ⟨i0, hi, hz0, hz1, hz2⟩ := info_parts infoInt
  have hlt := h.lt
  obtain ⟨cap, rfl, ho⟩ := h
  have hnews : ∀ j u, ([.int .i64 x] : List Value)[j]? = some u → w.cell? (ad.add j) = some u := fun j u hj => by
    match j, hj with
    | 0, hj => simp at hj; subst hj; exact had
  obtain ⟨v', w', hr, h2, h3, _⟩ := run_append_own (P := Try.prog) w g 23 ty 3 i0 (.int .i64 0) 1 8 Try.underlying23 hi hz0 hz1 hz2 rfl (by decide) _ ys.length _ ho ad 1 1 [.int .i64 x] rfl hnews (fun u hu => by simp at hu; subst hu; rfl) (by unfold maxLen; omega) (by omega) (by omega)
  have hw : ∃ g', (g' = g ∨ w.heap.size ≤ g') ∧ v'.ownBlock = some g' := by
    rcases ho.2 with ⟨e, _⟩ | ⟨g1, cap1, cur, e, _, hh, hnc, hm, hs, _⟩
    · simp at e
    · simp only [Value.slice.injEq, Option.some.injEq, Addr.mk.injEq, and_true] at e
      obtain ⟨rfl, _, rfl⟩ := e
      by_cases hroom : ys.length + 1 ≤ cap
      · have hc : ∀ j, j < ([.int .i64 x] : List Value).length → (w.cell? ⟨g, 0 + ys.length * i0.size + j, none⟩).isSome = true := fun j hj => by
          rw [cell_of_row _ _ _ _ _ _ hh, hz1]
          have : 0 + ys.length * 1 + j < cur.size := by simp at hj; omega
          rw [Array.getElem?_eq_getElem this]; rfl
        have hf : ∀ j, j < ([.int .i64 x] : List Value).length → w.frozen? ⟨g, 0 + ys.length * i0.size + j, none⟩ = false := fun j _ => by simp [World.frozen?, hh]
        have hq := run_append_room_cells (P := Try.prog) w 23 ty 3 i0 Try.underlying23 hi g 0 ys.length cap ad 1 1 [.int .i64 x] (by rw [hz1]; rfl) hnews (fun u hu => by simp at hu; subst hu; rfl) hroom hc hf
        rw [hr] at hq
        simp only [Result.ok.injEq] at hq
        exact ⟨g, .inl rfl, by rw [hq.1]; rfl⟩
      · obtain ⟨v2, w2, hq, ho2, _⟩ := run_append_arg_grows (P := Try.prog) w 23 ty 3 i0 (.int .i64 0) 1 8 Try.underlying23 hi hz0 hz1 hz2 rfl (by decide) ⟨g, 0, none⟩ ys.length cap (ys.map (Value.int .i64)) (by simp) (fun j u hj => ho.cells (g := g) rfl j u hj) ad 1 1 [.int .i64 x] rfl hnews (by omega) (by unfold maxLen; omega) (by omega)
        rw [hr] at hq
        simp only [Result.ok.injEq] at hq
        rcases ho2.2 with ⟨_, e⟩ | ⟨g2, cap2, cur2, e, hg2, _⟩
        · exact absurd e (by simp)
        · exact ⟨g2, .inr hg2, by rw [hq.1, e]; rfl⟩
  obtain ⟨g', hg', hb⟩ := hw
  refine ⟨g', v', w', hr, ?_, hg', h3⟩
  rcases h2.2 with ⟨e, _⟩ | ⟨g1, cap1, cur, e, hbg, hh, hnc, hm, hs, ht⟩
  · rw [e] at hb; simp [Value.ownBlock] at hb
  · subst e
    obtain rfl : g1 = g' := by simpa [Value.ownBlock] using hb
    refine ⟨cap1, by simp, ?_⟩
    have hlen : (ys ++ [x]).length = ys.length + 1 := by simp
    rw [hlen, List.map_append]
    exact ⟨h2.1, .inr ⟨g1, cap1, cur, rfl, Nat.le_refl _, hh, hnc, hm, hs, ht⟩⟩

theorem run_appLB {g : Nat} {w : World} {v : Value} {ys : List Int} (ty : TypeId) (h : AccB g w v ys) (lo hi : Nat) (B : Option Addr) (n c : Nat) (xs : List Int) (hx : Ints lo hi w B n c xs) (hl : ys.length + n ≤ 10000000) :
    ∃ g' v' w', (Builtin.append_ #[23, 23] ty #[v, .slice B n c]).run Try.prog w = .ok v' w' ∧ AccB g' w' v' (ys ++ xs) ∧ (g' = g ∨ w.heap.size ≤ g') ∧ w.grownBy w' (some g) := by
  obtain ⟨i0, hi0, hz0, hz1, hz2⟩ := info_parts infoInt
  have hlt := h.lt
  rcases Nat.eq_zero_or_pos n with rfl | hn
  · have hxe : xs = [] := List.eq_nil_of_length_eq_zero hx.1
    subst hxe
    refine ⟨g, v, w, ?_, by rw [List.append_nil]; exact h, .inl rfl, World.grownBy.refl _ _⟩
    obtain ⟨cap, rfl, ho⟩ := h
    have hcap : ys.length ≤ cap := by
      rcases ho.2 with ⟨e, _⟩ | ⟨g1, cap1, cur, e, _, _, hnc, _⟩
      · simp at e
      · simp only [Value.slice.injEq, Option.some.injEq, Addr.mk.injEq, and_true] at e
        omega
    cases B with
    | none => simp [Builtin.append_, run_underlying Try.underlying23, sizeOf, typeInfo, hi0, Builtin.lenOf, Builtin.firstCells, hcap, storeCells]
    | some ad =>
      have hq := run_append_room_cells (P := Try.prog) w 23 ty 3 i0 Try.underlying23 hi0 g 0 ys.length cap ad 0 c [] (by simp) (fun j u hj => by simp at hj) (fun u hu => by simp at hu) (by omega) (fun j hj => by simp at hj) (fun j hj => by simp at hj)
      simpa [World.setCells] using hq
  · obtain ⟨cap, rfl, ho⟩ := h
    have hxl := hx.1
    obtain ⟨b2, off2, rfl, _, _, hz, hc2⟩ := hx.2.2.2 hn
    have hnews : ∀ j u, (xs.map (Value.int .i64))[j]? = some u → w.cell? ((⟨b2, off2, none⟩ : Addr).add j) = some u := fun j u hj => by
      have hjl : j < n := by
        rcases Nat.lt_or_ge j n with h | h
        · exact h
        · rw [List.getElem?_eq_none (by simpa [hxl] using h)] at hj; cases hj
      have e2 : (Addr.add ⟨b2, off2, none⟩ j) = ⟨b2, off2 + j, none⟩ := by
        unfold Addr.add; split <;> simp_all
      rw [e2, hc2 j hjl, ← hj, List.getElem?_map, List.getD_eq_getElem?_getD, List.getElem?_eq_getElem (by omega)]
      rfl
    have h1c : ∀ u ∈ xs.map (Value.int .i64), u.oneCell' = true := fun u hu => by
      obtain ⟨z, _, rfl⟩ := List.mem_map.1 hu
      rfl
    have hnl : (xs.map (Value.int .i64)).length = n * 1 := by simp [hxl]
    obtain ⟨v', w', hr, h2, h3, _⟩ := run_append_own (P := Try.prog) w g 23 ty 3 i0 (.int .i64 0) 1 8 Try.underlying23 hi0 hz0 hz1 hz2 rfl (by decide) _ ys.length _ ho ⟨b2, off2, none⟩ n c (xs.map (Value.int .i64)) hnl hnews h1c (by unfold maxLen; omega) (by omega) (by omega)
    have hw : ∃ g', (g' = g ∨ w.heap.size ≤ g') ∧ v'.ownBlock = some g' := by
      rcases ho.2 with ⟨e, _⟩ | ⟨g1, cap1, cur, e, _, hh, hnc, hm, hs, _⟩
      · simp at e
      · simp only [Value.slice.injEq, Option.some.injEq, Addr.mk.injEq, and_true] at e
        obtain ⟨rfl, _, rfl⟩ := e
        by_cases hroom : ys.length + n ≤ cap
        · have hc : ∀ j, j < (xs.map (Value.int .i64)).length → (w.cell? ⟨g, 0 + ys.length * i0.size + j, none⟩).isSome = true := fun j hj => by
            rw [cell_of_row _ _ _ _ _ _ hh, hz1]
            have : 0 + ys.length * 1 + j < cur.size := by simp [hxl] at hj; omega
            rw [Array.getElem?_eq_getElem this]; rfl
          have hf : ∀ j, j < (xs.map (Value.int .i64)).length → w.frozen? ⟨g, 0 + ys.length * i0.size + j, none⟩ = false := fun j _ => by simp [World.frozen?, hh]
          have hq := run_append_room_cells (P := Try.prog) w 23 ty 3 i0 Try.underlying23 hi0 g 0 ys.length cap ⟨b2, off2, none⟩ n c (xs.map (Value.int .i64)) (by rw [hz1]; exact hnl) hnews h1c hroom hc hf
          rw [hr] at hq
          simp only [Result.ok.injEq] at hq
          exact ⟨g, .inl rfl, by rw [hq.1]; rfl⟩
        · obtain ⟨v2, w2, hq, ho2, _⟩ := run_append_arg_grows (P := Try.prog) w 23 ty 3 i0 (.int .i64 0) 1 8 Try.underlying23 hi0 hz0 hz1 hz2 rfl (by decide) ⟨g, 0, none⟩ ys.length cap (ys.map (Value.int .i64)) (by simp) (fun j u hj => ho.cells (g := g) rfl j u hj) ⟨b2, off2, none⟩ n c (xs.map (Value.int .i64)) hnl hnews (by omega) (by unfold maxLen; omega) (by omega)
          rw [hr] at hq
          simp only [Result.ok.injEq] at hq
          rcases ho2.2 with ⟨_, e⟩ | ⟨g2, cap2, cur2, e, hg2, _⟩
          · exact absurd e (by omega)
          · exact ⟨g2, .inr hg2, by rw [hq.1, e]; rfl⟩
    obtain ⟨g', hg', hb⟩ := hw
    refine ⟨g', v', w', hr, ?_, hg', h3⟩
    rcases h2.2 with ⟨e, _⟩ | ⟨g1, cap1, cur, e, hbg, hh, hnc, hm, hs, ht⟩
    · rw [e] at hb; simp [Value.ownBlock] at hb
    · subst e
      obtain rfl : g1 = g' := by simpa [Value.ownBlock] using hb
      refine ⟨cap1, by simp [hxl], ?_⟩
      have hlen : (ys ++ xs).length = ys.length + n := by simp [hxl]
      rw [hlen, List.map_append]
      exact ⟨h2.1, .inr ⟨g1, cap1, cur, rfl, Nat.le_refl _, hh, hnc, hm, hs, ht⟩⟩

section
variable {o : Oper} {a : Act} {Q : Exit → Act → World → Prop}
/-- append(out, x), in a region of a fixed order. -/
theorem wpList_app1B {ops : Array Oper} {rest : List Oper} (g : Nat) (w : World) (v : Value) (ys : List Int) (x : Int) (hacc : AccB g w v ys) (hl : ys.length ≤ 10000000) (s y : Operand)
    (hgd : o.guard = none) (ho : o.op = .call { callee := .builtin .append, args := #[s, y], argTypes := #[23, 23] })
    (hs : a.eval s = v) (hy : a.eval y = .slice (some ⟨w.heap.size, 0, none⟩) 1 1)
    (h : ∀ g' v' w', AccB g' w' v' (ys ++ [x]) → (g' = g ∨ w.heap.size < g') → w.grownBy w' (some g) → wpList Try.prog ops Q rest (a.put o.dst v') w') : wpList Try.prog ops Q (o :: rest) a (w.alloc (.cells #[.int .i64 x] 3)) := by
  obtain ⟨g', v', w', hr, h1, h2, h3⟩ := run_app1B (w := w.alloc (.cells #[.int .i64 x] 3)) o.type (hacc.alloc _) hl x ⟨w.heap.size, 0, none⟩ (by simp [Addr.add])
  refine wpList_plain hgd fun _ hK => ?_
  unfold Oper.wp execOp
  simp only [ho, resolve, invoke, builtin, Sem.run_bind, Sem.run_pure, Result.andThen_ok, List.map_toArray, List.map_cons, List.map_nil, hs, hy, hr]
  exact hK _ _ (h g' v' w' h1 (by simp at h2; omega) (grown_trans (World.grownBy_alloc _ _ _) h3))
/-- append(out, list...), in a region of a fixed order. -/
theorem wpList_appLB {ops : Array Oper} {rest : List Oper} (g : Nat) (w : World) (v : Value) (ys : List Int) (hacc : AccB g w v ys) (lo hi : Nat) (B : Option Addr) (n c : Nat) (xs : List Int) (hx : Ints lo hi w B n c xs) (hl : ys.length + n ≤ 10000000) (s y : Operand)
    (hgd : o.guard = none) (ho : o.op = .call { callee := .builtin .append, args := #[s, y], argTypes := #[23, 23] })
    (hs : a.eval s = v) (hy : a.eval y = .slice B n c)
    (h : ∀ g' v' w', AccB g' w' v' (ys ++ xs) → (g' = g ∨ w.heap.size ≤ g') → w.grownBy w' (some g) → wpList Try.prog ops Q rest (a.put o.dst v') w') : wpList Try.prog ops Q (o :: rest) a w := by
  obtain ⟨g', v', w', hr, h1, h2, h3⟩ := run_appLB o.type hacc lo hi B n c xs hx hl
  refine wpList_plain hgd fun _ hK => ?_
  unfold Oper.wp execOp
  simp only [ho, resolve, invoke, builtin, Sem.run_bind, Sem.run_pure, Result.andThen_ok, List.map_toArray, List.map_cons, List.map_nil, hs, hy, hr]
  exact hK _ _ (h g' v' w' h1 h2 h3)
end

end Il
end Go.Proofs.Ytnjcpbkpcmemeac

/-
  What the laws' walks share: what a law's walk ends in, and small facts on lengths.
-/
namespace Go.Proofs.Ytnjcpbkpcmemeac
open Go.RowKit
namespace LawB

def TruePost (w : World) (e : Ending) (w' : World) : Prop := e = .returned (.bool true) ∧ Below w.heap.size w w'
theorem drew_below {w w' : World} (h : ∃ d, w' = w.drewN d) : Below w.heap.size w w' := by
  obtain ⟨d, rfl⟩ := h
  exact ⟨rfl, rfl, rfl, Nat.le_refl _, fun _ _ => rfl⟩
theorem len_zero {ys : List Int} (h : ys = []) : ((ys.length : Int) == 0) = true := by subst h; rfl
theorem pos_of_len {ys : List Int} (h : ((ys.length : Int) == 0) = false) : 0 < ys.length := by
  cases ys with
  | nil => simp at h
  | cons a l => simp
theorem len_pos {ys : List Int} (h : ¬ ys = []) : ((ys.length : Int) == 0) = false := by
  cases ys with
  | nil => exact absurd rfl h
  | cons a l => simp; omega

end LawB
end Go.Proofs.Ytnjcpbkpcmemeac
