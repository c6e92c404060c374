/-
  Slices of bools in memory that read as lists. Nothing of any program.
-/
import Derived.Test.YtjfonmaandnbhabFo
namespace Go.Proofs.Ytjfonmaandnbhab
open Go.RowKit
namespace Bi
open Il Sl Fo

/-- The slice A, of n places and room for c, holds the numbers xs; its block lies from lo on, below hi. -/
def Bls (lo hi : Nat) (w : World) (A : Option Addr) (n c : Nat) (xs : List Bool) : Prop :=
  xs.length = n ∧ n ≤ c ∧ c ≤ maxLen ∧ (0 < n → ∃ b off, A = some ⟨b, off, none⟩ ∧ lo ≤ b ∧ b < hi ∧ b < w.heap.size ∧ ∀ j, j < n → w.cell? ⟨b, off + j, none⟩ = some (.bool (xs.getD j false)))
/-- .. and its places can be written. -/
def Blo (lo hi : Nat) (w : World) (A : Option Addr) (n c : Nat) (xs : List Bool) : Prop :=
  Bls lo hi w A n c xs ∧ ∀ b off, 0 < n → A = some ⟨b, off, none⟩ → ∀ j, j < n → w.frozen? ⟨b, off + j, none⟩ = false
section
variable {lo hi lo' hi' : Nat} {w w' : World} {A : Option Addr} {n c : Nat} {xs : List Bool}
theorem Blo.ints (h : Blo lo hi w A n c xs) : Bls lo hi w A n c xs := h.1
theorem Bls.mono (h : Bls lo hi w A n c xs) (h1 : lo' ≤ lo) (h2 : hi ≤ hi') : Bls lo' hi' w A n c xs :=
  ⟨h.1, h.2.1, h.2.2.1, fun hn => by
    obtain ⟨b, off, e, hb, hb', hz, hc⟩ := h.2.2.2 hn
    exact ⟨b, off, e, by omega, by omega, hz, hc⟩⟩
theorem Blo.mono (h : Blo lo hi w A n c xs) (h1 : lo' ≤ lo) (h2 : hi ≤ hi') : Blo lo' hi' w A n c xs := ⟨h.1.mono h1 h2, h.2⟩
theorem Bls.keep (h : Bls lo hi w A n c xs) (hs : w.heap.size ≤ w'.heap.size) (hk : ∀ b, lo ≤ b → b < hi → b < w.heap.size → w'.heap[b]? = w.heap[b]?) : Bls lo hi w' A n c xs :=
  ⟨h.1, h.2.1, h.2.2.1, fun hn => by
    obtain ⟨b, off, e, hb, hb', hz, hc⟩ := h.2.2.2 hn
    exact ⟨b, off, e, hb, hb', by omega, fun j hj => (World.cell?_of_block (hk b hb hb' hz)).trans (hc j hj)⟩⟩
theorem Blo.keep (h : Blo lo hi w A n c xs) (hs : w.heap.size ≤ w'.heap.size) (hk : ∀ b, lo ≤ b → b < hi → b < w.heap.size → w'.heap[b]? = w.heap[b]?) : Blo lo hi w' A n c xs :=
  ⟨h.1.keep hs hk, fun b off hn e j hj => by
    obtain ⟨b', off', e', hb, hb', hz, _⟩ := h.1.2.2.2 hn
    have : b = b' := by rw [e'] at e; simp at e; exact e.1.symm
    subst this
    exact (World.frozen?_of_block (hk b hb hb' hz)).trans (h.2 b off hn e j hj)⟩
theorem Bls.below {B : Nat} (h : Bls lo hi w A n c xs) (hb : Below B w w') (hB : w.heap.size ≤ B) : Bls lo hi w' A n c xs := h.keep hb.size fun b _ _ hz => hb.block b (by omega)
theorem Blo.below {B : Nat} (h : Blo lo hi w A n c xs) (hb : Below B w w') (hB : w.heap.size ≤ B) : Blo lo hi w' A n c xs := h.keep hb.size fun b _ _ hz => hb.block b (by omega)
theorem Bls.below' {B : Nat} (h : Bls lo hi w A n c xs) (hb : Below B w w') (hB : hi ≤ B) : Bls lo hi w' A n c xs := h.keep hb.size fun b _ h2 _ => hb.block b (by omega)
theorem Blo.below' {B : Nat} (h : Blo lo hi w A n c xs) (hb : Below B w w') (hB : hi ≤ B) : Blo lo hi w' A n c xs := h.keep hb.size fun b _ h2 _ => hb.block b (by omega)
/-- Behind writes to one block alone, which is another's. -/
theorem Bls.grown {row : Option Nat} (h : Bls lo hi w A n c xs) (hg : w.grownBy w' row) (hr : ∀ k, row = some k → k < lo ∨ hi ≤ k) : Bls lo hi w' A n c xs :=
  h.keep hg.size fun b h1 h2 hz => hg.block b hz (fun e => by have := hr b e.symm; omega)
theorem Blo.grown {row : Option Nat} (h : Blo lo hi w A n c xs) (hg : w.grownBy w' row) (hr : ∀ k, row = some k → k < lo ∨ hi ≤ k) : Blo lo hi w' A n c xs :=
  h.keep hg.size fun b h1 h2 hz => hg.block b hz (fun e => by have := hr b e.symm; omega)
theorem Bls.drewN (h : Bls lo hi w A n c xs) (d : Nat) : Bls lo hi (w.drewN d) A n c xs := h
theorem Blo.drewN (h : Blo lo hi w A n c xs) (d : Nat) : Blo lo hi (w.drewN d) A n c xs := h
theorem Bls.at_ {k : Nat} (h : Bls lo hi w A n c xs) (hk : k < n) : ∃ b off, A = some ⟨b, off, none⟩ ∧ lo ≤ b ∧ b < hi ∧ w.cell? ⟨b, off + k, none⟩ = some (.bool (xs.getD k false)) := by
  obtain ⟨b, off, e, hb, hb', _, hc⟩ := h.2.2.2 (by omega)
  exact ⟨b, off, e, hb, hb', hc k hk⟩
theorem Bls.take {k : Nat} (h : Bls lo hi w A n c xs) (hk : k ≤ n) : Bls lo hi w A k c (xs.take k) :=
  ⟨by rw [List.length_take, h.1]; omega, Nat.le_trans hk h.2.1, h.2.2.1, fun hn => by
    obtain ⟨b, off, e, hb, hb', hz, hc⟩ := h.2.2.2 (by omega)
    refine ⟨b, off, e, hb, hb', hz, fun j hj => ?_⟩
    rw [hc j (by omega), List.getD_eq_getElem?_getD, List.getD_eq_getElem?_getD, List.getElem?_take_of_lt hj]⟩
theorem Bls.len_ (h : Bls lo hi w A n c xs) : xs.length = n := h.1
theorem Bls.cap_ (h : Bls lo hi w A n c xs) : n ≤ c := h.2.1
theorem Bls.nil_ (hc : c ≤ maxLen) : Bls lo hi w A 0 c [] := ⟨rfl, Nat.zero_le _, hc, fun h => absurd h (by omega)⟩
theorem Blo.nil_ (hc : c ≤ maxLen) : Blo lo hi w A 0 c [] := ⟨Bls.nil_ hc, fun _ _ h => absurd h (by omega)⟩
/-- What a row of the call's own holds. -/
theorem blo_of {e : TypeId} {v : Value} (h : w.ownsRow lo e 1 v n (xs.map (Value.bool))) : ∃ A c, v = .slice A n c ∧ Blo lo w.heap.size w A n c xs := by
  have hl : xs.length = n := by simpa using h.1
  rcases h.2 with ⟨rfl, rfl⟩ | ⟨g, cap, cur, rfl, hg, hh, hnc, hm, hs, ht⟩
  · have : xs = [] := List.eq_nil_of_length_eq_zero hl
    subst this
    exact ⟨none, 0, rfl, Blo.nil_ (Nat.zero_le _)⟩
  · have hz : g < w.heap.size := (Array.getElem?_eq_some_iff.1 hh).1
    refine ⟨_, cap, rfl, ⟨hl, hnc, hm, fun _ => ⟨g, 0, rfl, hg, hz, hz, fun j hj => ?_⟩⟩, fun b off _ e j _ => ?_⟩
    · rw [Nat.zero_add, cell_of_row w g j cur e (0, 0) hh]
      have h1 : (cur.toList.take (n * 1))[j]? = (xs.map (Value.bool))[j]? := by rw [ht]
      rw [List.getElem?_take_of_lt (by omega), Array.getElem?_toList] at h1
      rw [h1, List.getElem?_map, List.getElem?_eq_getElem (by omega), List.getD_eq_getElem?_getD, List.getElem?_eq_getElem (by omega)]
      rfl
    · simp at e
      obtain ⟨rfl, rfl⟩ := e
      simp [World.frozen?, hh]
end
theorem Bls.kept {lo hi lo' hi' : Nat} {w w' : World} {A : Option Addr} {n c : Nat} {xs : List Bool} (h : Bls lo hi w A n c xs) (hk : Kept lo' hi' w w') (hd : hi ≤ lo' ∨ hi' ≤ lo) : Bls lo hi w' A n c xs :=
  h.keep (Nat.le_of_eq hk.size.symm) fun b h1 h2 _ => hk.block b (by omega)
theorem Blo.kept {lo hi lo' hi' : Nat} {w w' : World} {A : Option Addr} {n c : Nat} {xs : List Bool} (h : Blo lo hi w A n c xs) (hk : Kept lo' hi' w w') (hd : hi ≤ lo' ∨ hi' ≤ lo) : Blo lo hi w' A n c xs :=
  h.keep (Nat.le_of_eq hk.size.symm) fun b h1 h2 _ => hk.block b (by omega)
/-- One place is written. -/
theorem Blo.set_ {lo hi : Nat} {w : World} {b off n c k : Nat} {xs : List Bool} (h : Blo lo hi w (some ⟨b, off, none⟩) n c xs) (hk : k < n) (v : Bool) :
    Blo lo hi (w.setCell ⟨b, off + k, none⟩ (.bool v)) (some ⟨b, off, none⟩) n c (xs.set k v) := by
  have hl := h.1.1
  obtain ⟨b', off', e, hb, hb', hz, hc⟩ := h.1.2.2.2 (by omega)
  simp at e
  obtain ⟨rfl, rfl⟩ := e
  have hsz : (w.setCell ⟨b, off + k, none⟩ (.bool v)).heap.size = w.heap.size := by simp [World.setCell]
  refine ⟨⟨by simpa using hl, h.1.2.1, h.1.2.2.1, fun hn => ⟨b, off, rfl, hb, hb', by rw [hsz]; exact hz, fun j hj => ?_⟩⟩, fun b2 off2 hn e j hj => ?_⟩
  · by_cases hjk : j = k
    · subst hjk
      rw [World.cell?_setCell_same _ _ _ (hc j hj)]
      rw [List.getD_eq_getElem?_getD, List.getElem?_set_self (by omega)]
      rfl
    · rw [World.cell?_setCell_other w _ _ _ (by simp only [ne_eq, Addr.mk.injEq, true_and, and_true]; omega), hc j hj]
      rw [List.getD_eq_getElem?_getD, List.getD_eq_getElem?_getD, List.getElem?_set_ne (by omega)]
  · simp at e
    obtain ⟨rfl, rfl⟩ := e
    rw [World.frozen?_setCell]
    exact h.2 b off hn rfl j hj
/-- make([]int, n). -/
theorem blo_made (w : World) (e : TypeId) (n : Nat) (hn : n ≤ maxLen) :
    Blo w.heap.size (w.heap.size + 1) (w.alloc (.cells (madeCells #[.bool false] n) e)) (some ⟨w.heap.size, 0, none⟩) n n (List.replicate n false) := by
  have hh : (w.alloc (.cells (madeCells #[.bool false] n) e)).heap[w.heap.size]? = some (.cells (madeCells #[.bool false] n) e (0, 0)) := heap_alloc_new _ _
  refine ⟨⟨by simp, Nat.le_refl _, hn, fun _ => ⟨_, 0, rfl, Nat.le_refl _, by omega, by simp, fun j hj => ?_⟩⟩, fun b off _ e j _ => ?_⟩
  · rw [Nat.zero_add, cell_of_row _ _ j _ _ _ hh]
    simp [madeCells, hj, Nat.mod_one]
  · simp only [Option.some.injEq, Addr.mk.injEq, and_true] at e
    obtain ⟨rfl, rfl⟩ := e
    unfold World.frozen?
    rw [hh]
    simp
theorem copyB_step (xs : List Bool) {j n : Nat} (hn : xs.length = n) (h : j < n) : (xs.take j ++ List.replicate (n - j) false).set j (xs.getD j false) = xs.take (j + 1) ++ List.replicate (n - (j + 1)) false := by
  have h1 : (xs.take j).length = j := by rw [List.length_take]; omega
  rw [List.set_append_right _ _ (by omega), h1, Nat.sub_self]
  have h2 : n - j = (n - (j + 1)) + 1 := by omega
  rw [h2, List.replicate_succ, List.set_cons_zero, List.take_succ_eq_append_getElem (by omega), List.append_assoc]
  rw [List.getD_eq_getElem?_getD, List.getElem?_eq_getElem (by omega)]
  rfl
/-- A new slice that holds xs is returned; nothing that was there has turned. -/
def NewBls (w : World) (xs : List Bool) (e : Ending) (w' : World) : Prop :=
  ∃ A c, e = .returned (.slice A xs.length c) ∧ Blo w.heap.size w'.heap.size w' A xs.length c xs ∧ Below w.heap.size w w'
theorem takeB_eq_succ {xs ys : List Bool} {k : Nat} (hx : k < xs.length) (hy : k < ys.length) (h : xs.take k = ys.take k) (he : xs.getD k false = ys.getD k false) : xs.take (k + 1) = ys.take (k + 1) := by
  rw [List.take_succ_eq_append_getElem hx, List.take_succ_eq_append_getElem hy, h]
  rw [List.getD_eq_getElem?_getD, List.getD_eq_getElem?_getD, List.getElem?_eq_getElem hx, List.getElem?_eq_getElem hy] at he
  have he' : xs[k] = ys[k] := by simpa using he
  rw [he']
theorem blo_keepC {b n c : Nat} {w w' : World} {A : Option Addr} {xs : List Bool} (h : Blo b (b + 1) w A n c xs) (hs : w.heap.size ≤ w'.heap.size) (hk : 0 < n → w'.heap[b]? = w.heap[b]?) : Blo b (b + 1) w' A n c xs := by
  rcases Nat.eq_zero_or_pos n with rfl | hn
  · exact ⟨⟨h.1.1, h.1.2.1, h.1.2.2.1, fun h => absurd h (by omega)⟩, fun _ _ h => absurd h (by omega)⟩
  · exact h.keep hs fun b' q1 q2 _ => by obtain rfl : b' = b := by omega
                                         exact hk hn
theorem blo_ltC {b n c : Nat} {w : World} {A : Option Addr} {xs : List Bool} (h : Blo b (b + 1) w A n c xs) (hn : 0 < n) : b < w.heap.size := by
  obtain ⟨b', off, e, q1, q2, q3, q4⟩ := h.1.2.2.2 hn
  omega
theorem bls_in {b lo hi n c : Nat} {w : World} {A : Option Addr} {xs : List Bool} (h : Bls b (b + 1) w A n c xs) (hr : 0 < n → lo ≤ b ∧ b < hi) : Bls lo hi w A n c xs :=
  ⟨h.1, h.2.1, h.2.2.1, fun hn => by
    obtain ⟨b', off, e, h1, h2, hz, hc⟩ := h.2.2.2 hn
    have := hr hn
    exact ⟨b', off, e, by omega, by omega, hz, hc⟩⟩
theorem bls_keptG {G : List (List Nat)} {w w' : World} {lo hi lo2 hi2 n c : Nat} {A : Option Addr} {xs : List Bool} (h : Bls lo hi w A n c xs) (hk : KeptG G w w') (hw : Within lo2 hi2 G) (hd : hi ≤ lo2 ∨ hi2 ≤ lo) : Bls lo hi w' A n c xs :=
  h.keep hk.size fun b h1 h2 h3 => keptG_at hk hw b h3 (by omega)
end Bi
end Go.Proofs.Ytjfonmaandnbhab
