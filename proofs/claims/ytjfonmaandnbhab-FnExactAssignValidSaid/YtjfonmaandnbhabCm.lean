/-
  Plain facts on caches of keys: where a key stands, the list with it, valid slots, the functions of the chapter. Nothing of any program.
-/
import Derived.Test.YtjfonmaandnbhabGmm
namespace Go.Proofs.Ytjfonmaandnbhab
namespace Cm
open Gm

def hasK (xs : List Int) (x : Int) : Bool := xs.contains x
theorem hasK_iff {xs : List Int} {x : Int} : hasK xs x = true ↔ x ∈ xs := List.contains_iff_mem

/-- Where a key stands, or would stand. -/
def place : List Int → Int → Nat
  | [], _ => 0
  | x :: xs, k => if x < k then place xs k + 1 else 0
/-- The list with a key. -/
def insK : List Int → Int → List Int
  | [], k => [k]
  | x :: xs, k => if x < k then x :: insK xs k else k :: x :: xs
theorem insK_is (xs : List Int) (k : Int) : insK xs k = xs.take (place xs k) ++ k :: xs.drop (place xs k) := by
  induction xs with
  | nil => rfl
  | cons x xs ih =>
    unfold insK place
    by_cases h : x < k
    · rw [if_pos h, if_pos h, ih]; rfl
    · rw [if_neg h, if_neg h]; rfl
theorem insK_len (xs : List Int) (k : Int) : (insK xs k).length = xs.length + 1 := by
  induction xs with
  | nil => rfl
  | cons x xs ih =>
    unfold insK
    by_cases h : x < k
    · rw [if_pos h, List.length_cons, ih]; rfl
    · rw [if_neg h]; rfl
theorem mem_insK {xs : List Int} {k y : Int} : y ∈ insK xs k ↔ y = k ∨ y ∈ xs := by
  induction xs with
  | nil => simp [insK]
  | cons x xs ih =>
    unfold insK
    by_cases h : x < k
    · rw [if_pos h, List.mem_cons, ih, List.mem_cons]
      constructor
      · rintro (h | h | h)
        · exact .inr (.inl h)
        · exact .inl h
        · exact .inr (.inr h)
      · rintro (h | h | h)
        · exact .inr (.inl h)
        · exact .inl h
        · exact .inr (.inr h)
    · rw [if_neg h, List.mem_cons]
theorem insK_comm {xs : List Int} {a b : Int} (h : a ≠ b) : insK (insK xs a) b = insK (insK xs b) a := by
  induction xs with
  | nil =>
    have e1 : insK [] a = [a] := rfl
    have e2 : insK [] b = [b] := rfl
    rw [e1, e2]
    by_cases h1 : a < b
    · have h2 : ¬ b < a := by omega
      simp [insK, h1, h2]
    · have h2 : b < a := by omega
      simp [insK, h1, h2]
  | cons x xs ih =>
    by_cases h1 : x < a
    · by_cases h2 : x < b
      · have e1 : insK (x :: xs) a = x :: insK xs a := by rw [insK, if_pos h1]
        have e2 : insK (x :: xs) b = x :: insK xs b := by rw [insK, if_pos h2]
        rw [e1, e2, insK, if_pos h2, insK, if_pos h1, ih]
      · have e1 : insK (x :: xs) a = x :: insK xs a := by rw [insK, if_pos h1]
        have e2 : insK (x :: xs) b = b :: x :: xs := by rw [insK, if_neg h2]
        rw [e1, e2, insK, if_neg h2, insK, if_pos (by omega), insK, if_pos h1]
    · by_cases h2 : x < b
      · have e1 : insK (x :: xs) a = a :: x :: xs := by rw [insK, if_neg h1]
        have e2 : insK (x :: xs) b = x :: insK xs b := by rw [insK, if_pos h2]
        rw [e1, e2, insK, if_pos (by omega), insK, if_pos h2, insK, if_neg h1]
      · have e1 : insK (x :: xs) a = a :: x :: xs := by rw [insK, if_neg h1]
        have e2 : insK (x :: xs) b = b :: x :: xs := by rw [insK, if_neg h2]
        rw [e1, e2]
        by_cases h3 : a < b
        · rw [insK, if_pos h3, insK, if_neg h2, insK, if_neg (by omega)]
        · rw [insK, if_neg h3, insK, if_pos (by omega), insK, if_neg h1]

def IsPlace (xs : List Int) (k : Int) (p : Nat) : Prop := p ≤ xs.length ∧ (∀ i, i < p → xs.getD i 0 < k) ∧ ∀ i, p ≤ i → i < xs.length → k ≤ xs.getD i 0
theorem isPlace_eq {xs : List Int} {k : Int} {p q : Nat} (h : IsPlace xs k p) (h2 : IsPlace xs k q) : p = q := by
  rcases Nat.lt_or_ge p q with e | e
  · have a := h2.2.1 p e
    have b := h.2.2 p (Nat.le_refl _) (by have := h2.1; omega)
    omega
  · rcases Nat.lt_or_ge q p with e2 | e2
    · have a := h.2.1 q e2
      have b := h2.2.2 q (Nat.le_refl _) (by have := h.1; omega)
      omega
    · omega
theorem place_le (xs : List Int) (k : Int) : place xs k ≤ xs.length := by
  induction xs with
  | nil => exact Nat.le_refl _
  | cons x xs ih =>
    unfold place
    split
    · simp; omega
    · omega
/-- One number of a slot is right. -/
def slotAt (xs : List Int) (i : Nat) : Bool := inG (xs.getD i 0) && (decide (i = 0) || decide (xs.getD (i - 1) 0 < xs.getD i 0))
def slotB (xs : List Int) : Bool := (List.range xs.length).all (slotAt xs)
def slotOk (xs : List Int) : Bool := decide (xs.length ≤ 6) && slotB xs
theorem slotB_iff {xs : List Int} : slotB xs = true ↔ ∀ i, i < xs.length → slotAt xs i = true := by simp [slotB, List.all_eq_true]
theorem slotB_no {xs : List Int} {i : Nat} (hi : i < xs.length) (h : slotAt xs i = false) : slotB xs = false := by
  cases hb : slotB xs
  · rfl
  · rw [slotB_iff.1 hb i hi] at h; cases h
theorem slotOk_iff {xs : List Int} : slotOk xs = true ↔ xs.length ≤ 6 ∧ ∀ i, i < xs.length → slotAt xs i = true := by
  unfold slotOk
  rw [Bool.and_eq_true, decide_eq_true_eq, slotB_iff]
theorem slotAt_iff {xs : List Int} {i : Nat} : slotAt xs i = true ↔ inG (xs.getD i 0) = true ∧ (0 < i → xs.getD (i - 1) 0 < xs.getD i 0) := by
  unfold slotAt
  rw [Bool.and_eq_true, Bool.or_eq_true, decide_eq_true_eq, decide_eq_true_eq]
  constructor
  · rintro ⟨h1, h2⟩
    exact ⟨h1, fun h => by rcases h2 with h2 | h2 <;> omega⟩
  · rintro ⟨h1, h2⟩
    refine ⟨h1, ?_⟩
    rcases Nat.eq_zero_or_pos i with h | h
    · exact .inl h
    · exact .inr (h2 h)
theorem slot_lt {xs : List Int} (h : slotB xs = true) : ∀ j i, i < j → j < xs.length → xs.getD i 0 < xs.getD j 0 := by
  intro j
  induction j with
  | zero => intro i hi; omega
  | succ j ih =>
    intro i hi hj
    have h1 := (slotAt_iff.1 (slotB_iff.1 h (j + 1) hj)).2 (by omega)
    rw [Nat.add_sub_cancel] at h1
    by_cases e : i = j
    · subst e; exact h1
    · have := ih i (by omega) (by omega)
      omega
theorem slot_in {xs : List Int} (h : slotB xs = true) {i : Nat} (hi : i < xs.length) : 1 ≤ xs.getD i 0 ∧ xs.getD i 0 ≤ 996 := inG_iff.1 (slotAt_iff.1 (slotB_iff.1 h i hi)).1
/-- What a search finds: all ahead are less, the next one is not. -/
theorem isPlace_of {xs : List Int} (h : slotB xs = true) {k : Int} {p : Nat} (hp : p ≤ xs.length) (h1 : ∀ i, i < p → xs.getD i 0 < k) (h2 : p < xs.length → k ≤ xs.getD p 0) : IsPlace xs k p := by
  refine ⟨hp, h1, fun i hi hl => ?_⟩
  have := h2 (by omega)
  by_cases e : i = p
  · subst e; exact this
  · have := slot_lt h i p (by omega) hl
    omega
theorem isPlace_ends {xs : List Int} (h : slotB xs = true) {k : Int} {p : Nat} (hp : p ≤ xs.length) (h1 : 0 < p → xs.getD (p - 1) 0 < k) (h2 : p < xs.length → k ≤ xs.getD p 0) : IsPlace xs k p := by
  refine isPlace_of h hp (fun i hi => ?_) h2
  have := h1 (by omega)
  by_cases e : i = p - 1
  · subst e; exact this
  · have := slot_lt h (p - 1) i (by omega) (by omega)
    omega
theorem place_is {xs : List Int} (h : slotB xs = true) (k : Int) : IsPlace xs k (place xs k) := by
  suffices H : (∀ i, i < place xs k → xs.getD i 0 < k) ∧ (place xs k < xs.length → k ≤ xs.getD (place xs k) 0) from isPlace_of h (place_le _ _) H.1 H.2
  clear h
  induction xs with
  | nil => exact ⟨fun i hi => absurd hi (by simp [place]), fun hi => absurd hi (by simp [place])⟩
  | cons x xs ih =>
    unfold place
    by_cases hx : x < k
    · rw [if_pos hx]
      refine ⟨fun i hi => ?_, fun hi => ?_⟩
      · cases i with
        | zero => exact hx
        | succ i => exact ih.1 i (by omega)
      · exact ih.2 (by simpa using hi)
    · rw [if_neg hx]
      exact ⟨fun i hi => absurd hi (by omega), fun _ => by show k ≤ x; omega⟩
theorem place_of {xs : List Int} (h : slotB xs = true) {k : Int} {p : Nat} (hp : IsPlace xs k p) : place xs k = p := isPlace_eq (place_is h k) hp
/-- A key is there just where it stands at its place. -/
theorem has_place {xs : List Int} (h : slotB xs = true) {k : Int} {p : Nat} (hp : IsPlace xs k p) : hasK xs k = decide (p < xs.length ∧ xs.getD p 0 = k) := by
  by_cases h0 : p < xs.length ∧ xs.getD p 0 = k
  · rw [decide_eq_true h0, hasK_iff, ← h0.2, List.getD_eq_getElem?_getD, List.getElem?_eq_getElem h0.1]
    exact List.getElem_mem _
  · rw [decide_eq_false h0]
    cases hc : hasK xs k
    · rfl
    · exfalso
      obtain ⟨i, hi, e⟩ := List.getElem_of_mem (hasK_iff.1 hc)
      have e' : xs.getD i 0 = k := by rw [List.getD_eq_getElem?_getD, List.getElem?_eq_getElem hi, e]; rfl
      rcases Nat.lt_or_ge i p with q | q
      · have := hp.2.1 i q; omega
      · by_cases e2 : i = p
        · subst e2; exact h0 ⟨hi, e'⟩
        · have h1 := slot_lt h i p (by omega) hi
          have h2 := hp.2.2 p (Nat.le_refl _) (by omega)
          omega
theorem getD_mid {xs : List Int} {p : Nat} (hp : p ≤ xs.length) (k : Int) (i : Nat) : (xs.take p ++ k :: xs.drop p).getD i 0 = if i < p then xs.getD i 0 else if i = p then k else xs.getD (i - 1) 0 := by
  have hl : (xs.take p).length = p := by rw [List.length_take]; omega
  by_cases h1 : i < p
  · rw [if_pos h1, List.getD_eq_getElem?_getD, List.getElem?_append_left (by omega), List.getElem?_take_of_lt h1, List.getD_eq_getElem?_getD]
  · rw [if_neg h1, List.getD_eq_getElem?_getD, List.getElem?_append_right (by omega), hl]
    by_cases h2 : i = p
    · rw [if_pos h2, h2, Nat.sub_self]; rfl
    · rw [if_neg h2]
      obtain ⟨j, rfl⟩ : ∃ j, i = p + 1 + j := ⟨i - p - 1, by omega⟩
      have e1 : p + 1 + j - p = j + 1 := by omega
      have e2 : p + 1 + j - 1 = p + j := by omega
      rw [e1, e2, List.getElem?_cons_succ, List.getElem?_drop, List.getD_eq_getElem?_getD]
theorem slot_ins {xs : List Int} (h : slotB xs = true) {k : Int} (hk : inG k = true) (hn : hasK xs k = false) : slotB (insK xs k) = true := by
  have hp := place_is h k
  rw [has_place h hp] at hn
  have hn' := of_decide_eq_false hn
  rw [slotB_iff]
  intro i hi
  rw [insK_len] at hi
  rw [insK_is, slotAt_iff, getD_mid hp.1, getD_mid hp.1]
  generalize place xs k = p at *
  have hpl := hp.1
  refine ⟨?_, fun hi0 => ?_⟩
  · split
    · exact (slotAt_iff.1 (slotB_iff.1 h i (by omega))).1
    · split
      · exact hk
      · exact (slotAt_iff.1 (slotB_iff.1 h (i - 1) (by omega))).1
  · by_cases h1 : i < p
    · rw [if_pos (by omega), if_pos h1]
      exact slot_lt h i (i - 1) (by omega) (by omega)
    · rw [if_neg h1]
      by_cases h2 : i = p
      · rw [if_pos h2, if_pos (by omega)]
        exact hp.2.1 (i - 1) (by omega)
      · rw [if_neg h2, if_neg (by omega)]
        by_cases h3 : i - 1 = p
        · rw [if_pos h3, h3]
          have q1 := hp.2.2 p (Nat.le_refl _) (by omega)
          have q2 : ¬ xs.getD p 0 = k := fun e => hn' ⟨by omega, e⟩
          omega
        · rw [if_neg h3]
          exact slot_lt h (i - 1) (i - 1 - 1) (by omega) (by omega)
theorem has_ins {xs : List Int} {k y : Int} : hasK (insK xs k) y = (decide (y = k) || hasK xs y) := by
  cases h : (decide (y = k) || hasK xs y)
  · cases h2 : hasK (insK xs k) y
    · rfl
    · have := mem_insK.1 (hasK_iff.1 h2)
      rcases this with e | e
      · rw [decide_eq_true e] at h; simp at h
      · rw [hasK_iff.2 e, Bool.or_true] at h; cases h
  · rw [hasK_iff, mem_insK]
    rw [Bool.or_eq_true, decide_eq_true_eq, hasK_iff] at h
    exact h

/-! ### caches -/
structure Ch where
  ep : Int
  sl : List (List Int)
def Ch.zero : Ch := ⟨0, []⟩
def slAt (sl : List (List Int)) (k : Nat) : List Int := sl.getD k []
def slotsOk (sl : List (List Int)) : Bool := sl.all slotOk
def epOk (e : Int) : Bool := decide (0 ≤ e ∧ e ≤ 99)
def chOk (c : Ch) : Bool := slotsOk c.sl && (epOk c.ep && decide (c.sl.length = 3))
theorem chOk_iff {c : Ch} : chOk c = true ↔ (∀ x ∈ c.sl, slotOk x = true) ∧ (0 ≤ c.ep ∧ c.ep ≤ 99) ∧ c.sl.length = 3 := by
  unfold chOk slotsOk epOk
  rw [Bool.and_eq_true, Bool.and_eq_true, List.all_eq_true, decide_eq_true_eq, decide_eq_true_eq]
theorem slots_at {sl : List (List Int)} (h : ∀ x ∈ sl, slotOk x = true) {k : Nat} : slotOk (slAt sl k) = true := by
  unfold slAt
  by_cases hk : k < sl.length
  · rw [List.getD_eq_getElem?_getD, List.getElem?_eq_getElem hk]
    exact h _ (List.getElem_mem _)
  · rw [List.getD_eq_getElem?_getD, List.getElem?_eq_none (by omega)]
    rfl
/-- The slot of an epoch. -/
def slotIx (c e : Int) : Int := bif decide (0 ≤ e ∧ e ≤ c ∧ c - e ≤ 2) then 2 - (c - e) else -1
theorem slotIx_yes {c e : Int} (h : 0 ≤ e ∧ e ≤ c ∧ c - e ≤ 2) : slotIx c e = 2 - (c - e) := by unfold slotIx; rw [decide_eq_true h]; rfl
theorem slotIx_no {c e : Int} (h : ¬ (0 ≤ e ∧ e ≤ c ∧ c - e ≤ 2)) : slotIx c e = -1 := by unfold slotIx; rw [decide_eq_false h]; rfl
theorem slotIx_bd (c e : Int) : slotIx c e = -1 ∨ ∃ k : Nat, slotIx c e = k ∧ k < 3 ∧ e = c - 2 + k := by
  by_cases h : 0 ≤ e ∧ e ≤ c ∧ c - e ≤ 2
  · right
    refine ⟨(2 - (c - e)).toNat, by rw [slotIx_yes h]; omega, by omega, by omega⟩
  · exact .inl (slotIx_no h)

/-- Of a valid cache: the code of adding a key to its slot k, and the cache behind it. -/
def addC (c : Ch) (k : Nat) (key : Int) : Int := bif hasK (slAt c.sl k) key then 1 else bif decide (6 ≤ (slAt c.sl k).length) then 3 else 0
def addH (c : Ch) (k : Nat) (key : Int) : Ch := bif decide (addC c k key = 0) then ⟨c.ep, c.sl.set k (insK (slAt c.sl k) key)⟩ else c
/-- CacheAdd. -/
def addN (c : Ch) (e key : Int) : Int := bif chOk c && inG key then bif decide (slotIx c.ep e < 0) then 2 else addC c (slotIx c.ep e).toNat key else 4
def addF (c : Ch) (e key : Int) : Ch := bif chOk c && inG key then bif decide (slotIx c.ep e < 0) then c else addH c (slotIx c.ep e).toNat key else Ch.zero
def newF (e : Int) : Ch := bif epOk e then ⟨e, [[], [], []]⟩ else Ch.zero
def turnB (c : Ch) : Bool := chOk c && decide (c.ep < 99)
def turnF (c : Ch) : Ch := bif chOk c then bif decide (c.ep < 99) then ⟨c.ep + 1, c.sl.drop 1 ++ [[]]⟩ else c else Ch.zero
def keysF (c : Ch) (e : Int) : List Int := bif chOk c then bif decide (slotIx c.ep e < 0) then [] else slAt c.sl (slotIx c.ep e).toNat else []

theorem add_bad {c : Ch} {key : Int} (e : Int) (h : chOk c = false ∨ inG key = false) : addN c e key = 4 ∧ addF c e key = Ch.zero := by
  have : (chOk c && inG key) = false := by rcases h with h | h <;> simp [h]
  unfold addN addF
  rw [this]; exact ⟨rfl, rfl⟩
theorem add_wrong {c : Ch} {e key : Int} (h : chOk c = true) (hk : inG key = true) (hs : slotIx c.ep e = -1) : addN c e key = 2 ∧ addF c e key = c := by
  unfold addN addF
  rw [h, hk, hs]; exact ⟨rfl, rfl⟩
theorem add_in {c : Ch} {e key : Int} {k : Nat} (h : chOk c = true) (hk : inG key = true) (hs : slotIx c.ep e = k) : addN c e key = addC c k key ∧ addF c e key = addH c k key := by
  unfold addN addF
  rw [h, hk, hs, decide_eq_false (by omega)]; exact ⟨rfl, rfl⟩
theorem addC_replay {c : Ch} {k : Nat} {key : Int} (h : hasK (slAt c.sl k) key = true) : addC c k key = 1 ∧ addH c k key = c := by
  have : addC c k key = 1 := by unfold addC; rw [h]; rfl
  refine ⟨this, ?_⟩
  unfold addH
  rw [this]; rfl
theorem addC_full {c : Ch} {k : Nat} {key : Int} (h : hasK (slAt c.sl k) key = false) (h2 : 6 ≤ (slAt c.sl k).length) : addC c k key = 3 ∧ addH c k key = c := by
  have : addC c k key = 3 := by unfold addC; rw [h, decide_eq_true h2]; rfl
  refine ⟨this, ?_⟩
  unfold addH
  rw [this]; rfl
theorem addC_done {c : Ch} {k : Nat} {key : Int} (h : hasK (slAt c.sl k) key = false) (h2 : (slAt c.sl k).length < 6) : addC c k key = 0 ∧ addH c k key = ⟨c.ep, c.sl.set k (insK (slAt c.sl k) key)⟩ := by
  have : addC c k key = 0 := by unfold addC; rw [h, decide_eq_false (by omega)]; rfl
  refine ⟨this, ?_⟩
  unfold addH
  rw [this]; rfl
theorem addC_zero {c : Ch} {k : Nat} {key : Int} (h : addC c k key = 0) : hasK (slAt c.sl k) key = false ∧ (slAt c.sl k).length < 6 := by
  cases h1 : hasK (slAt c.sl k) key
  · refine ⟨rfl, ?_⟩
    rcases Nat.lt_or_ge (slAt c.sl k).length 6 with q | q
    · exact q
    · rw [(addC_full h1 q).1] at h; omega
  · rw [(addC_replay h1).1] at h; omega
theorem addC_bd (c : Ch) (k : Nat) (key : Int) : 0 ≤ addC c k key ∧ addC c k key ≤ 3 := by
  cases h1 : hasK (slAt c.sl k) key
  · rcases Nat.lt_or_ge (slAt c.sl k).length 6 with q | q
    · rw [(addC_done h1 q).1]; omega
    · rw [(addC_full h1 q).1]; omega
  · rw [(addC_replay h1).1]; omega
theorem slotOk_ins {xs : List Int} (h : slotOk xs = true) {k : Int} (hk : inG k = true) (hn : hasK xs k = false) (h6 : xs.length < 6) : slotOk (insK xs k) = true := by
  have hb : slotB xs = true := by unfold slotOk at h; rw [Bool.and_eq_true] at h; exact h.2
  unfold slotOk
  rw [Bool.and_eq_true, decide_eq_true_eq, insK_len]
  exact ⟨by omega, slot_ins hb hk hn⟩
theorem set_all {sl : List (List Int)} (h : ∀ x ∈ sl, slotOk x = true) {y : List Int} (hy : slotOk y = true) (k : Nat) : ∀ x ∈ sl.set k y, slotOk x = true := fun x hx => by
  rcases List.mem_or_eq_of_mem_set hx with h1 | rfl
  · exact h x h1
  · exact hy
theorem addH_ok {c : Ch} {k : Nat} {key : Int} (h : chOk c = true) (hk : inG key = true) : chOk (addH c k key) = true := by
  by_cases hz : addC c k key = 0
  · obtain ⟨h1, h2⟩ := addC_zero hz
    rw [(addC_done h1 h2).2]
    obtain ⟨q1, q2, q3⟩ := chOk_iff.1 h
    exact chOk_iff.2 ⟨set_all q1 (slotOk_ins (slots_at q1) hk h1 h2) k, q2, by rw [List.length_set]; exact q3⟩
  · unfold addH
    rw [decide_eq_false hz]; exact h
theorem addF_ok {c : Ch} {key : Int} (h : chOk c = true) (hk : inG key = true) (e : Int) : chOk (addF c e key) = true := by
  rcases slotIx_bd c.ep e with hs | ⟨k, hs, _⟩
  · rw [(add_wrong h hk hs).2]; exact h
  · rw [(add_in h hk hs).2]; exact addH_ok h hk
theorem addF_ep {c : Ch} {key : Int} (h : chOk c = true) (hk : inG key = true) (e : Int) : (addF c e key).ep = c.ep := by
  rcases slotIx_bd c.ep e with hs | ⟨k, hs, _⟩
  · rw [(add_wrong h hk hs).2]
  · rw [(add_in h hk hs).2]
    unfold addH
    cases decide (addC c k key = 0) <;> rfl
theorem newF_ok {e : Int} (h : epOk e = true) : chOk (newF e) = true := by
  unfold newF
  rw [h]
  unfold epOk at h
  exact chOk_iff.2 ⟨fun x hx => by simp at hx; subst hx; rfl, of_decide_eq_true h, rfl⟩
theorem turn_yes {c : Ch} (h : chOk c = true) (h2 : c.ep < 99) : turnB c = true ∧ turnF c = ⟨c.ep + 1, c.sl.drop 1 ++ [[]]⟩ := by
  unfold turnB turnF
  rw [h, decide_eq_true h2]; exact ⟨rfl, rfl⟩
theorem turn_last {c : Ch} (h : chOk c = true) (h2 : ¬ c.ep < 99) : turnB c = false ∧ turnF c = c := by
  unfold turnB turnF
  rw [h, decide_eq_false h2]; exact ⟨rfl, rfl⟩
theorem turn_no {c : Ch} (h : chOk c = false) : turnB c = false ∧ turnF c = Ch.zero := by
  unfold turnB turnF
  rw [h]; exact ⟨rfl, rfl⟩
theorem turnF_ok {c : Ch} (h : chOk c = true) : chOk (turnF c) = true := by
  by_cases h2 : c.ep < 99
  · rw [(turn_yes h h2).2]
    obtain ⟨q1, q2, q3⟩ := chOk_iff.1 h
    refine chOk_iff.2 ⟨fun x hx => ?_, ⟨by show 0 ≤ c.ep + 1; omega, by show c.ep + 1 ≤ 99; omega⟩, by simp [q3]⟩
    rcases List.mem_append.1 hx with hx | hx
    · exact q1 x (List.mem_of_mem_drop hx)
    · simp at hx; subst hx; rfl
  · rw [(turn_last h h2).2]; exact h
theorem keys_no {c : Ch} (e : Int) (h : chOk c = false) : keysF c e = [] := by unfold keysF; rw [h]; rfl
theorem keys_wrong {c : Ch} {e : Int} (h : chOk c = true) (hs : slotIx c.ep e = -1) : keysF c e = [] := by unfold keysF; rw [h, hs]; rfl
theorem keys_in {c : Ch} {e : Int} {k : Nat} (h : chOk c = true) (hs : slotIx c.ep e = k) : keysF c e = slAt c.sl k := by unfold keysF; rw [h, hs, decide_eq_false (by omega)]; rfl
theorem keysF_ok {c : Ch} (e : Int) : slotOk (keysF c e) = true := by
  cases h : chOk c
  · rw [keys_no e h]; rfl
  · rcases slotIx_bd c.ep e with hs | ⟨k, hs, _⟩
    · rw [keys_wrong h hs]; rfl
    · rw [keys_in h hs]; exact slots_at (chOk_iff.1 h).1

end Cm
end Go.Proofs.Ytjfonmaandnbhab
