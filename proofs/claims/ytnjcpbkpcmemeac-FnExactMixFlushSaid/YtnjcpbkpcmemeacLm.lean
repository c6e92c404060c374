/-
  Plain arithmetic of the letters: the body of a letter, and the letter of a body, on lists of integers. Nothing of any program.
-/
import Derived.Test.YtnjcpbkpcmemeacTm
namespace Go.Proofs.Ytnjcpbkpcmemeac.Lm
open Gm Mm Tm

def packOk (xs : List Int) : Bool := okL xs && decide (xs.length ≤ 4)
/-- The length, the letter, zeros. -/
def headL (xs : List Int) : List Int := ((xs.length : Int) :: xs) ++ List.replicate (4 - xs.length) 0
def packL (xs : List Int) : List Int := headL xs ++ [tagL 1 (headL xs)]
def packF (xs : List Int) : List Int := bif packOk xs then packL xs else []
/-- From place k on, below 5, there are zeros alone. -/
def zerosFrom (b : List Int) (k : Nat) : Prop := ∀ i, k ≤ i → i < 5 → b.getD i 0 = 0
instance (b : List Int) (k : Nat) : Decidable (zerosFrom b k) :=
  decidable_of_iff (∀ i, i < 5 → k ≤ i → b.getD i 0 = 0) ⟨fun h i h1 h2 => h i h2 h1, fun h i h2 h1 => h i h1 h2⟩
def openOk (b : List Int) : Bool := okL b && decide (b.length = 6 ∧ tagL 1 (b.take 5) = b.getD 5 0 ∧ b.getD 0 0 ≤ 4 ∧ zerosFrom b ((b.getD 0 0).toNat + 1))
def openF (b : List Int) : List Int := bif openOk b then (b.drop 1).take (b.getD 0 0).toNat else []

theorem packOk_iff {xs : List Int} : packOk xs = true ↔ okL xs = true ∧ xs.length ≤ 4 := by simp [packOk]
theorem packF_yes {xs : List Int} (h : packOk xs = true) : packF xs = packL xs := by simp [packF, h]
theorem packF_no {xs : List Int} (h : packOk xs = false) : packF xs = [] := by simp [packF, h]
theorem headL_len {xs : List Int} (h : xs.length ≤ 4) : (headL xs).length = 5 := by simp [headL]; omega
theorem packL_len {xs : List Int} (h : xs.length ≤ 4) : (packL xs).length = 6 := by simp [packL, headL_len h]
theorem headL_ok {xs : List Int} (h : packOk xs = true) : okL (headL xs) = true := by
  obtain ⟨h1, h2⟩ := packOk_iff.1 h
  refine okL_iff.2 ⟨fun x hx => ?_, by rw [headL_len h2]; omega⟩
  unfold headL at hx
  rcases List.mem_append.1 hx with hm | hm
  · rcases List.mem_cons.1 hm with hm | hm
    · subst hm; omega
    · exact (okL_iff.1 h1).1 x hm
  · have := (List.mem_replicate.1 hm).2; subst this; omega
theorem packL_ok {xs : List Int} (h : packOk xs = true) : okL (packL xs) = true := snoc_ok (headL_ok h) (by rw [headL_len (packOk_iff.1 h).2]; omega) (tagL_bd _ _)
theorem packL_take {xs : List Int} (h : xs.length ≤ 4) : (packL xs).take 5 = headL xs := by
  unfold packL; rw [List.take_append_of_le_length (by rw [headL_len h]; omega), List.take_of_length_le (by rw [headL_len h]; omega)]
theorem packL_five {xs : List Int} (h : xs.length ≤ 4) : (packL xs).getD 5 0 = tagL 1 (headL xs) := by
  have := headL_len h
  unfold packL; rw [List.getD_eq_getElem?_getD, List.getElem?_append_right (by omega), this]; rfl
theorem packL_zero (xs : List Int) : (packL xs).getD 0 0 = (xs.length : Int) := by simp [packL, headL]
theorem packL_zeros {xs : List Int} (h : xs.length ≤ 4) : zerosFrom (packL xs) (xs.length + 1) := by
  intro i h1 h2
  have hl := headL_len h
  unfold packL
  rw [List.getD_eq_getElem?_getD, List.getElem?_append_left (by omega)]
  unfold headL
  rw [List.getElem?_append_right (by simp; omega), List.getElem?_replicate]
  split <;> rfl
theorem openOk_pack {xs : List Int} (h : packOk xs = true) : openOk (packL xs) = true := by
  have h2 := (packOk_iff.1 h).2
  unfold openOk
  rw [packL_ok h, Bool.true_and, decide_eq_true_eq, packL_take h2, packL_five h2, packL_zero, packL_len h2]
  exact ⟨rfl, rfl, by omega, by rw [Int.toNat_natCast]; exact packL_zeros h2⟩
theorem openF_yes {b : List Int} (h : openOk b = true) : openF b = (b.drop 1).take (b.getD 0 0).toNat := by simp [openF, h]
theorem openF_no {b : List Int} (h : openOk b = false) : openF b = [] := by simp [openF, h]
theorem openF_pack {xs : List Int} (h : packOk xs = true) : openF (packL xs) = xs := by
  have h2 := (packOk_iff.1 h).2
  rw [openF_yes (openOk_pack h), packL_zero, Int.toNat_natCast]
  unfold packL headL
  simp
theorem openOk_iff {b : List Int} : openOk b = true ↔ okL b = true ∧ b.length = 6 ∧ tagL 1 (b.take 5) = b.getD 5 0 ∧ b.getD 0 0 ≤ 4 ∧ zerosFrom b ((b.getD 0 0).toNat + 1) := by
  simp [openOk]
theorem openOk_set {xs : List Int} {k : Nat} {y : Int} (h : packOk xs = true) (hk : k < 6) (hy : 0 ≤ y ∧ y ≤ 990) (hne : y ≠ (packL xs).getD k 0) : openOk ((packL xs).set k y) = false := by
  have h2 := (packOk_iff.1 h).2
  have hl := packL_len h2
  cases hc : openOk ((packL xs).set k y)
  · rfl
  · exfalso
    obtain ⟨_, _, ht, _, _⟩ := openOk_iff.1 hc
    by_cases hk5 : k = 5
    · subst hk5
      rw [List.take_set, List.set_eq_of_length_le (by rw [List.length_take]; omega), packL_take h2] at ht
      rw [packL_five h2] at hne
      rw [List.getD_eq_getElem?_getD, List.getElem?_set_self (by omega)] at ht
      exact hne ht.symm
    · rw [List.take_set, packL_take h2, List.getD_eq_getElem?_getD, List.getElem?_set_ne hk5, ← List.getD_eq_getElem?_getD, packL_five h2] at ht
      have hh := headL_len h2
      refine tagL_set (key := 1) (by omega) (headL_ok h) hy ?_ ht
      have : (packL xs).getD k 0 = (headL xs).getD k 0 := by
        unfold packL; rw [List.getD_eq_getElem?_getD, List.getElem?_append_left (by omega), ← List.getD_eq_getElem?_getD]
      rw [← this]; exact hne

theorem pack_small (l : List Int) (h1 : ∀ x ∈ l, 0 ≤ x ∧ x ≤ 990) (h2 : l.length ≤ 4) : packOk l = true := packOk_iff.2 ⟨okL_iff.2 ⟨h1, by omega⟩, h2⟩

/-- A body that is a letter's is the body of its letter. -/
theorem pack_open {b : List Int} (h : openOk b = true) : packOk (openF b) = true ∧ packF (openF b) = b := by
  obtain ⟨hok, hl, ht, h4, hz⟩ := openOk_iff.1 h
  match b, hl with
  | [b0, b1, b2, b3, b4, b5], _ =>
    have g0 := (okL_iff.1 hok).1
    have hb0 := g0 b0 (by simp)
    have hb1 := g0 b1 (by simp)
    have hb2 := g0 b2 (by simp)
    have hb3 := g0 b3 (by simp)
    have hb4 := g0 b4 (by simp)
    have z1 := hz 1
    have z2 := hz 2
    have z3 := hz 3
    have z4 := hz 4
    simp at ht h4 z1 z2 z3 z4
    have e := openF_yes h
    simp at e
    obtain c | c | c | c | c : b0 = 0 ∨ b0 = 1 ∨ b0 = 2 ∨ b0 = 3 ∨ b0 = 4 := by omega
    all_goals
      subst c
      simp at e z1 z2 z3 z4
      rw [e]
      refine ⟨pack_small _ (by simp; try omega) (by simp), ?_⟩
      rw [packF_yes (pack_small _ (by simp; try omega) (by simp))]
      simp [packL, headL]
      simp_all

theorem openOk_bad {b : List Int} (h : ¬ (okL b = true ∧ b.length = 6 ∧ tagL 1 (b.take 5) = b.getD 5 0 ∧ b.getD 0 0 ≤ 4 ∧ zerosFrom b ((b.getD 0 0).toNat + 1))) : openOk b = false := by
  cases hc : openOk b
  · rfl
  · exact absurd (openOk_iff.1 hc) h

theorem packF_le (xs : List Int) : (packF xs).length ≤ 6 := by
  cases h : packOk xs
  · rw [packF_no h]; simp
  · rw [packF_yes h, packL_len (packOk_iff.1 h).2]; omega
theorem openF_le (b : List Int) : (openF b).length ≤ 6 := by
  cases h : openOk b
  · rw [openF_no h]; simp
  · rw [openF_yes h, List.length_take, List.length_drop, (openOk_iff.1 h).2.1]; omega

end Go.Proofs.Ytnjcpbkpcmemeac.Lm
