/-
  Plain arithmetic of the tags, on lists of integers. Nothing of any program.
-/
import Derived.Test.YtnjcpbkpcmemeacGmm
namespace Go.Proofs.Ytnjcpbkpcmemeac.Tm
open Gm Mm

def step (t x : Int) : Int := (613 * t + x + 1) % 991
def ini (key : Int) (n : Nat) : Int := (3 * key + 41 * (n : Int) + 1) % 991
def tagL (key : Int) (xs : List Int) : Int := xs.foldl step (ini key xs.length)
def tagTo (key : Int) (xs : List Int) (k : Nat) : Int := (xs.take k).foldl step (ini key xs.length)
def tagF (key : Int) (xs : List Int) : Int := bif inG key && okL xs then tagL key xs else -1
def tagC (key : Int) (xs : List Int) (tag : Int) : Bool := decide (0 ≤ tag ∧ tagF key xs = tag)

theorem step_bd (t x : Int) : 0 ≤ step t x ∧ step t x ≤ 990 := by unfold step; omega
theorem ini_bd (key : Int) (n : Nat) : 0 ≤ ini key n ∧ ini key n ≤ 990 := by unfold ini; omega
theorem fold_bd (ys : List Int) (t : Int) (h : 0 ≤ t ∧ t ≤ 990) : 0 ≤ ys.foldl step t ∧ ys.foldl step t ≤ 990 := by
  induction ys generalizing t with
  | nil => exact h
  | cons a l ih => exact ih _ (step_bd t a)
theorem tagL_bd (key : Int) (xs : List Int) : 0 ≤ tagL key xs ∧ tagL key xs ≤ 990 := fold_bd _ _ (ini_bd _ _)
theorem tagTo_bd (key : Int) (xs : List Int) (k : Nat) : 0 ≤ tagTo key xs k ∧ tagTo key xs k ≤ 990 := fold_bd _ _ (ini_bd _ _)
theorem tagTo_zero (key : Int) (xs : List Int) : tagTo key xs 0 = ini key xs.length := rfl
theorem tagTo_succ (key : Int) {xs : List Int} {k : Nat} (h : k < xs.length) : tagTo key xs (k + 1) = (613 * tagTo key xs k + xs.getD k 0 + 1) % 991 := by
  unfold tagTo; rw [take_succ_getD h, List.foldl_append]; rfl
theorem tagTo_all (key : Int) {xs : List Int} {k : Nat} (h : xs.length ≤ k) : tagTo key xs k = tagL key xs := by
  unfold tagTo tagL; rw [List.take_of_length_le h]
theorem tagF_yes {key : Int} {xs : List Int} (h : inG key = true) (h1 : okL xs = true) : tagF key xs = tagL key xs := by simp [tagF, h, h1]
theorem tagF_no1 {key : Int} {xs : List Int} (h : inG key = false) : tagF key xs = -1 := by simp [tagF, h]
theorem tagF_no2 {key : Int} {xs : List Int} (h : okL xs = false) : tagF key xs = -1 := by simp [tagF, h]
theorem tagF_bd (key : Int) (xs : List Int) : -1 ≤ tagF key xs ∧ tagF key xs ≤ 990 := by
  unfold tagF
  cases inG key && okL xs
  · simp
  · have := tagL_bd key xs; simp; omega
theorem tagF_ok {key : Int} {xs : List Int} (h : 0 ≤ tagF key xs) : inG key = true ∧ okL xs = true := by
  cases h1 : inG key
  · rw [tagF_no1 h1] at h; omega
  · cases h2 : okL xs
    · rw [tagF_no2 h2] at h; omega
    · exact ⟨rfl, rfl⟩

theorem step_inj {t u x : Int} (ht : 0 ≤ t ∧ t ≤ 990) (hu : 0 ≤ u ∧ u ≤ 990) (h : step t x = step u x) : t = u := by unfold step at h; omega
theorem step_inj2 {t x y : Int} (hx : 0 ≤ x ∧ x ≤ 990) (hy : 0 ≤ y ∧ y ≤ 990) (h : step t x = step t y) : x = y := by unfold step at h; omega
theorem fold_inj (ys : List Int) {t u : Int} (ht : 0 ≤ t ∧ t ≤ 990) (hu : 0 ≤ u ∧ u ≤ 990) (h : ys.foldl step t = ys.foldl step u) : t = u := by
  induction ys generalizing t u with
  | nil => exact h
  | cons a l ih => exact step_inj ht hu (ih (step_bd t a) (step_bd u a) h)
theorem fold_set (xs : List Int) (k : Nat) (y t : Int) (hk : k < xs.length) (ht : 0 ≤ t ∧ t ≤ 990) (hx : ∀ x ∈ xs, 0 ≤ x ∧ x ≤ 990) (hy : 0 ≤ y ∧ y ≤ 990) (h : (xs.set k y).foldl step t = xs.foldl step t) : y = xs.getD k 0 := by
  induction xs generalizing k t with
  | nil => simp at hk
  | cons a l ih =>
    cases k with
    | zero =>
      have := fold_inj l (step_bd t y) (step_bd t a) h
      exact step_inj2 hy (hx a (by simp)) this
    | succ k => exact ih k (step t a) (by simpa using hk) (step_bd t a) (fun x hm => hx x (by simp [hm])) h
/-- One changed number changes the tag. -/
theorem tagL_set {key : Int} {xs : List Int} {k : Nat} {y : Int} (hk : k < xs.length) (hx : okL xs = true) (hy : 0 ≤ y ∧ y ≤ 990) (hne : y ≠ xs.getD k 0) : tagL key (xs.set k y) ≠ tagL key xs := by
  intro h
  unfold tagL at h
  rw [List.length_set] at h
  exact hne (fold_set xs k y _ hk (ini_bd _ _) (okL_iff.1 hx).1 hy h)
theorem tagF_set {key : Int} {xs : List Int} {k : Nat} {y : Int} (hg : inG key = true) (hk : k < xs.length) (hx : okL xs = true) (hy : 0 ≤ y ∧ y ≤ 990) (hne : y ≠ xs.getD k 0) : tagF key (xs.set k y) ≠ tagF key xs := by
  rw [tagF_yes hg (set_ok hx hy), tagF_yes hg hx]; exact tagL_set hk hx hy hne
theorem tagF_nil {key : Int} (h : inG key = true) : tagF key [] = (3 * key + 1) % 991 := by
  rw [tagF_yes h (by decide)]; simp [tagL, ini]
theorem snoc_ok {xs : List Int} {n : Int} (h : okL xs = true) (hl : xs.length < 24) (hn : 0 ≤ n ∧ n ≤ 990) : okL (xs ++ [n]) = true := by
  refine okL_iff.2 ⟨fun x hx => ?_, by simp; omega⟩
  rcases List.mem_append.1 hx with h1 | h1
  · exact (okL_iff.1 h).1 x h1
  · simp at h1; subst h1; exact hn
theorem tagF_snoc {key : Int} {xs : List Int} {k : Nat} {y n : Int} (hg : inG key = true) (hk : k < xs.length) (hx : okL xs = true) (hl : xs.length < 24) (hn : 0 ≤ n ∧ n ≤ 990) (hy : 0 ≤ y ∧ y ≤ 990) (hne : y ≠ xs.getD k 0) :
    tagF key (xs ++ [n]) ≠ tagF key (xs.set k y ++ [n]) := by
  have h1 : xs.set k y ++ [n] = (xs ++ [n]).set k y := by rw [List.set_append_left _ _ hk]
  rw [h1]
  refine fun h => tagF_set (k := k) (y := y) hg (by simp; omega) (snoc_ok hx hl hn) hy ?_ h.symm
  rw [List.getD_eq_getElem?_getD, List.getElem?_append_left hk, ← List.getD_eq_getElem?_getD]
  exact hne
theorem tagC_iff {key : Int} {xs : List Int} {tag : Int} : tagC key xs tag = true ↔ 0 ≤ tag ∧ tagF key xs = tag := by simp [tagC]
theorem tagC_no {key : Int} {xs : List Int} {tag : Int} (h : tagF key xs ≠ tag) : tagC key xs tag = false := by simp [tagC, h]

end Go.Proofs.Ytnjcpbkpcmemeac.Tm
