/-
  Counts of links: more of plain lists. Nothing of any program.
-/
import Derived.Test.YtbhafchdcofceaaLc
namespace Go.Proofs.Ytbhafchdcofceaa
namespace Lc

theorem find_none {xs : List Cnt} {p : Cnt → Bool} (h : ∀ i, i < xs.length → p (cntAt xs i) = false) : xs.find? p = none := by
  rw [List.find?_eq_none]
  intro x hx
  obtain ⟨i, hi, rfl⟩ := List.getElem_of_mem hx
  have h2 := h i hi
  have e := cntAt_get hi
  rw [List.getElem?_eq_getElem hi] at e
  rw [Option.some.inj e, h2]
  simp
theorem find_at {xs : List Cnt} {p : Cnt → Bool} {k : Nat} (hk : k < xs.length) (h : ∀ i, i < k → p (cntAt xs i) = false) (h2 : p (cntAt xs k) = true) : xs.find? p = some (cntAt xs k) := by
  rw [List.find?_eq_some_iff_getElem]
  refine ⟨h2, k, hk, ?_, fun j hj => ?_⟩
  · have e := cntAt_get hk
    rw [List.getElem?_eq_getElem hk] at e
    exact Option.some.inj e
  · have e := cntAt_get (xs := xs) (k := j) (by omega)
    rw [List.getElem?_eq_getElem (by omega)] at e
    rw [Option.some.inj e, h j hj]
    rfl
theorem noTo_succ {xs : List Cnt} {p : Cnt → Bool} {k : Nat} (h : ∀ i, i < k → p (cntAt xs i) = false) (h2 : p (cntAt xs k) = false) : ∀ i, i < k + 1 → p (cntAt xs i) = false := fun i hi => by
  rcases Nat.lt_or_ge i k with h3 | h3
  · exact h i h3
  · obtain rfl : i = k := by omega
    exact h2
theorem cntN_snoc (xs : List Cnt) (x : Cnt) (n : Int) : cntN (xs ++ [x]) n = cntN xs n + (bif touch n x then 1 else 0) := by
  unfold cntN
  rw [List.countP_append]
  cases h : touch n x <;> simp [h]
theorem cntN_take {xs : List Cnt} {j : Nat} (h : j < xs.length) (n : Int) : cntN (xs.take (j + 1)) n = cntN (xs.take j) n + (bif touch n (cntAt xs j) then 1 else 0) := by
  rw [take_cnt h, cntN_snoc]
theorem cntN_ftake {xs : List Cnt} {j : Nat} (h : j < xs.length) (p : Cnt → Bool) (n : Int) : cntN ((xs.take (j + 1)).filter p) n = cntN ((xs.take j).filter p) n + (bif p (cntAt xs j) && touch n (cntAt xs j) then 1 else 0) := by
  rw [filter_take h]
  cases hp : p (cntAt xs j)
  · simp
  · simp [cntN_snoc]
theorem cntN_tlen {xs : List Cnt} {j : Nat} (h : j ≤ xs.length) (n : Int) : cntN (xs.take j) n ≤ j := by
  have h1 : cntN (xs.take j) n ≤ (xs.take j).length := List.countP_le_length
  rw [List.length_take] at h1
  omega
theorem cntN_flen {xs : List Cnt} {j : Nat} (h : j ≤ xs.length) (p : Cnt → Bool) (n : Int) : cntN ((xs.take j).filter p) n ≤ j := by
  have h1 : cntN ((xs.take j).filter p) n ≤ ((xs.take j).filter p).length := List.countP_le_length
  have h2 := filter_len h p
  omega
theorem cntN_le (xs : List Cnt) (n : Int) : cntN xs n ≤ xs.length := List.countP_le_length
/-- The first k names. -/
def nTo (k : Nat) : List Int := (List.range k).map fun i : Nat => (i : Int)
theorem nTo_succ (k : Nat) : nTo (k + 1) = nTo k ++ [(k : Int)] := by simp [nTo, List.range_succ]
theorem nTo_8 : nTo 8 = names := by decide
theorem nTo_len (k : Nat) : (nTo k).length = k := by simp [nTo]
theorem nTo_filter (k : Nat) (p : Int → Bool) : (nTo (k + 1)).filter p = (nTo k).filter p ++ bif p (k : Int) then [(k : Int)] else [] := by
  rw [nTo_succ, List.filter_append]
  cases h : p (k : Int) <;> simp [h]
theorem nTo_flen (k : Nat) (p : Int → Bool) : ((nTo k).filter p).length ≤ k := by
  have := List.length_filter_le p (nTo k)
  rw [nTo_len] at this
  exact this

end Lc
end Go.Proofs.Ytbhafchdcofceaa
