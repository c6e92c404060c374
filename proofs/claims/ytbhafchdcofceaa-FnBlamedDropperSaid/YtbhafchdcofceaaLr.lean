/-
  Counting a loop: plain lists. Nothing of any program.
-/
import Derived.Test.YtbhafchdcofceaaLq
import Derived.Test.YtbhafchdcofceaaNm
namespace Go.Proofs.Ytbhafchdcofceaa
namespace Lc
open Nm

/-- No number is the next one. -/
def adj (p : List Int) : Bool := (List.range (p.length - 1)).all fun i => !(p.getD i 0 == p.getD (i + 1) 0)
def lpOk (p : List Int) : Bool := adj p && (namesOk p && decide (2 ≤ p.length ∧ p.length ≤ 4))
theorem adj_iff {p : List Int} : adj p = true ↔ ∀ i, i + 1 < p.length → p.getD i 0 ≠ p.getD (i + 1) 0 := by
  unfold adj
  rw [List.all_eq_true]
  constructor
  · intro h i hi
    have := h i (List.mem_range.2 (by omega))
    simpa using this
  · intro h i hi
    have := h i (by have := List.mem_range.1 hi; omega)
    simpa using this
theorem adj_no {p : List Int} {i : Nat} (hi : i + 1 < p.length) (h : p.getD i 0 = p.getD (i + 1) 0) : adj p = false := by
  cases hb : adj p
  · rfl
  · exact absurd h (adj_iff.1 hb i hi)
theorem lpOk_iff {p : List Int} : lpOk p = true ↔ adj p = true ∧ namesOk p = true ∧ 2 ≤ p.length ∧ p.length ≤ 4 := by
  unfold lpOk
  simp only [Bool.and_eq_true, decide_eq_true_eq]
def key (f t : Int) : Cnt := ⟨f, t, 0, 0⟩
theorem less_key (c d : Cnt) : less c d = less c (key d.fr d.to_) := rfl
theorem less_key' (c d : Cnt) : less d c = less (key d.fr d.to_) c := rfl
def lastL (xs : List Cnt) (f t : Int) : Cnt := xs.foldl (fun x c => bif isL f t c then c else x) (key f t)
theorem lastL_snoc (xs : List Cnt) (c : Cnt) (f t : Int) : lastL (xs ++ [c]) f t = bif isL f t c then c else lastL xs f t := by
  unfold lastL
  rw [List.foldl_append]; rfl
theorem isL_eq {f t : Int} {c : Cnt} (h : isL f t c = true) : c.fr = f ∧ c.to_ = t := by
  unfold isL at h
  simp only [Bool.and_eq_true, decide_eq_true_eq] at h
  exact h
theorem lastL_key (xs : List Cnt) (f t : Int) : (lastL xs f t).fr = f ∧ (lastL xs f t).to_ = t := by
  suffices h : ∀ (ys : List Cnt) (x : Cnt), x.fr = f ∧ x.to_ = t → (ys.foldl (fun x c => bif isL f t c then c else x) x).fr = f ∧ (ys.foldl (fun x c => bif isL f t c then c else x) x).to_ = t from h xs _ ⟨rfl, rfl⟩
  intro ys
  induction ys with
  | nil => intro x h; exact h
  | cons y ys ih =>
    intro x h
    rw [List.foldl_cons]
    apply ih
    cases hb : isL f t y
    · exact h
    · exact isL_eq hb
theorem lastL_mem (xs : List Cnt) (f t : Int) : lastL xs f t ∈ xs ∨ lastL xs f t = key f t := by
  suffices h : ∀ (ys : List Cnt) (x : Cnt), (ys.foldl (fun x c => bif isL f t c then c else x) x) ∈ ys ∨ (ys.foldl (fun x c => bif isL f t c then c else x) x) = x from h xs _
  intro ys
  induction ys with
  | nil => intro x; exact .inr rfl
  | cons y ys ih =>
    intro x
    rw [List.foldl_cons]
    rcases ih (bif isL f t y then y else x) with h | h
    · exact .inl (List.mem_cons_of_mem _ h)
    · cases hb : isL f t y
      · rw [hb] at h; exact .inr h
      · rw [hb] at h; rw [h]; exact .inl List.mem_cons_self
def bump (x : Cnt) (b : Bool) : Cnt := ⟨x.fr, x.to_, x.se + 1, x.ba + (bif b then 1 else 0)⟩
def cntOne (xs : List Cnt) (f t : Int) (b : Bool) : List Cnt := xs.filter (fun c => less c (key f t)) ++ [bump (lastL xs f t) b] ++ xs.filter (fun c => less (key f t) c)
def addP (xs : List Cnt) (p : List Int) (b : Bool) : Nat → List Cnt
  | 0 => xs
  | k + 1 => cntOne (addP xs p b k) (p.getD k 0) (p.getD (k + 1) 0) b
def addL (xs : List Cnt) (p : List Int) (b : Bool) : List Cnt := addP xs p b (p.length - 1)
def addB (xs : List Cnt) (p : List Int) (b : Bool) : Bool := loopsOk xs && (lpOk p && loopsOk (addL xs p b))
def addR (xs : List Cnt) (p : List Int) (b : Bool) : List Cnt := bif loopsOk xs && lpOk p then (bif loopsOk (addL xs p b) then addL xs p b else xs) else []
/-- All numbers are small. -/
def Small (m : Int) (xs : List Cnt) : Prop := ∀ c ∈ xs, (0 ≤ c.se ∧ c.se ≤ m) ∧ 0 ≤ c.ba ∧ c.ba ≤ m
theorem small_ok {xs : List Cnt} (h : loopsOk xs = true) : Small 99 xs := fun c hc => by
  have := okC_iff.1 (ok_at h hc)
  omega
theorem small_last {m : Int} {xs : List Cnt} (h : Small m xs) (hm : 0 ≤ m) (f t : Int) : (0 ≤ (lastL xs f t).se ∧ (lastL xs f t).se ≤ m) ∧ 0 ≤ (lastL xs f t).ba ∧ (lastL xs f t).ba ≤ m := by
  rcases lastL_mem xs f t with h1 | h1
  · exact h _ h1
  · rw [h1]; exact ⟨⟨Int.le_refl _, hm⟩, Int.le_refl _, hm⟩
theorem small_one {m : Int} {xs : List Cnt} (h : Small m xs) (hm : 0 ≤ m) (f t : Int) (b : Bool) : Small (m + 1) (cntOne xs f t b) := by
  intro c hc
  unfold cntOne at hc
  rcases List.mem_append.1 hc with hc | hc
  · rcases List.mem_append.1 hc with hc | hc
    · have := h c (List.mem_filter.1 hc).1
      omega
    · simp only [List.mem_singleton] at hc
      subst hc
      have := small_last h hm f t
      unfold bump
      cases b <;> simp <;> omega
  · have := h c (List.mem_filter.1 hc).1
    omega
theorem cntOne_len (xs : List Cnt) (f t : Int) (b : Bool) : (cntOne xs f t b).length ≤ 2 * xs.length + 1 := by
  unfold cntOne
  rw [List.length_append, List.length_append]
  have h1 := List.length_filter_le (fun c => less c (key f t)) xs
  have h2 := List.length_filter_le (fun c => less (key f t) c) xs
  simp; omega
theorem addP_small {xs : List Cnt} (h : loopsOk xs = true) (p : List Int) (b : Bool) (k : Nat) : Small (99 + k) (addP xs p b k) := by
  induction k with
  | zero => simpa [addP] using small_ok h
  | succ k ih =>
    have := small_one ih (by omega) (p.getD k 0) (p.getD (k + 1) 0) b
    intro c hc
    have := this c hc
    omega
theorem addP_len {xs : List Cnt} (h : loopsOk xs = true) (p : List Int) (b : Bool) (k : Nat) (hk : k ≤ 3) : (addP xs p b k).length ≤ 600 := by
  have h0 := ok_len h
  have hs : ∀ k, (addP xs p b (k + 1)).length ≤ 2 * (addP xs p b k).length + 1 := fun k => cntOne_len _ _ _ _
  have h1 := hs 0
  have h2 := hs 1
  have h3 := hs 2
  have e0 : (addP xs p b 0).length = xs.length := rfl
  simp only [Nat.zero_add, Nat.reduceAdd] at h1 h2 h3
  obtain rfl | rfl | rfl | rfl : k = 0 ∨ k = 1 ∨ k = 2 ∨ k = 3 := by omega
  all_goals omega

end Lc
end Go.Proofs.Ytbhafchdcofceaa
