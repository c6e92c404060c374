/-
  Several parts of the proof in one text.
-/
import Derived.Test.YtnjcpbkpcmemeacMx
import Derived.Test.YtnjcpbkpcmemeacIm6b
import Derived.Handy
import Derived.Deep.Cut
import Derived.Deep.CutRange
import Derived.StillTailTactics
import Derived.BigRegion
import Derived.Deep.RegionLaw
import Derived.LoopTactic
import Derived.Test.YtnjcpbkpcmemeacSp6z
/-
  Plain heaps: what swapping up and down keeps; what leaves a heap is in order, and it is the sorted pool. Nothing of any program.
-/
namespace Go.Proofs.Ytnjcpbkpcmemeac
namespace Hp6
open Gm Mm Tm Lm Pm Po Sl Mm6

section
variable {α : Type} [Inhabited α]

/-- The element at a place. -/
def at_ (l : List α) (i : Nat) : α := l.getD i default
def swap (l : List α) (i j : Nat) : List α := (l.set i (at_ l j)).set j (at_ l i)
theorem swap_len (l : List α) (i j : Nat) : (swap l i j).length = l.length := by simp [swap]
theorem at_is {l : List α} {i : Nat} (h : i < l.length) : at_ l i = l[i] := by simp [at_, List.getD, h]
theorem at_mem {l : List α} {i : Nat} (h : i < l.length) : at_ l i ∈ l := by rw [at_is h]; exact List.getElem_mem h
theorem at_swap {l : List α} {i j k : Nat} (hi : i < l.length) (hj : j < l.length) : at_ (swap l i j) k = if k = j then at_ l i else if k = i then at_ l j else at_ l k := by
  unfold swap at_
  simp only [List.getD, List.getElem?_set, List.length_set]
  by_cases h1 : k = j
  · subst h1; simp [hj]
  · by_cases h2 : k = i
    · subst h2; simp [h1, Ne.symm h1, hi]
    · simp [h1, h2, Ne.symm h1, Ne.symm h2]
theorem swap_perm {l : List α} {i j : Nat} (hi : i < l.length) (hj : j < l.length) : (swap l i j).Perm l := by
  unfold swap
  rw [at_is hi, at_is hj]
  exact List.set_set_perm hi hj

def par (i : Nat) : Nat := (i - 1) / 2
variable {le : α → α → Prop}
/-- The first n elements are a heap. -/
def IsHeap (le : α → α → Prop) (l : List α) (n : Nat) : Prop := ∀ i, 0 < i → i < n → le (at_ l (par i)) (at_ l i)
def UpInv (le : α → α → Prop) (l : List α) (n j : Nat) : Prop :=
  (∀ i, 0 < i → i < n → i ≠ j → le (at_ l (par i)) (at_ l i)) ∧ (∀ i, 0 < i → i < n → par i = j → 0 < j → le (at_ l (par j)) (at_ l i))
def DownInv (le : α → α → Prop) (l : List α) (n i : Nat) : Prop :=
  (∀ k, 0 < k → k < n → par k ≠ i → le (at_ l (par k)) (at_ l k)) ∧ (∀ k, 0 < k → k < n → par k = i → 0 < i → le (at_ l (par i)) (at_ l k))

theorem up_start {l : List α} {x : α} (h : IsHeap le l l.length) : UpInv le (l ++ [x]) (l.length + 1) l.length := by
  have hat : ∀ i, i < l.length → at_ (l ++ [x]) i = at_ l i := fun i hi => by simp [at_, List.getD, List.getElem?_append, hi]
  refine ⟨fun i h0 hi hne => ?_, fun i h0 hi hp h1 => ?_⟩
  · rw [hat i (by omega), hat (par i) (by unfold par; omega)]
    exact h i h0 (by omega)
  · unfold par at hp; omega
theorem up_step {l : List α} {n j : Nat} (htot : ∀ a b, ¬ le a b → le b a) (htr : ∀ a b c, le a b → le b c → le a c) (h : UpInv le l n j) (hn : n = l.length) (hj : j < n) (h0 : 0 < j) (hl : ¬ le (at_ l (par j)) (at_ l j)) : UpInv le (swap l (par j) j) n (par j) := by
  obtain ⟨h1, h2⟩ := h
  have hpj : par j < j := by unfold par; omega
  have hA : ∀ k, at_ (swap l (par j) j) k = if k = j then at_ l (par j) else if k = par j then at_ l j else at_ l k := fun k => at_swap (by omega) (by omega)
  have hle := htot _ _ hl
  refine ⟨fun k k0 kn kne => ?_, fun k k0 kn kp p0 => ?_⟩
  · have hpk : par k < k := by unfold par; omega
    rw [hA, hA]
    by_cases e : k = j
    · subst e; rw [if_neg (by omega), if_pos rfl, if_pos rfl]; exact hle
    · rw [if_neg e, if_neg kne]
      by_cases e2 : par k = j
      · rw [if_pos e2]; exact h2 k k0 kn e2 h0
      · rw [if_neg e2]
        by_cases e3 : par k = par j
        · rw [if_pos e3]; exact htr _ _ _ hle (e3 ▸ h1 k k0 kn e)
        · rw [if_neg e3]; exact h1 k k0 kn e
  · have hpk : par k < k := by unfold par; omega
    have hpp : par (par j) < par j := by unfold par at *; omega
    have hq := h1 (par j) p0 (by omega) (by omega)
    rw [hA, hA, if_neg (by omega), if_neg (by omega)]
    by_cases e : k = j
    · rw [if_pos e]; exact hq
    · rw [if_neg e, if_neg (by omega)]; exact htr _ _ _ hq (kp ▸ h1 k k0 kn e)
theorem up_zero {l : List α} {n : Nat} (h : UpInv le l n 0) : IsHeap le l n := fun i h0 hi => h.1 i h0 hi (by omega)
theorem up_end {l : List α} {n j : Nat} (h : UpInv le l n j) (hl : le (at_ l (par j)) (at_ l j)) : IsHeap le l n := fun i h0 hi => by
  by_cases e : i = j
  · subst e; exact hl
  · exact h.1 i h0 hi e

theorem down_start {l : List α} {n : Nat} (h : IsHeap le l (n + 1)) (hn : l.length = n + 1) : DownInv le (swap l 0 n) n 0 := by
  refine ⟨fun k k0 kn kp => ?_, fun k _ _ _ h => absurd h (by omega)⟩
  have hpk : par k < k := by unfold par; omega
  rw [at_swap (by omega) (by omega), at_swap (by omega) (by omega), if_neg (by omega), if_neg kp, if_neg (by omega), if_neg (by omega)]
  exact h k k0 (by omega)
theorem down_step {l : List α} {n i j : Nat} (htot : ∀ a b, ¬ le a b → le b a) (h : DownInv le l n i) (hn : n ≤ l.length) (hj : j < n) (h0 : 0 < j) (hp : par j = i) (hmin : ∀ k, 0 < k → k < n → par k = i → le (at_ l j) (at_ l k)) (hl : ¬ le (at_ l i) (at_ l j)) : DownInv le (swap l i j) n j := by
  obtain ⟨h1, h2⟩ := h
  have hij : i < j := by rw [← hp]; unfold par; omega
  have hA : ∀ k, at_ (swap l i j) k = if k = j then at_ l i else if k = i then at_ l j else at_ l k := fun k => at_swap (by omega) (by omega)
  have hle := htot _ _ hl
  refine ⟨fun k k0 kn kp => ?_, fun k k0 kn kp p0 => ?_⟩
  · have hpk : par k < k := by unfold par; omega
    rw [hA, hA, if_neg kp]
    by_cases e : par k = i
    · rw [if_pos e]
      by_cases e2 : k = j
      · rw [if_pos e2]; exact hle
      · rw [if_neg e2, if_neg (by omega)]; exact hmin k k0 kn e
    · rw [if_neg e]
      by_cases e2 : k = j
      · subst e2; exact absurd hp e
      · rw [if_neg e2]
        by_cases e3 : k = i
        · subst e3; rw [if_pos rfl]; exact h2 j h0 hj hp k0
        · rw [if_neg e3]; exact h1 k k0 kn e
  · have hpk : par k < k := by unfold par; omega
    rw [hA, hA, hp, if_neg (by omega), if_pos rfl, if_neg (by omega), if_neg (by omega)]
    have := h1 k k0 kn (by omega)
    rwa [kp] at this
theorem down_none {l : List α} {n i : Nat} (h : DownInv le l n i) (hn : n ≤ 2 * i + 1) : IsHeap le l n := fun k h0 hk => h.1 k h0 hk (by unfold par; omega)
theorem down_end {l : List α} {n i j : Nat} (htr : ∀ a b c, le a b → le b c → le a c) (h : DownInv le l n i) (hmin : ∀ k, 0 < k → k < n → par k = i → le (at_ l j) (at_ l k)) (hl : le (at_ l i) (at_ l j)) : IsHeap le l n := fun k h0 hk => by
  by_cases e : par k = i
  · rw [e]; exact htr _ _ _ hl (hmin k h0 hk e)
  · exact h.1 k h0 hk e
theorem heap_min {l : List α} {n : Nat} (hrf : ∀ a, le a a) (htr : ∀ a b c, le a b → le b c → le a c) (h : IsHeap le l n) (k : Nat) (hk : k < n) : le (at_ l 0) (at_ l k) := by
  induction k using Nat.strongRecOn with
  | _ k ih =>
    by_cases e : k = 0
    · subst e; exact hrf _
    · exact htr _ _ _ (ih (par k) (by unfold par; omega) (by unfold par; omega)) (h k (by omega) hk)
/-- The children of i. -/
theorem kids {k i : Nat} (h0 : 0 < k) (h : par k = i) : k = 2 * i + 1 ∨ k = 2 * i + 2 := by unfold par at h; omega
theorem heap_take {l : List α} {n : Nat} (h : IsHeap le l n) (_hn : n ≤ l.length) : IsHeap le (l.take n) n := fun i h0 hi => by
  have hat : ∀ i, i < n → at_ (l.take n) i = at_ l i := fun i hi => by simp [at_, List.getD, hi]
  rw [hat i hi, hat (par i) (by unfold par; omega)]
  exact h i h0 hi
theorem split_last {l : List α} {n : Nat} (h : l.length = n + 1) : l = l.take n ++ [at_ l n] := by
  rw [at_is (by omega)]
  conv => lhs; rw [← List.take_append_drop n l]
  congr 1
  rw [List.drop_eq_getElem_cons (by omega), List.drop_of_length_le (by omega)]
/-- What is popped is the least. -/
theorem pop_fact {l l' : List α} {n : Nat} (hrf : ∀ a, le a a) (htr : ∀ a b c, le a b → le b c → le a c) (h : IsHeap le l (n + 1)) (hn : l.length = n + 1) (hp : l'.Perm (swap l 0 n)) (hl : at_ l' n = at_ (swap l 0 n) n) (hh : IsHeap le l' n) :
    (at_ l 0 :: l'.take n).Perm l ∧ IsHeap le (l'.take n) n ∧ (∀ x ∈ l'.take n, le (at_ l 0) x) ∧ at_ l' n = at_ l 0 := by
  have hlen : l'.length = n + 1 := by rw [hp.length_eq, swap_len, hn]
  have e0 : at_ l' n = at_ l 0 := by rw [hl, at_swap (by omega) (by omega), if_pos rfl]
  have hs := split_last hlen
  have hp2 : (at_ l 0 :: l'.take n).Perm l := by
    refine List.Perm.trans ?_ (hp.trans (swap_perm (by omega) (by omega)))
    conv => rhs; rw [hs]
    rw [e0]
    exact (List.perm_append_comm (l₁ := [at_ l 0]) (l₂ := l'.take n))
  refine ⟨hp2, heap_take hh (by omega), fun x hx => ?_, e0⟩
  have hm : x ∈ l := hp2.mem_iff.1 (List.mem_cons_of_mem _ hx)
  obtain ⟨k, hk, rfl⟩ := List.getElem_of_mem hm
  rw [← at_is hk]
  exact heap_min hrf htr h k (by omega)
end
/-- A slot with its place in the pool. -/
structure Wt where
  s : Slot
  k : Nat
instance : Inhabited Wt := ⟨⟨⟨⟨0, 0, ⟨0, [], 0, []⟩⟩, none, 0, none, 0, 0, 0⟩, 0⟩⟩
def ltW (a b : Wt) : Prop := Lt a.s.p b.s.p ∨ (¬ Lt b.s.p a.s.p ∧ a.k < b.k)
def leW (a b : Wt) : Prop := ¬ ltW b a
theorem leW_rf (a : Wt) : leW a a := by unfold leW ltW; simp [lt_irr]
theorem leW_tot (a b : Wt) (h : ¬ leW a b) : leW b a := by unfold leW ltW Lt at *; omega
theorem leW_tr (a b c : Wt) (h : leW a b) (h2 : leW b c) : leW a c := by unfold leW ltW Lt at *; omega
theorem leW_anti {a b : Wt} (h : leW a b) (h2 : leW b a) : a.k = b.k := by unfold leW ltW Lt at *; omega
/-- The slots of a pool with their places. -/
def deco (ss : List Slot) : List Wt := ss.zipIdx.map fun x => ⟨x.1, x.2⟩
theorem deco_len (ss : List Slot) : (deco ss).length = ss.length := by simp [deco]
theorem deco_snoc (ss : List Slot) (s : Slot) : deco (ss ++ [s]) = deco ss ++ [⟨s, ss.length⟩] := by simp [deco, List.zipIdx_append]
theorem deco_at {ss : List Slot} {x : Wt} (h : x ∈ deco ss) : ss[x.k]? = some x.s := by
  simp only [deco, List.mem_map] at h
  obtain ⟨⟨a, i⟩, hm, rfl⟩ := h
  have := List.mem_zipIdx_iff_getElem?.1 hm
  exact this
theorem deco_anti {ss : List Slot} {a b : Wt} (ha : a ∈ deco ss) (hb : b ∈ deco ss) (h : leW a b) (h2 : leW b a) : a = b := by
  have e := leW_anti h h2
  have h3 := deco_at ha
  have h4 := deco_at hb
  rw [e, h4] at h3
  obtain ⟨s, k⟩ := a
  obtain ⟨s2, k2⟩ := b
  simp only [Option.some.injEq] at h3
  simp only at e
  rw [e, h3]
theorem cutW {x : Wt} {qs : List Wt} (hs : qs.Pairwise leW) (hk : ∀ y ∈ qs, y.k < x.k) :
    (∀ y ∈ qs.take (cutAt x.s.p (qs.map fun q => q.s.p)), leW y x) ∧ (∀ y ∈ qs.drop (cutAt x.s.p (qs.map fun q => q.s.p)), leW x y) := by
  induction qs with
  | nil => exact ⟨fun y h => by simp at h, fun y h => by simp at h⟩
  | cons q qs ih =>
    obtain ⟨h1, h2⟩ := List.pairwise_cons.1 hs
    obtain ⟨i1, i2⟩ := ih h2 fun y hy => hk y (List.mem_cons_of_mem _ hy)
    have hqk := hk q (List.mem_cons_self ..)
    unfold cutAt at *
    rw [List.map_cons, List.takeWhile_cons]
    cases hl : less x.s.p q.s.p
    · have hnl : ¬ Lt x.s.p q.s.p := fun h => by rw [less_iff.2 h] at hl; cases hl
      simp only [Bool.not_false, if_true, List.length_cons, List.take_succ_cons, List.drop_succ_cons]
      refine ⟨fun y hy => ?_, i2⟩
      rcases List.mem_cons.1 hy with rfl | hy
      · unfold leW ltW; intro h; rcases h with h | h
        · exact hnl h
        · omega
      · exact i1 y hy
    · have hlt := less_iff.1 hl
      simp only [Bool.not_true, Bool.false_eq_true, if_false, List.length_nil, List.take_zero, List.drop_zero]
      refine ⟨fun y hy => by simp at hy, fun y hy => ?_⟩
      have hxq : leW x q := by unfold leW ltW Lt at *; omega
      rcases List.mem_cons.1 hy with rfl | hy
      · exact hxq
      · exact leW_tr _ _ _ hxq (h1 y hy)
theorem sort_deco (ss : List Slot) : ∃ qs : List Wt, qs.Perm (deco ss) ∧ qs.Pairwise leW ∧ qs.map (fun q => q.s.p) = sortP (ss.map fun s => s.p) := by
  suffices ∀ n (ss : List Slot), ss.length = n → ∃ qs : List Wt, qs.Perm (deco ss) ∧ qs.Pairwise leW ∧ qs.map (fun q => q.s.p) = sortP (ss.map fun s => s.p) from this _ ss rfl
  intro n
  induction n with
  | zero => intro ss h; rw [List.eq_nil_of_length_eq_zero h]; exact ⟨[], List.Perm.refl _, List.Pairwise.nil, rfl⟩
  | succ n ih =>
    intro ss h
    rcases List.eq_nil_or_concat ss with rfl | ⟨ts, s, rfl⟩
    · simp at h
    rw [List.concat_eq_append] at *
    obtain ⟨qs, h1, h2, h3⟩ := ih ts (by simpa using h)
    have hk : ∀ y ∈ qs, y.k < ts.length := fun y hy => (List.getElem?_eq_some_iff.1 (deco_at (h1.mem_iff.1 hy))).1
    obtain ⟨c1, c2⟩ := cutW (x := ⟨s, ts.length⟩) h2 hk
    refine ⟨qs.take (cutAt s.p (qs.map fun q => q.s.p)) ++ ⟨s, ts.length⟩ :: qs.drop (cutAt s.p (qs.map fun q => q.s.p)), ?_, ?_, ?_⟩
    · rw [deco_snoc]
      refine List.perm_middle.trans ?_
      rw [List.take_append_drop]
      exact (List.perm_append_comm (l₁ := [_])).trans (h1.append_right _)
    · refine List.pairwise_append.2 ⟨h2.sublist (List.take_sublist _ _), List.pairwise_cons.2 ⟨c2, h2.sublist (List.drop_sublist _ _)⟩, fun a ha b hb => ?_⟩
      rcases List.mem_cons.1 hb with rfl | hb
      · exact c1 a ha
      · exact leW_tr _ _ _ (c1 a ha) (c2 b hb)
    · rw [List.map_append, List.map_cons, List.map_take, List.map_drop, List.map_append, List.map_cons, List.map_nil, h3]
      show _ = sortP _
      unfold sortP
      rw [List.foldl_append, List.foldl_cons, List.foldl_nil]
      rfl
/-- What leaves a heap in order is the sorted pool. -/
theorem popped {ss : List Slot} {os : List Wt} (hp : os.Perm (deco ss)) (hs : os.Pairwise leW) : os.map (fun q => q.s.p) = sortP (ss.map fun s => s.p) := by
  obtain ⟨qs, h1, h2, h3⟩ := sort_deco ss
  have : os = qs := List.Perm.eq_of_pairwise (fun a b ha hb => deco_anti (hp.mem_iff.1 ha) (h1.mem_iff.1 hb)) hs h2 (hp.trans h1.symm)
  rw [this]; exact h3

end Hp6
end Go.Proofs.Ytnjcpbkpcmemeac

/-
  Contracts of the program's heap of waiting packets: comparing.
-/
namespace Go.Proofs.Ytnjcpbkpcmemeac
open Go.RowKit
namespace Im6
open Il Gm Mm Tm Lm Pm Pq Hlp5 Sl Mm6 Hp6

def cmpI (x y : Int) : Int := if x < y then -1 else if y < x then 1 else 0
def orL (xs : List Int) : Int := (xs.find? (· != 0)).getD 0
theorem isNaN (x : Int) (w : World) : Calls Try.prog 138 #[.int .i64 x] w fun e w' => e = .returned (.bool false) ∧ w = w' := by
  have e0 : (x != x) = false := by simp
  go_enter Try.func138, Try.ntmps138
  go_wp2
  go_ret
  exact ⟨rfl, rfl⟩
theorem compare (x y : Int) (w : World) : Calls Try.prog 137 #[.int .i64 x, .int .i64 y] w fun e w' => e = .returned (.int .i64 (cmpI x y)) ∧ w = w' := by
  unfold cmpI
  by_cases h1 : x < y
  · rw [if_pos h1]
    go_enter Try.func137, Try.ntmps137
    go_wp2_with fail
    ((with_reducible refine (isNaN x _).mono ?_); rintro e w1 ⟨rfl, rfl⟩)
    go_wp2_with fail
    ((with_reducible refine (isNaN y _).mono ?_); rintro e w1 ⟨rfl, rfl⟩)
    go_wp2
    go_ret
    exact ⟨rfl, rfl⟩
  · rw [if_neg h1]
    by_cases h2 : y < x
    · rw [if_pos h2]
      go_enter Try.func137, Try.ntmps137
      go_wp2_with fail
      ((with_reducible refine (isNaN x _).mono ?_); rintro e w1 ⟨rfl, rfl⟩)
      go_wp2_with fail
      ((with_reducible refine (isNaN y _).mono ?_); rintro e w1 ⟨rfl, rfl⟩)
      go_wp2
      go_ret
      exact ⟨rfl, rfl⟩
    · rw [if_neg h2]
      go_enter Try.func137, Try.ntmps137
      go_wp2_with fail
      ((with_reducible refine (isNaN x _).mono ?_); rintro e w1 ⟨rfl, rfl⟩)
      go_wp2_with fail
      ((with_reducible refine (isNaN y _).mono ?_); rintro e w1 ⟨rfl, rfl⟩)
      go_wp2
      go_ret
      exact ⟨rfl, rfl⟩
theorem compare_s (x y : Int) (w : World) : Calls Try.prog 137 #[.int .i64 x, .int .i64 y] w fun e w' => e = .returned (.int .i64 (cmpI x y)) ∧ w' = w := (compare x y w).mono fun _ _ h => ⟨h.1, h.2.symm⟩
theorem orL_at {xs : List Int} {k : Nat} (h : ∀ i, i < k → xs.getD i 0 = 0) (hk : k < xs.length) (hn : xs.getD k 0 ≠ 0) : orL xs = xs.getD k 0 := by
  unfold orL
  have : xs.find? (· != 0) = some (xs.getD k 0) := by
    rw [List.find?_eq_some_iff_getElem]
    refine ⟨by simpa using hn, k, hk, by simp [List.getD, hk], fun j hj => ?_⟩
    have := h j hj
    rw [List.getD_eq_getElem?_getD, List.getElem?_eq_getElem (by omega)] at this
    simpa using this
  rw [this]; rfl
theorem orL_no {xs : List Int} (h : ∀ i, i < xs.length → xs.getD i 0 = 0) : orL xs = 0 := by
  unfold orL
  have : xs.find? (· != 0) = none := by
    rw [List.find?_eq_none]
    intro x hx
    obtain ⟨i, hi, rfl⟩ := List.getElem_of_mem hx
    have := h i hi
    rw [List.getD_eq_getElem?_getD, List.getElem?_eq_getElem hi] at this
    simpa using this
  rw [this]; rfl
theorem cmpOr (lo hi : Nat) (A : Option Addr) (n c : Nat) (xs : List Int) (w : World) (hx : Ints lo hi w A n c xs) :
    Calls Try.prog 136 #[.slice A n c] w fun e w' => e = .returned (.int .i64 (orL xs)) ∧ w = w' := by
  have hc1 := hx.2.2.1
  have hc2 := hx.2.1
  have HL := Lib.hid hx.1
  unfold maxLen at hc1
  have HX := Lib.hid hx
  clear hx
  go_enter Try.func136, Try.ntmps136
  go_wp2
  go_loop [8] (fun i => ∃ k : Nat, k ≤ n ∧ i = .int .i64 k ∧ Hid (∀ i, i < k → xs.getD i 0 = 0)) (fun i => n - (intOf i).toNat)
  case atStart => exact ⟨0, Nat.zero_le _, rfl, fun i hi => absurd hi (by omega)⟩
  case round =>
    obtain ⟨k, hk, rfl, hT⟩ := hrel
    by_cases hlt : k < n
    · obtain ⟨b, off, rfl, _, _, hcx⟩ := HX.out.at_ hlt
      by_cases he : xs.getD k 0 = 0
      · have HN : Hid (∀ i, i < k + 1 → xs.getD i 0 = 0) := fun i hi => by
          by_cases e : i = k
          · rw [e]; exact he
          · exact hT.out i (by omega)
        have e0 : (xs.getD k 0 != 0) = false := by simpa using he
        clear he hT
        generalize xs.getD k 0 = y at *
        go_wp2
        go_round
        case rel => exact ⟨k + 1, by omega, by go_num, HN.out⟩
        case measure => simp [intOf]; omega
      · have HF := Lib.hid (orL_at hT.out (by rw [HL.out]; exact hlt) he)
        have e0 : (xs.getD k 0 != 0) = true := by simpa using he
        clear he hT
        generalize xs.getD k 0 = y at *
        go_wp2
        go_ret
        rw [HF.out]
        exact ⟨rfl, rfl⟩
    · obtain rfl : k = n := by omega
      have HF := Lib.hid (orL_no (xs := xs) (fun i hi => hT.out i (by rw [HL.out] at hi; exact hi)))
      clear hT
      go_wp2
      go_ret
      rw [HF.out]
      exact ⟨rfl, rfl⟩
/-- What before answers. -/
def ltb (a b : Wt) : Bool := decide (orL [cmpI a.s.p.kind b.s.p.kind, cmpI a.s.p.next b.s.p.next, cmpI a.s.p.pk.el b.s.p.pk.el, cmpI a.s.p.pk.tag b.s.p.pk.tag, cmpI a.k b.k] < 0)
theorem cmpI_cases (x y : Int) : (x < y ∧ cmpI x y = -1) ∨ (x = y ∧ cmpI x y = 0) ∨ (y < x ∧ cmpI x y = 1) := by
  unfold cmpI
  by_cases h1 : x < y
  · exact .inl ⟨h1, if_pos h1⟩
  · by_cases h2 : y < x
    · exact .inr (.inr ⟨h2, by rw [if_neg h1, if_pos h2]⟩)
    · exact .inr (.inl ⟨by omega, by rw [if_neg h1, if_neg h2]⟩)
theorem ltb_iff (a b : Wt) : ltb a b = true ↔ ltW a b := by
  unfold ltb ltW Lt
  rcases cmpI_cases a.s.p.kind b.s.p.kind with ⟨h1, e1⟩ | ⟨h1, e1⟩ | ⟨h1, e1⟩ <;> rw [e1]
  · simp [orL]; omega
  · rcases cmpI_cases a.s.p.next b.s.p.next with ⟨h2, e2⟩ | ⟨h2, e2⟩ | ⟨h2, e2⟩ <;> rw [e2]
    · simp [orL]; omega
    · rcases cmpI_cases a.s.p.pk.el b.s.p.pk.el with ⟨h3, e3⟩ | ⟨h3, e3⟩ | ⟨h3, e3⟩ <;> rw [e3]
      · simp [orL]; omega
      · rcases cmpI_cases a.s.p.pk.tag b.s.p.pk.tag with ⟨h4, e4⟩ | ⟨h4, e4⟩ | ⟨h4, e4⟩ <;> rw [e4]
        · simp [orL]; omega
        · rcases cmpI_cases (a.k : Int) b.k with ⟨h5, e5⟩ | ⟨h5, e5⟩ | ⟨h5, e5⟩ <;> rw [e5] <;> simp [orL] <;> omega
        · simp [orL]; omega
      · simp [orL]; omega
    · simp [orL]; omega
  · simp [orL]; omega
theorem seven_cells {w : World} {b : Nat} {v0 v1 v2 v3 v4 v5 v6 : Value} {t : TypeId} (h : w.heap[b]? = some (.cells #[v0, v1, v2, v3, v4, v5, v6] t (0, 0))) :
    w.cell? ⟨b, 0, none⟩ = some v0 ∧ w.cell? ⟨b, 1, none⟩ = some v1 ∧ w.cell? ⟨b, 2, none⟩ = some v2 ∧ w.cell? ⟨b, 3, none⟩ = some v3 ∧ w.cell? ⟨b, 4, none⟩ = some v4 ∧ w.cell? ⟨b, 5, none⟩ = some v5 ∧ w.cell? ⟨b, 6, none⟩ = some v6 ∧ ∀ j, w.frozen? ⟨b, j, none⟩ = false := by
  refine ⟨?_, ?_, ?_, ?_, ?_, ?_, ?_, fun j => by simp [World.frozen?, h]⟩
  all_goals rw [cell_of_row _ _ _ _ _ _ h]; rfl
theorem ints_lit5 (w : World) (x1 x2 x3 x4 x5 : Int) : Ints w.heap.size (w.heap.size + 1) (w.alloc (.cells #[.int .i64 x1, .int .i64 x2, .int .i64 x3, .int .i64 x4, .int .i64 x5] 3)) (some ⟨w.heap.size, 0, none⟩) 5 5 [x1, x2, x3, x4, x5] := by
  have hh : (w.alloc (.cells #[.int .i64 x1, .int .i64 x2, .int .i64 x3, .int .i64 x4, .int .i64 x5] 3)).heap[w.heap.size]? = some (.cells #[.int .i64 x1, .int .i64 x2, .int .i64 x3, .int .i64 x4, .int .i64 x5] 3 (0, 0)) := heap_alloc_new _ _
  refine ⟨rfl, Nat.le_refl _, by unfold maxLen; omega, fun _ => ⟨_, 0, rfl, Nat.le_refl _, by omega, by simp, fun j hj => ?_⟩⟩
  rw [cell_of_row _ _ _ _ _ _ hh]
  match j, hj with
  | 0, _ => rfl
  | 1, _ => rfl
  | 2, _ => rfl
  | 3, _ => rfl
  | 4, _ => rfl
theorem blk_two {w1 : World} {b : Nat} {cs : Array Value} {t : TypeId} (h : Blk w1 b cs t) (o1 o2 : Obj) : Blk ((w1.alloc o1).alloc o2).drew b cs t := by
  have hb : b < w1.heap.size := (Array.getElem?_eq_some_iff.1 h).1
  exact ((Below.heap_alloc _ _ _ (by simp; omega)).trans (Below.heap_alloc _ _ _ hb)).trans h
theorem below_drew2 {B : Nat} {w w' : World} (h : Below B w w') : Below B w w'.drew := ⟨h.os, h.tape, h.output, h.size, h.block⟩
set_option maxRecDepth 20000 in
set_option maxHeartbeats 2000000 in
theorem before (a b : Wt) (w : World) :
    Calls Try.prog 135 #[.agg #[.int .i64 a.s.p.kind, .int .i64 a.s.p.next, .int .i64 a.s.p.pk.el, .slice a.s.A a.s.p.pk.hd.length a.s.c, .int .i64 a.s.p.pk.tag, .slice a.s.B a.s.p.pk.bd.length a.s.d, .int .i64 a.k], .agg #[.int .i64 b.s.p.kind, .int .i64 b.s.p.next, .int .i64 b.s.p.pk.el, .slice b.s.A b.s.p.pk.hd.length b.s.c, .int .i64 b.s.p.pk.tag, .slice b.s.B b.s.p.pk.bd.length b.s.d, .int .i64 b.k]] w (BoolB (ltb a b) w) := by
  obtain ⟨z0, z1, hs, hb⟩ := Sp6.two_blocks w #[.int .i64 a.s.p.kind, .int .i64 a.s.p.next, .int .i64 a.s.p.pk.el, .slice a.s.A a.s.p.pk.hd.length a.s.c, .int .i64 a.s.p.pk.tag, .slice a.s.B a.s.p.pk.bd.length a.s.d, .int .i64 a.k] #[.int .i64 b.s.p.kind, .int .i64 b.s.p.next, .int .i64 b.s.p.pk.el, .slice b.s.A b.s.p.pk.hd.length b.s.c, .int .i64 b.s.p.pk.tag, .slice b.s.B b.s.p.pk.bd.length b.s.d, .int .i64 b.k] 68 68
  have Z0 := Lib.hid z0
  have Z1 := Lib.hid z1
  have HB := Lib.hid hb
  have hz : w.heap.size + 1 < ((w.alloc (.cells #[.int .i64 a.s.p.kind, .int .i64 a.s.p.next, .int .i64 a.s.p.pk.el, .slice a.s.A a.s.p.pk.hd.length a.s.c, .int .i64 a.s.p.pk.tag, .slice a.s.B a.s.p.pk.bd.length a.s.d, .int .i64 a.k] 68)).alloc (.cells #[.int .i64 b.s.p.kind, .int .i64 b.s.p.next, .int .i64 b.s.p.pk.el, .slice b.s.A b.s.p.pk.hd.length b.s.c, .int .i64 b.s.p.pk.tag, .slice b.s.B b.s.p.pk.bd.length b.s.d, .int .i64 b.k] 68)).heap.size := by rw [hs]; omega
  have hz0 : w.heap.size < ((w.alloc (.cells #[.int .i64 a.s.p.kind, .int .i64 a.s.p.next, .int .i64 a.s.p.pk.el, .slice a.s.A a.s.p.pk.hd.length a.s.c, .int .i64 a.s.p.pk.tag, .slice a.s.B a.s.p.pk.bd.length a.s.d, .int .i64 a.k] 68)).alloc (.cells #[.int .i64 b.s.p.kind, .int .i64 b.s.p.next, .int .i64 b.s.p.pk.el, .slice b.s.A b.s.p.pk.hd.length b.s.c, .int .i64 b.s.p.pk.tag, .slice b.s.B b.s.p.pk.bd.length b.s.d, .int .i64 b.k] 68)).heap.size := by rw [hs]; omega
  clear z0 z1 hs hb
  go_enter Try.func135, Try.ntmps135
  go_upto_region 1 with (fail)
  generalize ((w.alloc (.cells #[.int .i64 a.s.p.kind, .int .i64 a.s.p.next, .int .i64 a.s.p.pk.el, .slice a.s.A a.s.p.pk.hd.length a.s.c, .int .i64 a.s.p.pk.tag, .slice a.s.B a.s.p.pk.bd.length a.s.d, .int .i64 a.k] 68)).alloc (.cells #[.int .i64 b.s.p.kind, .int .i64 b.s.p.next, .int .i64 b.s.p.pk.el, .slice b.s.A b.s.p.pk.hd.length b.s.c, .int .i64 b.s.p.pk.tag, .slice b.s.B b.s.p.pk.bd.length b.s.d, .int .i64 b.k] 68)) = w1 at *
  go_cut [5, 6] from 7 (fun s5 s6 w2 => ∃ ba bb, s5 = .pointer (some ⟨ba, 0, none⟩) ∧ s6 = .pointer (some ⟨bb, 0, none⟩) ∧ Hid (Blk w2 ba #[.int .i64 a.s.p.kind, .int .i64 a.s.p.next, .int .i64 a.s.p.pk.el, .slice a.s.A a.s.p.pk.hd.length a.s.c, .int .i64 a.s.p.pk.tag, .slice a.s.B a.s.p.pk.bd.length a.s.d] 39 ∧ Blk w2 bb #[.int .i64 b.s.p.kind, .int .i64 b.s.p.next, .int .i64 b.s.p.pk.el, .slice b.s.A b.s.p.pk.hd.length b.s.c, .int .i64 b.s.p.pk.tag, .slice b.s.B b.s.p.pk.bd.length b.s.d] 39 ∧ Blk w2 w.heap.size #[.int .i64 a.s.p.kind, .int .i64 a.s.p.next, .int .i64 a.s.p.pk.el, .slice a.s.A a.s.p.pk.hd.length a.s.c, .int .i64 a.s.p.pk.tag, .slice a.s.B a.s.p.pk.bd.length a.s.d, .int .i64 a.k] 68 ∧ Blk w2 (w.heap.size + 1) #[.int .i64 b.s.p.kind, .int .i64 b.s.p.next, .int .i64 b.s.p.pk.el, .slice b.s.A b.s.p.pk.hd.length b.s.c, .int .i64 b.s.p.pk.tag, .slice b.s.B b.s.p.pk.bd.length b.s.d, .int .i64 b.k] 68 ∧ Below w.heap.size w w2))
  case first =>
    obtain ⟨a0, a1, a2, a3, a4, a5, a6, af⟩ := seven_cells Z0.out
    obtain ⟨b0, b1, b2, b3, b4, b5, b6, bf⟩ := seven_cells Z1.out
    go_region
    all_goals
      go_wp2_with fail
      go_meet
      case rel =>
        first
          | (obtain ⟨y0, y1, ys, yb⟩ := Sp6.two_blocks w1 #[.int .i64 a.s.p.kind, .int .i64 a.s.p.next, .int .i64 a.s.p.pk.el, .slice a.s.A a.s.p.pk.hd.length a.s.c, .int .i64 a.s.p.pk.tag, .slice a.s.B a.s.p.pk.bd.length a.s.d] #[.int .i64 b.s.p.kind, .int .i64 b.s.p.next, .int .i64 b.s.p.pk.el, .slice b.s.A b.s.p.pk.hd.length b.s.c, .int .i64 b.s.p.pk.tag, .slice b.s.B b.s.p.pk.bd.length b.s.d] 39 39; exact ⟨_, _, rfl, rfl, y0, y1, blk_two Z0.out _ _, blk_two Z1.out _ _, below_drew2 (HB.out.trans (yb.mono HB.out.size))⟩)
          | (obtain ⟨y0, y1, ys, yb⟩ := Sp6.two_blocks w1 #[.int .i64 b.s.p.kind, .int .i64 b.s.p.next, .int .i64 b.s.p.pk.el, .slice b.s.A b.s.p.pk.hd.length b.s.c, .int .i64 b.s.p.pk.tag, .slice b.s.B b.s.p.pk.bd.length b.s.d] #[.int .i64 a.s.p.kind, .int .i64 a.s.p.next, .int .i64 a.s.p.pk.el, .slice a.s.A a.s.p.pk.hd.length a.s.c, .int .i64 a.s.p.pk.tag, .slice a.s.B a.s.p.pk.bd.length a.s.d] 39 39; exact ⟨_, _, rfl, rfl, y1, y0, blk_two Z0.out _ _, blk_two Z1.out _ _, below_drew2 (HB.out.trans (yb.mono HB.out.size))⟩)
  case rest =>
    obtain ⟨ba, bb, rfl, rfl, hR⟩ := hcut
    obtain ⟨a0, a1, a2, a3, a4, a5, af⟩ := six_cells hR.out.1
    obtain ⟨b0, b1, b2, b3, b4, b5, bf⟩ := six_cells hR.out.2.1
    obtain ⟨_, _, _, _, _, _, a6, _⟩ := seven_cells hR.out.2.2.1
    obtain ⟨_, _, _, _, _, _, b6, _⟩ := seven_cells hR.out.2.2.2.1
    have HB2 := Lib.hid hR.out.2.2.2.2
    clear hR Z0 Z1 HB
    go_wp2_with fail
    go_still_tail 29, (by kernel_rfl)
    still_call (compare_s _ _ _)
    repeat still_step
    still_call (compare_s _ _ _)
    repeat still_step
    still_call (compare_s _ _ _)
    repeat still_step
    still_call (compare_s _ _ _)
    repeat still_step
    still_call (compare_s _ _ _)
    repeat still_step
    refine wpStill_nil ?_
    change wpList _ _ _ _ _ wc.drew
    replace HB2 := Lib.hid (below_drew2 HB2.out)
    clear a0 a1 a2 a3 a4 a5 a6 af b0 b1 b2 b3 b4 b5 b6 bf
    generalize wc.drew = w4 at *
    have HI := Lib.hid (ints_lit5 w4 (cmpI a.s.p.kind b.s.p.kind) (cmpI a.s.p.next b.s.p.next) (cmpI a.s.p.pk.el b.s.p.pk.el) (cmpI a.s.p.pk.tag b.s.p.pk.tag) (cmpI a.k b.k))
    have hq : ltb a b = decide (orL [cmpI a.s.p.kind b.s.p.kind, cmpI a.s.p.next b.s.p.next, cmpI a.s.p.pk.el b.s.p.pk.el, cmpI a.s.p.pk.tag b.s.p.pk.tag, cmpI a.k b.k] < 0) := rfl
    have HQ := Lib.hid hq
    clear hq
    generalize cmpI a.s.p.kind b.s.p.kind = x1 at *
    generalize cmpI a.s.p.next b.s.p.next = x2 at *
    generalize cmpI a.s.p.pk.el b.s.p.pk.el = x3 at *
    generalize cmpI a.s.p.pk.tag b.s.p.pk.tag = x4 at *
    generalize cmpI a.k b.k = x5 at *
    go_wp2_with fail
    ((with_reducible refine (cmpOr _ _ _ _ _ [x1, x2, x3, x4, x5] _ HI.out).mono ?_); rintro e w3 ⟨rfl, rfl⟩)
    go_wp2
    go_ret
    rw [HQ.out]
    exact ⟨rfl, HB2.out.alloc HB2.out.size _⟩

end Im6
end Go.Proofs.Ytnjcpbkpcmemeac

/-
  The program's heap of waiting packets in memory: its methods.
-/
namespace Go.Proofs.Ytnjcpbkpcmemeac
open Go.RowKit
namespace Im6
open Il Gm Mm Tm Lm Pm Pq Hlp5 Sl Mm6 Hp6

def wcells (x : Wt) : List Value := [.int .i64 x.s.p.kind, .int .i64 x.s.p.next, .int .i64 x.s.p.pk.el, .slice x.s.A x.s.p.pk.hd.length x.s.c, .int .i64 x.s.p.pk.tag, .slice x.s.B x.s.p.pk.bd.length x.s.d, .int .i64 x.k]
theorem wcells_len (x : Wt) : (wcells x).length = 7 := rfl
theorem wcells_one (x : Wt) : ∀ u ∈ wcells x, u.oneCell' = true := by
  intro u hu
  simp only [wcells, List.mem_cons, List.not_mem_nil, or_false] at hu
  rcases hu with rfl | rfl | rfl | rfl | rfl | rfl | rfl <;> rfl
theorem infoWt : (Try.prog.info? 68).map (fun i => (i.zero, i.size, i.bytes)) = some (some (.agg #[.int .i64 0, .int .i64 0, .int .i64 0, .slice none 0 0, .int .i64 0, .slice none 0 0, .int .i64 0]), 7, 88) := by kernel_rfl
theorem elWt : ElT 93 68 (.agg #[.int .i64 0, .int .i64 0, .int .i64 0, .slice none 0 0, .int .i64 0, .slice none 0 0, .int .i64 0]) 7 88 := ⟨Try.underlying93, infoWt, rfl, by omega, by omega⟩
theorem wt_cells {g n k : Nat} {w : World} {v : Value} {ws : List Wt} {x : Wt} (h : AccV 68 7 g w v n (ws.flatMap wcells)) (hx : ws[k]? = some x) :
    (w.cell? ⟨g, k * 7, none⟩ = some (.int .i64 x.s.p.kind) ∧ w.cell? ⟨g, k * 7 + 1, none⟩ = some (.int .i64 x.s.p.next) ∧ w.cell? ⟨g, k * 7 + 2, none⟩ = some (.int .i64 x.s.p.pk.el) ∧ w.cell? ⟨g, k * 7 + 3, none⟩ = some (.slice x.s.A x.s.p.pk.hd.length x.s.c) ∧ w.cell? ⟨g, k * 7 + 4, none⟩ = some (.int .i64 x.s.p.pk.tag) ∧ w.cell? ⟨g, k * 7 + 5, none⟩ = some (.slice x.s.B x.s.p.pk.bd.length x.s.d) ∧ w.cell? ⟨g, k * 7 + 6, none⟩ = some (.int .i64 x.k)) ∧ w.frozen? ⟨g, k * 7, none⟩ = false ∧ w.frozen? ⟨g, k * 7 + 1, none⟩ = false ∧ w.frozen? ⟨g, k * 7 + 2, none⟩ = false ∧ w.frozen? ⟨g, k * 7 + 3, none⟩ = false ∧ w.frozen? ⟨g, k * 7 + 4, none⟩ = false ∧ w.frozen? ⟨g, k * 7 + 5, none⟩ = false ∧ w.frozen? ⟨g, k * 7 + 6, none⟩ = false := by
  have hkl := (List.getElem?_eq_some_iff.1 hx).1
  obtain ⟨cap, rfl, hr, hf⟩ := h.row
  have hl := hr.1
  rw [flat_len wcells_len] at hl
  have hn : 0 < n := by omega
  obtain ⟨b, off, e, _, _, _, hc⟩ := hr.2.2.2 hn
  simp only [Option.some.injEq, Addr.mk.injEq, and_true] at e
  obtain ⟨rfl, rfl⟩ := e
  have hcell : ∀ i u, i < 7 → (wcells x)[i]? = some u → w.cell? ⟨g, k * 7 + i, none⟩ = some u := fun i u hi hu => by
    have := hc (k * 7 + i) u (by rw [flat_at wcells_len hx hi]; exact hu)
    rwa [Nat.zero_add] at this
  have hfz : ∀ i, i < 7 → w.frozen? ⟨g, k * 7 + i, none⟩ = false := fun i hi => by
    have := hf g 0 hn rfl (k * 7 + i) (by omega)
    rwa [Nat.zero_add] at this
  exact ⟨⟨hcell 0 _ (by omega) rfl, hcell 1 _ (by omega) rfl, hcell 2 _ (by omega) rfl, hcell 3 _ (by omega) rfl, hcell 4 _ (by omega) rfl, hcell 5 _ (by omega) rfl, hcell 6 _ (by omega) rfl⟩, hfz 0 (by omega), hfz 1 (by omega), hfz 2 (by omega), hfz 3 (by omega), hfz 4 (by omega), hfz 5 (by omega), hfz 6 (by omega)⟩
theorem flat_set7 {ws : List Wt} {k : Nat} (y : Wt) (hk : k < ws.length) :
    ((((((((ws.flatMap wcells).set (k * 7) (.int .i64 y.s.p.kind)).set (k * 7 + 1) (.int .i64 y.s.p.next)).set (k * 7 + 2) (.int .i64 y.s.p.pk.el)).set (k * 7 + 3) (.slice y.s.A y.s.p.pk.hd.length y.s.c)).set (k * 7 + 4) (.int .i64 y.s.p.pk.tag)).set (k * 7 + 5) (.slice y.s.B y.s.p.pk.bd.length y.s.d)).set (k * 7 + 6) (.int .i64 y.k)) = (ws.set k y).flatMap wcells := by
  induction ws generalizing k with
  | nil => simp at hk
  | cons x ws ih =>
    cases k with
    | zero => rw [List.set_cons_zero, List.flatMap_cons, List.flatMap_cons]; rfl
    | succ k =>
      have h7 : (wcells x).length = 7 := rfl
      rw [List.set_cons_succ, List.flatMap_cons, List.flatMap_cons, ← ih (by simpa using hk)]
      rw [List.set_append_right _ _ (by rw [h7]; omega), List.set_append_right _ _ (by rw [h7]; omega), List.set_append_right _ _ (by rw [h7]; omega), List.set_append_right _ _ (by rw [h7]; omega), List.set_append_right _ _ (by rw [h7]; omega), List.set_append_right _ _ (by rw [h7]; omega), List.set_append_right _ _ (by rw [h7]; omega), h7]
      have q0 : (k + 1) * 7 - 7 = k * 7 := by omega
      have q1 : (k + 1) * 7 + 1 - 7 = k * 7 + 1 := by omega
      have q2 : (k + 1) * 7 + 2 - 7 = k * 7 + 2 := by omega
      have q3 : (k + 1) * 7 + 3 - 7 = k * 7 + 3 := by omega
      have q4 : (k + 1) * 7 + 4 - 7 = k * 7 + 4 := by omega
      have q5 : (k + 1) * 7 + 5 - 7 = k * 7 + 5 := by omega
      have q6 : (k + 1) * 7 + 6 - 7 = k * 7 + 6 := by omega
      rw [q0, q1, q2, q3, q4, q5, q6]
/-- A place of the heap is written whole. -/
theorem put7 {g n k : Nat} {w : World} {v : Value} {ws : List Wt} (h : AccV 68 7 g w v n (ws.flatMap wcells)) (y : Wt) (hk : k < ws.length) :
    AccV 68 7 g (((((((w.setCell ⟨g, k * 7, none⟩ (.int .i64 y.s.p.kind)).setCell ⟨g, k * 7 + 1, none⟩ (.int .i64 y.s.p.next)).setCell ⟨g, k * 7 + 2, none⟩ (.int .i64 y.s.p.pk.el)).setCell ⟨g, k * 7 + 3, none⟩ (.slice y.s.A y.s.p.pk.hd.length y.s.c)).setCell ⟨g, k * 7 + 4, none⟩ (.int .i64 y.s.p.pk.tag)).setCell ⟨g, k * 7 + 5, none⟩ (.slice y.s.B y.s.p.pk.bd.length y.s.d)).setCell ⟨g, k * 7 + 6, none⟩ (.int .i64 y.k)) v n ((ws.set k y).flatMap wcells) := by
  rw [← flat_set7 y hk]
  exact (((((((h.set (k * 7) _).set (k * 7 + 1) _).set (k * 7 + 2) _).set (k * 7 + 3) _).set (k * 7 + 4) _).set (k * 7 + 5) _).set (k * 7 + 6) _)
theorem dest_form {e : TypeId} {sz : Nat} {g : Option Nat} {w : World} {v : Value} {n : Nat} {vs : List Value} (h : Dest e sz g w v n vs) : ∃ A c, v = .slice A n c ∧ n ≤ c ∧ c ≤ maxLen ∧ (0 < n → ∃ k, g = some k ∧ A = some ⟨k, 0, none⟩ ∧ AccV e sz k w v n vs) := by
  rcases h with ⟨rfl, rfl, rfl, A, rfl⟩ | ⟨k, rfl, hA⟩
  · exact ⟨A, 0, rfl, Nat.le_refl _, Nat.zero_le _, fun h => absurd h (by omega)⟩
  · obtain ⟨cap, rfl, hr, _⟩ := hA.row
    exact ⟨_, cap, rfl, hr.2.1, hr.2.2.1, fun _ => ⟨k, rfl, rfl, hA⟩⟩
/-- The heap in memory: its pointer's block, the block of its row. -/
def HpM (hb : Nat) (g : Option Nat) (w : World) (v : Value) (ws : List Wt) : Prop := Blk w hb #[v] 93 ∧ Dest 68 7 g w v ws.length (ws.flatMap wcells) ∧ g ≠ some hb
/-- Of the blocks that were there, only the heap's two may have turned. -/
structure KeptH (hb : Nat) (g : Option Nat) (w w' : World) : Prop where
  os : w'.os = w.os
  tape : w'.tape = w.tape
  output : w'.output = w.output
  size : w.heap.size ≤ w'.heap.size
  block : ∀ z, z < w.heap.size → z ≠ hb → g ≠ some z → w'.heap[z]? = w.heap[z]?
theorem KeptH.refl (hb : Nat) (g : Option Nat) (w : World) : KeptH hb g w w := ⟨rfl, rfl, rfl, Nat.le_refl _, fun _ _ _ _ => rfl⟩
theorem KeptH.below {hb : Nat} {g : Option Nat} {w w' : World} (h : Below w.heap.size w w') : KeptH hb g w w' := ⟨h.os, h.tape, h.output, h.size, fun z hz _ _ => h.block z hz⟩
theorem KeptH.trans {hb : Nat} {g g' : Option Nat} {w w' w2 : World} (h : KeptH hb g w w') (h2 : KeptH hb g' w' w2) (hg : g' = g ∨ ∃ k, g' = some k ∧ w.heap.size ≤ k) : KeptH hb g w w2 :=
  ⟨h2.os.trans h.os, h2.tape.trans h.tape, h2.output.trans h.output, Nat.le_trans h.size h2.size, fun z hz h1 h3 => (h2.block z (Nat.lt_of_lt_of_le hz h.size) h1 (by
    rcases hg with rfl | ⟨k, rfl, hk⟩
    · exact h3
    · intro e; simp only [Option.some.injEq] at e; omega)).trans (h.block z hz h1 h3)⟩
theorem HpM.keep {hb : Nat} {g : Option Nat} {w w' : World} {v : Value} {ws : List Wt} (h : HpM hb g w v ws) (h1 : w'.heap[hb]? = w.heap[hb]?) (h2 : ∀ k, g = some k → w'.heap[k]? = w.heap[k]?) : HpM hb g w' v ws :=
  ⟨h1.trans h.1, dest_keep h.2.1 h2, h.2.2⟩
theorem HpM.lt {hb : Nat} {g : Option Nat} {w : World} {v : Value} {ws : List Wt} (h : HpM hb g w v ws) : hb < w.heap.size := (Array.getElem?_eq_some_iff.1 h.1).1
theorem HpM.below {hb : Nat} {g : Option Nat} {w w' : World} {v : Value} {ws : List Wt} (h : HpM hb g w v ws) (hB : Below w.heap.size w w') : HpM hb g w' v ws :=
  h.keep (hB.block hb h.lt) fun k e => hB.block k (dest_lt h.2.1 k e)
/-- What the interface's methods are. -/
theorem one_cell {w : World} {b : Nat} {v : Value} {t : TypeId} (h : Blk w b #[v] t) : w.cell? ⟨b, 0, none⟩ = some v ∧ ∀ j, w.frozen? ⟨b, j, none⟩ = false := by
  refine ⟨?_, fun j => by unfold Blk at h; simp [World.frozen?, h]⟩
  rw [cell_of_row _ _ _ _ _ _ h]; rfl

set_option maxRecDepth 20000 in
set_option maxHeartbeats 1000000 in
theorem heapLess (k n cap i j : Nat) (ws : List Wt) (x y : Wt) (w : World) (h : AccV 68 7 k w (.slice (some ⟨k, 0, none⟩) n cap) n (ws.flatMap wcells)) (hn : ws.length = n) (_hm : n ≤ 100000) (hx : ws[i]? = some x) (hy : ws[j]? = some y) :
    Calls Try.prog 131 #[.slice (some ⟨k, 0, none⟩) n cap, .int .i64 i, .int .i64 j] w (BoolB (ltb x y) w) := by
  obtain ⟨⟨c0, c1, c2, c3, c4, c5, c6⟩, f0, f1, f2, f3, f4, f5, f6⟩ := wt_cells h hx
  obtain ⟨⟨d0, d1, d2, d3, d4, d5, d6⟩, g0, g1, g2, g3, g4, g5, g6⟩ := wt_cells h hy
  have hi := (List.getElem?_eq_some_iff.1 hx).1
  have hj := (List.getElem?_eq_some_iff.1 hy).1
  rw [hn] at hi hj
  clear f0 f1 f2 f3 f4 f5 f6 g0 g1 g2 g3 g4 g5 g6 h hx hy hn
  go_enter Try.func131, Try.ntmps131
  go_wp2_with fail
  go_still_tail 8, (by kernel_rfl)
  change wpList _ _ _ _ _ w.drew
  have HB : Hid (Below w.heap.size w w.drew) := below_drew2 (Below.refl _ _)
  have hs : w.drew.heap.size = w.heap.size := rfl
  have HS := Lib.hid hs
  clear c0 c1 c2 c3 c4 c5 c6 d0 d1 d2 d3 d4 d5 d6 hs
  generalize w.drew = w1 at *
  go_wp2_with fail
  ((with_reducible refine (before x y _).mono ?_); rintro e w2 ⟨rfl, hb⟩)
  have H2 := Lib.hid (HB.out.trans (hb.mono (by rw [HS.out]; exact Nat.le_refl _)))
  clear hb
  go_wp2
  go_ret
  exact ⟨rfl, H2.out⟩
/-- Only block k may have turned. -/
structure SameB (k : Nat) (w w' : World) : Prop where
  os : w'.os = w.os
  tape : w'.tape = w.tape
  output : w'.output = w.output
  size : w'.heap.size = w.heap.size
  block : ∀ z, z ≠ k → w'.heap[z]? = w.heap[z]?
theorem SameB.refl (k : Nat) (w : World) : SameB k w w := ⟨rfl, rfl, rfl, rfl, fun _ _ => rfl⟩
theorem SameB.set {k : Nat} {w w' : World} (h : SameB k w w') (o : Nat) (v : Value) : SameB k w (w'.setCell ⟨k, o, none⟩ v) :=
  ⟨h.os, h.tape, h.output, by rw [← h.size]; simp [World.setCell], fun z hz => (Below.heap_setCell _ _ _ _ hz).trans (h.block z hz)⟩
theorem SameB.drew {k : Nat} {w w' : World} (h : SameB k w w') : SameB k w w'.drew := ⟨h.os, h.tape, h.output, h.size, h.block⟩
theorem accV_drew {e : TypeId} {sz g : Nat} {w : World} {v : Value} {n : Nat} {vs : List Value} (h : AccV e sz g w v n vs) : AccV e sz g w.drew v n vs := h.block rfl
theorem results_none {fn : Func} (h : fn.results = #[]) (tmps : Array Value) (P : Program) (w : World) : (results fn tmps).run P w = .ok (.tuple #[]) w := by
  simp [results, h]
set_option maxRecDepth 20000 in
set_option maxHeartbeats 2000000 in
theorem heapSwap (k n cap i j : Nat) (ws : List Wt) (x y : Wt) (w : World) (h : AccV 68 7 k w (.slice (some ⟨k, 0, none⟩) n cap) n (ws.flatMap wcells)) (hn : ws.length = n) (_hm : n ≤ 100000) (hx : ws[i]? = some x) (hy : ws[j]? = some y) :
    Calls Try.prog 134 #[.slice (some ⟨k, 0, none⟩) n cap, .int .i64 i, .int .i64 j] w
      fun e w' => e = .returned (.tuple #[]) ∧ AccV 68 7 k w' (.slice (some ⟨k, 0, none⟩) n cap) n (((ws.set i y).set j x).flatMap wcells) ∧ SameB k w w' := by
  obtain ⟨⟨c0, c1, c2, c3, c4, c5, c6⟩, f0, f1, f2, f3, f4, f5, f6⟩ := wt_cells h hx
  obtain ⟨⟨d0, d1, d2, d3, d4, d5, d6⟩, g0, g1, g2, g3, g4, g5, g6⟩ := wt_cells h hy
  have hi := (List.getElem?_eq_some_iff.1 hx).1
  have hj := (List.getElem?_eq_some_iff.1 hy).1
  have h1 := put7 (put7 h y hi) x (by simpa using hj)
  rw [hn] at hi hj
  by_cases hij : i = j
  · subst hij
    obtain rfl : x = y := by rw [hx] at hy; simpa using hy
    have H1 := Lib.hid h1
    clear h hx hy hn h1
    go_enter Try.func134, Try.ntmps134
    go_wp2_with fail
    go_region
    all_goals
      refine bodyPost_end (results_none rfl _ _ _) rfl ?_
      refine ⟨rfl, accV_drew H1.out, SameB.drew ?_⟩
      iterate 14 (refine SameB.set ?_ _ _)
      exact SameB.refl _ _
  · have H1 := Lib.hid h1
    clear h hx hy hn h1
    have o1 : ∀ r s, r < 7 → s < 7 → ¬ (i * 7 + r = j * 7 + s) := fun r s _ _ => by omega
    go_enter Try.func134, Try.ntmps134
    go_wp2_with fail
    go_region
    all_goals
      refine bodyPost_end (results_none rfl _ _ _) rfl ?_
      refine ⟨rfl, accV_drew H1.out, SameB.drew ?_⟩
      iterate 14 (refine SameB.set ?_ _ _)
      exact SameB.refl _ _

end Im6
end Go.Proofs.Ytnjcpbkpcmemeac

/-
  Contracts of container/heap over the program's heap of waiting packets: moving up and down.
-/
namespace Go.Proofs.Ytnjcpbkpcmemeac
open Go.RowKit
namespace Im6
open Il Gm Mm Tm Lm Pm Pq Hlp5 Sl Mm6 Hp6

theorem heapLen (A : Option Addr) (n c : Nat) (w : World) : Calls Try.prog 38 #[.slice A n c] w fun e w' => e = .returned (.int .i64 n) ∧ w = w' := by
  go_enter Try.func38, Try.ntmps38
  go_wp2
  go_ret
  exact ⟨rfl, rfl⟩
theorem get_at {α : Type} [Inhabited α] {l : List α} {i : Nat} (h : i < l.length) : l[i]? = some (at_ l i) := by rw [at_is h]; exact List.getElem?_eq_getElem h
theorem KeptH.same {hb k : Nat} {w w' : World} (h : SameB k w w') : KeptH hb (some k) w w' := ⟨h.os, h.tape, h.output, Nat.le_of_eq h.size.symm, fun z _ _ h3 => h.block z (fun e => h3 (by rw [e]))⟩
/-- A method of a value that is called through a pointer in an interface. -/
theorem meth_ptr {P : Program} {T E : TypeId} {nm : String} {g : FuncId} (f : Nat) (b : Nat) (v : Value) (w : World)
    (hm : (P.info? T).map (fun i => (i.methods.find? (·.name == nm)).map fun m => (m.path.isEmpty, m.func)) = some (some (true, some (g, false)))) (hu : P.underlying T = some (.pointer E))
    (h : (loadVar E ⟨b, 0, none⟩).run P w = .ok v w) : (method (f + 1) T (.pointer (some ⟨b, 0, none⟩)) nm).run P w = .ok (g, v) w := by
  unfold method
  simp only [Sem.run_bind]
  have ht : ∃ i, (typeInfo T).run P w = .ok i w ∧ (i.methods.find? (·.name == nm)).map (fun m => (m.path.isEmpty, m.func)) = some (true, some (g, false)) := by
    cases hi : P.info? T with
    | none => rw [hi] at hm; simp at hm
    | some i =>
      rw [hi] at hm
      refine ⟨i, ?_, by simpa using hm⟩
      unfold typeInfo
      go_simp
  obtain ⟨i, hi, hm⟩ := ht
  rw [hi]
  simp only [Result.andThen]
  cases hf : i.methods.find? (·.name == nm) with
  | none => rw [hf] at hm; simp at hm
  | some m =>
    rw [hf] at hm
    simp only [Option.map_some, Option.some.injEq, Prod.mk.injEq] at hm
    obtain ⟨h1, h2⟩ := hm
    have h3 : m.path = #[] := by simpa using h1
    have hU : (underlying T).run P w = .ok (.pointer E) w := by
      unfold underlying
      go_simp
    have hr : ∀ wr : Option String, (receiverAt T (.val (.pointer (some ⟨b, 0, none⟩))) false wr).run P w = .ok v w := fun wr => by
      unfold receiverAt
      rw [Sem.run_bind, hU]
      cases wr with
      | none => exact h
      | some s => exact h
    simp only [h2, h3, follow, Sem.run_bind]
    show ((receiverAt T (.val (.pointer (some ⟨b, 0, none⟩))) false _).run P w).andThen (fun v w' => .ok (g, v) w') = _
    rw [hr]
    rfl
theorem load_heap (b : Nat) (v : Value) (w : World) (h : w.cell? ⟨b, 0, none⟩ = some v) : (loadVar 93 ⟨b, 0, none⟩).run Try.prog w = .ok v w := by go_simp
theorem meth_less (b : Nat) (v : Value) (w : World) (h : w.cell? ⟨b, 0, none⟩ = some v) (f : Nat) : (method (f + 1) 64 (.pointer (some ⟨b, 0, none⟩)) "Less").run Try.prog w = .ok (131, v) w :=
  meth_ptr f b v w (by kernel_rfl) (by kernel_rfl) (load_heap b v w h)
theorem meth_swap (b : Nat) (v : Value) (w : World) (h : w.cell? ⟨b, 0, none⟩ = some v) (f : Nat) : (method (f + 1) 64 (.pointer (some ⟨b, 0, none⟩)) "Swap").run Try.prog w = .ok (134, v) w :=
  meth_ptr f b v w (by kernel_rfl) (by kernel_rfl) (load_heap b v w h)
theorem meth_len (b : Nat) (v : Value) (w : World) (h : w.cell? ⟨b, 0, none⟩ = some v) (f : Nat) : (method (f + 1) 64 (.pointer (some ⟨b, 0, none⟩)) "Len").run Try.prog w = .ok (38, v) w :=
  meth_ptr f b v w (by kernel_rfl) (by kernel_rfl) (load_heap b v w h)
theorem meth_push (b : Nat) (w : World) (f : Nat) : (method (f + 1) 64 (.pointer (some ⟨b, 0, none⟩)) "Push").run Try.prog w = .ok (133, .pointer (some ⟨b, 0, none⟩)) w := by kernel_rfl
theorem meth_pop (b : Nat) (w : World) (f : Nat) : (method (f + 1) 64 (.pointer (some ⟨b, 0, none⟩)) "Pop").run Try.prog w = .ok (132, .pointer (some ⟨b, 0, none⟩)) w := by kernel_rfl
set_option maxRecDepth 20000 in
set_option maxHeartbeats 1000000 in
theorem heapUp (hb k n cap j : Nat) (ws : List Wt) (w : World) (hz : Blk w hb #[.slice (some ⟨k, 0, none⟩) n cap] 93) (h : AccV 68 7 k w (.slice (some ⟨k, 0, none⟩) n cap) n (ws.flatMap wcells)) (hn : ws.length = n) (hm : n ≤ 100000) (hj : j < n) (hne : hb ≠ k) (hI : UpInv leW ws n j) :
    Calls Try.prog 95 #[.iface 64 (.pointer (some ⟨hb, 0, none⟩)), .int .i64 j] w
      fun e w' => e = .returned (.tuple #[]) ∧ ∃ ws', ws'.Perm ws ∧ IsHeap leW ws' n ∧ Blk w' hb #[.slice (some ⟨k, 0, none⟩) n cap] 93 ∧ AccV 68 7 k w' (.slice (some ⟨k, 0, none⟩) n cap) n (ws'.flatMap wcells) ∧ KeptH hb (some k) w w' := by
  have HR0 : Hid (ws.Perm ws ∧ UpInv leW ws n j ∧ Blk w hb #[.slice (some ⟨k, 0, none⟩) n cap] 93 ∧ AccV 68 7 k w (.slice (some ⟨k, 0, none⟩) n cap) n (ws.flatMap wcells) ∧ KeptH hb (some k) w w) := ⟨List.Perm.refl _, hI, hz, h, KeptH.refl _ _ _⟩
  clear hI hz h
  go_enter Try.func95, Try.ntmps95
  go_wp2
  go_loopw [1] (fun i wr => ∃ (j : Nat) (vs : List Wt), j < n ∧ i = .int .i64 j ∧ Hid (vs.Perm ws ∧ UpInv leW vs n j ∧ Blk wr hb #[.slice (some ⟨k, 0, none⟩) n cap] 93 ∧ AccV 68 7 k wr (.slice (some ⟨k, 0, none⟩) n cap) n (vs.flatMap wcells) ∧ KeptH hb (some k) w wr)) (fun i _ => (intOf i).toNat)
  case atStart => exact ⟨j, ws, hj, rfl, HR0.out⟩
  case round =>
    clear hj HR0
    obtain ⟨j, vs, hj, rfl, hR⟩ := hrel
    by_cases hj0 : j = 0
    · subst hj0
      go_wp2
      refine bodyPost_end (results_none rfl _ _ _) rfl ?_
      exact ⟨rfl, vs, hR.out.1, up_zero hR.out.2.1, hR.out.2.2.1, hR.out.2.2.2.1, hR.out.2.2.2.2⟩
    · obtain ⟨q, hq, hqp⟩ : ∃ q : Nat, ((j : Int) - 1) / 2 = (q : Int) ∧ q = par j := ⟨par j, by unfold par; omega, rfl⟩
      have hqj : q < j := by rw [hqp]; unfold par; omega
      obtain ⟨hc, _⟩ := one_cell hR.out.2.2.1
      have HQP := Lib.hid hqp
      have hml := meth_less hb _ _ hc
      clear hqp
      go_wp2_with fail
      have hvl : vs.length = n := hR.out.1.length_eq.trans hn
      have gj := get_at (l := vs) (i := j) (by omega)
      have gq := get_at (l := vs) (i := q) (by omega)
      have hup := hR.out.2.1
      have GJ := Lib.hid gj
      have GQ := Lib.hid gq
      have HVL := Lib.hid hvl
      have HUP := Lib.hid hup
      clear gj gq hvl hup
      ((with_reducible refine (heapLess k n cap j q vs (at_ vs j) (at_ vs q) _ hR.out.2.2.2.1 HVL.out hm GJ.out GQ.out).mono ?_); rintro e w1 ⟨rfl, hb1⟩)
      have hR1 : Hid (vs.Perm ws ∧ UpInv leW vs n j ∧ Blk w1 hb #[.slice (some ⟨k, 0, none⟩) n cap] 93 ∧ AccV 68 7 k w1 (.slice (some ⟨k, 0, none⟩) n cap) n (vs.flatMap wcells) ∧ KeptH hb (some k) w w1) :=
        ⟨hR.out.1, hR.out.2.1, hR.out.2.2.1.below hb1 (Nat.le_refl _), hR.out.2.2.2.1.block (hb1.block _ hR.out.2.2.2.1.lt), hR.out.2.2.2.2.trans (KeptH.below hb1) (.inl rfl)⟩
      clear hR hb1 hc hml
      cases hl : ltb (at_ vs j) (at_ vs q)
      · have HL := Lib.hid hl
        clear hl
        go_wp2
        refine bodyPost_end (results_none rfl _ _ _) rfl ?_
        exact ⟨rfl, vs, hR1.out.1, up_end HUP.out (by rw [← HQP.out]; intro h; rw [(ltb_iff _ _).2 h] at HL; exact absurd HL.out (by decide)), hR1.out.2.2.1, hR1.out.2.2.2.1, hR1.out.2.2.2.2⟩
      · have HL := Lib.hid hl
        clear hl
        obtain ⟨hc, _⟩ := one_cell hR1.out.2.2.1
        have hml := meth_swap hb _ _ hc
        go_wp2_with fail
        ((with_reducible refine (heapSwap k n cap q j vs (at_ vs q) (at_ vs j) _ hR1.out.2.2.2.1 HVL.out hm GQ.out GJ.out).mono ?_); rintro e w2 ⟨rfl, ha2, hs2⟩)
        have hR2 : Hid ((swap vs q j).Perm ws ∧ UpInv leW (swap vs q j) n q ∧ Blk w2 hb #[.slice (some ⟨k, 0, none⟩) n cap] 93 ∧ AccV 68 7 k w2 (.slice (some ⟨k, 0, none⟩) n cap) n ((swap vs q j).flatMap wcells) ∧ KeptH hb (some k) w w2) := by
          refine ⟨(swap_perm (by rw [HVL.out]; omega) (by rw [HVL.out]; omega)).trans hR1.out.1, ?_, (hs2.block hb hne).trans hR1.out.2.2.1, ha2, hR1.out.2.2.2.2.trans (KeptH.same hs2) (.inl rfl)⟩
          have e := HQP.out
          have hst := up_step leW_tot leW_tr HUP.out HVL.out.symm hj (by omega) (by rw [← e]; intro h; exact h ((ltb_iff _ _).1 HL.out))
          rw [← e] at hst
          exact hst
        clear hR1 ha2 hs2 hc hml HUP HL GJ GQ HVL HQP
        go_wp2
        go_roundw
        case rel => exact ⟨q, swap vs q j, by omega, rfl, hR2.out⟩
        case measure => simp [intOf]; omega

end Im6
end Go.Proofs.Ytnjcpbkpcmemeac

/-
  Contracts of container/heap over the program's heap of waiting packets: moving down.
-/
namespace Go.Proofs.Ytnjcpbkpcmemeac
open Go.RowKit
namespace Im6
open Il Gm Mm Tm Lm Pm Pq Hlp5 Sl Mm6 Hp6

theorem swap_out {α : Type} [Inhabited α] {l l0 : List α} {i j m : Nat} (hi : i < l.length) (hj : j < l.length) (him : i < m) (hjm : j < m) (h : ∀ z, m ≤ z → at_ l z = at_ l0 z) : ∀ z, m ≤ z → at_ (swap l i j) z = at_ l0 z := fun z hz => by
  rw [at_swap hi hj, if_neg (by omega), if_neg (by omega)]; exact h z hz
/-- What the heap's memory is while an element moves down. -/
def DnRel (hb k n cap m : Nat) (ws : List Wt) (w wr : World) (i : Nat) (vs : List Wt) : Prop :=
  vs.Perm ws ∧ DownInv leW vs m i ∧ (∀ z, m ≤ z → at_ vs z = at_ ws z) ∧ Blk wr hb #[.slice (some ⟨k, 0, none⟩) n cap] 93 ∧ AccV 68 7 k wr (.slice (some ⟨k, 0, none⟩) n cap) n (vs.flatMap wcells) ∧ KeptH hb (some k) w wr
def DnPost (hb k n cap m : Nat) (ws : List Wt) (w : World) (e : Ending) (w' : World) : Prop :=
  ∃ (r : Bool) (vs : List Wt), e = .returned (.bool r) ∧ vs.Perm ws ∧ IsHeap leW vs m ∧ (∀ z, m ≤ z → at_ vs z = at_ ws z) ∧ Blk w' hb #[.slice (some ⟨k, 0, none⟩) n cap] 93 ∧ AccV 68 7 k w' (.slice (some ⟨k, 0, none⟩) n cap) n (vs.flatMap wcells) ∧ KeptH hb (some k) w w'
section
variable {hb k n cap m i : Nat} {ws vs : List Wt} {w wr w' : World}
theorem DnRel.perm (h : DnRel hb k n cap m ws w wr i vs) : vs.Perm ws := h.1
theorem DnRel.inv (h : DnRel hb k n cap m ws w wr i vs) : DownInv leW vs m i := h.2.1
theorem DnRel.beh (h : DnRel hb k n cap m ws w wr i vs) : ∀ z, m ≤ z → at_ vs z = at_ ws z := h.2.2.1
theorem DnRel.blk (h : DnRel hb k n cap m ws w wr i vs) : Blk wr hb #[.slice (some ⟨k, 0, none⟩) n cap] 93 := h.2.2.2.1
theorem DnRel.acc (h : DnRel hb k n cap m ws w wr i vs) : AccV 68 7 k wr (.slice (some ⟨k, 0, none⟩) n cap) n (vs.flatMap wcells) := h.2.2.2.2.1
theorem DnRel.kept (h : DnRel hb k n cap m ws w wr i vs) : KeptH hb (some k) w wr := h.2.2.2.2.2
theorem DnRel.below (h : DnRel hb k n cap m ws w wr i vs) (hb1 : Below wr.heap.size wr w') : DnRel hb k n cap m ws w w' i vs :=
  ⟨h.1, h.2.1, h.2.2.1, h.blk.below hb1 (Nat.le_refl _), h.acc.block (hb1.block _ h.acc.lt), h.kept.trans (KeptH.below hb1) (.inl rfl)⟩
theorem DnRel.len (h : DnRel hb k n cap m ws w wr i vs) (hn : ws.length = n) : vs.length = n := h.1.length_eq.trans hn
/-- .. when it has gone down to j. -/
theorem DnRel.step {j : Nat} (h : DnRel hb k n cap m ws w wr i vs) (hn : ws.length = n) (hm : m ≤ n) (hj : j < m) (h0 : 0 < j) (hp : par j = i) (hmin : ∀ z, 0 < z → z < m → par z = i → leW (at_ vs j) (at_ vs z)) (hl : ltb (at_ vs j) (at_ vs i) = true) (hne : hb ≠ k)
    (ha : AccV 68 7 k w' (.slice (some ⟨k, 0, none⟩) n cap) n ((swap vs i j).flatMap wcells)) (hs : SameB k wr w') : DnRel hb k n cap m ws w w' j (swap vs i j) := by
  have hv := h.len hn
  have hij : i < j := by rw [← hp]; unfold par; omega
  refine ⟨(swap_perm (by omega) (by omega)).trans h.perm, ?_, swap_out (by omega) (by omega) (by omega) hj h.beh, (hs.block hb hne).trans h.blk, ha, h.kept.trans (KeptH.same hs) (.inl rfl)⟩
  exact down_step leW_tot h.inv (by omega) hj h0 hp hmin (fun hle => hle ((ltb_iff _ _).1 hl))
end
set_option maxRecDepth 20000 in
set_option maxHeartbeats 2000000 in
theorem heapDown (hb k n cap m : Nat) (ws : List Wt) (w : World) (hz : Blk w hb #[.slice (some ⟨k, 0, none⟩) n cap] 93) (h : AccV 68 7 k w (.slice (some ⟨k, 0, none⟩) n cap) n (ws.flatMap wcells)) (hn : ws.length = n) (hx : n ≤ 100000) (hm : m ≤ n) (hne : hb ≠ k) (hI : DownInv leW ws m 0) :
    Calls Try.prog 71 #[.iface 64 (.pointer (some ⟨hb, 0, none⟩)), .int .i64 0, .int .i64 m] w
      (DnPost hb k n cap m ws w) := by
  have HR0 : Hid (DnRel hb k n cap m ws w w 0 ws) := ⟨List.Perm.refl _, hI, fun _ _ => rfl, hz, h, KeptH.refl _ _ _⟩
  clear hI hz h
  have HN := Lib.hid hn
  clear hn
  go_enter Try.func71, Try.ntmps71
  go_wp2
  go_loopw [7] (fun i wr => ∃ (j : Nat) (vs : List Wt), j ≤ m ∧ i = .int .i64 j ∧ Hid (DnRel hb k n cap m ws w wr j vs)) (fun i _ => m - (intOf i).toNat)
  case atStart => exact ⟨0, ws, Nat.zero_le _, rfl, HR0.out⟩
  case round =>
    clear HR0
    obtain ⟨i, vs, hi, rfl, hR⟩ := hrel
    by_cases h1 : m ≤ 2 * i + 1
    · go_wp2
      go_ret
      exact ⟨_, vs, rfl, hR.out.perm, down_none hR.out.inv h1, hR.out.beh, hR.out.blk, hR.out.acc, hR.out.kept⟩
    · have h1a : 2 * i + 1 < m := by omega
      clear h1
      have HVL := Lib.hid (hR.out.len HN.out)
      have GI := Lib.hid (get_at (l := vs) (i := i) (by rw [HVL.out]; omega))
      have G1 := Lib.hid (get_at (l := vs) (i := 2 * i + 1) (by rw [HVL.out]; omega))
      by_cases h2 : 2 * i + 2 < m
      · have G2 := Lib.hid (get_at (l := vs) (i := 2 * i + 2) (by rw [HVL.out]; omega))
        obtain ⟨j1, hj1⟩ : ∃ j1 : Nat, j1 = 2 * i + 1 := ⟨_, rfl⟩
        have q1 : 2 * (i : Int) + 1 = (j1 : Int) := by omega
        obtain ⟨j2, hj2⟩ : ∃ j2 : Nat, j2 = j1 + 1 := ⟨_, rfl⟩
        have q2 : (j1 : Int) + 1 = (j2 : Int) := by omega
        rw [← hj1] at G1
        rw [show 2 * i + 2 = j2 by omega] at G2
        have q3 : j2 < m := by omega
        obtain ⟨hc, _⟩ := one_cell hR.out.blk
        have hml := meth_less hb _ _ hc
        have HJ1 := Lib.hid hj1
        have HJ2 := Lib.hid hj2
        clear hj1 hj2 h2 h1a
        go_wp2_with fail
        ((with_reducible refine (heapLess k n cap j2 j1 vs (at_ vs j2) (at_ vs j1) _ hR.out.acc HVL.out hx G2.out G1.out).mono ?_); rintro e w2 ⟨rfl, hb2⟩)
        have hR2 := Lib.hid (hR.out.below hb2)
        clear hR hb2 hc hml
        cases hl2 : ltb (at_ vs j2) (at_ vs j1)
        · have HMIN : Hid (∀ z, 0 < z → z < m → par z = i → leW (at_ vs j1) (at_ vs z)) := fun z z0 zm zp => by
            have e1 := HJ1.out
            have e2 := HJ2.out
            rcases kids z0 zp with rfl | rfl
            · rw [← e1]; exact leW_rf _
            · rw [show 2 * i + 2 = j2 by omega]; exact fun hlt => by rw [(ltb_iff _ _).2 hlt] at hl2; cases hl2
          have HPJ : Hid (par j1 = i) := by have e1 := HJ1.out; show par j1 = i; unfold par; omega
          have hj0 : 0 < j1 := by have e1 := HJ1.out; omega
          have hij : i < j1 := by have e1 := HJ1.out; omega
          have hjm : j1 < m := by have e2 := HJ2.out; omega
          have GJ := Lib.hid G1.out
          clear hl2
          obtain ⟨hc, _⟩ := one_cell hR2.out.blk
          have hml := meth_less hb _ _ hc
          go_wp2_with fail
          ((with_reducible refine (heapLess k n cap j1 i vs (at_ vs j1) (at_ vs i) _ hR2.out.acc HVL.out hx GJ.out GI.out).mono ?_); rintro e w3 ⟨rfl, hb3⟩)
          have hR3 := Lib.hid (hR2.out.below hb3)
          clear hR2 hb3 hc hml
          cases hl : ltb (at_ vs j1) (at_ vs i)
          · have HL := Lib.hid hl
            clear hl
            go_wp2
            go_ret
            exact ⟨_, vs, rfl, hR3.out.perm, down_end leW_tr hR3.out.inv HMIN.out (fun hlt => by rw [(ltb_iff _ _).2 hlt] at HL; exact absurd HL.out (by decide)), hR3.out.beh, hR3.out.blk, hR3.out.acc, hR3.out.kept⟩
          · have HL := Lib.hid hl
            clear hl
            obtain ⟨hc, _⟩ := one_cell hR3.out.blk
            have hml := meth_swap hb _ _ hc
            go_wp2_with fail
            ((with_reducible refine (heapSwap k n cap i j1 vs (at_ vs i) (at_ vs j1) _ hR3.out.acc HVL.out hx GI.out GJ.out).mono ?_); rintro e w4 ⟨rfl, ha4, hs4⟩)
            have hR4 := Lib.hid (hR3.out.step HN.out hm hjm hj0 HPJ.out HMIN.out HL.out hne ha4 hs4)
            clear hR3 ha4 hs4 hc hml HL HMIN HPJ GJ GI HVL
            go_wp2
            go_roundw
            case rel => exact ⟨j1, _, by omega, rfl, hR4.out⟩
            case measure => simp [intOf]; omega
        · have HMIN : Hid (∀ z, 0 < z → z < m → par z = i → leW (at_ vs j2) (at_ vs z)) := fun z z0 zm zp => by
            have e1 := HJ1.out
            have e2 := HJ2.out
            rcases kids z0 zp with rfl | rfl
            · rw [← e1]; exact leW_tot _ _ (fun h => h ((ltb_iff _ _).1 hl2))
            · rw [show 2 * i + 2 = j2 by omega]; exact leW_rf _
          have HPJ : Hid (par j2 = i) := by have e1 := HJ1.out; have e2 := HJ2.out; show par j2 = i; unfold par; omega
          have hj0 : 0 < j2 := by have e1 := HJ1.out; have e2 := HJ2.out; omega
          have hij : i < j2 := by have e1 := HJ1.out; have e2 := HJ2.out; omega
          have hjm : j2 < m := by omega
          have GJ := Lib.hid G2.out
          clear hl2
          obtain ⟨hc, _⟩ := one_cell hR2.out.blk
          have hml := meth_less hb _ _ hc
          go_wp2_with fail
          ((with_reducible refine (heapLess k n cap j2 i vs (at_ vs j2) (at_ vs i) _ hR2.out.acc HVL.out hx GJ.out GI.out).mono ?_); rintro e w3 ⟨rfl, hb3⟩)
          have hR3 := Lib.hid (hR2.out.below hb3)
          clear hR2 hb3 hc hml
          cases hl : ltb (at_ vs j2) (at_ vs i)
          · have HL := Lib.hid hl
            clear hl
            go_wp2
            go_ret
            exact ⟨_, vs, rfl, hR3.out.perm, down_end leW_tr hR3.out.inv HMIN.out (fun hlt => by rw [(ltb_iff _ _).2 hlt] at HL; exact absurd HL.out (by decide)), hR3.out.beh, hR3.out.blk, hR3.out.acc, hR3.out.kept⟩
          · have HL := Lib.hid hl
            clear hl
            obtain ⟨hc, _⟩ := one_cell hR3.out.blk
            have hml := meth_swap hb _ _ hc
            go_wp2_with fail
            ((with_reducible refine (heapSwap k n cap i j2 vs (at_ vs i) (at_ vs j2) _ hR3.out.acc HVL.out hx GI.out GJ.out).mono ?_); rintro e w4 ⟨rfl, ha4, hs4⟩)
            have hR4 := Lib.hid (hR3.out.step HN.out hm hjm hj0 HPJ.out HMIN.out HL.out hne ha4 hs4)
            clear hR3 ha4 hs4 hc hml HL HMIN HPJ GJ GI HVL
            go_wp2
            go_roundw
            case rel => exact ⟨j2, _, by omega, rfl, hR4.out⟩
            case measure => simp [intOf]; omega
      · obtain ⟨j1, hj1⟩ : ∃ j1 : Nat, j1 = 2 * i + 1 := ⟨_, rfl⟩
        have q1 : 2 * (i : Int) + 1 = (j1 : Int) := by omega
        rw [← hj1] at G1
        have HMIN : Hid (∀ z, 0 < z → z < m → par z = i → leW (at_ vs j1) (at_ vs z)) := fun z z0 zm zp => by
          rcases kids z0 zp with rfl | rfl
          · rw [← hj1]; exact leW_rf _
          · omega
        have HPJ : Hid (par j1 = i) := by show par j1 = i; unfold par; omega
        have hj0 : 0 < j1 := by omega
        have hij : i < j1 := by omega
        have hjm : j1 < m := by omega
        have q3 : m ≤ j1 + 1 := by omega
        have GJ := Lib.hid G1.out
        clear hj1 h2 h1a
        obtain ⟨hc, _⟩ := one_cell hR.out.blk
        have hml := meth_less hb _ _ hc
        go_wp2_with fail
        ((with_reducible refine (heapLess k n cap j1 i vs (at_ vs j1) (at_ vs i) _ hR.out.acc HVL.out hx GJ.out GI.out).mono ?_); rintro e w3 ⟨rfl, hb3⟩)
        have hR3 := Lib.hid (hR.out.below hb3)
        clear hR hb3 hc hml
        cases hl : ltb (at_ vs j1) (at_ vs i)
        · have HL := Lib.hid hl
          clear hl
          go_wp2
          go_ret
          exact ⟨_, vs, rfl, hR3.out.perm, down_end leW_tr hR3.out.inv HMIN.out (fun hlt => by rw [(ltb_iff _ _).2 hlt] at HL; exact absurd HL.out (by decide)), hR3.out.beh, hR3.out.blk, hR3.out.acc, hR3.out.kept⟩
        · have HL := Lib.hid hl
          clear hl
          obtain ⟨hc, _⟩ := one_cell hR3.out.blk
          have hml := meth_swap hb _ _ hc
          go_wp2_with fail
          ((with_reducible refine (heapSwap k n cap i j1 vs (at_ vs i) (at_ vs j1) _ hR3.out.acc HVL.out hx GI.out GJ.out).mono ?_); rintro e w4 ⟨rfl, ha4, hs4⟩)
          have hR4 := Lib.hid (hR3.out.step HN.out hm hjm hj0 HPJ.out HMIN.out HL.out hne ha4 hs4)
          clear hR3 ha4 hs4 hc hml HL HMIN HPJ GJ GI HVL
          go_wp2
          go_roundw
          case rel => exact ⟨j1, _, by omega, rfl, hR4.out⟩
          case measure => simp [intOf]; omega

end Im6
end Go.Proofs.Ytnjcpbkpcmemeac

/-
  Contracts of container/heap over the program's heap of waiting packets: pushing and popping.
-/
namespace Go.Proofs.Ytnjcpbkpcmemeac
open Go.RowKit
namespace Im6
open Il Gm Mm Tm Lm Pm Pq Hlp5 Sl Mm6 Hp6

/-- A heap with room of its own: its pointer's block, the block of its row. -/
def HpS (hb k : Nat) (w : World) (ws : List Wt) : Prop := ∃ cap, Blk w hb #[.slice (some ⟨k, 0, none⟩) ws.length cap] 93 ∧ AccV 68 7 k w (.slice (some ⟨k, 0, none⟩) ws.length cap) ws.length (ws.flatMap wcells) ∧ hb ≠ k
theorem HpS.below {hb k : Nat} {w w' : World} {ws : List Wt} (h : HpS hb k w ws) (hB : Below w.heap.size w w') : HpS hb k w' ws := by
  obtain ⟨cap, h1, h2, h3⟩ := h
  exact ⟨cap, h1.below hB (Nat.le_refl _), h2.block (hB.block _ h2.lt), h3⟩
theorem HpS.lt {hb k : Nat} {w : World} {ws : List Wt} (h : HpS hb k w ws) : hb < w.heap.size ∧ k < w.heap.size := by
  obtain ⟨cap, h1, h2, h3⟩ := h
  exact ⟨(Array.getElem?_eq_some_iff.1 h1).1, h2.lt⟩
theorem blk1_set {w : World} {b : Nat} {v0 v : Value} {t : TypeId} (h : Blk w b #[v0] t) : Blk (w.setCell ⟨b, 0, none⟩ v) b #[v] t := by
  unfold Blk at h ⊢
  simp [World.setCell, Array.getElem?_modify, h]
def wagg (x : Wt) : Value := .agg #[.int .i64 x.s.p.kind, .int .i64 x.s.p.next, .int .i64 x.s.p.pk.el, .slice x.s.A x.s.p.pk.hd.length x.s.c, .int .i64 x.s.p.pk.tag, .slice x.s.B x.s.p.pk.bd.length x.s.d, .int .i64 x.k]
theorem assertWt (v : Value) (w : World) : (Instr.typeAssert (.iface 68 v) 20 68 false).run Try.prog w = .ok v w := by kernel_rfl
def PushP (hb k : Nat) (ws : List Wt) (x : Wt) (w : World) (e : Ending) (w' : World) : Prop :=
  e = .returned (.tuple #[]) ∧ ∃ k', HpS hb k' w' (ws ++ [x]) ∧ (k' = k ∨ w.heap.size ≤ k') ∧ KeptH hb (some k) w w'
set_option maxRecDepth 20000 in
set_option maxHeartbeats 1000000 in
theorem wPush (hb k : Nat) (ws : List Wt) (x : Wt) (w : World) (hS : HpS hb k w ws) (hl : ws.length ≤ 1000) :
    Calls Try.prog 133 #[.pointer (some ⟨hb, 0, none⟩), .iface 68 (wagg x)] w (PushP hb k ws x w) := by
  obtain ⟨cap, hz, ha, hne⟩ := hS
  obtain ⟨hc, hf⟩ := one_cell hz
  have hblt : hb < w.heap.size := (Array.getElem?_eq_some_iff.1 hz).1
  have hklt := ha.lt
  have HD : Hid (Dest 68 7 (some k) (w.alloc (.cells #[.int .i64 x.s.p.kind, .int .i64 x.s.p.next, .int .i64 x.s.p.pk.el, .slice x.s.A x.s.p.pk.hd.length x.s.c, .int .i64 x.s.p.pk.tag, .slice x.s.B x.s.p.pk.bd.length x.s.d, .int .i64 x.k] 68)).drew (.slice (some ⟨k, 0, none⟩) ws.length cap) ws.length (ws.flatMap wcells)) := .inr ⟨k, rfl, accV_drew (ha.alloc _)⟩
  have HRW : Hid (Row w.heap.size (w.heap.size + 1) (w.alloc (.cells #[.int .i64 x.s.p.kind, .int .i64 x.s.p.next, .int .i64 x.s.p.pk.el, .slice x.s.A x.s.p.pk.hd.length x.s.c, .int .i64 x.s.p.pk.tag, .slice x.s.B x.s.p.pk.bd.length x.s.d, .int .i64 x.k] 68)).drew (some ⟨w.heap.size, 0, none⟩) 1 1 7 (wcells x)) := row_lit w 68 (wcells x) rfl
  have HAL : Hid (Below w.heap.size w (w.alloc (.cells #[.int .i64 x.s.p.kind, .int .i64 x.s.p.next, .int .i64 x.s.p.pk.el, .slice x.s.A x.s.p.pk.hd.length x.s.c, .int .i64 x.s.p.pk.tag, .slice x.s.B x.s.p.pk.bd.length x.s.d, .int .i64 x.k] 68)).drew) := below_drew2 ((Below.refl _ _).alloc (Nat.le_refl _) _)
  have hzw : Blk (w.alloc (.cells #[.int .i64 x.s.p.kind, .int .i64 x.s.p.next, .int .i64 x.s.p.pk.el, .slice x.s.A x.s.p.pk.hd.length x.s.c, .int .i64 x.s.p.pk.tag, .slice x.s.B x.s.p.pk.bd.length x.s.d, .int .i64 x.k] 68)).drew hb #[.slice (some ⟨k, 0, none⟩) ws.length cap] 93 := hz.below HAL.out (Nat.le_refl _)
  have HZW := Lib.hid hzw
  have HA := Lib.hid ha
  clear hz ha hf hzw
  have hta := assertWt
  unfold wagg
  go_enter Try.func133, Try.ntmps133
  go_wp2_with fail
  go_region_law (first | (refine step_appD elWt (some k) _ _ _ _ HD.out _ _ _ _ _ _ HRW.out (wcells_one x) (by omega) (.tmp 7) (.tmp 10) rfl rfl (by go_simp) (by go_simp) ?_; intro g1 v1 w1 hd1 hg1 hgr1; have hz1 : Blk w1 hb #[.slice (some ⟨k, 0, none⟩) ws.length cap] 93 := (hgr1.block hb (Array.getElem?_eq_some_iff.1 HZW.out).1 (fun e => hne (by simpa using e))).trans HZW.out; obtain ⟨hc1, hf1⟩ := one_cell hz1; have hf10 := hf1 0; clear hf1; obtain ⟨A1, c1, rfl, hnc, hmc, hk1⟩ := dest_form hd1) | fail)
  all_goals
    obtain ⟨k1, rfl, rfl, ha1⟩ := hk1 (by omega)
    have hk1b : k1 = k ∨ w.heap.size ≤ k1 := by
      rcases hg1 with e | ⟨q, e, hq⟩
      · exact .inl (by simpa using e)
      · have : k1 = q := by simpa using e
        have := HAL.out.size
        exact .inr (by omega)
    have hne1 : hb ≠ k1 := by rcases hk1b with rfl | h <;> omega
    refine bodyPost_end (results_none rfl _ _ _) rfl ?_
    have hlen : (ws ++ [x]).length = ws.length + 1 := by simp
    have hfl : (ws ++ [x]).flatMap wcells = ws.flatMap wcells ++ wcells x := by simp
    refine ⟨rfl, k1, ⟨c1, ?_, ?_, hne1⟩, hk1b, ?_⟩
    · rw [hlen]; exact blk1_set hz1
    · rw [hlen, hfl]; exact ha1.block (Below.heap_setCell _ _ _ _ (fun e => hne1 e.symm))
    · refine ⟨hgr1.os.trans HAL.out.os, hgr1.tape.trans HAL.out.tape, hgr1.output.trans HAL.out.output, ?_, fun z hz h1 h2 => ?_⟩
      · have := hgr1.size; have := HAL.out.size; simp only [World.size_setCell]; omega
      · refine (Below.heap_setCell _ _ _ _ h1).trans ((hgr1.block z (Nat.lt_of_lt_of_le hz HAL.out.size) (fun e => h2 e.symm)).trans (HAL.out.block z hz))

end Im6
end Go.Proofs.Ytnjcpbkpcmemeac

/-
  Contracts of container/heap over the program's heap of waiting packets: Push and Pop.
-/
namespace Go.Proofs.Ytnjcpbkpcmemeac
open Go.RowKit
namespace Im6
open Il Gm Mm Tm Lm Pm Pq Hlp5 Sl Mm6 Hp6

def HPushP (hb k : Nat) (ws : List Wt) (x : Wt) (w : World) (e : Ending) (w' : World) : Prop :=
  e = .returned (.tuple #[]) ∧ ∃ k' vs, HpS hb k' w' vs ∧ vs.Perm (ws ++ [x]) ∧ IsHeap leW vs vs.length ∧ (k' = k ∨ w.heap.size ≤ k') ∧ KeptH hb (some k) w w'
theorem keptH_then {hb k k1 : Nat} {w w1 w2 : World} (h : KeptH hb (some k) w w1) (h2 : KeptH hb (some k1) w1 w2) (hk : k1 = k ∨ w.heap.size ≤ k1) : KeptH hb (some k) w w2 :=
  h.trans h2 (by rcases hk with rfl | hk
                 · exact .inl rfl
                 · exact .inr ⟨k1, rfl, hk⟩)
set_option maxRecDepth 20000 in
set_option maxHeartbeats 1000000 in
theorem hPush (hb k : Nat) (ws : List Wt) (x : Wt) (w : World) (hS : HpS hb k w ws) (hl : ws.length ≤ 1000) (hI : IsHeap leW ws ws.length) :
    Calls Try.prog 70 #[.iface 64 (.pointer (some ⟨hb, 0, none⟩)), .iface 68 (wagg x)] w (HPushP hb k ws x w) := by
  have HS := Lib.hid hS
  have HI := Lib.hid hI
  clear hS hI
  have hmp := meth_push hb
  go_enter Try.func70, Try.ntmps70
  go_wp2_with fail
  ((with_reducible refine (wPush hb k ws x _ HS.out hl).mono ?_); rintro e w1 ⟨rfl, k1, hs1, hk1, hkp1⟩)
  have HK1 := Lib.hid hk1
  have HKP1 := Lib.hid hkp1
  have HS1 := Lib.hid hs1
  clear hk1 hkp1 HS hs1
  obtain ⟨cap, hz, ha, hne⟩ := HS1.out
  have hlen : (ws ++ [x]).length = ws.length + 1 := by simp
  rw [hlen] at hz ha
  have HLEN := Lib.hid hlen
  obtain ⟨hc, _⟩ := one_cell hz
  have hml := meth_len hb _ _ hc
  have HZ := Lib.hid hz
  have HA := Lib.hid ha
  clear hlen hz ha hmp
  go_wp2_with fail
  ((with_reducible refine (heapLen _ _ _ _).mono ?_); rintro e w2 ⟨rfl, rfl⟩)
  clear hml hc
  go_wp2_with fail
  ((with_reducible refine (heapUp hb k1 (ws.length + 1) cap ws.length (ws ++ [x]) _ HZ.out HA.out HLEN.out (by omega) (by omega) hne (up_start HI.out)).mono ?_); rintro e w3 ⟨rfl, vs, hp3, hh3, hz3, ha3, hkp3⟩)
  have HKP3 := Lib.hid hkp3
  have HZ3 := Lib.hid hz3
  have HA3 := Lib.hid ha3
  have HP3 := Lib.hid hp3
  have HH3 := Lib.hid hh3
  clear hkp3 hz3 ha3 hp3 hh3
  go_wp2
  refine bodyPost_end (results_none rfl _ _ _) rfl ?_
  have hvl : vs.length = ws.length + 1 := HP3.out.length_eq.trans HLEN.out
  refine ⟨rfl, k1, vs, ⟨cap, ?_, ?_, hne⟩, HP3.out, ?_, HK1.out, keptH_then HKP1.out HKP3.out HK1.out⟩
  · rw [hvl]; exact HZ3.out
  · rw [hvl]; exact HA3.out
  · rw [hvl]; exact HH3.out
theorem accV_take {e : TypeId} {sz g n m cap : Nat} {w : World} {vs : List Value} (h : AccV e sz g w (.slice (some ⟨g, 0, none⟩) n cap) n vs) (hm : m ≤ n) : AccV e sz g w (.slice (some ⟨g, 0, none⟩) m cap) m (vs.take (m * sz)) := by
  obtain ⟨cap2, e2, ho⟩ := h
  have hms : m * sz ≤ n * sz := Nat.mul_le_mul_right _ hm
  refine ⟨cap, rfl, by rw [List.length_take, ho.1]; omega, ?_⟩
  rcases ho.2 with ⟨q, _⟩ | ⟨g1, cap1, cur, q, hb, hh, h1, h2, h3, h4⟩
  · simp at q
  · simp only [Value.slice.injEq, Option.some.injEq, Addr.mk.injEq, and_true, true_and] at q
    obtain ⟨rfl, rfl⟩ := q
    exact .inr ⟨_, _, cur, rfl, hb, hh, by omega, h2, by omega, by rw [← h4, List.take_take, Nat.min_eq_left hms]⟩
def PopW (hb k m : Nat) (ws : List Wt) (w : World) (e : Ending) (w' : World) : Prop :=
  e = .returned (.iface 68 (wagg (at_ ws m))) ∧ HpS hb k w' (ws.take m) ∧ KeptH hb (some k) w w'
set_option maxRecDepth 20000 in
set_option maxHeartbeats 1000000 in
theorem wPop (hb k m : Nat) (ws : List Wt) (w : World) (hS : HpS hb k w ws) (hl : ws.length = m + 1) (hm : m ≤ 1000) :
    Calls Try.prog 132 #[.pointer (some ⟨hb, 0, none⟩)] w (PopW hb k m ws w) := by
  obtain ⟨cap, hz, ha, hne⟩ := hS
  obtain ⟨hc, hf⟩ := one_cell hz
  rw [hl] at hz ha hc
  have hx := get_at (l := ws) (i := m) (by omega)
  obtain ⟨⟨c0, c1, c2, c3, c4, c5, c6⟩, _, _, _, _, _, _, _⟩ := wt_cells ha hx
  have hf0 := hf 0
  have hblt : hb < w.heap.size := (Array.getElem?_eq_some_iff.1 hz).1
  have hklt := ha.lt
  have hmc : m ≤ cap := by
    obtain ⟨cap2, e2, hr, _⟩ := ha.row
    simp only [Value.slice.injEq, true_and] at e2
    have := hr.2.1
    omega
  have HA := Lib.hid ha
  have HZ := Lib.hid hz
  have HL := Lib.hid hl
  clear hf ha hz hl hx
  unfold PopW wagg
  generalize at_ ws m = x at *
  go_enter Try.func132, Try.ntmps132
  go_wp2
  go_ret
  have hlt : (ws.take m).length = m := by rw [List.length_take, HL.out]; omega
  refine ⟨rfl, ⟨cap, ?_, ?_, hne⟩, ?_⟩
  · rw [hlt]; exact (blk1_set HZ.out).below ((Below.refl _ _).alloc (Nat.le_refl _) _) (Nat.le_refl _)
  · rw [hlt, flat_take wcells_len]
    exact ((accV_take HA.out (by omega)).block (Below.heap_setCell _ _ _ _ (fun e => hne e.symm))).alloc _
  · refine ⟨rfl, rfl, rfl, by simp, fun z hz h1 h2 => ?_⟩
    refine (((Below.refl _ _).alloc (Nat.le_refl _) _ : Below _ (w.setCell ⟨hb, 0, none⟩ (.slice (some ⟨k, 0, none⟩) m cap)) _).block z (by simpa using hz)).trans (Below.heap_setCell _ _ _ _ h1)
def HPopP (hb k m : Nat) (ws : List Wt) (w : World) (e : Ending) (w' : World) : Prop :=
  e = .returned (.iface 68 (wagg (at_ ws 0))) ∧ ∃ vs, HpS hb k w' vs ∧ vs.length = m ∧ (at_ ws 0 :: vs).Perm ws ∧ IsHeap leW vs m ∧ (∀ x ∈ vs, leW (at_ ws 0) x) ∧ KeptH hb (some k) w w'
theorem heapSwap0 (k n cap j : Nat) (ws : List Wt) (x y : Wt) (w : World) (h : AccV 68 7 k w (.slice (some ⟨k, 0, none⟩) n cap) n (ws.flatMap wcells)) (hn : ws.length = n) (hm : n ≤ 100000) (hx : ws[0]? = some x) (hy : ws[j]? = some y) :
    Calls Try.prog 134 #[.slice (some ⟨k, 0, none⟩) n cap, .int .i64 0, .int .i64 j] w
      fun e w' => e = .returned (.tuple #[]) ∧ AccV 68 7 k w' (.slice (some ⟨k, 0, none⟩) n cap) n (((ws.set 0 y).set j x).flatMap wcells) ∧ SameB k w w' := heapSwap k n cap 0 j ws x y w h hn hm hx hy
set_option maxRecDepth 20000 in
set_option maxHeartbeats 1000000 in
theorem hPop (hb k m : Nat) (ws : List Wt) (w : World) (hS : HpS hb k w ws) (hl : ws.length = m + 1) (hm : m ≤ 1000) (hI : IsHeap leW ws (m + 1)) :
    Calls Try.prog 39 #[.iface 64 (.pointer (some ⟨hb, 0, none⟩))] w (HPopP hb k m ws w) := by
  obtain ⟨cap, hz, ha, hne⟩ := hS
  rw [hl] at hz ha
  obtain ⟨hc, _⟩ := one_cell hz
  have hml := meth_len hb _ _ hc
  have hms := meth_swap hb _ _ hc
  have HI := Lib.hid hI
  have HL := Lib.hid hl
  have HZ := Lib.hid hz
  have HA := Lib.hid ha
  have G0 := Lib.hid (get_at (l := ws) (i := 0) (by omega))
  have GM := Lib.hid (get_at (l := ws) (i := m) (by omega))
  clear hI hl hz ha
  go_enter Try.func39, Try.ntmps39
  go_wp2_with fail
  ((with_reducible refine (heapLen _ _ _ _).mono ?_); rintro e w2 ⟨rfl, rfl⟩)
  go_wp2_with fail
  ((with_reducible refine (heapSwap0 k (m + 1) cap m ws (at_ ws 0) (at_ ws m) _ HA.out HL.out (by omega) G0.out GM.out).mono ?_); rintro e w3 ⟨rfl, ha3, hs3⟩)
  have HA3 : Hid (AccV 68 7 k w3 (.slice (some ⟨k, 0, none⟩) (m + 1) cap) (m + 1) ((swap ws 0 m).flatMap wcells)) := ha3
  have HZ3 : Hid (Blk w3 hb #[.slice (some ⟨k, 0, none⟩) (m + 1) cap] 93) := (hs3.block hb hne).trans HZ.out
  have HS3 := Lib.hid (KeptH.same (hb := hb) hs3)
  have HL3 : Hid ((swap ws 0 m).length = m + 1) := (swap_len _ _ _).trans HL.out
  have HD3 := Lib.hid (down_start HI.out HL.out)
  clear ha3 hs3 hc hml hms
  go_wp2_with fail
  ((with_reducible refine (heapDown hb k (m + 1) cap m (swap ws 0 m) _ HZ3.out HA3.out HL3.out (by omega) (by omega) hne HD3.out).mono ?_); rintro e w4 ⟨r4, vs, rfl, hp4, hh4, hb4, hz4, ha4, hk4⟩)
  have hvl : vs.length = m + 1 := hp4.length_eq.trans HL3.out
  obtain ⟨f1, f2, f3, f4⟩ := pop_fact leW_rf leW_tr HI.out HL.out hp4 (hb4 m (Nat.le_refl _)) hh4
  have HS4 : Hid (HpS hb k w4 vs) := ⟨cap, by rw [hvl]; exact hz4, by rw [hvl]; exact ha4, hne⟩
  have HK4 := Lib.hid (HS3.out.trans hk4 (.inl rfl))
  have HF := Lib.hid (And.intro f1 (And.intro f2 (And.intro f3 f4)))
  have HVL := Lib.hid hvl
  have hmp := meth_pop hb
  clear hp4 hh4 hb4 hz4 ha4 hk4 f1 f2 f3 f4 hvl HA3 HZ3 HS3 HL3 HD3
  go_wp2_with fail
  ((with_reducible refine (wPop hb k m vs _ HS4.out HVL.out hm).mono ?_); rintro e w5 ⟨rfl, hs5, hk5⟩)
  rw [HF.out.2.2.2]
  have HS5 := Lib.hid hs5
  have HK5 := Lib.hid (HK4.out.trans hk5 (.inl rfl))
  clear hs5 hk5 hmp
  go_wp2
  go_ret
  exact ⟨rfl, _, HS5.out, by rw [List.length_take, HVL.out]; omega, HF.out.1, HF.out.2.1, HF.out.2.2.1, HK5.out⟩

end Im6
end Go.Proofs.Ytnjcpbkpcmemeac

/-
  The contract of the program's heapOf: a heap of copied packets.
-/
namespace Go.Proofs.Ytnjcpbkpcmemeac
open Go.RowKit
namespace Im6
open Il Gm Mm Tm Lm Pm Pq Hlp5 Sl Mm6 Hp6
open Sp6 (row_at row_len)

/-- Slots in blocks of their own, from lo on, below hi. -/
def Cop (lo hi : Nat) (w : World) (ss : List Slot) : Prop := (∀ s ∈ ss, SlotO w s) ∧ Foot (ss.map fpS) ∧ Within lo hi (ss.map fpS)
theorem Cop.keep {lo hi : Nat} {w w' : World} {ss : List Slot} (h : Cop lo hi w ss) (hs : w.heap.size ≤ w'.heap.size) (hk : ∀ z, lo ≤ z → z < hi → w'.heap[z]? = w.heap[z]?) : Cop lo hi w' ss :=
  ⟨fun s hm => (h.1 s hm).keepC hs fun z hz => by have := h.2.2 _ (List.mem_map_of_mem hm) z hz; exact hk z this.1 this.2, h.2.1, h.2.2⟩
theorem copied_open {lo hi : Nat} {w : World} {B : Option Addr} {d : Nat} {ps : List Pld} (h : PoolD lo hi w (.slice B ps.length d) ps) : ∃ ss : List Slot, ss.map (·.p) = ps ∧ Row lo hi w B ps.length d 6 (ss.flatMap Slot.cells) ∧ Cop lo hi w ss := by
  obtain ⟨A, c, G, e, ho, hw⟩ := h.own
  simp only [Value.slice.injEq, true_and] at e
  obtain ⟨rfl, rfl⟩ := e
  obtain ⟨b, ss, h1, h2, h3, rfl, h5⟩ := ho
  refine ⟨ss, h1, row_in h2.1 fun hn => hw _ List.mem_cons_self _ (mem_fp.2 ⟨hn, rfl⟩), h3, ⟨(List.pairwise_cons.1 h5.1).2, fun f hf => h5.2 f (List.mem_cons_of_mem _ hf)⟩, fun f hf => hw f (List.mem_cons_of_mem _ hf)⟩
def HeapOfP (ps : List Pld) (w : World) (e : Ending) (w' : World) : Prop :=
  ∃ hb k vs ss c0 c1, e = .returned (.pointer (some ⟨hb, 0, none⟩)) ∧ HpS hb k w' vs ∧ vs.Perm (deco ss) ∧ IsHeap leW vs vs.length ∧ ss.map (·.p) = ps ∧ Cop c0 c1 w' ss ∧ (w.heap.size ≤ hb ∧ hb < c0 ∧ w.heap.size ≤ k ∧ (k < c0 ∨ c1 ≤ k) ∧ c0 ≤ c1 ∧ c1 ≤ w'.heap.size) ∧ Below w.heap.size w w'
def HoRel (w wr : World) (B : Option Addr) (n d c0 c1 i k : Nat) (vs : List Wt) (ss : List Slot) : Prop :=
  HpS (w.heap.size + 1) k wr vs ∧ vs.Perm (deco (ss.take i)) ∧ IsHeap leW vs vs.length ∧ (w.heap.size ≤ k ∧ (k < c0 ∨ c1 ≤ k)) ∧ Row c0 c1 wr B n d 6 (ss.flatMap Slot.cells) ∧ Cop c0 c1 wr ss ∧ c1 ≤ wr.heap.size ∧ Below w.heap.size w wr
theorem HoRel.below {w wr w' : World} {B : Option Addr} {n d c0 c1 i k : Nat} {vs : List Wt} {ss : List Slot} (h : HoRel w wr B n d c0 c1 i k vs ss) (hB : Below wr.heap.size wr w') : HoRel w w' B n d c0 c1 i k vs ss := by
  obtain ⟨h1, h2, h3, h4, h5, h6, h7, h8⟩ := h
  exact ⟨h1.below hB, h2, h3, h4, h5.below hB (Nat.le_refl _), h6.keep hB.size fun z _ hz => hB.block z (by omega), Nat.le_trans h7 hB.size, h8.trans (hB.mono h8.size)⟩
theorem HoRel.push {w wr w' : World} {B : Option Addr} {n d c0 c1 i k k' : Nat} {vs us : List Wt} {ss : List Slot} {s : Slot} (h : HoRel w wr B n d c0 c1 i k vs ss) (hc : w.heap.size + 1 < c0) (hs : ss[i]? = some s) (h1 : HpS (w.heap.size + 1) k' w' us) (h2 : us.Perm (vs ++ [⟨s, i⟩])) (h3 : IsHeap leW us us.length) (h4 : k' = k ∨ wr.heap.size ≤ k') (h5 : KeptH (w.heap.size + 1) (some k) wr w') : HoRel w w' B n d c0 c1 (i + 1) k' us ss := by
  obtain ⟨r1, r2, r3, r4, r5, r6, r7, r8⟩ := h
  have hil := (List.getElem?_eq_some_iff.1 hs).1
  have hk : ∀ z, c0 ≤ z → z < c1 → w'.heap[z]? = wr.heap[z]? := fun z q1 q2 => h5.block z (by omega) (by omega) (fun e => by simp only [Option.some.injEq] at e; omega)
  have hlt := r1.lt
  refine ⟨h1, ?_, h3, ?_, r5.keep h5.size fun z q1 q2 _ => hk z q1 q2, r6.keep h5.size hk, Nat.le_trans r7 h5.size, ?_⟩
  · have e : ss.take (i + 1) = ss.take i ++ [s] := by
      rw [List.take_add_one, hs]; rfl
    rw [e, deco_snoc, List.length_take, Nat.min_eq_left (by omega)]
    exact h2.trans (r2.append_right _)
  · rcases h4 with rfl | h4 <;> omega
  · exact ⟨h5.os.trans r8.os, h5.tape.trans r8.tape, h5.output.trans r8.output, Nat.le_trans r8.size h5.size, fun z hz => (h5.block z (by omega) (by omega) (fun e => by simp only [Option.some.injEq] at e; omega)).trans (r8.block z hz)⟩
theorem hPushL (hb k : Nat) (ws : List Wt) (s : Slot) (j : Nat) (w : World) (hS : HpS hb k w ws) (hl : ws.length ≤ 1000) (hI : IsHeap leW ws ws.length) :
    Calls Try.prog 70 #[.iface 64 (.pointer (some ⟨hb, 0, none⟩)), .iface 68 (.agg #[.int .i64 s.p.kind, .int .i64 s.p.next, .int .i64 s.p.pk.el, .slice s.A s.p.pk.hd.length s.c, .int .i64 s.p.pk.tag, .slice s.B s.p.pk.bd.length s.d, .int .i64 j])] w (HPushP hb k ws ⟨s, j⟩ w) := hPush hb k ws ⟨s, j⟩ w hS hl hI
set_option maxRecDepth 20000 in
set_option maxHeartbeats 2000000 in
theorem heapOf (lo hi : Nat) (A : Option Addr) (n c : Nat) (ps : List Pld) (w : World) (hx : Pool lo hi w A n c ps) (hn : n ≤ 1000) (hh : ∀ p ∈ ps, p.pk.hd.length ≤ 1000 ∧ p.pk.bd.length ≤ 1000) :
    Calls Try.prog 37 #[.slice A n c] w (HeapOfP ps w) := by
  have hlen := hx.len_
  subst hlen
  have hal : Below w.heap.size w (w.alloc (.cells #[] 68)) := (Below.refl _ _).alloc (Nat.le_refl _) _
  have hal2 := hal.alloc hal.size (.cells #[.slice (some ⟨w.heap.size, 0, none⟩) 0 0] 93)
  have hs1 : (w.alloc (.cells #[] 68)).heap.size = w.heap.size + 1 := by simp
  have hS : HpS (w.heap.size + 1) w.heap.size ((w.alloc (.cells #[] 68)).alloc (.cells #[.slice (some ⟨w.heap.size, 0, none⟩) 0 0] 93)) [] := by
    refine ⟨0, ?_, (accV_new w 68 7).alloc _, by omega⟩
    have := heap_alloc_new (w.alloc (.cells #[] 68)) (.cells #[.slice (some ⟨w.heap.size, 0, none⟩) 0 0] 93)
    rw [hs1] at this
    exact this
  have HX := Lib.hid (hx.below hal2 (Nat.le_refl _))
  have HS := Lib.hid hS
  have HAL := Lib.hid hal2
  have HH := Lib.hid hh
  have hs2 : w.heap.size + 1 < ((w.alloc (.cells #[] 68)).alloc (.cells #[.slice (some ⟨w.heap.size, 0, none⟩) 0 0] 93)).heap.size := by simp
  clear hal hal2 hs1 hS hx hh
  go_enter Try.func37, Try.ntmps37
  go_wp2_with fail
  generalize ((w.alloc (.cells #[] 68)).alloc (.cells #[.slice (some ⟨w.heap.size, 0, none⟩) 0 0] 93)) = w2 at *
  ((with_reducible refine (copyPool _ _ _ _ _ ps _ HX.out hn HH.out).mono ?_); rintro e w3 ⟨B, d, rfl, hpd, hb3⟩)
  obtain ⟨ss, rfl, hrow, hcop⟩ := copied_open hpd
  have hsl := row_len hrow
  simp only [List.length_map] at hrow hn ⊢
  have HC : Hid (HoRel w w3 B ss.length d w2.heap.size w3.heap.size 0 w.heap.size [] ss) :=
    ⟨HS.out.below hb3, List.Perm.refl _, fun i _ h => absurd h (Nat.not_lt_zero _), ⟨Nat.le_refl _, .inl (by omega)⟩, hrow, hcop, Nat.le_refl _, HAL.out.trans (hb3.mono HAL.out.size)⟩
  have hs3 := hb3.size
  clear hpd hrow hcop hb3 HX HS HAL HH hsl
  go_wp2
  go_loopw [11] (fun i wr => ∃ (j k : Nat) (vs : List Wt), j ≤ ss.length ∧ i = .int .i64 j ∧ Hid (HoRel w wr B ss.length d w2.heap.size w3.heap.size j k vs ss)) (fun i _ => ss.length - (intOf i).toNat)
  case atStart => exact ⟨0, _, [], Nat.zero_le _, rfl, HC.out⟩
  case round =>
    clear HC
    obtain ⟨j, k, vs, hj, rfl, hR⟩ := hrel
    by_cases hlt : j < ss.length
    · obtain ⟨b, off, s, rfl, hb1, hb2, hs, c0, c1, c2, c3, c4, c5⟩ := row_at hR.out.2.2.2.2.1 hlt
      have HSJ := Lib.hid hs
      have hal : Below wr.heap.size wr (wr.alloc (.cells #[.int .i64 s.p.kind, .int .i64 s.p.next, .int .i64 s.p.pk.el, .slice s.A s.p.pk.hd.length s.c, .int .i64 s.p.pk.tag, .slice s.B s.p.pk.bd.length s.d] 39)) := (Below.refl _ _).alloc (Nat.le_refl _) _
      have HR4 := Lib.hid (hR.out.below hal)
      have hvl : vs.length ≤ 1000 := by
        have := hR.out.2.1.length_eq
        rw [deco_len, List.length_take] at this
        omega
      clear hs hal hR
      have hwx : w.heap.size + 1 < w2.heap.size := hs2
      have HP1 := Lib.hid HR4.out.1
      have HP2 := Lib.hid HR4.out.2.2.1
      go_wp2_with fail
      ((with_reducible refine (hPushL (w.heap.size + 1) k vs s j _ HP1.out hvl HP2.out).mono ?_); rintro e w5 ⟨rfl, k1, us, h1, h2, h3, h4, h5⟩)
      have HR5 := Lib.hid (HR4.out.push hwx HSJ.out h1 h2 h3 h4 h5)
      clear h1 h2 h3 h4 h5 HP1 HP2 HR4 c0 c1 c2 c3 c4 c5
      go_wp2
      go_roundw
      case rel => exact ⟨j + 1, k1, us, by omega, by go_num, HR5.out⟩
      case measure => simp [intOf]; omega
    · obtain rfl : j = ss.length := by omega
      have hT := hR.out.2.1
      rw [List.take_of_length_le (Nat.le_refl _)] at hT
      have HT := Lib.hid hT
      clear hT
      go_wp2
      go_ret
      obtain ⟨r1, r2, r3, r4, r5, r6, r7, r8⟩ := hR.out
      exact ⟨w.heap.size + 1, k, vs, ss, _, _, rfl, r1, HT.out, r3, rfl, r6, ⟨by omega, by omega, r4.1, r4.2, by omega, r7⟩, r8⟩

end Im6
end Go.Proofs.Ytnjcpbkpcmemeac
