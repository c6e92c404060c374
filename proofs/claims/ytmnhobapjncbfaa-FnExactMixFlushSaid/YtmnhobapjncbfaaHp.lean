/-
  Plain heaps: what swapping up and down keeps; what leaves a heap is in order, and it is the sorted pool. Nothing of any program.
-/
import Derived.Test.YtmnhobapjncbfaaMx
namespace Go.Proofs.Ytmnhobapjncbfaa
namespace Hp6
open Gm Mm Tm Lm Pm Po Sl Mm6

section
variable {α : Type} [Inhabited α]

/-- The element at a place. -/
def at_ (l : List α) (i : Nat) : α := l.getD i default
def swap (l : List α) (i j : Nat) : List α := (l.set i (at_ l j)).set j (at_ l i)
theorem swap_len (l : List α) (i j : Nat) : (swap l i j).length = l.length := by simp [swap]
theorem at_is {l : List α} {i : Nat} (h : i < l.length) : at_ l i = l[i] := by simp [at_, List.getD, h]
theorem at_mem {l : List α} {i : Nat} (h : i < l.length) : at_ l i ∈ l := by rw [at_is h]; exact List.getElem_mem h
theorem at_swap {l : List α} {i j k : Nat} (hi : i < l.length) (hj : j < l.length) : at_ (swap l i j) k = if k = j then at_ l i else if k = i then at_ l j else at_ l k := by
  unfold swap at_
  simp only [List.getD, List.getElem?_set, List.length_set]
  by_cases h1 : k = j
  · subst h1; simp [hj]
  · by_cases h2 : k = i
    · subst h2; simp [h1, Ne.symm h1, hi]
    · simp [h1, h2, Ne.symm h1, Ne.symm h2]
theorem swap_perm {l : List α} {i j : Nat} (hi : i < l.length) (hj : j < l.length) : (swap l i j).Perm l := by
  unfold swap
  rw [at_is hi, at_is hj]
  exact List.set_set_perm hi hj

def par (i : Nat) : Nat := (i - 1) / 2
variable {le : α → α → Prop}
/-- The first n elements are a heap. -/
def IsHeap (le : α → α → Prop) (l : List α) (n : Nat) : Prop := ∀ i, 0 < i → i < n → le (at_ l (par i)) (at_ l i)
def UpInv (le : α → α → Prop) (l : List α) (n j : Nat) : Prop :=
  (∀ i, 0 < i → i < n → i ≠ j → le (at_ l (par i)) (at_ l i)) ∧ (∀ i, 0 < i → i < n → par i = j → 0 < j → le (at_ l (par j)) (at_ l i))
def DownInv (le : α → α → Prop) (l : List α) (n i : Nat) : Prop :=
  (∀ k, 0 < k → k < n → par k ≠ i → le (at_ l (par k)) (at_ l k)) ∧ (∀ k, 0 < k → k < n → par k = i → 0 < i → le (at_ l (par i)) (at_ l k))

theorem up_start {l : List α} {x : α} (h : IsHeap le l l.length) : UpInv le (l ++ [x]) (l.length + 1) l.length := by
  have hat : ∀ i, i < l.length → at_ (l ++ [x]) i = at_ l i := fun i hi => by simp [at_, List.getD, List.getElem?_append, hi]
  refine ⟨fun i h0 hi hne => ?_, fun i h0 hi hp h1 => ?_⟩
  · rw [hat i (by omega), hat (par i) (by unfold par; omega)]
    exact h i h0 (by omega)
  · unfold par at hp; omega
theorem up_step {l : List α} {n j : Nat} (htot : ∀ a b, ¬ le a b → le b a) (htr : ∀ a b c, le a b → le b c → le a c) (h : UpInv le l n j) (hn : n = l.length) (hj : j < n) (h0 : 0 < j) (hl : ¬ le (at_ l (par j)) (at_ l j)) : UpInv le (swap l (par j) j) n (par j) := by
  obtain ⟨h1, h2⟩ := h
  have hpj : par j < j := by unfold par; omega
  have hA : ∀ k, at_ (swap l (par j) j) k = if k = j then at_ l (par j) else if k = par j then at_ l j else at_ l k := fun k => at_swap (by omega) (by omega)
  have hle := htot _ _ hl
  refine ⟨fun k k0 kn kne => ?_, fun k k0 kn kp p0 => ?_⟩
  · have hpk : par k < k := by unfold par; omega
    rw [hA, hA]
    by_cases e : k = j
    · subst e; rw [if_neg (by omega), if_pos rfl, if_pos rfl]; exact hle
    · rw [if_neg e, if_neg kne]
      by_cases e2 : par k = j
      · rw [if_pos e2]; exact h2 k k0 kn e2 h0
      · rw [if_neg e2]
        by_cases e3 : par k = par j
        · rw [if_pos e3]; exact htr _ _ _ hle (e3 ▸ h1 k k0 kn e)
        · rw [if_neg e3]; exact h1 k k0 kn e
  · have hpk : par k < k := by unfold par; omega
    have hpp : par (par j) < par j := by unfold par at *; omega
    have hq := h1 (par j) p0 (by omega) (by omega)
    rw [hA, hA, if_neg (by omega), if_neg (by omega)]
    by_cases e : k = j
    · rw [if_pos e]; exact hq
    · rw [if_neg e, if_neg (by omega)]; exact htr _ _ _ hq (kp ▸ h1 k k0 kn e)
theorem up_zero {l : List α} {n : Nat} (h : UpInv le l n 0) : IsHeap le l n := fun i h0 hi => h.1 i h0 hi (by omega)
theorem up_end {l : List α} {n j : Nat} (h : UpInv le l n j) (hl : le (at_ l (par j)) (at_ l j)) : IsHeap le l n := fun i h0 hi => by
  by_cases e : i = j
  · subst e; exact hl
  · exact h.1 i h0 hi e

theorem down_start {l : List α} {n : Nat} (h : IsHeap le l (n + 1)) (hn : l.length = n + 1) : DownInv le (swap l 0 n) n 0 := by
  refine ⟨fun k k0 kn kp => ?_, fun k _ _ _ h => absurd h (by omega)⟩
  have hpk : par k < k := by unfold par; omega
  rw [at_swap (by omega) (by omega), at_swap (by omega) (by omega), if_neg (by omega), if_neg kp, if_neg (by omega), if_neg (by omega)]
  exact h k k0 (by omega)
theorem down_step {l : List α} {n i j : Nat} (htot : ∀ a b, ¬ le a b → le b a) (h : DownInv le l n i) (hn : n ≤ l.length) (hj : j < n) (h0 : 0 < j) (hp : par j = i) (hmin : ∀ k, 0 < k → k < n → par k = i → le (at_ l j) (at_ l k)) (hl : ¬ le (at_ l i) (at_ l j)) : DownInv le (swap l i j) n j := by
  obtain ⟨h1, h2⟩ := h
  have hij : i < j := by rw [← hp]; unfold par; omega
  have hA : ∀ k, at_ (swap l i j) k = if k = j then at_ l i else if k = i then at_ l j else at_ l k := fun k => at_swap (by omega) (by omega)
  have hle := htot _ _ hl
  refine ⟨fun k k0 kn kp => ?_, fun k k0 kn kp p0 => ?_⟩
  · have hpk : par k < k := by unfold par; omega
    rw [hA, hA, if_neg kp]
    by_cases e : par k = i
    · rw [if_pos e]
      by_cases e2 : k = j
      · rw [if_pos e2]; exact hle
      · rw [if_neg e2, if_neg (by omega)]; exact hmin k k0 kn e
    · rw [if_neg e]
      by_cases e2 : k = j
      · subst e2; exact absurd hp e
      · rw [if_neg e2]
        by_cases e3 : k = i
        · subst e3; rw [if_pos rfl]; exact h2 j h0 hj hp k0
        · rw [if_neg e3]; exact h1 k k0 kn e
  · have hpk : par k < k := by unfold par; omega
    rw [hA, hA, hp, if_neg (by omega), if_pos rfl, if_neg (by omega), if_neg (by omega)]
    have := h1 k k0 kn (by omega)
    rwa [kp] at this
theorem down_none {l : List α} {n i : Nat} (h : DownInv le l n i) (hn : n ≤ 2 * i + 1) : IsHeap le l n := fun k h0 hk => h.1 k h0 hk (by unfold par; omega)
theorem down_end {l : List α} {n i j : Nat} (htr : ∀ a b c, le a b → le b c → le a c) (h : DownInv le l n i) (hmin : ∀ k, 0 < k → k < n → par k = i → le (at_ l j) (at_ l k)) (hl : le (at_ l i) (at_ l j)) : IsHeap le l n := fun k h0 hk => by
  by_cases e : par k = i
  · rw [e]; exact htr _ _ _ hl (hmin k h0 hk e)
  · exact h.1 k h0 hk e
theorem heap_min {l : List α} {n : Nat} (hrf : ∀ a, le a a) (htr : ∀ a b c, le a b → le b c → le a c) (h : IsHeap le l n) (k : Nat) (hk : k < n) : le (at_ l 0) (at_ l k) := by
  induction k using Nat.strongRecOn with
  | _ k ih =>
    by_cases e : k = 0
    · subst e; exact hrf _
    · exact htr _ _ _ (ih (par k) (by unfold par; omega) (by unfold par; omega)) (h k (by omega) hk)
/-- The children of i. -/
theorem kids {k i : Nat} (h0 : 0 < k) (h : par k = i) : k = 2 * i + 1 ∨ k = 2 * i + 2 := by unfold par at h; omega
theorem heap_take {l : List α} {n : Nat} (h : IsHeap le l n) (_hn : n ≤ l.length) : IsHeap le (l.take n) n := fun i h0 hi => by
  have hat : ∀ i, i < n → at_ (l.take n) i = at_ l i := fun i hi => by simp [at_, List.getD, hi]
  rw [hat i hi, hat (par i) (by unfold par; omega)]
  exact h i h0 hi
theorem split_last {l : List α} {n : Nat} (h : l.length = n + 1) : l = l.take n ++ [at_ l n] := by
  rw [at_is (by omega)]
  conv => lhs; rw [← List.take_append_drop n l]
  congr 1
  rw [List.drop_eq_getElem_cons (by omega), List.drop_of_length_le (by omega)]
/-- What is popped is the least. -/
theorem pop_fact {l l' : List α} {n : Nat} (hrf : ∀ a, le a a) (htr : ∀ a b c, le a b → le b c → le a c) (h : IsHeap le l (n + 1)) (hn : l.length = n + 1) (hp : l'.Perm (swap l 0 n)) (hl : at_ l' n = at_ (swap l 0 n) n) (hh : IsHeap le l' n) :
    (at_ l 0 :: l'.take n).Perm l ∧ IsHeap le (l'.take n) n ∧ (∀ x ∈ l'.take n, le (at_ l 0) x) ∧ at_ l' n = at_ l 0 := by
  have hlen : l'.length = n + 1 := by rw [hp.length_eq, swap_len, hn]
  have e0 : at_ l' n = at_ l 0 := by rw [hl, at_swap (by omega) (by omega), if_pos rfl]
  have hs := split_last hlen
  have hp2 : (at_ l 0 :: l'.take n).Perm l := by
    refine List.Perm.trans ?_ (hp.trans (swap_perm (by omega) (by omega)))
    conv => rhs; rw [hs]
    rw [e0]
    exact (List.perm_append_comm (l₁ := [at_ l 0]) (l₂ := l'.take n))
  refine ⟨hp2, heap_take hh (by omega), fun x hx => ?_, e0⟩
  have hm : x ∈ l := hp2.mem_iff.1 (List.mem_cons_of_mem _ hx)
  obtain ⟨k, hk, rfl⟩ := List.getElem_of_mem hm
  rw [← at_is hk]
  exact heap_min hrf htr h k (by omega)
end
/-- A slot with its place in the pool. -/
structure Wt where
  s : Slot
  k : Nat
instance : Inhabited Wt := ⟨⟨⟨⟨0, 0, ⟨0, [], 0, []⟩⟩, none, 0, none, 0, 0, 0⟩, 0⟩⟩
def ltW (a b : Wt) : Prop := Lt a.s.p b.s.p ∨ (¬ Lt b.s.p a.s.p ∧ a.k < b.k)
def leW (a b : Wt) : Prop := ¬ ltW b a
theorem leW_rf (a : Wt) : leW a a := by unfold leW ltW; simp [lt_irr]
theorem leW_tot (a b : Wt) (h : ¬ leW a b) : leW b a := by unfold leW ltW Lt at *; omega
theorem leW_tr (a b c : Wt) (h : leW a b) (h2 : leW b c) : leW a c := by unfold leW ltW Lt at *; omega
theorem leW_anti {a b : Wt} (h : leW a b) (h2 : leW b a) : a.k = b.k := by unfold leW ltW Lt at *; omega
/-- The slots of a pool with their places. -/
def deco (ss : List Slot) : List Wt := ss.zipIdx.map fun x => ⟨x.1, x.2⟩
theorem deco_len (ss : List Slot) : (deco ss).length = ss.length := by simp [deco]
theorem deco_snoc (ss : List Slot) (s : Slot) : deco (ss ++ [s]) = deco ss ++ [⟨s, ss.length⟩] := by simp [deco, List.zipIdx_append]
theorem deco_at {ss : List Slot} {x : Wt} (h : x ∈ deco ss) : ss[x.k]? = some x.s := by
  simp only [deco, List.mem_map] at h
  obtain ⟨⟨a, i⟩, hm, rfl⟩ := h
  have := List.mem_zipIdx_iff_getElem?.1 hm
  exact this
theorem deco_anti {ss : List Slot} {a b : Wt} (ha : a ∈ deco ss) (hb : b ∈ deco ss) (h : leW a b) (h2 : leW b a) : a = b := by
  have e := leW_anti h h2
  have h3 := deco_at ha
  have h4 := deco_at hb
  rw [e, h4] at h3
  obtain ⟨s, k⟩ := a
  obtain ⟨s2, k2⟩ := b
  simp only [Option.some.injEq] at h3
  simp only at e
  rw [e, h3]
theorem cutW {x : Wt} {qs : List Wt} (hs : qs.Pairwise leW) (hk : ∀ y ∈ qs, y.k < x.k) :
    (∀ y ∈ qs.take (cutAt x.s.p (qs.map fun q => q.s.p)), leW y x) ∧ (∀ y ∈ qs.drop (cutAt x.s.p (qs.map fun q => q.s.p)), leW x y) := by
  induction qs with
  | nil => exact ⟨fun y h => by simp at h, fun y h => by simp at h⟩
  | cons q qs ih =>
    obtain ⟨h1, h2⟩ := List.pairwise_cons.1 hs
    obtain ⟨i1, i2⟩ := ih h2 fun y hy => hk y (List.mem_cons_of_mem _ hy)
    have hqk := hk q (List.mem_cons_self ..)
    unfold cutAt at *
    rw [List.map_cons, List.takeWhile_cons]
    cases hl : less x.s.p q.s.p
    · have hnl : ¬ Lt x.s.p q.s.p := fun h => by rw [less_iff.2 h] at hl; cases hl
      simp only [Bool.not_false, if_true, List.length_cons, List.take_succ_cons, List.drop_succ_cons]
      refine ⟨fun y hy => ?_, i2⟩
      rcases List.mem_cons.1 hy with rfl | hy
      · unfold leW ltW; intro h; rcases h with h | h
        · exact hnl h
        · omega
      · exact i1 y hy
    · have hlt := less_iff.1 hl
      simp only [Bool.not_true, Bool.false_eq_true, if_false, List.length_nil, List.take_zero, List.drop_zero]
      refine ⟨fun y hy => by simp at hy, fun y hy => ?_⟩
      have hxq : leW x q := by unfold leW ltW Lt at *; omega
      rcases List.mem_cons.1 hy with rfl | hy
      · exact hxq
      · exact leW_tr _ _ _ hxq (h1 y hy)
theorem sort_deco (ss : List Slot) : ∃ qs : List Wt, qs.Perm (deco ss) ∧ qs.Pairwise leW ∧ qs.map (fun q => q.s.p) = sortP (ss.map fun s => s.p) := by
  suffices ∀ n (ss : List Slot), ss.length = n → ∃ qs : List Wt, qs.Perm (deco ss) ∧ qs.Pairwise leW ∧ qs.map (fun q => q.s.p) = sortP (ss.map fun s => s.p) from this _ ss rfl
  intro n
  induction n with
  | zero => intro ss h; rw [List.eq_nil_of_length_eq_zero h]; exact ⟨[], List.Perm.refl _, List.Pairwise.nil, rfl⟩
  | succ n ih =>
    intro ss h
    rcases List.eq_nil_or_concat ss with rfl | ⟨ts, s, rfl⟩
    · simp at h
    rw [List.concat_eq_append] at *
    obtain ⟨qs, h1, h2, h3⟩ := ih ts (by simpa using h)
    have hk : ∀ y ∈ qs, y.k < ts.length := fun y hy => (List.getElem?_eq_some_iff.1 (deco_at (h1.mem_iff.1 hy))).1
    obtain ⟨c1, c2⟩ := cutW (x := ⟨s, ts.length⟩) h2 hk
    refine ⟨qs.take (cutAt s.p (qs.map fun q => q.s.p)) ++ ⟨s, ts.length⟩ :: qs.drop (cutAt s.p (qs.map fun q => q.s.p)), ?_, ?_, ?_⟩
    · rw [deco_snoc]
      refine List.perm_middle.trans ?_
      rw [List.take_append_drop]
      exact (List.perm_append_comm (l₁ := [_])).trans (h1.append_right _)
    · refine List.pairwise_append.2 ⟨h2.sublist (List.take_sublist _ _), List.pairwise_cons.2 ⟨c2, h2.sublist (List.drop_sublist _ _)⟩, fun a ha b hb => ?_⟩
      rcases List.mem_cons.1 hb with rfl | hb
      · exact c1 a ha
      · exact leW_tr _ _ _ (c1 a ha) (c2 b hb)
    · rw [List.map_append, List.map_cons, List.map_take, List.map_drop, List.map_append, List.map_cons, List.map_nil, h3]
      show _ = sortP _
      unfold sortP
      rw [List.foldl_append, List.foldl_cons, List.foldl_nil]
      rfl
/-- What leaves a heap in order is the sorted pool. -/
theorem popped {ss : List Slot} {os : List Wt} (hp : os.Perm (deco ss)) (hs : os.Pairwise leW) : os.map (fun q => q.s.p) = sortP (ss.map fun s => s.p) := by
  obtain ⟨qs, h1, h2, h3⟩ := sort_deco ss
  have : os = qs := List.Perm.eq_of_pairwise (fun a b ha hb => deco_anti (hp.mem_iff.1 ha) (h1.mem_iff.1 hb)) hs h2 (hp.trans h1.symm)
  rw [this]; exact h3

end Hp6
end Go.Proofs.Ytmnhobapjncbfaa
