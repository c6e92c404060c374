/-
  The library's insertion sort, plain, at flows that are in the order of their names: flows to one receiver stay so. Nothing of any program.
-/
import Derived.Test.YtcbhjnjallnidabFp
import Derived.Shelf.SlSortCmp.InsertionK
namespace Go.Proofs.Ytcbhjnjallnidab
open Go.RowKit Go.Shelf Go.Sort
namespace Ss13
open Fc Fp Pm

instance : Inhabited Fl := ⟨Fl.zero⟩
def cmpI (x y : Int) : Int := if x < y then -1 else if y < x then 1 else 0
def cmpT (a b : Fl) : Int := cmpI a.to b.to
theorem ltT_of (a b : Fl) : ltOf cmpT a b = decide (a.to < b.to) := by
  unfold ltOf cmpT cmpI
  apply Bool.eq_iff_iff.2
  simp only [decide_eq_true_eq]
  split
  · constructor <;> intro h <;> omega
  · split <;> constructor <;> intro h <;> omega
theorem ltT_X {a b : Fl} (h : b.nm < a.nm) : ltOf cmpT a b = ltX a b := by
  rw [ltT_of]
  unfold ltX
  exact decide_eq_decide.2 (by omega)
theorem swoX : SWO ltX where
  irrefl x := by rw [ltX_no]; omega
  trans x y z h1 h2 := by rw [ltX_iff] at *; omega
  ntrans x y z h1 h2 := by rw [ltX_no] at *; omega
theorem inner_eq (lt1 lt2 : Fl → Fl → Bool) (hlt : ∀ a b : Fl, b.nm < a.nm → lt1 a b = lt2 a b) : ∀ (j : Nat) (d : Array Fl), j < d.size → (∀ p, p < j → (d[p]!).nm < (d[j]!).nm) → insInner lt1 0 j d = insInner lt2 0 j d
  | 0, d, _, _ => rfl
  | j + 1, d, hj, hp => by
    unfold insInner
    rw [hlt _ _ (hp j (by omega))]
    split
    · have g := swp_get d hj (show j < d.size by omega)
      refine inner_eq lt1 lt2 hlt j (swp d (j + 1) j) (by rw [swp_size]; omega) fun p hpj => ?_
      rw [g, g, if_neg (by omega), if_neg (by omega), if_pos rfl]
      exact hp p (by omega)
    · rfl
theorem inner_far (lt : Fl → Fl → Bool) : ∀ (j : Nat) (d : Array Fl), j < d.size → (insInner lt 0 j d).size = d.size ∧ (∀ q, j < q → (insInner lt 0 j d)[q]! = d[q]!) ∧ ∀ B : Int, (∀ p, p ≤ j → (d[p]!).nm < B) → ∀ p, p ≤ j → ((insInner lt 0 j d)[p]!).nm < B
  | 0, d, _ => ⟨rfl, fun _ _ => rfl, fun _ h => h⟩
  | j + 1, d, hj => by
    unfold insInner
    split
    · have g := swp_get d hj (show j < d.size by omega)
      obtain ⟨h1, h2, h3⟩ := inner_far lt j (swp d (j + 1) j) (by rw [swp_size]; omega)
      refine ⟨by rw [h1, swp_size], fun q hq => ?_, fun B hB p hp => ?_⟩
      · rw [h2 q (by omega), g, if_neg (by omega), if_neg (by omega)]
      · have hs : ∀ p, p ≤ j + 1 → ((swp d (j + 1) j)[p]!).nm < B := fun p hp => by
          rw [g]
          split
          · exact hB _ (by omega)
          · split
            · exact hB _ (by omega)
            · exact hB _ hp
        by_cases e : p ≤ j
        · exact h3 B (fun p hp => hs p (by omega)) p e
        · rw [h2 p (by omega)]
          exact hs p hp
    · exact ⟨rfl, fun _ _ => rfl, fun _ h => h⟩
/-- What is not sorted in yet has greater names. -/
def Asc (i : Nat) (d : Array Fl) : Prop := ∀ p q, p < q → i ≤ q → q < d.size → (d[p]!).nm < (d[q]!).nm
theorem outer_eq (lt1 lt2 : Fl → Fl → Bool) (hlt : ∀ a b : Fl, b.nm < a.nm → lt1 a b = lt2 a b) : ∀ (n i : Nat) (d : Array Fl), d.size - i = n → Asc i d → insOuter lt1 0 d.size i d = insOuter lt2 0 d.size i d
  | 0, i, d, hn, _ => by
    have e : ∀ lt : Fl → Fl → Bool, insOuter lt 0 d.size i d = d := fun lt => by rw [insOuter, if_neg (by omega)]
    rw [e, e]
  | n + 1, i, d, hn, ha => by
    have hi : i < d.size := by omega
    have e : ∀ lt : Fl → Fl → Bool, insOuter lt 0 d.size i d = insOuter lt 0 d.size (i + 1) (insInner lt 0 i d) := fun lt => by rw [insOuter, if_pos hi]
    rw [e, e, inner_eq lt1 lt2 hlt i d hi (fun p hp => ha p i hp (Nat.le_refl _) hi)]
    obtain ⟨h1, h2, h3⟩ := inner_far lt2 i d hi
    have := outer_eq lt1 lt2 hlt n (i + 1) (insInner lt2 0 i d) (by omega) fun p q hpq hiq hq => by
      rw [h2 q (by omega)]
      rw [h1] at hq
      by_cases e : p ≤ i
      · exact h3 _ (fun p hp => ha p q (by omega) (by omega) hq) p e
      · rw [h2 p (by omega)]
        exact ha p q hpq (by omega) hq
    rw [h1] at this
    exact this
theorem toArr_get {xs : List Fl} {i : Nat} (h : i < xs.length) : xs.toArray[i]! = flAt xs i := by
  unfold flAt
  simp [h, List.getD_eq_getElem?_getD]
theorem passO_at {rs : List Int} {base : Int} {i : Nat} (h : i < rs.length) : flAt (passO rs base) i = passAt rs base i := by
  unfold flAt passO
  rw [List.getD_eq_getElem?_getD, List.getElem?_map, List.getElem?_range h]; rfl
/-- The sort of the flows to the receivers. -/
theorem sorted_pass {rs : List Int} (base : Int) (h : rs.all inName = true) : (insertionSort (ltOf cmpT) (passO rs base).toArray 0 (passO rs base).toArray.size).toList = passL rs base := by
  have hasc : Asc 1 (passO rs base).toArray := fun p q hpq _ hq => by
    have hq' : q < (passO rs base).length := by simpa using hq
    rw [toArr_get hq', toArr_get (by omega)]
    rw [passO_len] at hq'
    rw [passO_at hq', passO_at (by omega)]
    show base + (p : Int) < base + (q : Int)
    omega
  have he : insertionSort (ltOf cmpT) (passO rs base).toArray 0 (passO rs base).toArray.size = insertionSort ltX (passO rs base).toArray 0 (passO rs base).toArray.size :=
    outer_eq _ _ (fun _ _ => ltT_X) _ 1 _ rfl hasc
  rw [he]
  obtain ⟨hp, hs⟩ := insertionSort_holds (lt := ltX) swoX (passO rs base).toArray 0 (passO rs base).toArray.size (Nat.zero_le _) (Nat.le_refl _)
  generalize insertionSort ltX (passO rs base).toArray 0 (passO rs base).toArray.size = d at *
  obtain ⟨h1, _, h3⟩ := hp
  have hsz : d.size = (passO rs base).length := by simpa using h1
  refine pass_unique h ?_ ?_
  · have e1 : d.extract 0 (passO rs base).toArray.size = d := by rw [← h1]; simp
    have e2 : (passO rs base).toArray.extract 0 (passO rs base).toArray.size = (passO rs base).toArray := by simp
    rw [e1, e2] at h3
    exact h3
  · refine List.pairwise_iff_getElem.2 fun i j hi hj hij => ?_
    have hi' : i < d.size := by simpa using hi
    have hj' : j < d.size := by simpa using hj
    have := hs i j (Nat.zero_le _) hij (by rw [← h1]; exact hj')
    have ei : d[i]! = d.toList[i] := by simp [hi']
    have ej : d[j]! = d.toList[j] := by simp [hj']
    rw [ei, ej] at this
    exact this
/-- A row of flows as the library's sort has it. -/
theorem holds3 {w : World} {g : Nat} {cur : Array Value} {t : TypeId} {ss : List Fl} (hh : w.heap[g]? = some (.cells cur t (0, 0))) (hl : cur.toList.take (ss.length * 3) = ss.flatMap Fl.cells) : HoldsK Fl.cells 3 w g 0 ss.toArray := by
  intro j hj
  rw [size_flatK] at hj
  have hj' : j < ss.length * 3 := by simpa using hj
  rw [get_flatK _ _ _ _ hj]
  refine ⟨?_, by simp [World.frozen?, hh]⟩
  rw [Nat.zero_add, cell_of_row w g j cur t (0, 0) hh, ← Array.getElem?_toList]
  have hi : j / 3 < ss.length := by omega
  have h1 : (ss.flatMap Fl.cells)[j / 3 * 3 + j % 3]? = (Fl.cells ss[j / 3])[j % 3]? := Sl.flat_at cells_len (List.getElem?_eq_getElem hi) (by omega)
  have h2 : j / 3 * 3 + j % 3 = j := by omega
  rw [h2, ← hl, List.getElem?_take_of_lt hj'] at h1
  rw [h1]
  have e : (ss.toArray)[j / 3]! = ss[j / 3] := by simp [hi]
  rw [e]
  rcases (show j % 3 = 0 ∨ j % 3 = 1 ∨ j % 3 = 2 by omega) with q | q | q <;> rw [q] <;> rfl
theorem holds3_row {w : World} {g cap : Nat} {d : Array Fl} (h : HoldsK Fl.cells 3 w g 0 d) (hg : g < w.heap.size) (hc : d.size ≤ cap) (hm : cap ≤ maxLen) : FlsO g (g + 1) w (some ⟨g, 0, none⟩) d.toList.length cap d.toList := by
  refine ⟨⟨Sl.flat_len cells_len _, by simpa using hc, hm, fun _ => ⟨g, 0, rfl, Nat.le_refl _, by omega, hg, fun j v hj => ?_⟩⟩, fun b off _ e j hj => ?_⟩
  · have hjl := (List.getElem?_eq_some_iff.1 hj).1
    rw [Sl.flat_len cells_len] at hjl
    have hi : j / 3 < d.size := by simp at hjl; omega
    have h1 := (h.cell hi (show j % 3 < 3 by omega)).1
    have h2 : 0 + j / 3 * 3 + j % 3 = 0 + j := by omega
    rw [h2] at h1
    rw [h1]
    have h3 : (d.toList.flatMap Fl.cells)[j / 3 * 3 + j % 3]? = (Fl.cells d[j / 3])[j % 3]? := Sl.flat_at cells_len (by simp [hi]) (by omega)
    have h4 : j / 3 * 3 + j % 3 = j := by omega
    rw [h4, hj] at h3
    rw [h3]
    have e : d[j / 3]! = d[j / 3] := by simp [hi]
    rw [e]
    rcases (show j % 3 = 0 ∨ j % 3 = 1 ∨ j % 3 = 2 by omega) with q | q | q <;> rw [q] <;> rfl
  · simp only [Option.some.injEq, Addr.mk.injEq, and_true] at e
    obtain ⟨rfl, rfl⟩ := e
    have hi : j / 3 < d.size := by simp at hj; omega
    have h1 := (h.cell hi (show j % 3 < 3 by omega)).2
    have h2 : 0 + j / 3 * 3 + j % 3 = 0 + j := by omega
    rw [h2] at h1
    exact h1
theorem grown_sort3 {w : World} {g n : Nat} {os : Array Obj} (d : Array Fl) : w.grownBy (sortWorldK Fl.cells 3 w g 0 n d os) (some g) := by
  refine ⟨rfl, rfl, rfl, ?_, fun k hk hne => ?_⟩
  · exact size_sortWorldK_c Fl.cells 3 w g 0 n d os
  · unfold sortWorldK
    have hk2 : k < (putRowK Fl.cells 3 (Sort.ahead w n) g 0 d).heap.size := by rw [size_putRowK]; exact hk
    rw [heap_grow_old _ _ hk2]
    have : g ≠ k := fun e => hne (by rw [e])
    simp [putRowK, putRow, mapBlock, Sort.ahead, Array.getElem?_modify, this]
end Ss13
end Go.Proofs.Ytcbhjnjallnidab
