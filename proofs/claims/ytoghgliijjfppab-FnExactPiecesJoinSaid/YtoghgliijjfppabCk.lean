/-
  Lists of lists in memory: a place given a new list, copies as slots, blocks.
-/
import Derived.Test.YtoghgliijjfppabGk
import Derived.Test.YtoghgliijjfppabSg
import Derived.BigQuiet
import Derived.Deep.QuietTactic
import Derived.Deep.RegionHeld3
import Derived.Deep.Cut
namespace Go.Proofs.Ytoghgliijjfppab
open Go.RowKit
namespace Ck
open Il Sl Fo Cm Cs Sg Gm

theorem at_succ {P : Nat → Prop} {k : Nat} (h : ∀ i, i < k → P i) (h2 : P k) : ∀ i, i < k + 1 → P i := fun i hi => by
  rcases Nat.lt_or_ge i k with h3 | h3
  · exact h i h3
  · obtain rfl : i = k := by omega
    exact h2
theorem below_dr {K d : Nat} {w w' : World} (h : Below K w w') : Below K w (w'.drewN d) := ⟨h.os, h.tape, h.output, h.size, h.block⟩

theorem three_blocks (w : World) (a b c : Array Value) (t1 t2 t3 : TypeId) :
    Blk (((w.alloc (.cells a t1)).alloc (.cells b t2)).alloc (.cells c t3)) w.heap.size a t1 ∧ Blk (((w.alloc (.cells a t1)).alloc (.cells b t2)).alloc (.cells c t3)) (w.heap.size + 1) b t2 ∧ Blk (((w.alloc (.cells a t1)).alloc (.cells b t2)).alloc (.cells c t3)) (w.heap.size + 1 + 1) c t3 ∧
    (((w.alloc (.cells a t1)).alloc (.cells b t2)).alloc (.cells c t3)).heap.size = w.heap.size + 1 + 1 + 1 ∧ Below w.heap.size w (((w.alloc (.cells a t1)).alloc (.cells b t2)).alloc (.cells c t3)) := by
  have h1 := (Below.refl w.heap.size w).alloc (Nat.le_refl _) (.cells a t1)
  have h2 := h1.alloc h1.size (.cells b t2)
  have h3 := h2.alloc h2.size (.cells c t3)
  have e1 : (w.alloc (.cells a t1)).heap.size = w.heap.size + 1 := by simp
  have e2 : ((w.alloc (.cells a t1)).alloc (.cells b t2)).heap.size = w.heap.size + 1 + 1 := by simp
  refine ⟨?_, ?_, ?_, by simp, h3⟩
  · exact (Below.heap_alloc _ _ _ (by omega)).trans ((Below.heap_alloc _ _ _ (by omega)).trans (heap_alloc_new _ _))
  · have := heap_alloc_new (w.alloc (.cells a t1)) (.cells b t2)
    rw [e1] at this
    exact (Below.heap_alloc _ _ _ (by omega)).trans this
  · have := heap_alloc_new ((w.alloc (.cells a t1)).alloc (.cells b t2)) (.cells c t3)
    rw [e2] at this
    exact this
theorem two_blocks (w : World) (a b : Array Value) (t1 t2 : TypeId) :
    Blk ((w.alloc (.cells a t1)).alloc (.cells b t2)) w.heap.size a t1 ∧ Blk ((w.alloc (.cells a t1)).alloc (.cells b t2)) (w.heap.size + 1) b t2 ∧ ((w.alloc (.cells a t1)).alloc (.cells b t2)).heap.size = w.heap.size + 1 + 1 ∧ Below w.heap.size w ((w.alloc (.cells a t1)).alloc (.cells b t2)) := by
  have h1 := (Below.refl w.heap.size w).alloc (Nat.le_refl _) (.cells a t1)
  have h2 := h1.alloc h1.size (.cells b t2)
  have e1 : (w.alloc (.cells a t1)).heap.size = w.heap.size + 1 := by simp
  refine ⟨(Below.heap_alloc _ _ _ (by omega)).trans (heap_alloc_new _ _), ?_, by simp, h2⟩
  have := heap_alloc_new (w.alloc (.cells a t1)) (.cells b t2)
  rw [e1] at this
  exact this
theorem take_slot {sl : List (List Int)} {j : Nat} (h : j < sl.length) : sl.take j ++ [slAt sl j] = sl.take (j + 1) := by
  rw [List.take_succ_eq_append_getElem h]
  unfold slAt
  rw [List.getD_eq_getElem?_getD, List.getElem?_eq_getElem h]
  rfl
/-- A clone of a list by append to a new one, as a slot. -/
theorem sk_new {lo B : Nat} {W w5 : World} {g5 : Option Nat} {v5 : Value} {xs : List Int} (hd : Dest 3 1 g5 w5 v5 xs.length (xs.map (Value.int .i64))) (hg : g5 = some B ∨ ∃ k, g5 = some k ∧ W.heap.size ≤ k) (h1 : lo ≤ B) (h2 : lo ≤ W.heap.size) :
    ∃ A c b, v5 = .slice A xs.length c ∧ SkO w5 ⟨xs, A, c, b⟩ ∧ ∀ y ∈ fpk ⟨xs, A, c, b⟩, lo ≤ y := by
  obtain ⟨A, c, b, rfl, ho, hk⟩ := dest_ints hd
  refine ⟨A, c, b, rfl, ho, fun y hy => ?_⟩
  obtain ⟨hn, rfl⟩ := mem_fp.1 hy
  dsimp only at hn ⊢
  obtain ⟨k, e, _⟩ := Sg.dest_blk hd hn
  have h3 := hk k e
  rcases hg with h | ⟨q, h, hq⟩
  · rw [e] at h; simp at h; omega
  · rw [e] at h; simp at h; omega
/-- One place of owned slots is given a new slice. -/
theorem setN {w : World} {A : Option Addr} {n c : Nat} {xss : List (List Int)} {G : List (List Nat)} {k : Nat} (h : StsO w A n c xss G) (hk : k < n) : ∃ b off H e, A = some ⟨b, off, none⟩ ∧ b < w.heap.size ∧ (∃ f ∈ G, b ∈ f) ∧ w.cell? ⟨b, off + k, none⟩ = some (.slice H (slAt xss k).length e) ∧ w.frozen? ⟨b, off + k, none⟩ = false ∧
    ∀ (w' : World) (x : Sk), w.heap.size ≤ w'.heap.size → (∀ f ∈ G, ∀ y ∈ f, w'.heap[y]? = w.heap[y]?) → SkO w' x → (∀ y ∈ fpk x, w.heap.size ≤ y ∧ y < w'.heap.size) →
      ∃ G', StsO (w'.setCell ⟨b, off + k, none⟩ x.cell) A n c (xss.set k x.xs) G' ∧ ∀ f ∈ G', ∀ y ∈ f, (∃ g ∈ G, y ∈ g) ∨ y ∈ fpk x := by
  have hl := h.len_
  have hlt := h.lt_
  obtain ⟨b, ss, rfl, h2, h3, rfl, h5⟩ := h
  rw [List.length_map] at hl
  obtain ⟨s, hx, hm, hs⟩ := sk_at (ss := ss) (k := k) (by omega)
  obtain ⟨b', off, rfl, q1, q2, hz, hc⟩ := h2.1.2.2.2 (by omega)
  obtain rfl : b' = b := by omega
  have hkl := (List.getElem?_eq_some_iff.1 hx).1
  have hbm : b' ∈ fp n b' := mem_fp.2 ⟨by omega, rfl⟩
  refine ⟨b', off, s.A, s.c, rfl, hz, ⟨_, List.mem_cons_self .., hbm⟩, ?_, h2.2 b' off (by omega) rfl k (by omega), fun w' x hsw hkp hxo hxf => ?_⟩
  · rw [hs]; exact hc k _ (by rw [List.getElem?_map, hx]; rfl)
  have h2' := rowO_keepC h2 hsw fun _ => hkp _ (List.mem_cons_self ..) b' hbm
  have hput := rowO_put h2' (i := k) (by omega) x.cell
  have hsz : (w'.setCell ⟨b', off + k, none⟩ x.cell).heap.size = w'.heap.size := by simp [World.setCell]
  have hset : ∀ t ∈ ss.set k x, t ∈ ss ∨ t = x := fun t ht => List.mem_or_eq_of_mem_set ht
  refine ⟨fp n b' :: (ss.set k x).map fpk, ⟨b', ss.set k x, by rw [List.map_set], by rw [List.map_set]; exact hput, fun t ht => ?_, rfl, ?_⟩, ?_⟩
  · obtain ⟨j, hj, e⟩ := List.getElem_of_mem ht
    rw [List.length_set] at hj
    by_cases hjk : j = k
    · subst hjk
      rw [List.getElem_set_self] at e
      rw [← e]
      exact hxo.keepC (by omega) fun y hy => Below.heap_setCell _ _ _ _ (show y ≠ b' by have := hxf y hy; omega)
    · rw [List.getElem_set_ne (by omega)] at e
      have htj : ss[j]? = some t := by rw [List.getElem?_eq_getElem hj, e]
      have hmt := List.mem_of_getElem? htj
      have hno := (foot_at h5 htj (by omega)).1
      exact (h3 t hmt).keepC (by omega) fun y hyt => (Below.heap_setCell _ _ _ _ (hno y hyt)).trans (hkp _ (List.mem_cons_of_mem _ (List.mem_map_of_mem hmt)) y hyt)
  · unfold Foot at h5 ⊢
    rw [List.pairwise_cons] at h5 ⊢
    refine ⟨fun f hf y q1 q2 => ?_, ?_⟩
    · obtain ⟨t, ht, rfl⟩ := List.mem_map.1 hf
      rcases hset t ht with ht | rfl
      · exact h5.1 _ (List.mem_map_of_mem ht) y q1 q2
      · have := (mem_fp.1 q1).2
        have := hxf y q2
        omega
    · rw [List.map_set]
      refine List.pairwise_iff_getElem.2 fun i j hi hj hij => ?_
      rw [List.length_set] at hi hj
      have hold := List.pairwise_iff_getElem.1 h5.2 i j hi hj hij
      rw [List.getElem_set, List.getElem_set]
      split
      · rename_i e1
        rw [if_neg (by omega)]
        intro y q1 q2
        have := hxf y q1
        have := hlt _ (List.mem_cons_of_mem _ (List.getElem_mem hj)) y q2
        omega
      · split
        · intro y q1 q2
          have := hxf y q2
          have := hlt _ (List.mem_cons_of_mem _ (List.getElem_mem hi)) y q1
          omega
        · exact hold
  · intro f hf y hy
    rcases List.mem_cons.1 hf with rfl | hf
    · exact .inl ⟨_, List.mem_cons_self .., hy⟩
    · obtain ⟨t, ht, rfl⟩ := List.mem_map.1 hf
      rcases hset t ht with ht | rfl
      · exact .inl ⟨_, List.mem_cons_of_mem _ (List.mem_map_of_mem ht), hy⟩
      · exact .inr hy
end Ck
end Go.Proofs.Ytoghgliijjfppab
