/-
  Draws of chapter 21: a directory.
-/
import Derived.Test.YtfnbjojaflloaabDr5
import Derived.Test.YtfnbjojaflloaabEd
import Derived.Test.YtfnbjojaflloaabSp9d
import Derived.Deep.RegionLaw
import Derived.Deep.RegionHeld3
import Derived.Deep.Cut
import Derived.Laws.ResultCell
namespace Go.Proofs.Ytfnbjojaflloaab
open Go.RowKit
namespace Rd
open Il Sl Ec Dm Sp9 Gm

theorem enAt_set {es : List En} {i : Nat} {y : En} (hi : i < es.length) (k : Nat) : enAt (es.set i y) k = if k = i then y else enAt es k := by
  unfold enAt
  rw [List.getD_eq_getElem?_getD, List.getD_eq_getElem?_getD, List.getElem?_set]
  by_cases h : k = i
  · subst h
    rw [if_pos rfl, if_pos rfl, if_pos hi]; rfl
  · rw [if_neg (fun e => h e.symm), if_neg h]
/-- What is known of the entries of a drawn directory. -/
def Good (es : List En) : Prop := es.length ≤ 6 ∧ WB es ∧ -1 ≤ wtL [] es
def Nice (es : List En) : Prop := es.length ≤ 6 ∧ ∀ k, 0 ≤ (enAt es k).wt ∧ (enAt es k).wt ≤ 4
theorem wtI_nil (es : List En) (k : Nat) : wtI [] es k = (enAt es k).wt := wtI_no rfl
theorem nice_good {es : List En} (h : Nice es) : Good es := by
  refine ⟨h.1, ⟨by have := h.1; omega, fun k => ?_⟩, ?_⟩
  · have := h.2 k; omega
  · have : ∀ n, 0 ≤ wtTo [] es n := fun n => by
      induction n with
      | zero => exact Int.le_refl 0
      | succ n ih => rw [wtTo_next, wtI_nil]; have := (h.2 n).1; omega
    have := this es.length
    unfold wtL
    omega
theorem nice_set {es : List En} (h : Nice es) {i : Nat} (hi : i < es.length) {y : En} (hy : -1 ≤ y.wt ∧ y.wt ≤ 10) : Good (es.set i y) := by
  refine ⟨by rw [List.length_set]; exact h.1, ⟨by rw [List.length_set]; have := h.1; omega, fun k => ?_⟩, ?_⟩
  · rw [enAt_set hi]
    by_cases e : k = i
    · rw [if_pos e]; omega
    · rw [if_neg e]; have := h.2 k; omega
  · have : ∀ n, (if i < n then -1 else 0) ≤ wtTo [] (es.set i y) n := fun n => by
      induction n with
      | zero => rw [if_neg (by omega)]; exact Int.le_refl 0
      | succ n ih =>
        rw [wtTo_next, wtI_nil, enAt_set hi]
        by_cases e : n = i
        · subst e
          rw [if_neg (by omega)] at ih
          rw [if_pos rfl, if_pos (by omega)]
          omega
        · rw [if_neg e]
          have := (h.2 n).1
          by_cases h2 : i < n
          · rw [if_pos h2] at ih; rw [if_pos (by omega)]; omega
          · rw [if_neg h2] at ih; rw [if_neg (by omega)]; omega
    have := this (es.set i y).length
    unfold wtL
    split at this <;> omega
theorem nice_app {es : List En} (h : Nice es) (hl : es.length < 6) {y : En} (hy : 0 ≤ y.wt ∧ y.wt ≤ 4) : Nice (es ++ [y]) := by
  refine ⟨by rw [List.length_append, List.length_singleton]; omega, fun k => ?_⟩
  have h2 := h.2 k
  unfold enAt at *
  rw [List.getD_eq_getElem?_getD, List.getElem?_append]
  rw [List.getD_eq_getElem?_getD] at h2
  by_cases e : k < es.length
  · rw [if_pos e]; exact h2
  · rw [if_neg e]
    by_cases e2 : k - es.length = 0
    · rw [e2]; exact hy
    · rw [List.getElem?_eq_none (by rw [List.length_singleton]; omega)]
      exact ⟨Int.le_refl 0, show (0 : Int) ≤ 4 by decide⟩
theorem nice_nil : Nice [] := ⟨Nat.zero_le _, fun k => by unfold enAt; rw [List.getD_eq_getElem?_getD, List.getElem?_nil]; exact ⟨Int.le_refl 0, show (0 : Int) ≤ 4 by decide⟩⟩
/-- A directory is drawn. -/
def DirPost (rb N : Nat) (w : World) (e : Ending) (w' : World) : Prop :=
  ∃ A k ep es, e = .returned (.agg #[.int .i64 ep, .slice A es.length k]) ∧ Good es ∧ EnsO w.heap.size w'.heap.size w' A es.length k es ∧ Reader w' rb N ∧ w.grownBy w' (some rb)
/-- While a directory is drawn. -/
def DiRel (rb N bd : Nat) (w wr : World) (ep : Int) (A : Option Addr) (k : Nat) (es : List En) : Prop :=
  DBox wr w.heap.size 0 none 0 0 ∧ DBox wr bd ep A es.length k ∧ w.heap.size < bd ∧ Reader wr rb N ∧ w.grownBy wr (some rb) ∧ ∃ g, Gat g wr (.slice A es.length k) es ∧ g ≠ bd ∧ w.heap.size < g
theorem dbox_same {w w' : World} {b : Nat} {ep : Int} {A : Option Addr} {n k : Nat} (h : DBox w b ep A n k) (hs : w'.heap[b]? = w.heap[b]?) : DBox w' b ep A n k := hs.trans h
theorem dbox_set0 {w : World} {b : Nat} {ep : Int} {A : Option Addr} {n k : Nat} (h : DBox w b ep A n k) (v : Int) : DBox (w.setCell ⟨b, 0, none⟩ (.int .i64 v)) b v A n k := by
  unfold DBox at *
  simp [World.setCell, Array.getElem?_modify, h]
theorem dbox_set1 {w : World} {b : Nat} {ep : Int} {A : Option Addr} {n k : Nat} (h : DBox w b ep A n k) (A' : Option Addr) (n' k' : Nat) : DBox (w.setCell ⟨b, 1, none⟩ (.slice A' n' k')) b ep A' n' k' := by
  unfold DBox at *
  simp [World.setCell, Array.getElem?_modify, h]
theorem dbox_far {w : World} {b q : Nat} {ep : Int} {A : Option Addr} {n k : Nat} (h : DBox w b ep A n k) (hq : q ≠ b) (i : Nat) (v : Value) : (w.setCell ⟨q, i, none⟩ v).cell? ⟨b, 1, none⟩ = some (.slice A n k) :=
  (dbox_same h (Below.heap_setCell _ _ _ _ (fun e => hq e.symm))).cells.2.1
theorem grown_setO {w w' : World} {rb : Nat} {p : Addr} {v : Value} (h : w.grownBy w' (some rb)) (hp : w.heap.size ≤ p.block) : w.grownBy (w'.setCell p v) (some rb) :=
  ⟨h.os, h.tape, h.output, by simpa [World.setCell] using h.size, fun i hi hne => (Below.heap_setCell w' p v i (show i ≠ p.block by omega)).trans (h.block i hi hne)⟩
section
variable {rb N bd : Nat} {w wr w' : World} {ep : Int} {A : Option Addr} {k : Nat} {es : List En}
theorem DiRel.rd (h : DiRel rb N bd w wr ep A k es) : Reader wr rb N := h.2.2.2.1
theorem DiRel.box (h : DiRel rb N bd w wr ep A k es) : DBox wr bd ep A es.length k := h.2.1
theorem DiRel.mono {M : Nat} (h : DiRel rb N bd w wr ep A k es) (hN : N ≤ M) : DiRel rb M bd w wr ep A k es := ⟨h.1, h.2.1, h.2.2.1, h.2.2.2.1.mono hN, h.2.2.2.2⟩
theorem DiRel.grown {M : Nat} (h : DiRel rb N bd w wr ep A k es) (hg : wr.grownBy w' (some rb)) (hr : Reader w' rb M) (hlt : rb < w.heap.size) : DiRel rb M bd w w' ep A k es := by
  obtain ⟨h1, h2, h3, h4, h5, g, h6, h7, h8⟩ := h
  have hf : ∀ b, b < wr.heap.size → w.heap.size ≤ b → w'.heap[b]? = wr.heap[b]? := fun b hb hb2 => hg.block b hb (by simp; omega)
  exact ⟨dbox_same h1 (hf _ h1.lt (Nat.le_refl _)), dbox_same h2 (hf _ h2.lt (by omega)), h3, hr, grown_trans h5 hg, g, h6.block (hf _ h6.lt (by omega)), h7, h8⟩
theorem DiRel.alloc (h : DiRel rb N bd w wr ep A k es) (hlt : rb < w.heap.size) (o : Obj) : DiRel rb N bd w (wr.alloc o) ep A k es :=
  h.grown (grown_alloc (World.grownBy.refl wr (some rb)) o) (h.rd.alloc o) hlt
theorem DiRel.drew (h : DiRel rb N bd w wr ep A k es) : DiRel rb N bd w wr.drew ep A k es := by
  obtain ⟨h1, h2, h3, h4, h5, g, h6, h7, h8⟩ := h
  exact ⟨h1, h2, h3, h4, ⟨h5.os, h5.tape, h5.output, h5.size, h5.block⟩, g, h6.block rfl, h7, h8⟩
/-- An entry is appended. -/
theorem DiRel.app {g g' : Nat} {A' : Option Addr} {k' : Nat} {c : En} (h1 : DBox wr w.heap.size 0 none 0 0) (h2 : DBox wr bd ep A es.length k) (h3 : w.heap.size < bd) (h4 : Reader wr rb N) (h5 : w.grownBy wr (some rb)) (h7 : g ≠ bd) (h8 : w.heap.size < g) (h9 : g < wr.heap.size)
    (hN : Gat g' w' (.slice A' (es ++ [c]).length k') (es ++ [c])) (hW : g' = g ∨ wr.heap.size ≤ g') (hG : wr.grownBy w' (some g)) (hlt : rb < w.heap.size) : DiRel rb N bd w (w'.setCell ⟨bd, 1, none⟩ (.slice A' (es ++ [c]).length k')) ep A' k' (es ++ [c]) := by
  have hb2 := h2.lt
  have hne : g' ≠ bd := by omega
  have b1 : DBox w' w.heap.size 0 none 0 0 := dbox_same h1 (hG.block _ h1.lt (by simp; omega))
  have b2 : DBox w' bd ep A es.length k := dbox_same h2 (hG.block _ h2.lt (by simp; omega))
  refine ⟨dbox_same b1 (Below.heap_setCell _ _ _ _ (show w.heap.size ≠ bd by omega)), dbox_set1 b2 _ _ _, h3, ?_, grown_setO (grown_trans' h5 hG (fun q e => by cases e; omega)) (show w.heap.size ≤ bd by omega), g', hN.block (Below.heap_setCell _ _ _ _ hne), hne, by have := h5.size; omega⟩
  refine (h4.keep (w' := w') fun i hi => hG.block i (by have := h4.lt; omega) (by simp; omega)).keep fun i hi => Below.heap_setCell _ _ _ _ (show i ≠ bd by omega)
end
/-- A directory that is drawn to its end. -/
def DiFin (rb N bd : Nat) (w wF : World) (ep : Int) (A : Option Addr) (n k : Nat) (es : List En) : Prop :=
  DBox wF w.heap.size 0 none 0 0 ∧ DBox wF bd ep A n k ∧ n = es.length ∧ EnsO (w.heap.size + 1) wF.heap.size wF A n k es ∧ Reader wF rb N ∧ w.grownBy wF (some rb)
section
variable {rb N bd : Nat} {w wr w' : World} {ep : Int} {A : Option Addr} {k : Nat} {es : List En}
theorem DiRel.ens (h : DiRel rb N bd w wr ep A k es) : EnsO (w.heap.size + 1) wr.heap.size wr A es.length k es := by
  obtain ⟨h1, h2, h3, h4, h5, g, h6, h7, h8⟩ := h
  obtain ⟨A', c, e, ho⟩ := h6.own
  simp only [Value.slice.injEq, true_and] at e
  obtain ⟨rfl, rfl⟩ := e
  exact ho.mono (by omega) (by have := h6.lt; omega)
theorem DiRel.fin (h : DiRel rb N bd w wr ep A k es) : DiFin rb N bd w wr ep A es.length k es := ⟨h.1, h.2.1, rfl, h.ens, h.2.2.2.1, h.2.2.2.2.1⟩
theorem DiRel.at_ (h : DiRel rb N bd w wr ep A k es) {i : Nat} (hi : i < es.length) : ∃ g off, A = some ⟨g, off, none⟩ ∧ g ≠ bd ∧ w.heap.size < g ∧ g < wr.heap.size ∧
    (wr.cell? ⟨g, off + i * 3, none⟩ = some (.int .i64 (enAt es i).nm) ∧ wr.cell? ⟨g, off + i * 3 + 1, none⟩ = some (.int .i64 (enAt es i).pu) ∧ wr.cell? ⟨g, off + i * 3 + 2, none⟩ = some (.int .i64 (enAt es i).wt)) ∧
    (wr.frozen? ⟨g, off + i * 3, none⟩ = false ∧ wr.frozen? ⟨g, off + i * 3 + 1, none⟩ = false ∧ wr.frozen? ⟨g, off + i * 3 + 2, none⟩ = false) := by
  obtain ⟨h1, h2, h3, h4, h5, g, h6, h7, h8⟩ := h
  obtain ⟨A', c, e, ho⟩ := h6.own
  simp only [Value.slice.injEq, true_and] at e
  obtain ⟨rfl, rfl⟩ := e
  obtain ⟨b, off, rfl, hb1, hb2, hb3, c0, c1, c2⟩ := ho.row_.at_ hi
  obtain rfl : b = g := by omega
  exact ⟨b, off, rfl, h7, h8, hb3, ⟨c0, c1, c2⟩, ho.free hi⟩
theorem DiRel.put {b off : Nat} (h : DiRel rb N bd w wr ep (some ⟨b, off, none⟩) k es) (hlt : rb < w.heap.size) {i j : Nat} (hi : i < es.length) (hj : j < 3) (y : En) (v : Value) (hy : y.cells = (enAt es i).cells.set j v) :
    DiFin rb N bd w (wr.setCell ⟨b, off + i * 3 + j, none⟩ v) ep (some ⟨b, off, none⟩) es.length k (es.set i y) := by
  obtain ⟨g, o2, e, q1, q2, q3, _, _⟩ := h.at_ hi
  simp only [Option.some.injEq, Addr.mk.injEq, and_true] at e
  obtain ⟨rfl, rfl⟩ := e
  have hs := EnsO.set1 h.ens hi y hj hy
  rw [← Nat.add_assoc] at hs
  obtain ⟨h1, h2, h3, h4, h5, _⟩ := h
  refine ⟨dbox_same h1 (Below.heap_setCell _ _ _ _ (show w.heap.size ≠ b by omega)), dbox_same h2 (Below.heap_setCell _ _ _ _ (show bd ≠ b by omega)), by rw [List.length_set], hs.mono (Nat.le_refl _) (Nat.le_of_eq (by simp [World.setCell])), h4.keep fun i hi => Below.heap_setCell _ _ _ _ (show i ≠ b by omega), grown_setO h5 (show w.heap.size ≤ b by omega)⟩
theorem DiRel.setEp (h : DiRel rb N bd w wr ep A k es) (hlt : rb < w.heap.size) (v : Int) : DiFin rb N bd w (wr.setCell ⟨bd, 0, none⟩ (.int .i64 v)) v A es.length k es := by
  have hf := h.ens
  obtain ⟨h1, h2, h3, h4, h5, g, h6, h7, h8⟩ := h
  obtain ⟨A', c, e, ho⟩ := h6.own
  simp only [Value.slice.injEq, true_and] at e
  obtain ⟨rfl, rfl⟩ := e
  have hsz : (wr.setCell ⟨bd, 0, none⟩ (.int .i64 v)).heap.size = wr.heap.size := by simp [World.setCell]
  refine ⟨dbox_same h1 (Below.heap_setCell _ _ _ _ (show w.heap.size ≠ bd by omega)), dbox_set0 h2 v, rfl, ?_, h4.keep fun i hi => Below.heap_setCell _ _ _ _ (show i ≠ bd by omega), grown_setO h5 (show w.heap.size ≤ bd by omega)⟩
  refine EnsO.mono (EnsO.keep ho (Nat.le_of_eq hsz.symm) fun b q1 q2 q3 => Below.heap_setCell _ _ _ _ (show b ≠ bd by omega)) (by omega) (by have := h6.lt; omega)
end
theorem DiFin.alloc {rb N bd : Nat} {w wF : World} {ep : Int} {A : Option Addr} {n k : Nat} {es : List En} (h : DiFin rb N bd w wF ep A n k es) (o : Obj) : DiFin rb N bd w (wF.alloc o) ep A n k es := by
  obtain ⟨h1, h2, h3, h4, h5, h6⟩ := h
  have hb : Below wF.heap.size wF (wF.alloc o) := (Below.refl _ _).alloc (Nat.le_refl _) o
  exact ⟨dbox_same h1 (Below.heap_alloc _ _ _ h1.lt), dbox_same h2 (Below.heap_alloc _ _ _ h2.lt), h3, EnsO.mono (h4.below hb (Nat.le_refl _)) (Nat.le_refl _) hb.size, h5.alloc o, grown_alloc h6 o⟩
theorem fin_done {rb N bd M : Nat} {w wF : World} {ep : Int} {A : Option Addr} {n k : Nat} {es : List En} (h : DiFin rb N bd w wF ep A n k es) (hg : Good es) (hlt : rb < w.heap.size) (hM : N ≤ M) (u0 u1 : Value) :
    DirPost rb M w (.returned (.agg #[.int .i64 ep, .slice A n k])) ((wF.setCell ⟨w.heap.size, 0, none⟩ u0).setCell ⟨w.heap.size, 1, none⟩ u1) := by
  obtain ⟨h1, h2, rfl, h4, h5, h6⟩ := h
  have hsz : ((wF.setCell ⟨w.heap.size, 0, none⟩ u0).setCell ⟨w.heap.size, 1, none⟩ u1).heap.size = wF.heap.size := by simp [World.setCell]
  have hoth : ∀ x, x ≠ w.heap.size → ((wF.setCell ⟨w.heap.size, 0, none⟩ u0).setCell ⟨w.heap.size, 1, none⟩ u1).heap[x]? = wF.heap[x]? := fun x hx => (Below.heap_setCell _ _ _ _ hx).trans (Below.heap_setCell _ _ _ _ hx)
  have hgr : w.grownBy ((wF.setCell ⟨w.heap.size, 0, none⟩ u0).setCell ⟨w.heap.size, 1, none⟩ u1) (some rb) := grown_setO (grown_setO h6 (Nat.le_refl _)) (Nat.le_refl _)
  generalize (wF.setCell ⟨w.heap.size, 0, none⟩ u0).setCell ⟨w.heap.size, 1, none⟩ u1 = w2 at *
  exact ⟨A, k, ep, es, rfl, hg, EnsO.mono (EnsO.keep h4 (Nat.le_of_eq hsz.symm) fun b h1 _ _ => hoth b (by omega)) (Nat.le_succ _) (Nat.le_of_eq hsz.symm), (h5.keep fun i hi => hoth i (by omega)).mono hM, hgr⟩
theorem results_cell1 {fn : Func} {p : Tmp} {ty : TypeId} (h : fn.results = #[.cell p ty]) (tmps : Array Value) (P : Program) (w : World) :
    (results fn tmps).run P w = ((asAddr (tmps.getD p undef)).run P w).andThen fun a w₁ => (loadVar ty a).run P w₁ := by
  simp only [results, h]
  simp [Sem.run_bind, Result.andThen]
theorem litW {w : World} {j : Nat} (hj : j < 3) : ∃ y : Int, (-1 ≤ y ∧ y ≤ 10) ∧ (w.alloc (.cells #[.int .i64 (-1), .int .i64 9, .int .i64 10] 3)).cell? ⟨w.heap.size, j, none⟩ = some (.int .i64 y) := by
  have hh : (w.alloc (.cells #[.int .i64 (-1), .int .i64 9, .int .i64 10] 3)).heap[w.heap.size]? = some (.cells #[.int .i64 (-1), .int .i64 9, .int .i64 10] 3 (0, 0)) := heap_alloc_new _ _
  obtain rfl | rfl | rfl : j = 0 ∨ j = 1 ∨ j = 2 := by omega
  · exact ⟨-1, by omega, by rw [cell_of_row _ _ _ _ _ _ hh]; rfl⟩
  · exact ⟨9, by omega, by rw [cell_of_row _ _ _ _ _ _ hh]; rfl⟩
  · exact ⟨10, by omega, by rw [cell_of_row _ _ _ _ _ _ hh]; rfl⟩
theorem litL {j : Nat} (hj : j < 3) : ∃ y : Int, (-1 ≤ y ∧ y ≤ 10) ∧ ∀ h : j < [Value.int .i64 (-1), Value.int .i64 9, Value.int .i64 10].length, [Value.int .i64 (-1), Value.int .i64 9, Value.int .i64 10][j]'h = .int .i64 y := by
  obtain rfl | rfl | rfl : j = 0 ∨ j = 1 ∨ j = 2 := by omega
  · exact ⟨-1, by omega, fun _ => rfl⟩
  · exact ⟨9, by omega, fun _ => rfl⟩
  · exact ⟨10, by omega, fun _ => rfl⟩
theorem litE {w : World} {j : Nat} (hj : j < 3) : ∃ y : Int, (w.alloc (.cells #[.int .i64 (-1), .int .i64 99, .int .i64 100] 3)).cell? ⟨w.heap.size, j, none⟩ = some (.int .i64 y) := by
  have hh : (w.alloc (.cells #[.int .i64 (-1), .int .i64 99, .int .i64 100] 3)).heap[w.heap.size]? = some (.cells #[.int .i64 (-1), .int .i64 99, .int .i64 100] 3 (0, 0)) := heap_alloc_new _ _
  obtain rfl | rfl | rfl : j = 0 ∨ j = 1 ∨ j = 2 := by omega
  · exact ⟨-1, by rw [cell_of_row _ _ _ _ _ _ hh]; rfl⟩
  · exact ⟨99, by rw [cell_of_row _ _ _ _ _ _ hh]; rfl⟩
  · exact ⟨100, by rw [cell_of_row _ _ _ _ _ _ hh]; rfl⟩
set_option maxRecDepth 20000 in
set_option maxHeartbeats 2000000 in
theorem l92Directory (rb N : Nat) (w : World) (hr : Reader w rb N) (hN : N ≤ 70000) :
    Calls Try.prog 46 #[.pointer (some ⟨rb, 0, none⟩)] w (DirPost rb (N + 60) w) := by
  have HR := Lib.hid (hr.alloc (.cells #[.int .i64 0, .slice none 0 0] 40))
  have hlt := hr.lt
  have K0 : Hid (DBox (w.alloc (.cells #[.int .i64 0, .slice none 0 0] 40)) w.heap.size 0 none 0 0) := heap_alloc_new _ _
  have HG0 := Lib.hid (grown_alloc (World.grownBy.refl (row := some rb) w) (.cells #[.int .i64 0, .slice none 0 0] 40))
  clear hr
  go_enter Try.func46, Try.ntmps46
  go_wp2_with fail
  ((with_reducible refine (pick rb N 20 _ HR.out (by omega) (by omega) (by omega)).mono ?_); rintro e w1 ⟨v1, rfl, hv0, hv1, r1, g1, s1⟩)
  have HD0 : Hid (DiRel rb (N + 1) (w1.heap.size + 1) w ((w1.alloc (.cells #[] 71)).alloc (.cells #[.int .i64 v1, .slice (some ⟨w1.heap.size, 0, none⟩) 0 0] 40)) v1 (some ⟨w1.heap.size, 0, none⟩) 0 []) := by
    have hk := K0.out.lt
    have hw1 := g1.size
    have k1 : DBox w1 w.heap.size 0 none 0 0 := dbox_same K0.out (g1.block _ hk (by simp; omega))
    have hk1 := k1.lt
    have ga := gat_new w1
    have s2 : (w1.alloc (.cells #[] 71)).heap.size = w1.heap.size + 1 := by simp
    have b2 : ((w1.alloc (.cells #[] 71)).alloc (.cells #[.int .i64 v1, .slice (some ⟨w1.heap.size, 0, none⟩) 0 0] 40)).heap[(w1.alloc (.cells #[] 71)).heap.size]? = _ := heap_alloc_new _ _
    rw [s2] at b2
    have q1 : DBox (w1.alloc (.cells #[] 71)) w.heap.size 0 none 0 0 := dbox_same k1 (Below.heap_alloc _ _ _ hk1)
    exact ⟨dbox_same q1 (Below.heap_alloc _ _ _ q1.lt), b2, by omega, (r1.alloc _).alloc _, grown_alloc (grown_alloc (grown_trans HG0.out g1) _) _, w1.heap.size, ga.block (Below.heap_alloc _ _ _ ga.lt), by omega, hk1⟩
  have hbd : w.heap.size < w1.heap.size + 1 := HD0.out.2.2.1
  clear r1 g1 s1 HR HG0 K0 hv0 hv1
  go_wp2
  generalize w1.heap.size + 1 = bd at *
  go_loopw [4] (fun i wr => ∃ (q : Nat) (A : Option Addr) (k : Nat) (es : List En), q ≤ 8 ∧ i = .int .i64 (q : Nat) ∧ Hid (Nice es) ∧ Hid (DiRel rb (N + 1 + 4 * q) bd w wr v1 A k es)) (fun i _ => 8 - (intOf i).toNat)
  case atStart => exact ⟨0, _, 0, [], by omega, rfl, nice_nil, HD0.out⟩
  case round =>
    obtain ⟨q, A, k, es, hq, rfl, hNI, hT⟩ := hrel
    clear HD0
    by_cases hlq : q < 8
    · have hq1 : decide ((q : Int) < 8) = true := by simp; omega
      go_wp2_with fail
      ((with_reducible refine (pick rb (N + 1 + 4 * q) 2 _ hT.out.rd (by omega) (by omega) (by omega)).mono ?_); rintro e w6 ⟨v6, rfl, hy0, hy1, r6, g6, s6⟩)
      have HD := Lib.hid (hT.out.grown g6 r6 hlt)
      have HNI := Lib.hid hNI.out
      clear r6 g6 s6 hT hNI
      by_cases hv : v6 = 0
      · subst hv
        obtain ⟨z0, z1, zf⟩ := HD.out.box.cells
        have hlen := HNI.out.1
        by_cases hl6 : es.length < 6
        · have hl6i : (es.length : Int) < 6 := by omega
          have HRD : Hid (Reader w6.drew rb (N + 1 + 4 * q + 1)) := HD.out.rd
          have HDD : Hid (DiRel rb (N + 1 + 4 * q + 1) bd w w6.drew v1 A k es) := HD.out.drew
          have hn1 : N + 1 + 4 * q + 1 ≤ 90000 := by omega
          have hn2 : N + 1 + 4 * q + 1 + 2 ≤ 100000 := by omega
          go_upto_region 6 with (fail)
          go_region_law (first
            | (obtain ⟨g8', hg8', ga8, gb8⟩ := HD8.out.2.2.2.2.2
               refine step_gApp g8' w8 _ es hg8' ⟨(q : Int), v7, v8⟩ (by omega) (.tmp 24) (.tmp 31) rfl rfl (by go_simp) (by go_simp) ?_
               intro g9 v9 w9 hN9 hW9 hG9
               obtain ⟨A9, k9, e9, _⟩ := hN9.own
               subst e9
               have HB9 := Lib.hid (dbox_same HD8.out.2.1 (hG9.block _ HD8.out.2.1.lt (by simp; omega)))
               obtain ⟨x0, x1, xf⟩ := HB9.out.cells
               have HS := Lib.hid (DiRel.app HD8.out.1 HD8.out.2.1 HD8.out.2.2.1 HD8.out.2.2.2.1 HD8.out.2.2.2.2.1 ga8 gb8 hg8'.lt hN9 hW9 hG9 hlt))
            | (go_simp; go_at_call 58; refine (pick rb (N + 1 + 4 * q + 1 + 2) 5 _ HD7.out.rd hn2 (by decide) (by decide)).mono ?_; rintro e w8 ⟨v8, rfl, hy80, hy81, r8, g8, s8⟩
               have HD8 := Lib.hid (HD7.out.grown g8 r8 hlt)
               obtain ⟨z80, z81, z8f⟩ := HD8.out.box.cells
               obtain ⟨za0, za1, zaf⟩ := (HD8.out.alloc hlt (.cells #[.int .i64 (q : Int), .int .i64 v7, .int .i64 v8] 71)).box.cells)
            | (go_simp; go_at_call 55; refine (l91Good rb (N + 1 + 4 * q + 1) _ HRD.out hn1).mono ?_; rintro e w7 ⟨v7, rfl, hy70, hy71, r7, g7⟩
               have HD7 := Lib.hid (HDD.out.grown g7 r7 hlt)
               obtain ⟨z70, z71, z7f⟩ := HD7.out.box.cells)
            | fail)
          all_goals
            have HNN : Hid (Nice (es ++ [⟨(q : Int), v7, v8⟩])) := nice_app HNI.out hl6 (y := ⟨(q : Int), v7, v8⟩) ⟨hy80, by show v8 ≤ 4; omega⟩
            have HS2 : Hid (DiRel rb (N + 1 + 4 * q + 1 + 2 + 1) bd w (w9.setCell ⟨bd, 1, none⟩ (.slice A9 (es.length + 1) k9)) v1 A9 k9 (es ++ [⟨(q : Int), v7, v8⟩])) := by
              have := HS.out
              rw [List.length_append] at this
              exact this
            clear hN9 hW9 hG9 hg8' HS HB9 HD8 HD7 HDD HRD HD HNI r8 g8 r7 g7 z0 z1 zf z70 z71 z7f z80 z81 z8f za0 za1 zaf
            go_wp2
            go_roundw
            case rel => exact ⟨q + 1, A9, k9, _, by omega, by go_num, HNN.out, HS2.out.mono (by omega)⟩
            case measure => simp [intOf]; omega
        · have hl6i : ¬ (es.length : Int) < 6 := by omega
          have hl6d : decide ((es.length : Int) < 6) = false := decide_eq_false hl6i
          go_wp2
          go_roundw
          case rel => exact ⟨q + 1, A, k, es, by omega, by go_num, HNI.out, HD.out.mono (by omega)⟩
          case measure => simp [intOf]; omega
      · have hv' : (v6 == 0) = false := by simpa using hv
        clear hv
        go_wp2
        go_roundw
        case rel => exact ⟨q + 1, A, k, es, by omega, by go_num, HNI.out, HD.out.mono (by omega)⟩
        case measure => simp [intOf]; omega
    · obtain rfl : q = 8 := by omega
      have HT := Lib.hid hT.out
      have HNI := Lib.hid hNI.out
      clear hT hNI hlq
      obtain ⟨z0, z1, zf⟩ := HT.out.box.cells
      obtain ⟨k0, k1, kf⟩ := HT.out.1.cells
      by_cases hz : es.length = 0
      · obtain rfl := List.length_eq_zero_iff.1 hz
        have HP := Lib.hid (fin_done (M := N + 60) HT.out.fin (nice_good HNI.out) hlt (by omega) (.int .i64 v1) (.slice A 0 k))
        clear hz
        go_wp2
        refine bodyPost_ret (v := .agg #[.int .i64 v1, .slice A 0 k]) ?_ rfl ?_
        · rw [results_cell1 rfl]
          go_simp
        · exact HP.out
      · have hz0 : ((es.length : Int) == 0) = false := by simp; exact fun e => hz (by rw [e]; rfl)
        have hlen := HNI.out.1
        go_wp2_with fail
        ((with_reducible refine (pick rb (N + 1 + 4 * 8) es.length _ HT.out.rd (by omega) (by omega) (by omega)).mono ?_); rintro e w6 ⟨v6, rfl, hy0, hy1, r6, g6, s6⟩)
        obtain ⟨j, rfl⟩ := Int.eq_ofNat_of_zero_le hy0
        have HD6 := Lib.hid (HT.out.grown g6 r6 hlt)
        have hj : j < es.length := by omega
        clear r6 g6 s6 HT z0 z1 zf k0 k1 kf hz0 hz
        go_wp2_with fail
        ((with_reducible refine (pick rb (N + 1 + 4 * 8 + 1) 20 _ HD6.out.rd (by omega) (by omega) (by omega)).mono ?_); rintro e w7 ⟨v7, rfl, hu0, hu1, r7, g7, s7⟩)
        have HD := Lib.hid (HD6.out.grown g7 r7 hlt)
        clear r7 g7 s7 HD6
        obtain ⟨z0, z1, zf⟩ := HD.out.box.cells
        by_cases h0 : v7 = 0
        · subst h0
          obtain ⟨b, off, rfl, hb1, hb2, hb3, ⟨c0, c1, c2⟩, f0, f1, f2⟩ := HD.out.at_ hj
          have hji : (j : Int) < (es.length : Int) := by omega
          have HDD : Hid (DiRel rb (N + 1 + 4 * 8 + 1 + 1) bd w w7.drew v1 (some ⟨b, off, none⟩) k es) := HD.out.drew
          have hbl := HD.out.2.1.lt
          have hbw := HD.out.2.2.1
          have SA : Hid (∀ w', w7.drew.grownBy w' (some rb) → w'.cell? ⟨bd, 1, none⟩ = some (.slice (some ⟨b, off, none⟩) es.length k)) := fun w' hg => (World.cell?_of_block (a := ⟨bd, 1, none⟩) (hg.block bd hbl (by simp; omega))).trans z1
          have GA : Hid (w7.drew.grownBy w7.drew (some rb)) := World.grownBy.refl w7.drew (some rb)
          have RA : Hid (Reader w7.drew rb (N + 1 + 4 * 8 + 1 + 1)) := HDD.out.rd
          have hm : N + 1 + 4 * 8 + 1 + 1 ≤ 90000 := by omega
          have hm2 : N + 1 + 4 * 8 + 1 + 1 ≤ 100000 := by omega
          have GB : Hid (w7.drew.grownBy (w7.alloc (.cells #[.int .i64 (-1), .int .i64 9, .int .i64 10] 3)).drew (some rb)) := grown_alloc GA.out (.cells #[.int .i64 (-1), .int .i64 9, .int .i64 10] 3)
          have RB : Hid (Reader (w7.alloc (.cells #[.int .i64 (-1), .int .i64 9, .int .i64 10] 3)).drew rb (N + 1 + 4 * 8 + 1 + 1)) := RA.out.alloc (.cells #[.int .i64 (-1), .int .i64 9, .int .i64 10] 3)
          have HDB : Hid (DiRel rb (N + 1 + 4 * 8 + 1 + 1) bd w (w7.alloc (.cells #[.int .i64 (-1), .int .i64 9, .int .i64 10] 3)).drew v1 (some ⟨b, off, none⟩) k es) := HDD.out.alloc hlt (.cells #[.int .i64 (-1), .int .i64 9, .int .i64 10] 3)
          go_upto_region 12 with (fail)
          obtain ⟨zb0, zb1, zbf⟩ := HDB.out.box.cells
          obtain ⟨zd0, zd1, zdf⟩ := HDD.out.box.cells
          go_region_law (first
              | (go_simp; go_at_call 58; refine (pick rb (N + 1 + 4 * 8 + 1 + 1) 3 _ RA.out hm2 (by decide) (by decide)).mono ?_; rintro e w8 ⟨v8, rfl, hx0, hx1, r8, g8, s8⟩; obtain ⟨i, rfl⟩ := Int.eq_ofNat_of_zero_le hx0
                 have hi3 : i < 3 := by omega
                 have hi3i : (i : Int) < 3 := by omega
                 have GW := Lib.hid g8
                 have GX := Lib.hid (grown_alloc GW.out (.cells #[.int .i64 (-1), .int .i64 9, .int .i64 10] 3))
                 obtain ⟨y, hy, cy⟩ := litL hi3
                 have HDF := Lib.hid (HDD.out.grown g8 r8 hlt)
                 obtain ⟨_, _, e8, _, _, _, ⟨m0, m1, m2⟩, p0, p1, p2⟩ := HDF.out.at_ hj
                 simp only [Option.some.injEq, Addr.mk.injEq, and_true] at e8
                 obtain ⟨rfl, rfl⟩ := e8
                 have HFN := Lib.hid ((HDF.out.put hlt hj (show 2 < 3 by decide) { enAt es j with wt := y } (.int .i64 y) rfl).alloc (.cells #[.int .i64 (-1), .int .i64 9, .int .i64 10] 3))
                 obtain ⟨y0, y1, yf⟩ := HDF.out.box.cells
                 obtain ⟨v0', v1', vf'⟩ := (HDF.out.alloc hlt (.cells #[.int .i64 (-1), .int .i64 9, .int .i64 10] 3)).box.cells
                 obtain ⟨_, _, e9, _, _, _, ⟨n0, n1, n2⟩, t0, t1, t2⟩ := (HDF.out.alloc hlt (.cells #[.int .i64 (-1), .int .i64 9, .int .i64 10] 3)).at_ hj
                 simp only [Option.some.injEq, Addr.mk.injEq, and_true] at e9
                 obtain ⟨rfl, rfl⟩ := e9)
              | (go_simp; go_at_call 58; refine (pick rb (N + 1 + 4 * 8 + 1 + 1) 3 _ RB.out hm2 (by decide) (by decide)).mono ?_; rintro e w8 ⟨v8, rfl, hx0, hx1, r8, g8, s8⟩; obtain ⟨i, rfl⟩ := Int.eq_ofNat_of_zero_le hx0
                 have hi3 : i < 3 := by omega
                 have hi3i : (i : Int) < 3 := by omega
                 have GW := Lib.hid (grown_trans GB.out g8)
                 obtain ⟨y, hy, cy0⟩ := litW (w := w7.drew) hi3
                 have cy : w8.cell? ⟨w7.heap.size, i, none⟩ = some (.int .i64 y) := (World.cell?_of_block (a := ⟨w7.heap.size, i, none⟩) (g8.block w7.heap.size (by simp) (by simp; omega))).trans cy0
                 have HDF := Lib.hid (HDB.out.grown g8 r8 hlt)
                 obtain ⟨_, _, e8, _, _, _, ⟨m0, m1, m2⟩, p0, p1, p2⟩ := HDF.out.at_ hj
                 simp only [Option.some.injEq, Addr.mk.injEq, and_true] at e8
                 obtain ⟨rfl, rfl⟩ := e8
                 have HFN := Lib.hid (HDF.out.put hlt hj (show 2 < 3 by decide) { enAt es j with wt := y } (.int .i64 y) rfl)
                 obtain ⟨y0, y1, yf⟩ := HDF.out.box.cells)
              | fail)
          all_goals
            have HP := Lib.hid (fin_done (M := N + 60) HFN.out (nice_set HNI.out hj (y := { enAt es j with wt := y }) hy) hlt (by omega) (.int .i64 v1) (.slice (some ⟨b, off, none⟩) es.length k))
            obtain ⟨x0, x1, xf⟩ := HFN.out.2.1.cells
            obtain ⟨u0, u1, uf⟩ := HFN.out.1.cells
            clear HDD HFN HDF HD SA z0 z1 zf c0 c1 c2 f0 f1 f2 m0 m1 m2 p0 p1 p2 GA RA GW GB RB HDB g8 r8 cy hx0 hx1
            go_wp2
            refine bodyPost_ret (v := .agg #[.int .i64 v1, .slice (some ⟨b, off, none⟩) es.length k]) ?_ rfl ?_
            · rw [results_cell1 rfl]
              go_simp
            · exact HP.out
        have h0' : (v7 == 0) = false := by simpa using h0
        by_cases h1 : v7 = 1
        · subst h1
          obtain ⟨b, off, rfl, hb1, hb2, hb3, ⟨c0, c1, c2⟩, f0, f1, f2⟩ := HD.out.at_ hj
          have hji : (j : Int) < (es.length : Int) := by omega
          have HDD : Hid (DiRel rb (N + 1 + 4 * 8 + 1 + 1) bd w w7.drew v1 (some ⟨b, off, none⟩) k es) := HD.out.drew
          have RA : Hid (Reader w7.drew rb (N + 1 + 4 * 8 + 1 + 1)) := HDD.out.rd
          have hm : N + 1 + 4 * 8 + 1 + 1 ≤ 90000 := by omega
          have hm2 : N + 1 + 4 * 8 + 1 + 1 ≤ 100000 := by omega
          obtain ⟨zd0, zd1, zdf⟩ := HDD.out.box.cells
          go_upto_region 14 with (fail)
          go_region_law (first
              | (go_simp; go_at_call 59; refine (l91Is rb (N + 1 + 4 * 8 + 1 + 1) _ RA.out hm).mono ?_; rintro e w8 ⟨v8, rfl, hx0, hx1, r8, g8⟩
                 have HDF := Lib.hid (HDD.out.grown g8 r8 hlt)
                 obtain ⟨_, _, e8, _, _, _, ⟨m0, m1, m2⟩, p0, p1, p2⟩ := HDF.out.at_ hj
                 simp only [Option.some.injEq, Addr.mk.injEq, and_true] at e8
                 obtain ⟨rfl, rfl⟩ := e8
                 obtain ⟨y0, y1, yf⟩ := HDF.out.box.cells
                 have HFN := Lib.hid (HDF.out.put hlt hj (show 1 < 3 by decide) { enAt es j with pu := v8 } (.int .i64 v8) rfl))
              | fail)
          all_goals
            have HP := Lib.hid (fin_done (M := N + 60) HFN.out (nice_set HNI.out hj (y := { enAt es j with pu := v8 }) ⟨by have := (HNI.out.2 j).1; show -1 ≤ (enAt es j).wt; omega, by have := (HNI.out.2 j).2; show (enAt es j).wt ≤ 10; omega⟩) hlt (by omega) (.int .i64 v1) (.slice (some ⟨b, off, none⟩) es.length k))
            obtain ⟨x0, x1, xf⟩ := HFN.out.2.1.cells
            obtain ⟨u0, u1, uf⟩ := HFN.out.1.cells
            clear HDD HFN HDF HD z0 z1 zf zd0 zd1 zdf c0 c1 c2 f0 f1 f2 m0 m1 m2 p0 p1 p2 RA
            go_wp2
            refine bodyPost_ret (v := .agg #[.int .i64 v1, .slice (some ⟨b, off, none⟩) es.length k]) ?_ rfl ?_
            · rw [results_cell1 rfl]
              go_simp
            · exact HP.out
        have h1' : (v7 == 1) = false := by simpa using h1
        by_cases h2 : v7 = 2
        · subst h2
          obtain ⟨b, off, rfl, hb1, hb2, hb3, ⟨c0, c1, c2⟩, f0, f1, f2⟩ := HD.out.at_ hj
          have hji : (j : Int) < (es.length : Int) := by omega
          have HDD : Hid (DiRel rb (N + 1 + 4 * 8 + 1 + 1) bd w w7.drew v1 (some ⟨b, off, none⟩) k es) := HD.out.drew
          have RA : Hid (Reader w7.drew rb (N + 1 + 4 * 8 + 1 + 1)) := HDD.out.rd
          have hm : N + 1 + 4 * 8 + 1 + 1 ≤ 90000 := by omega
          have hm2 : N + 1 + 4 * 8 + 1 + 1 ≤ 100000 := by omega
          obtain ⟨zd0, zd1, zdf⟩ := HDD.out.box.cells
          go_upto_region 16 with (fail)
          go_region_law (first
              | (go_simp; go_at_call 58; refine (pick rb (N + 1 + 4 * 8 + 1 + 1) 10 _ RA.out hm2 (by decide) (by decide)).mono ?_; rintro e w8 ⟨v8, rfl, hx0, hx1, r8, g8, s8⟩; have hw8 : IntKind.i64.wrap (v8 - 1) = v8 - 1 := IntWalk.i64_in _ (by omega)
                 have HDF := Lib.hid (HDD.out.grown g8 r8 hlt)
                 obtain ⟨_, _, e8, _, _, _, ⟨m0, m1, m2⟩, p0, p1, p2⟩ := HDF.out.at_ hj
                 simp only [Option.some.injEq, Addr.mk.injEq, and_true] at e8
                 obtain ⟨rfl, rfl⟩ := e8
                 obtain ⟨y0, y1, yf⟩ := HDF.out.box.cells
                 have HFN : Hid (DiFin rb (N + 1 + 4 * 8 + 1 + 1 + 1) bd w (w8.setCell ⟨b, off + j * 3, none⟩ (.int .i64 (v8 - 1))) v1 (some ⟨b, off, none⟩) es.length k (es.set j { enAt es j with nm := v8 - 1 })) := HDF.out.put hlt hj (show 0 < 3 by decide) { enAt es j with nm := v8 - 1 } (.int .i64 (v8 - 1)) rfl)
              | fail)
          all_goals
            have HP := Lib.hid (fin_done (M := N + 60) HFN.out (nice_set HNI.out hj (y := { enAt es j with nm := v8 - 1 }) ⟨by have := (HNI.out.2 j).1; show -1 ≤ (enAt es j).wt; omega, by have := (HNI.out.2 j).2; show (enAt es j).wt ≤ 10; omega⟩) hlt (by omega) (.int .i64 v1) (.slice (some ⟨b, off, none⟩) es.length k))
            obtain ⟨x0, x1, xf⟩ := HFN.out.2.1.cells
            obtain ⟨u0, u1, uf⟩ := HFN.out.1.cells
            clear HDD HFN HDF HD z0 z1 zf zd0 zd1 zdf c0 c1 c2 f0 f1 f2 m0 m1 m2 p0 p1 p2 RA
            go_wp2
            refine bodyPost_ret (v := .agg #[.int .i64 v1, .slice (some ⟨b, off, none⟩) es.length k]) ?_ rfl ?_
            · rw [results_cell1 rfl]
              go_simp
            · exact HP.out
        have h2' : (v7 == 2) = false := by simpa using h2
        by_cases h3 : v7 = 3
        · subst h3
          have HDA := Lib.hid (HD.out.alloc hlt (.cells #[.int .i64 (-1), .int .i64 99, .int .i64 100] 3))
          go_wp2_with fail
          ((with_reducible refine (pick rb (N + 1 + 4 * 8 + 1 + 1) 3 _ HDA.out.rd (by omega) (by omega) (by omega)).mono ?_); rintro e w8 ⟨v8, rfl, hx0, hx1, r8, g8, s8⟩)
          obtain ⟨i, rfl⟩ := Int.eq_ofNat_of_zero_le hx0
          have hi3 : i < 3 := by omega
          have hi3i : (i : Int) < 3 := by omega
          obtain ⟨y, cy0⟩ := litE (w := w7) hi3
          have hbl := HD.out.2.1.lt
          have hbw := HD.out.2.2.1
          have cy : w8.cell? ⟨w7.heap.size, i, none⟩ = some (.int .i64 y) := (World.cell?_of_block (a := ⟨w7.heap.size, i, none⟩) (g8.block w7.heap.size (by simp) (by simp; omega))).trans cy0
          have HDF := Lib.hid (HDA.out.grown g8 r8 hlt)
          obtain ⟨y0, y1, yf⟩ := HDF.out.box.cells
          have HFN := Lib.hid (HDF.out.setEp hlt y)
          have HP := Lib.hid (fin_done (M := N + 60) HFN.out (nice_good HNI.out) hlt (by omega) (.int .i64 y) (.slice A es.length k))
          obtain ⟨x0, x1, xf⟩ := HFN.out.2.1.cells
          obtain ⟨u0, u1, uf⟩ := HFN.out.1.cells
          clear HFN HDF HD HDA z0 z1 zf r8 g8 s8
          go_wp2
          refine bodyPost_ret (v := .agg #[.int .i64 y, .slice A es.length k]) ?_ rfl ?_
          · rw [results_cell1 rfl]
            go_simp
          · exact HP.out
        have h3' : (v7 == 3) = false := by simpa using h3
        have HP := Lib.hid (fin_done (M := N + 60) HD.out.fin (nice_good HNI.out) hlt (by omega) (.int .i64 v1) (.slice A es.length k))
        obtain ⟨k0, k1, kf⟩ := HD.out.1.cells
        clear h0 h1 h2 h3
        go_wp2
        refine bodyPost_ret (v := .agg #[.int .i64 v1, .slice A es.length k]) ?_ rfl ?_
        · rw [results_cell1 rfl]
          go_simp
        · exact HP.out

end Rd
end Go.Proofs.Ytfnbjojaflloaab
