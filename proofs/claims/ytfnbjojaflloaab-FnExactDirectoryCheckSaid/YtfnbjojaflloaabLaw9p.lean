/-
  What the laws of chapter 21 share: contracts by what comes out, facts on paths and counts.
-/
import Derived.Test.YtfnbjojaflloaabDr9c
import Derived.Test.YtfnbjojaflloaabIm9z
import Derived.Test.YtfnbjojaflloaabH9
import Derived.Test.YtfnbjojaflloaabIla
import Derived.Deep.RegionLaw
import Derived.Deep.RegionHeld3
import Derived.Deep.Cut
import Derived.Deep.DeepMust
namespace Go.Proofs.Ytfnbjojaflloaab
open Go.RowKit
namespace Law9
open Il Sl Cm Ec Dm Sp9 Gm H9 LawB Rd Sg

theorem digI {ep x : Int} {es : List En} {A : Option Addr} {k lo hi : Nat} {w : World} (h : digF ep es = x) (hx : Ens lo hi w A es.length k es) : Calls Try.prog 23 #[.agg #[.int .i64 ep, .slice A es.length k]] w (IntB x w) := by
  subst h
  exact Im9.DirectoryDigest ep es A _ k lo hi w hx
theorem digS {ep x : Int} {es : List En} {A : Option Addr} {k lo hi : Nat} {w : World} (h : digF ep es = x) (hx : Ens lo hi w A es.length k es) : Calls Try.prog 24 #[.agg #[.int .i64 ep, .slice A es.length k]] w (IntB x w) := by
  subst h
  exact Sp9.DirectoryDigest ep es A _ k lo hi w hx
theorem checkI {ep : Int} {x : Bool} {es : List En} {ps gs : List Int} {P G A : Option Addr} {n1 p n2 g k lo hi l1 h1 l2 h2 : Nat} {w : World} (h : checkF ps ep es gs = x) (hx : Ens lo hi w A es.length k es) (i1 : Ints l1 h1 w P n1 p ps) (i2 : Ints l2 h2 w G n2 g gs) : Calls Try.prog 28 #[.slice P n1 p, .agg #[.int .i64 ep, .slice A es.length k], .slice G n2 g] w (BoolB x w) := by
  subst h
  exact Im9.DirectoryCheck ps gs ep es P G A n1 p n2 g _ k lo hi l1 h1 l2 h2 w hx i1 i2
theorem checkS {ep : Int} {x : Bool} {es : List En} {ps gs : List Int} {P G A : Option Addr} {n1 p n2 g k lo hi l1 h1 l2 h2 : Nat} {w : World} (h : checkF ps ep es gs = x) (hx : Ens lo hi w A es.length k es) (i1 : Ints l1 h1 w P n1 p ps) (i2 : Ints l2 h2 w G n2 g gs) : Calls Try.prog 30 #[.slice P n1 p, .agg #[.int .i64 ep, .slice A es.length k], .slice G n2 g] w (BoolB x w) := by
  subst h
  exact Sp9.DirectoryCheck ps gs ep es P G A n1 p n2 g _ k lo hi l1 h1 l2 h2 w hx i1 i2
/-- How many of the first m points pick each place. -/
def cntsR (es : List En) (m : Nat) : List Int := (List.range es.length).map fun i => ((hits es i m : Nat) : Int)
theorem cntsR_at {es : List En} {j m : Nat} (h : j < es.length) : (cntsR es m).getD j 0 = ((hits es j m : Nat) : Int) := by
  unfold cntsR
  rw [List.getD_eq_getElem?_getD]; simp [h]
theorem cntsR_zero (es : List En) : cntsR es 0 = List.replicate es.length 0 := by
  unfold cntsR
  refine List.ext_getElem (by simp) fun i h1 h2 => ?_
  rw [List.getElem_map, List.getElem_replicate]; rfl
theorem cntsR_set {es : List En} {j m : Nat} (e : pickL [] es (m : Int) = (j : Int)) : (cntsR es m).set j (((hits es j m : Nat) : Int) + 1) = cntsR es (m + 1) := by
  unfold cntsR
  refine List.ext_getElem (by simp) fun i h1 h2 => ?_
  rw [List.length_map, List.length_range] at h2
  rw [List.getElem_set, List.getElem_map, List.getElem_map, List.getElem_range, hits_succ, e]
  by_cases hi : j = i
  · subst hi
    rw [if_pos rfl, if_pos rfl]; rfl
  · rw [if_neg hi, if_neg (show ¬ (j : Int) = (i : Int) by omega), Nat.add_zero]
theorem hits_le (es : List En) (i m : Nat) : hits es i m ≤ m := by
  unfold hits
  have := List.countP_le_length (p := fun p : Nat => decide (pickL [] es (p : Int) = (i : Int))) (l := List.range m)
  rwa [List.length_range] at this
/-- While the points are counted: the directory below the counts' row. -/
def PkRel (lo bd gN : Nat) (w wr : World) (ep : Int) (A : Option Addr) (k : Nat) (es : List En) (t : Nat) : Prop :=
  DBox wr bd ep A es.length k ∧ Ens lo gN wr A es.length k es ∧ Il.Own gN (gN + 1) wr (some ⟨gN, 0, none⟩) es.length es.length (cntsR es t) ∧ Below w.heap.size w wr ∧ bd < gN ∧ w.heap.size ≤ gN ∧ gN < wr.heap.size
section
variable {lo bd gN : Nat} {w wr w2 : World} {ep : Int} {A : Option Addr} {k : Nat} {es : List En} {t : Nat}
theorem PkRel.ens (h : PkRel lo bd gN w wr ep A k es t) : Ens lo gN wr A es.length k es := h.2.1
theorem PkRel.below (h : PkRel lo bd gN w wr ep A k es t) (hb : Below wr.heap.size wr w2) : PkRel lo bd gN w w2 ep A k es t := by
  obtain ⟨h1, h2, h3, h4, h5, h6, h7⟩ := h
  exact ⟨h1.below hb (Nat.le_refl _), h2.below hb (Nat.le_refl _), h3.below hb (Nat.le_refl _), h4.trans (hb.mono h4.size), h5, h6, Nat.lt_of_lt_of_le h7 hb.size⟩
theorem PkRel.drew (h : PkRel lo bd gN w wr ep A k es t) (d : Nat) : PkRel lo bd gN w (wr.drewN d) ep A k es t := by
  obtain ⟨h1, h2, h3, h4, h5, h6, h7⟩ := h
  exact ⟨h1, h2, h3, below_dr h4, h5, h6, h7⟩
theorem PkRel.put (h : PkRel lo bd gN w wr ep A k es t) {j : Nat} (hj : j < es.length) (x : Int) :
    DBox (wr.setCell ⟨gN, j, none⟩ (.int .i64 x)) bd ep A es.length k ∧ Ens lo gN (wr.setCell ⟨gN, j, none⟩ (.int .i64 x)) A es.length k es ∧ Il.Own gN (gN + 1) (wr.setCell ⟨gN, j, none⟩ (.int .i64 x)) (some ⟨gN, 0, none⟩) es.length es.length ((cntsR es t).set j x) ∧ Below w.heap.size w (wr.setCell ⟨gN, j, none⟩ (.int .i64 x)) ∧ bd < gN ∧ w.heap.size ≤ gN ∧ gN < (wr.setCell ⟨gN, j, none⟩ (.int .i64 x)).heap.size := by
  obtain ⟨h1, h2, h3, h4, h5, h6, h7⟩ := h
  have hk : Kept gN (gN + 1) wr (wr.setCell ⟨gN, j, none⟩ (.int .i64 x)) := (Kept.refl gN (gN + 1) wr).set (p := ⟨gN, j, none⟩) (Nat.le_refl _) (Nat.lt_succ_self _) _
  have ho := h3.set_ hj x
  rw [Nat.zero_add] at ho
  exact ⟨(hk.block bd (by omega)).trans h1, h2.kept hk (by omega), ho, h4.trans (hk.below h6), h5, h6, by rw [hk.size]; exact h7⟩
end
theorem path_hops {ep s h : Int} {es : List En} {xs : List Int} (e : pathF ep es s h = xs) (hn : pathF ep es s h ≠ []) : (xs.length : Int) = h := by
  obtain ⟨_, _, h3, r, _, he, _, hl⟩ := pathF_open hn
  rw [← e, he, List.length_map, hl]; omega
theorem path_all {ep s h : Int} {es : List En} {xs : List Int} (e : pathF ep es s h = xs) (hn : pathF ep es s h ≠ []) : ∀ i, i < xs.length → ∃ j : Nat, j < es.length ∧ xs.getD i 0 = (enAt es j).nm ∧ 0 < (enAt es j).wt ∧ ∀ k, k < i → xs.getD k 0 ≠ (enAt es j).nm := fun i hi => by
  obtain ⟨hd, _, _, r, _, he, hc, _⟩ := pathF_open hn
  rw [e] at he
  subst he
  rw [List.length_map] at hi
  obtain ⟨j, h1, _, h2, h3, h4⟩ := path_at hd hc hi
  exact ⟨j, h1, h2, h3, h4⟩
theorem take_getD {xs : List Int} {i t : Nat} (h : i < t) : (xs.take t).getD i 0 = xs.getD i 0 := by
  rw [List.getD_eq_getElem?_getD, List.getD_eq_getElem?_getD, List.getElem?_take_of_lt h]
theorem lt_of_cell {w : World} {a : Addr} {v : Value} (h : w.cell? a = some v) : a.block < w.heap.size := World.block_lt_of_cell? w _ h
theorem posN_le (es : List En) (t : Nat) : posN es t ≤ t := by
  unfold posN
  have := List.countP_le_length (p := fun k => decide (0 < (enAt es k).wt)) (l := List.range t)
  rwa [List.length_range] at this
theorem validS {ep : Int} {x : Bool} {es : List En} {A : Option Addr} {k lo hi : Nat} {w : World} (h : dirOk ep es = x) (hx : Ens lo hi w A es.length k es) : Calls Try.prog 50 #[.agg #[.int .i64 ep, .slice A es.length k]] w (BoolB x w) := by
  subst h
  exact Sp9.DirectoryValid ep es A _ k lo hi w hx
theorem validI {ep : Int} {x : Bool} {es : List En} {A : Option Addr} {k lo hi : Nat} {w : World} (h : dirOk ep es = x) (hx : Ens lo hi w A es.length k es) : Calls Try.prog 48 #[.agg #[.int .i64 ep, .slice A es.length k]] w (BoolB x w) := by
  subst h
  exact Im9.DirectoryValid ep es A _ k lo hi w hx
/-- .. of m numbers. -/
def NiM (m : Nat) (xs : List Int) (w : World) (e : Ending) (w' : World) : Prop := ∃ A c, e = .returned (.slice A m c) ∧ Ints w.heap.size w'.heap.size w' A m c xs ∧ Below w.heap.size w w'
theorem ni_out {w w' : World} {m : Nat} {xs : List Int} {e : Ending} {C : Prop} (h : NiM m xs w e w') (k : ∀ A c, e = .returned (.slice A m c) → Ints w.heap.size w'.heap.size w' A m c xs → Below w.heap.size w w' → C) : C := by
  obtain ⟨A, c, he, ho, hb⟩ := h
  exact k A c he ho hb
theorem path_len {ep s : Int} {H : Nat} {es : List En} (h : pathF ep es s (H : Int) ≠ []) : (pathF ep es s (H : Int)).length = H := by
  obtain ⟨_, _, _, r, _, he, _, hl⟩ := pathF_open h
  rw [he, List.length_map, hl, Int.toNat_natCast]
theorem make3 : ∃ Z : Array Value, (∀ w : World, (Instr.makeSlice 32 (.int .i64 3) (.int .i64 3)).run Try.prog w = .ok (.slice (some ⟨w.heap.size, 0, none⟩) 3 3) (w.alloc (.cells Z 3))) ∧ ∀ w : World, Il.Own w.heap.size (w.heap.size + 1) (w.alloc (.cells Z 3)) (some ⟨w.heap.size, 0, none⟩) 3 3 [0, 0, 0] :=
  ⟨madeCells #[.int .i64 0] 3, run_make_row' (P := Try.prog) 32 3 (.int .i64 0) 8 Try.underlying32 infoInt rfl .i64 .i64 3 (by omega) (by omega), fun w => own_made w 3 3 (by unfold maxLen; omega)⟩
theorem three_set {i r : Nat} {x : Int} (h : i ≠ r) : (([0, 0, 0] : List Int).set r x).getD i 0 = 0 := by
  rw [List.getD_eq_getElem?_getD, List.getElem?_set_ne (Ne.symm h)]
  match i with
  | 0 => rfl
  | 1 => rfl
  | 2 => rfl
  | _ + 3 => rfl
theorem pickF_yes {ep p : Int} {es : List En} (h : dirOk ep es = true) (hp : 0 ≤ p) : pickF ep es p = pickL [] es p := by unfold pickF; rw [h, decide_eq_true hp]; rfl
theorem pickF_of {ep p x : Int} {es : List En} (h : pickF ep es p = x) (hx : 0 ≤ x) : dirOk ep es = true ∧ pickF ep es p = pickL [] es p ∧ 0 ≤ p ∧ pickL [] es p = x := by
  unfold pickF at h ⊢
  by_cases h1 : dirOk ep es = true
  · by_cases h2 : 0 ≤ p
    · rw [h1, decide_eq_true h2] at h ⊢
      exact ⟨rfl, rfl, h2, h⟩
    · rw [decide_eq_false h2, Bool.and_false, cond_false] at h; omega
  · rw [Bool.not_eq_true] at h1
    rw [h1, Bool.false_and, cond_false] at h; omega
theorem pickL_wt {es : List En} (hn : NN es) {p x : Int} (hp : 0 ≤ p) (h : pickL [] es p = x) (hx : 0 ≤ x) : ∃ j : Nat, j < es.length ∧ x = (j : Int) ∧ (enAt es j).wt > 0 := by
  obtain ⟨j, h1, h2, h3, h4⟩ := falls_ix (pickL_falls (ch := []) hn hp) (by rw [h]; exact hx)
  exact ⟨j, h1, by rw [← h, h2], (falls_wt h3 h4).2⟩
theorem code_any {w : World} {A : Option Addr} {n c : Nat} (h : CodeIs w A n c) : ∀ w', Below w.heap.size w w' → CodeIs w' A n c := fun w' hb => by
  refine ⟨h.1, h.2.1, fun hn => ?_⟩
  obtain ⟨b, off, e, hz, hc⟩ := h.2.2 hn
  refine ⟨b, off, e, Nat.lt_of_lt_of_le hz hb.size, fun j hj => ?_⟩
  obtain ⟨u, hu, hcell⟩ := hc j hj
  exact ⟨u, hu, (hb.cell (p := ⟨b, off + j, none⟩) hz).trans hcell⟩
end Law9
end Go.Proofs.Ytfnbjojaflloaab
