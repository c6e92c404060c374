/-
  Draws of chapter 21: a directory alone, with a point, with a seed and hops.
-/
import Derived.Test.YtfjggpdinfidcaaDr9
namespace Go.Proofs.Ytfjggpdinfidcaa
open Go.RowKit
namespace Rd
open Il Sl Ec Dm Sp9 Gm

def DirHas (w w' : World) (es : List En) (A : Option Addr) (k : Nat) : Prop := EnsO w.heap.size w'.heap.size w' A es.length k es ∧ Below w.heap.size w w'
def DirOne (w : World) (e : Ending) (w' : World) : Prop := ∃ A k ep es, e = .returned (.agg #[.int .i64 ep, .slice A es.length k]) ∧ Good es ∧ DirHas w w' es A k
def DirPt (w : World) (e : Ending) (w' : World) : Prop := ∃ A k ep es p, e = .returned (.tuple #[.agg #[.int .i64 ep, .slice A es.length k], .int .i64 p]) ∧ Good es ∧ DirHas w w' es A k ∧ -1 ≤ p ∧ p ≤ 100
def DirSH (w : World) (e : Ending) (w' : World) : Prop := ∃ A k ep es s h, e = .returned (.tuple #[.agg #[.int .i64 ep, .slice A es.length k], .int .i64 s, .int .i64 h]) ∧ Good es ∧ DirHas w w' es A k ∧ (-1000000 ≤ s ∧ s ≤ 1000000) ∧ -10 ≤ h ∧ h ≤ 10
/-- A drawn directory in a variable, the reader beside it. -/
def DpRel (N bv : Nat) (w wr : World) (ep : Int) (A : Option Addr) (k : Nat) (es : List En) : Prop :=
  DBox wr w.heap.size 0 none 0 0 ∧ DBox wr bv ep A es.length k ∧ EnsO (w.heap.size + 2) wr.heap.size wr A es.length k es ∧ Reader wr (w.heap.size + 1) N ∧ Below w.heap.size w wr ∧ w.heap.size + 2 ≤ bv ∧ Good es
section
variable {N N' bv : Nat} {w wr w' : World} {ep : Int} {A : Option Addr} {k : Nat} {es : List En}
theorem DpRel.rd (h : DpRel N bv w wr ep A k es) : Reader wr (w.heap.size + 1) N := h.2.2.2.1
theorem DpRel.box (h : DpRel N bv w wr ep A k es) : DBox wr bv ep A es.length k := h.2.1
theorem DpRel.mono (h : DpRel N bv w wr ep A k es) (hN : N ≤ N') : DpRel N' bv w wr ep A k es := ⟨h.1, h.2.1, h.2.2.1, h.2.2.2.1.mono hN, h.2.2.2.2⟩
theorem DpRel.grown (h : DpRel N bv w wr ep A k es) (hg : wr.grownBy w' (some (w.heap.size + 1))) (hr : Reader w' (w.heap.size + 1) N') : DpRel N' bv w w' ep A k es := by
  obtain ⟨h1, h2, h3, h4, h5, h6, h7⟩ := h
  exact ⟨dbox_same h1 (hg.block _ h1.lt (by simp)), dbox_same h2 (hg.block _ h2.lt (by simp; omega)), EnsO.mono (h3.grown hg (fun b e => by cases e; omega)) (Nat.le_refl _) hg.size, hr, h5.grown hg h5.size (fun b e => by cases e; omega), h6, h7⟩
theorem DpRel.drew (h : DpRel N bv w wr ep A k es) : DpRel N bv w wr.drew ep A k es := by
  obtain ⟨h1, h2, h3, h4, h5, h6, h7⟩ := h
  exact ⟨h1, h2, h3.drewN 1, h4, ⟨h5.os, h5.tape, h5.output, h5.size, h5.block⟩, h6, h7⟩
theorem DpRel.below (h : DpRel N bv w wr ep A k es) (hb : Below wr.heap.size wr w') : DpRel N bv w w' ep A k es := by
  obtain ⟨h1, h2, h3, h4, h5, h6, h7⟩ := h
  exact ⟨h1.below hb (Nat.le_refl _), h2.below hb (Nat.le_refl _), EnsO.mono (h3.below hb (Nat.le_refl _)) (Nat.le_refl _) hb.size, h4.below hb h4.lt, h5.trans (hb.mono h5.size), h6, h7⟩
theorem DpRel.alloc (h : DpRel N bv w wr ep A k es) (o : Obj) : DpRel N bv w (wr.alloc o) ep A k es := h.below ((Below.refl _ _).alloc (Nat.le_refl _) o)
/-- The first result is stored. -/
theorem DpRel.done (h : DpRel N bv w wr ep A k es) (u0 u1 : Value) : Good es ∧ DirHas w ((wr.setCell ⟨w.heap.size, 0, none⟩ u0).setCell ⟨w.heap.size, 1, none⟩ u1) es A k := by
  obtain ⟨h1, h2, h3, h4, h5, h6, h7⟩ := h
  have hsz : ((wr.setCell ⟨w.heap.size, 0, none⟩ u0).setCell ⟨w.heap.size, 1, none⟩ u1).heap.size = wr.heap.size := by simp [World.setCell]
  refine ⟨h7, EnsO.mono (h3.keep (Nat.le_of_eq hsz.symm) fun b q1 _ _ => (Below.heap_setCell _ _ _ _ (show b ≠ w.heap.size by omega)).trans (Below.heap_setCell _ _ _ _ (show b ≠ w.heap.size by omega))) (by omega) (Nat.le_of_eq hsz.symm),
    (h5.setCell (p := ⟨w.heap.size, 0, none⟩) (Nat.le_refl _) _).setCell (p := ⟨w.heap.size, 1, none⟩) (Nat.le_refl _) _⟩
end
theorem code_al9 {w : World} {A : Option Addr} {n c : Nat} (h : CodeIs w A n c) (o : Obj) : CodeIs (w.alloc o) A n c := by
  have hal : Below w.heap.size w (w.alloc o) := (Below.refl _ _).alloc (Nat.le_refl _) _
  refine ⟨h.1, h.2.1, fun hn => ?_⟩
  obtain ⟨b, off, e, hb, hc⟩ := h.2.2 hn
  refine ⟨b, off, e, Nat.lt_of_lt_of_le hb hal.size, fun j hj => ?_⟩
  obtain ⟨u, hu, hcell⟩ := hc j hj
  exact ⟨u, hu, (hal.cell (p := ⟨b, off + j, none⟩) hb).trans hcell⟩
theorem dp_first {w w1 w2 : World} {A : Option Addr} {k M : Nat} {ep : Int} {es : List En} (hb1 : Below (w.heap.size + 1) (w.alloc (.cells #[.int .i64 0, .slice none 0 0] 25)) w1) (hs : w1.heap.size = w.heap.size + 1 + 1)
    (hgd : Good es) (hx : EnsO w1.heap.size w2.heap.size w2 A es.length k es) (hr : Reader w2 (w.heap.size + 1) M) (hg : w1.grownBy w2 (some (w.heap.size + 1))) :
    DBox w2 w.heap.size 0 none 0 0 ∧ EnsO (w.heap.size + 2) w2.heap.size w2 A es.length k es ∧ Below w.heap.size w w2 ∧ DpRel M w2.heap.size w (w2.alloc (.cells #[.int .i64 ep, .slice A es.length k] 25)) ep A k es := by
  have hz : DBox (w.alloc (.cells #[.int .i64 0, .slice none 0 0] 25)) w.heap.size 0 none 0 0 := heap_alloc_new _ _
  have hal : Below w.heap.size w (w.alloc (.cells #[.int .i64 0, .slice none 0 0] 25)) := (Below.refl _ _).alloc (Nat.le_refl _) _
  have hz1 : DBox w1 w.heap.size 0 none 0 0 := dbox_same hz (hb1.block _ (by omega))
  have hb := hal.trans (hb1.mono (by omega))
  have hz2 : DBox w2 w.heap.size 0 none 0 0 := dbox_same hz1 (hg.block _ hz1.lt (by simp))
  have hx2 : EnsO (w.heap.size + 2) w2.heap.size w2 A es.length k es := hx.mono (by omega) (Nat.le_refl _)
  have hb2 : Below w.heap.size w w2 := hb.grown hg hb.size (fun b e => by cases e; omega)
  have hs2 := hg.size
  have hal2 : Below w2.heap.size w2 (w2.alloc (.cells #[.int .i64 ep, .slice A es.length k] 25)) := (Below.refl _ _).alloc (Nat.le_refl _) _
  exact ⟨hz2, hx2, hb2, hz2.below hal2 (Nat.le_refl _), heap_alloc_new _ _, EnsO.mono (hx2.below hal2 (Nat.le_refl _)) (Nat.le_refl _) hal2.size, hr.alloc _, hb2.trans (hal2.mono hb2.size), by omega, hgd⟩
theorem results_cell_tmp {fn : Func} {p u : Tmp} {ty : TypeId} (h : fn.results = #[.cell p ty, .tmp u]) (tmps : Array Value) (P : Program) (w : World) :
    (results fn tmps).run P w = ((asAddr (tmps.getD p undef)).run P w).andThen fun a w₁ => ((loadVar ty a).run P w₁).andThen fun x w₂ => .ok (.tuple #[x, tmps.getD u undef]) w₂ := by
  simp only [results, h]
  simp [Sem.run_bind, Result.andThen]
theorem results_cell_tmp2 {fn : Func} {p u v : Tmp} {ty : TypeId} (h : fn.results = #[.cell p ty, .tmp u, .tmp v]) (tmps : Array Value) (P : Program) (w : World) :
    (results fn tmps).run P w =
      ((asAddr (tmps.getD p undef)).run P w).andThen fun a w₁ => ((loadVar ty a).run P w₁).andThen fun x w₂ => .ok (.tuple #[x, tmps.getD u undef, tmps.getD v undef]) w₂ := by
  simp only [results, h]
  simp [Sem.run_bind, Result.andThen]
set_option maxRecDepth 20000 in
set_option maxHeartbeats 1000000 in
theorem DrawDirectoryValid (A0 : Option Addr) (n0 c0 : Nat) (w : World) (h : CodeIs w A0 n0 c0) : Calls Try.prog 13 #[.slice A0 n0 c0] w (DirOne w) := by
  have HC := Lib.hid (code_al9 h (.cells #[.int .i64 0, .slice none 0 0] 25))
  have hsz : (w.alloc (.cells #[.int .i64 0, .slice none 0 0] 25)).heap.size = w.heap.size + 1 := by simp
  have HSZ := Lib.hid hsz
  clear h hsz
  go_enter Try.func13, Try.ntmps13
  go_wp2_with fail
  ((with_reducible refine (l6Open _ _ _ _ HC.out).mono ?_); rintro e w1 ⟨rfl, r1, b1, s1⟩)
  rw [HSZ.out] at r1 b1 s1 ⊢
  have R1 := Lib.hid r1
  have B1 := Lib.hid b1
  have S1 := Lib.hid s1
  clear r1 b1 s1 HC HSZ
  go_wp2_with fail
  ((with_reducible refine (l92Directory _ _ _ R1.out (by omega)).mono ?_); rintro e w2 ⟨A, k, ep, es, rfl, hgd, hx, r2, g2⟩)
  obtain ⟨q1, q2, q3, q4⟩ := dp_first (ep := ep) B1.out S1.out hgd hx r2 g2
  have Q1 := Lib.hid q1
  have Q2 := Lib.hid q2
  have Q3 := Lib.hid q3
  have GD := Lib.hid hgd
  clear q1 q2 q3 q4 hgd hx r2 g2 R1 B1 S1
  have HD : Hid (∀ u0 u1 : Value, DirOne w (.returned (.agg #[.int .i64 ep, .slice A es.length k])) ((w2.setCell ⟨w.heap.size, 0, none⟩ u0).setCell ⟨w.heap.size, 1, none⟩ u1)) := fun u0 u1 => by
    have hsz : ((w2.setCell ⟨w.heap.size, 0, none⟩ u0).setCell ⟨w.heap.size, 1, none⟩ u1).heap.size = w2.heap.size := by simp [World.setCell]
    refine ⟨A, k, ep, es, rfl, GD.out, EnsO.mono (Q2.out.keep (Nat.le_of_eq hsz.symm) fun b q1 _ _ => (Below.heap_setCell _ _ _ _ (show b ≠ w.heap.size by omega)).trans (Below.heap_setCell _ _ _ _ (show b ≠ w.heap.size by omega))) (by omega) (Nat.le_of_eq hsz.symm),
      (Q3.out.setCell (p := ⟨w.heap.size, 0, none⟩) (Nat.le_refl _) _).setCell (p := ⟨w.heap.size, 1, none⟩) (Nat.le_refl _) _⟩
  obtain ⟨z0, z1, zf⟩ := Q1.out.cells
  go_wp2
  refine bodyPost_ret (v := .agg #[.int .i64 ep, .slice A es.length k]) ?_ rfl ?_
  · rw [results_cell1 rfl]
    go_simp
  · exact HD.out _ _
set_option maxRecDepth 20000 in
set_option maxHeartbeats 1000000 in
theorem DrawDirectoryDigest (A0 : Option Addr) (n0 c0 : Nat) (w : World) (h : CodeIs w A0 n0 c0) : Calls Try.prog 16 #[.slice A0 n0 c0] w (DirOne w) := by
  have HC := Lib.hid (code_al9 h (.cells #[.int .i64 0, .slice none 0 0] 25))
  have hsz : (w.alloc (.cells #[.int .i64 0, .slice none 0 0] 25)).heap.size = w.heap.size + 1 := by simp
  have HSZ := Lib.hid hsz
  clear h hsz
  go_enter Try.func16, Try.ntmps16
  go_wp2_with fail
  ((with_reducible refine (l6Open _ _ _ _ HC.out).mono ?_); rintro e w1 ⟨rfl, r1, b1, s1⟩)
  rw [HSZ.out] at r1 b1 s1 ⊢
  have R1 := Lib.hid r1
  have B1 := Lib.hid b1
  have S1 := Lib.hid s1
  clear r1 b1 s1 HC HSZ
  go_wp2_with fail
  ((with_reducible refine (l92Directory _ _ _ R1.out (by omega)).mono ?_); rintro e w2 ⟨A, k, ep, es, rfl, hgd, hx, r2, g2⟩)
  obtain ⟨q1, q2, q3, q4⟩ := dp_first (ep := ep) B1.out S1.out hgd hx r2 g2
  have Q1 := Lib.hid q1
  have Q2 := Lib.hid q2
  have Q3 := Lib.hid q3
  have GD := Lib.hid hgd
  clear q1 q2 q3 q4 hgd hx r2 g2 R1 B1 S1
  have HD : Hid (∀ u0 u1 : Value, DirOne w (.returned (.agg #[.int .i64 ep, .slice A es.length k])) ((w2.setCell ⟨w.heap.size, 0, none⟩ u0).setCell ⟨w.heap.size, 1, none⟩ u1)) := fun u0 u1 => by
    have hsz : ((w2.setCell ⟨w.heap.size, 0, none⟩ u0).setCell ⟨w.heap.size, 1, none⟩ u1).heap.size = w2.heap.size := by simp [World.setCell]
    refine ⟨A, k, ep, es, rfl, GD.out, EnsO.mono (Q2.out.keep (Nat.le_of_eq hsz.symm) fun b q1 _ _ => (Below.heap_setCell _ _ _ _ (show b ≠ w.heap.size by omega)).trans (Below.heap_setCell _ _ _ _ (show b ≠ w.heap.size by omega))) (by omega) (Nat.le_of_eq hsz.symm),
      (Q3.out.setCell (p := ⟨w.heap.size, 0, none⟩) (Nat.le_refl _) _).setCell (p := ⟨w.heap.size, 1, none⟩) (Nat.le_refl _) _⟩
  obtain ⟨z0, z1, zf⟩ := Q1.out.cells
  go_wp2
  refine bodyPost_ret (v := .agg #[.int .i64 ep, .slice A es.length k]) ?_ rfl ?_
  · rw [results_cell1 rfl]
    go_simp
  · exact HD.out _ _
set_option maxRecDepth 20000 in
set_option maxHeartbeats 1000000 in
theorem DrawDirectoryPick (A0 : Option Addr) (n0 c0 : Nat) (w : World) (h : CodeIs w A0 n0 c0) : Calls Try.prog 25 #[.slice A0 n0 c0] w (DirPt w) := by
  have HC := Lib.hid (code_al9 h (.cells #[.int .i64 0, .slice none 0 0] 25))
  have hsz : (w.alloc (.cells #[.int .i64 0, .slice none 0 0] 25)).heap.size = w.heap.size + 1 := by simp
  have HSZ := Lib.hid hsz
  clear h hsz
  go_enter Try.func25, Try.ntmps25
  go_wp2_with fail
  ((with_reducible refine (l6Open _ _ _ _ HC.out).mono ?_); rintro e w1 ⟨rfl, r1, b1, s1⟩)
  rw [HSZ.out] at r1 b1 s1 ⊢
  have R1 := Lib.hid r1
  have B1 := Lib.hid b1
  have S1 := Lib.hid s1
  clear r1 b1 s1 HC HSZ
  go_wp2_with fail
  ((with_reducible refine (l92Directory _ _ _ R1.out (by omega)).mono ?_); rintro e w2 ⟨A, k, ep, es, rfl, hgd, hx, r2, g2⟩)
  obtain ⟨q1, q2, q3, q4⟩ := dp_first (ep := ep) B1.out S1.out hgd hx r2 g2
  have HD0 := Lib.hid q4
  clear q1 q2 q3 q4 hgd hx r2 g2 R1 B1 S1
  go_upto_region 3 with (fail)
  generalize (w2.alloc (.cells #[.int .i64 ep, .slice A es.length k] 25)) = w3 at *
  generalize w2.heap.size = bv at *
  have HDD : Hid (DpRel (0 + 60) bv w w3.drew ep A k es) := HD0.out.drew
  have HDA : Hid (DpRel (0 + 60) bv w (w3.alloc (.cells #[] 3)).drew ep A k es) := (HD0.out.alloc _).drew
  obtain ⟨z0, z1, zf⟩ := HD0.out.2.1.cells
  obtain ⟨za0, za1, zaf⟩ := HDA.out.2.1.cells
  obtain ⟨hS0, hS1⟩ : -1 ≤ wtL [] es ∧ wtL [] es ≤ 600 := ⟨HD0.out.2.2.2.2.2.2.2.2, by
    have h6 := HD0.out.2.2.2.2.2.2.1
    have := (wtTo_bd HD0.out.2.2.2.2.2.2.2.1 [] es.length).2
    unfold wtL
    omega⟩
  have hm0 : -1 ≤ (wtL [] es).tmod 50 ∧ (wtL [] es).tmod 50 ≤ 49 := by
    rcases Int.lt_or_le (wtL [] es) 0 with hn | hp
    · have : wtL [] es = -1 := by omega
      rw [this]; decide
    · rw [Int.tmod_eq_emod_of_nonneg hp]; omega
  have hw1 : IntKind.i64.wrap ((wtL [] es).tmod 50 + 3) = (wtL [] es).tmod 50 + 3 := IntWalk.i64_in _ (by omega)
  have hbv : ¬ bv = w.heap.size := by have := HD0.out.2.2.2.2.2.1; omega
  have hbv2 : ¬ w.heap.size = bv := fun e => hbv e.symm
  have HWB := Lib.hid HD0.out.2.2.2.2.2.2.2.1
  clear HD0
  have HWC : Hid (Calls Try.prog 56 #[.agg #[.int .i64 ep, .slice A es.length k], .slice (some ⟨w3.heap.size, 0, none⟩) 0 0] (w3.alloc (.cells #[] 3)).drew (IntB (wtL [] es) (w3.alloc (.cells #[] 3)).drew)) :=
    l21Weight ep es [] _ _ _ _ _ _ _ _ 0 0 _ HDA.out.2.2.1.row_ (Ints.nil_ (by unfold maxLen; omega)) HWB.out
  generalize wtL [] es = S at *
  have SA : Hid (w3.drew.cell? ⟨bv, 0, none⟩ = some (.int .i64 ep) ∧ w3.drew.cell? ⟨bv, 1, none⟩ = some (.slice A es.length k)) := ⟨HDD.out.box.cells.1, HDD.out.box.cells.2.1⟩
  have SB : Hid ((w3.alloc (.cells #[] 3)).drew.cell? ⟨bv, 0, none⟩ = some (.int .i64 ep) ∧ (w3.alloc (.cells #[] 3)).drew.cell? ⟨bv, 1, none⟩ = some (.slice A es.length k)) := ⟨HDA.out.box.cells.1, HDA.out.box.cells.2.1⟩
  have hq50 : ¬ (50 : Int) = 0 := by decide
  go_region_held3 (fun w' => w'.cell? ⟨bv, 0, none⟩ = some (.int .i64 ep) ∧ w'.cell? ⟨bv, 1, none⟩ = some (.slice A es.length k))
    (first | with_reducible exact SA.out | with_reducible exact SB.out | with_reducible exact kC | with_reducible exact kD | with_reducible exact kE | fail)
    (first
      | (go_at_call 56; refine HWC.out.mono ?_; rintro e w4 ⟨rfl, hb4⟩
         have HD4 := Lib.hid (HDA.out.below hb4)
         have kC : w4.cell? ⟨bv, 0, none⟩ = some (.int .i64 ep) ∧ w4.cell? ⟨bv, 1, none⟩ = some (.slice A es.length k) := ⟨HD4.out.box.cells.1, HD4.out.box.cells.2.1⟩)
      | (go_at_call 53; refine (pick _ (0 + 60) (S.tmod 50 + 3) _ HD4.out.rd (by decide) (by omega) (by omega)).mono ?_; rintro e w5 ⟨v5, rfl, h50, h51, r5, g5, s5⟩
         have HD5 := Lib.hid (HD4.out.grown g5 r5)
         have hw5 : IntKind.i64.wrap (v5 - 1) = v5 - 1 := IntWalk.i64_in _ (by omega)
         obtain ⟨y0, y1, yf⟩ := HD5.out.1.cells
         have kD : w5.cell? ⟨bv, 0, none⟩ = some (.int .i64 ep) ∧ w5.cell? ⟨bv, 1, none⟩ = some (.slice A es.length k) := ⟨HD5.out.box.cells.1, HD5.out.box.cells.2.1⟩
         have kE : ((w5.setCell ⟨w.heap.size, 0, none⟩ (.int .i64 ep)).setCell ⟨w.heap.size, 1, none⟩ (.slice A es.length k)).cell? ⟨bv, 0, none⟩ = some (.int .i64 ep) ∧ ((w5.setCell ⟨w.heap.size, 0, none⟩ (.int .i64 ep)).setCell ⟨w.heap.size, 1, none⟩ (.slice A es.length k)).cell? ⟨bv, 1, none⟩ = some (.slice A es.length k) := by
           have := (dbox_same (dbox_same HD5.out.box (Below.heap_setCell w5 ⟨w.heap.size, 0, none⟩ (.int .i64 ep) _ hbv)) (Below.heap_setCell _ ⟨w.heap.size, 1, none⟩ (.slice A es.length k) _ hbv)).cells
           exact ⟨this.1, this.2.1⟩)
      | fail)
  all_goals
    have HP := Lib.hid (HD5.out.done (.int .i64 ep) (.slice A es.length k))
    clear r5 g5 hb4
    go_wp2
    refine bodyPost_ret (v := ?_) ?_ rfl ?_
    rotate_left
    · rw [results_cell_tmp rfl]
      go_simp
      try rfl
    · exact ⟨A, k, ep, es, _, rfl, HP.out.1, HP.out.2, by omega, by omega⟩
set_option maxRecDepth 20000 in
set_option maxHeartbeats 1000000 in
theorem DrawDirectoryPath (A0 : Option Addr) (n0 c0 : Nat) (w : World) (h : CodeIs w A0 n0 c0) : Calls Try.prog 29 #[.slice A0 n0 c0] w (DirSH w) := by
  have HC := Lib.hid (code_al9 h (.cells #[.int .i64 0, .slice none 0 0] 25))
  have hsz : (w.alloc (.cells #[.int .i64 0, .slice none 0 0] 25)).heap.size = w.heap.size + 1 := by simp
  have HSZ := Lib.hid hsz
  clear h hsz
  go_enter Try.func29, Try.ntmps29
  go_wp2_with fail
  ((with_reducible refine (l6Open _ _ _ _ HC.out).mono ?_); rintro e w1 ⟨rfl, r1, b1, s1⟩)
  rw [HSZ.out] at r1 b1 s1 ⊢
  have R1 := Lib.hid r1
  have B1 := Lib.hid b1
  have S1 := Lib.hid s1
  clear r1 b1 s1 HC HSZ
  go_wp2_with fail
  ((with_reducible refine (l92Directory _ _ _ R1.out (by omega)).mono ?_); rintro e w2 ⟨A, k, ep, es, rfl, hgd, hx, r2, g2⟩)
  obtain ⟨q1, q2, q3, q4⟩ := dp_first (ep := ep) B1.out S1.out hgd hx r2 g2
  have HD0 := Lib.hid q4
  clear q1 q2 q3 q4 hgd hx r2 g2 R1 B1 S1
  go_upto_region 3 with (fail)
  generalize (w2.alloc (.cells #[.int .i64 ep, .slice A es.length k] 25)) = w3 at *
  generalize w2.heap.size = bv at *
  go_wp2_with fail
  ((with_reducible refine (pick _ (0 + 60) 100 _ HD0.out.rd (by omega) (by omega) (by omega)).mono ?_); rintro e w4 ⟨v4, rfl, h40, h41, r4, g4, s4⟩)
  have HD4 := Lib.hid (HD0.out.grown g4 r4)
  clear r4 g4 s4 HD0
  go_wp2_with fail
  ((with_reducible refine (pick _ (0 + 60 + 1) 100 _ HD4.out.rd (by omega) (by omega) (by omega)).mono ?_); rintro e w5 ⟨v5, rfl, h50, h51, r5, g5, s5⟩)
  have HD5 := Lib.hid (HD4.out.grown g5 r5)
  clear r5 g5 s5 HD4
  go_wp2_with fail
  ((with_reducible refine (pick _ (0 + 60 + 1 + 1) 100 _ HD5.out.rd (by omega) (by omega) (by omega)).mono ?_); rintro e w6 ⟨v6, rfl, h60, h61, r6, g6, s6⟩)
  have HD6 := Lib.hid (HD5.out.grown g6 r6)
  clear r6 g6 s6 HD5
  have hsd : 0 ≤ v4 * 10000 + v5 * 100 + v6 ∧ v4 * 10000 + v5 * 100 + v6 ≤ 999999 := by omega
  go_upto_region 4 with (fail)
  generalize v4 * 10000 + v5 * 100 + v6 = sd at *
  obtain ⟨hsd0, hsd1⟩ := hsd
  have HDD : Hid (DpRel (0 + 60 + 1 + 1 + 1) bv w w6.drew ep A k es) := HD6.out.drew
  have hbv : ¬ bv = w.heap.size := by have := HDD.out.2.2.2.2.2.1; omega
  have hbv2 : ¬ w.heap.size = bv := fun e => hbv e.symm
  have SA : Hid (w6.drew.cell? ⟨bv, 0, none⟩ = some (.int .i64 ep) ∧ w6.drew.cell? ⟨bv, 1, none⟩ = some (.slice A es.length k)) := ⟨HDD.out.box.cells.1, HDD.out.box.cells.2.1⟩
  go_region_held3 (fun w' => w'.cell? ⟨bv, 0, none⟩ = some (.int .i64 ep) ∧ w'.cell? ⟨bv, 1, none⟩ = some (.slice A es.length k))
    (first | with_reducible exact SA.out | with_reducible exact k7 | with_reducible exact k8 | with_reducible exact k9 | with_reducible exact k10 | with_reducible exact kE | fail)
    (first
      | (go_at_call 53; refine (pick _ (0 + 60 + 1 + 1 + 1 + 1 + 1 + 1) 3 _ HD9.out.rd (by decide) (by decide) (by decide)).mono ?_; rintro e w10 ⟨v10, rfl, ha0, ha1, r10, g10, s10⟩
         have HD10 := Lib.hid (HD9.out.grown g10 r10)
         obtain ⟨y0, y1, yf⟩ := HD10.out.1.cells
         have e10 : IntKind.i64.wrap (v10 - 1) = v10 - 1 := IntWalk.i64_in _ (by omega)
         obtain ⟨m, em, hm0, hm1⟩ : ∃ m : Int, IntKind.i64.wrap (q9 * (v10 - 1)) = m ∧ -1 ≤ m ∧ m ≤ 1 := by
           obtain rfl | rfl : q9 = 0 ∨ q9 = 1 := by omega
           · exact ⟨0, by rw [Int.zero_mul]; rfl, by omega, by omega⟩
           · exact ⟨v10 - 1, by rw [Int.one_mul]; exact e10, by omega, by omega⟩
         have e11 : IntKind.i64.wrap (m * 3) = m * 3 := IntWalk.i64_in _ (by omega)
         have e12 : IntKind.i64.wrap (v8 + 1 + m * 3) = v8 + 1 + m * 3 := IntWalk.i64_in _ (by omega)
         have k10 : w10.cell? ⟨bv, 0, none⟩ = some (.int .i64 ep) ∧ w10.cell? ⟨bv, 1, none⟩ = some (.slice A es.length k) := ⟨HD10.out.box.cells.1, HD10.out.box.cells.2.1⟩
         have kE : ((w10.setCell ⟨w.heap.size, 0, none⟩ (.int .i64 ep)).setCell ⟨w.heap.size, 1, none⟩ (.slice A es.length k)).cell? ⟨bv, 0, none⟩ = some (.int .i64 ep) ∧ ((w10.setCell ⟨w.heap.size, 0, none⟩ (.int .i64 ep)).setCell ⟨w.heap.size, 1, none⟩ (.slice A es.length k)).cell? ⟨bv, 1, none⟩ = some (.slice A es.length k) := by
           have := (dbox_same (dbox_same HD10.out.box (Below.heap_setCell w10 ⟨w.heap.size, 0, none⟩ (.int .i64 ep) _ hbv)) (Below.heap_setCell _ ⟨w.heap.size, 1, none⟩ (.slice A es.length k) _ hbv)).cells
           exact ⟨this.1, this.2.1⟩)
      | (go_at_call 53; refine (pick _ (0 + 60 + 1 + 1 + 1 + 1 + 1) 16 _ HD8.out.rd (by decide) (by decide) (by decide)).mono ?_; rintro e w9 ⟨v9, rfl, h90, h91, r9, g9, s9⟩
         have HD9 := Lib.hid (HD8.out.grown g9 r9)
         obtain ⟨q9, e9, hq90, hq91⟩ : ∃ q : Int, IntKind.i64.wrap (v9.tdiv 15) = q ∧ 0 ≤ q ∧ q ≤ 1 := ⟨v9 / 15, IntWalk.i64_quo _ _ (by omega), by omega, by omega⟩
         have k9 : w9.cell? ⟨bv, 0, none⟩ = some (.int .i64 ep) ∧ w9.cell? ⟨bv, 1, none⟩ = some (.slice A es.length k) := ⟨HD9.out.box.cells.1, HD9.out.box.cells.2.1⟩)
      | (go_at_call 53; refine (pick _ (0 + 60 + 1 + 1 + 1 + 1) 3 _ HD7.out.rd (by decide) (by decide) (by decide)).mono ?_; rintro e w8 ⟨v8, rfl, h80, h81, r8, g8, s8⟩
         have HD8 := Lib.hid (HD7.out.grown g8 r8)
         have e8 : IntKind.i64.wrap (v8 + 1) = v8 + 1 := IntWalk.i64_in _ (by omega)
         have k8 : w8.cell? ⟨bv, 0, none⟩ = some (.int .i64 ep) ∧ w8.cell? ⟨bv, 1, none⟩ = some (.slice A es.length k) := ⟨HD8.out.box.cells.1, HD8.out.box.cells.2.1⟩)
      | (go_at_call 53; refine (pick _ (0 + 60 + 1 + 1 + 1) 30 _ HDD.out.rd (by decide) (by decide) (by decide)).mono ?_; rintro e w7 ⟨v7, rfl, h70, h71, r7, g7, s7⟩
         have HD7 := Lib.hid (HDD.out.grown g7 r7)
         obtain ⟨q7, e7, hq70, hq71⟩ : ∃ q : Int, IntKind.i64.wrap (v7.tdiv 29) = q ∧ 0 ≤ q ∧ q ≤ 1 := ⟨v7 / 29, IntWalk.i64_quo _ _ (by omega), by omega, by omega⟩
         have e71 : IntKind.i64.wrap (q7 * 1000000) = q7 * 1000000 := IntWalk.i64_in _ (by omega)
         have e72 : IntKind.i64.wrap (sd - q7 * 1000000) = sd - q7 * 1000000 := IntWalk.i64_in _ (by omega)
         have k7 : w7.cell? ⟨bv, 0, none⟩ = some (.int .i64 ep) ∧ w7.cell? ⟨bv, 1, none⟩ = some (.slice A es.length k) := ⟨HD7.out.box.cells.1, HD7.out.box.cells.2.1⟩)
      | fail)
  all_goals
    have HP := Lib.hid (HD10.out.done (.int .i64 ep) (.slice A es.length k))
    clear r7 g7 r8 g8 r9 g9 r10 g10
    go_wp2
    refine bodyPost_ret (v := ?_) ?_ rfl ?_
    rotate_left
    · rw [results_cell_tmp2 rfl]
      go_simp
      try rfl
    · exact ⟨A, k, ep, es, _, _, rfl, HP.out.1, HP.out.2, ⟨by omega, by omega⟩, by omega, by omega⟩

end Rd
end Go.Proofs.Ytfjggpdinfidcaa
