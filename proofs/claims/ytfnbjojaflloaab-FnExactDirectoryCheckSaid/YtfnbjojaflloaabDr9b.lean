/-
  Draws of chapter 21: a directory alone, with a point, with a seed and hops.
-/
import Derived.Test.YtfnbjojaflloaabDr9
namespace Go.Proofs.Ytfnbjojaflloaab
open Go.RowKit
namespace Rd
open Il Sl Ec Dm Sp9 Gm

def DirHas (w w' : World) (es : List En) (A : Option Addr) (k : Nat) : Prop := EnsO w.heap.size w'.heap.size w' A es.length k es ∧ Below w.heap.size w w'
def DirOne (w : World) (e : Ending) (w' : World) : Prop := ∃ A k ep es, e = .returned (.agg #[.int .i64 ep, .slice A es.length k]) ∧ Good es ∧ DirHas w w' es A k
def DirPt (w : World) (e : Ending) (w' : World) : Prop := ∃ A k ep es p, e = .returned (.tuple #[.agg #[.int .i64 ep, .slice A es.length k], .int .i64 p]) ∧ Good es ∧ DirHas w w' es A k ∧ -1 ≤ p ∧ p ≤ 100
def DirSH (w : World) (e : Ending) (w' : World) : Prop := ∃ A k ep es s h, e = .returned (.tuple #[.agg #[.int .i64 ep, .slice A es.length k], .int .i64 s, .int .i64 h]) ∧ Good es ∧ DirHas w w' es A k ∧ (-1000000 ≤ s ∧ s ≤ 1000000) ∧ -10 ≤ h ∧ h ≤ 10
/-- A drawn directory in a variable, the reader beside it. -/
def DpRel (N bv : Nat) (w wr : World) (ep : Int) (A : Option Addr) (k : Nat) (es : List En) : Prop :=
  DBox wr w.heap.size 0 none 0 0 ∧ DBox wr bv ep A es.length k ∧ EnsO (w.heap.size + 2) wr.heap.size wr A es.length k es ∧ Reader wr (w.heap.size + 1) N ∧ Below w.heap.size w wr ∧ w.heap.size + 2 ≤ bv ∧ Good es
section
variable {N N' bv : Nat} {w wr w' : World} {ep : Int} {A : Option Addr} {k : Nat} {es : List En}
theorem DpRel.rd (h : DpRel N bv w wr ep A k es) : Reader wr (w.heap.size + 1) N := h.2.2.2.1
theorem DpRel.box (h : DpRel N bv w wr ep A k es) : DBox wr bv ep A es.length k := h.2.1
theorem DpRel.mono (h : DpRel N bv w wr ep A k es) (hN : N ≤ N') : DpRel N' bv w wr ep A k es := ⟨h.1, h.2.1, h.2.2.1, h.2.2.2.1.mono hN, h.2.2.2.2⟩
theorem DpRel.grown (h : DpRel N bv w wr ep A k es) (hg : wr.grownBy w' (some (w.heap.size + 1))) (hr : Reader w' (w.heap.size + 1) N') : DpRel N' bv w w' ep A k es := by
  obtain ⟨h1, h2, h3, h4, h5, h6, h7⟩ := h
  exact ⟨dbox_same h1 (hg.block _ h1.lt (by simp)), dbox_same h2 (hg.block _ h2.lt (by simp; omega)), EnsO.mono (h3.grown hg (fun b e => by cases e; omega)) (Nat.le_refl _) hg.size, hr, h5.grown hg h5.size (fun b e => by cases e; omega), h6, h7⟩
theorem DpRel.drew (h : DpRel N bv w wr ep A k es) : DpRel N bv w wr.drew ep A k es := by
  obtain ⟨h1, h2, h3, h4, h5, h6, h7⟩ := h
  exact ⟨h1, h2, h3.drewN 1, h4, ⟨h5.os, h5.tape, h5.output, h5.size, h5.block⟩, h6, h7⟩
theorem DpRel.below (h : DpRel N bv w wr ep A k es) (hb : Below wr.heap.size wr w') : DpRel N bv w w' ep A k es := by
  obtain ⟨h1, h2, h3, h4, h5, h6, h7⟩ := h
  exact ⟨h1.below hb (Nat.le_refl _), h2.below hb (Nat.le_refl _), EnsO.mono (h3.below hb (Nat.le_refl _)) (Nat.le_refl _) hb.size, h4.below hb h4.lt, h5.trans (hb.mono h5.size), h6, h7⟩
theorem DpRel.alloc (h : DpRel N bv w wr ep A k es) (o : Obj) : DpRel N bv w (wr.alloc o) ep A k es := h.below ((Below.refl _ _).alloc (Nat.le_refl _) o)
/-- The first result is stored. -/
theorem DpRel.done (h : DpRel N bv w wr ep A k es) (u0 u1 : Value) : Good es ∧ DirHas w ((wr.setCell ⟨w.heap.size, 0, none⟩ u0).setCell ⟨w.heap.size, 1, none⟩ u1) es A k := by
  obtain ⟨h1, h2, h3, h4, h5, h6, h7⟩ := h
  have hsz : ((wr.setCell ⟨w.heap.size, 0, none⟩ u0).setCell ⟨w.heap.size, 1, none⟩ u1).heap.size = wr.heap.size := by simp [World.setCell]
  refine ⟨h7, EnsO.mono (h3.keep (Nat.le_of_eq hsz.symm) fun b q1 _ _ => (Below.heap_setCell _ _ _ _ (show b ≠ w.heap.size by omega)).trans (Below.heap_setCell _ _ _ _ (show b ≠ w.heap.size by omega))) (by omega) (Nat.le_of_eq hsz.symm),
    (h5.setCell (p := ⟨w.heap.size, 0, none⟩) (Nat.le_refl _) _).setCell (p := ⟨w.heap.size, 1, none⟩) (Nat.le_refl _) _⟩
end
theorem code_al9 {w : World} {A : Option Addr} {n c : Nat} (h : CodeIs w A n c) (o : Obj) : CodeIs (w.alloc o) A n c := by
  have hal : Below w.heap.size w (w.alloc o) := (Below.refl _ _).alloc (Nat.le_refl _) _
  refine ⟨h.1, h.2.1, fun hn => ?_⟩
  obtain ⟨b, off, e, hb, hc⟩ := h.2.2 hn
  refine ⟨b, off, e, Nat.lt_of_lt_of_le hb hal.size, fun j hj => ?_⟩
  obtain ⟨u, hu, hcell⟩ := hc j hj
  exact ⟨u, hu, (hal.cell (p := ⟨b, off + j, none⟩) hb).trans hcell⟩
theorem dp_first {w w1 w2 : World} {A : Option Addr} {k M : Nat} {ep : Int} {es : List En} (hb1 : Below (w.heap.size + 1) (w.alloc (.cells #[.int .i64 0, .slice none 0 0] 40)) w1) (hs : w1.heap.size = w.heap.size + 1 + 1)
    (hgd : Good es) (hx : EnsO w1.heap.size w2.heap.size w2 A es.length k es) (hr : Reader w2 (w.heap.size + 1) M) (hg : w1.grownBy w2 (some (w.heap.size + 1))) :
    DBox w2 w.heap.size 0 none 0 0 ∧ EnsO (w.heap.size + 2) w2.heap.size w2 A es.length k es ∧ Below w.heap.size w w2 ∧ DpRel M w2.heap.size w (w2.alloc (.cells #[.int .i64 ep, .slice A es.length k] 40)) ep A k es := by
  have hz : DBox (w.alloc (.cells #[.int .i64 0, .slice none 0 0] 40)) w.heap.size 0 none 0 0 := heap_alloc_new _ _
  have hal : Below w.heap.size w (w.alloc (.cells #[.int .i64 0, .slice none 0 0] 40)) := (Below.refl _ _).alloc (Nat.le_refl _) _
  have hz1 : DBox w1 w.heap.size 0 none 0 0 := dbox_same hz (hb1.block _ (by omega))
  have hb := hal.trans (hb1.mono (by omega))
  have hz2 : DBox w2 w.heap.size 0 none 0 0 := dbox_same hz1 (hg.block _ hz1.lt (by simp))
  have hx2 : EnsO (w.heap.size + 2) w2.heap.size w2 A es.length k es := hx.mono (by omega) (Nat.le_refl _)
  have hb2 : Below w.heap.size w w2 := hb.grown hg hb.size (fun b e => by cases e; omega)
  have hs2 := hg.size
  have hal2 : Below w2.heap.size w2 (w2.alloc (.cells #[.int .i64 ep, .slice A es.length k] 40)) := (Below.refl _ _).alloc (Nat.le_refl _) _
  exact ⟨hz2, hx2, hb2, hz2.below hal2 (Nat.le_refl _), heap_alloc_new _ _, EnsO.mono (hx2.below hal2 (Nat.le_refl _)) (Nat.le_refl _) hal2.size, hr.alloc _, hb2.trans (hal2.mono hb2.size), by omega, hgd⟩
theorem results_cell_tmp {fn : Func} {p u : Tmp} {ty : TypeId} (h : fn.results = #[.cell p ty, .tmp u]) (tmps : Array Value) (P : Program) (w : World) :
    (results fn tmps).run P w = ((asAddr (tmps.getD p undef)).run P w).andThen fun a w₁ => ((loadVar ty a).run P w₁).andThen fun x w₂ => .ok (.tuple #[x, tmps.getD u undef]) w₂ := by
  simp only [results, h]
  simp [Sem.run_bind, Result.andThen]
theorem results_cell_tmp2 {fn : Func} {p u v : Tmp} {ty : TypeId} (h : fn.results = #[.cell p ty, .tmp u, .tmp v]) (tmps : Array Value) (P : Program) (w : World) :
    (results fn tmps).run P w =
      ((asAddr (tmps.getD p undef)).run P w).andThen fun a w₁ => ((loadVar ty a).run P w₁).andThen fun x w₂ => .ok (.tuple #[x, tmps.getD u undef, tmps.getD v undef]) w₂ := by
  simp only [results, h]
  simp [Sem.run_bind, Result.andThen]
set_option maxRecDepth 20000 in
set_option maxHeartbeats 1000000 in
theorem DrawDirectoryDigest (A0 : Option Addr) (n0 c0 : Nat) (w : World) (h : CodeIs w A0 n0 c0) : Calls Try.prog 22 #[.slice A0 n0 c0] w (DirOne w) := by
  have HC := Lib.hid (code_al9 h (.cells #[.int .i64 0, .slice none 0 0] 40))
  have hsz : (w.alloc (.cells #[.int .i64 0, .slice none 0 0] 40)).heap.size = w.heap.size + 1 := by simp
  have HSZ := Lib.hid hsz
  clear h hsz
  go_enter Try.func22, Try.ntmps22
  go_wp2_with fail
  ((with_reducible refine (l6Open _ _ _ _ HC.out).mono ?_); rintro e w1 ⟨rfl, r1, b1, s1⟩)
  rw [HSZ.out] at r1 b1 s1 ⊢
  have R1 := Lib.hid r1
  have B1 := Lib.hid b1
  have S1 := Lib.hid s1
  clear r1 b1 s1 HC HSZ
  go_wp2_with fail
  ((with_reducible refine (l92Directory _ _ _ R1.out (by omega)).mono ?_); rintro e w2 ⟨A, k, ep, es, rfl, hgd, hx, r2, g2⟩)
  obtain ⟨q1, q2, q3, q4⟩ := dp_first (ep := ep) B1.out S1.out hgd hx r2 g2
  have Q1 := Lib.hid q1
  have Q2 := Lib.hid q2
  have Q3 := Lib.hid q3
  have GD := Lib.hid hgd
  clear q1 q2 q3 q4 hgd hx r2 g2 R1 B1 S1
  have HD : Hid (∀ u0 u1 : Value, DirOne w (.returned (.agg #[.int .i64 ep, .slice A es.length k])) ((w2.setCell ⟨w.heap.size, 0, none⟩ u0).setCell ⟨w.heap.size, 1, none⟩ u1)) := fun u0 u1 => by
    have hsz : ((w2.setCell ⟨w.heap.size, 0, none⟩ u0).setCell ⟨w.heap.size, 1, none⟩ u1).heap.size = w2.heap.size := by simp [World.setCell]
    refine ⟨A, k, ep, es, rfl, GD.out, EnsO.mono (Q2.out.keep (Nat.le_of_eq hsz.symm) fun b q1 _ _ => (Below.heap_setCell _ _ _ _ (show b ≠ w.heap.size by omega)).trans (Below.heap_setCell _ _ _ _ (show b ≠ w.heap.size by omega))) (by omega) (Nat.le_of_eq hsz.symm),
      (Q3.out.setCell (p := ⟨w.heap.size, 0, none⟩) (Nat.le_refl _) _).setCell (p := ⟨w.heap.size, 1, none⟩) (Nat.le_refl _) _⟩
  obtain ⟨z0, z1, zf⟩ := Q1.out.cells
  go_wp2
  refine bodyPost_ret (v := .agg #[.int .i64 ep, .slice A es.length k]) ?_ rfl ?_
  · rw [results_cell1 rfl]
    go_simp
  · exact HD.out _ _

end Rd
end Go.Proofs.Ytfnbjojaflloaab
