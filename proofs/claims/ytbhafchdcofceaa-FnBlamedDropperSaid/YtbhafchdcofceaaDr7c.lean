/-
  Draws of chapter 12: counts alone; counts, a path and whether a loop came back.
-/
import Derived.Test.YtbhafchdcofceaaDr7b
namespace Go.Proofs.Ytbhafchdcofceaa
open Go.RowKit
namespace Rd
open Il Sl Lc

/-- Counts alone are drawn. -/
def CntsDraw (w : World) (e : Ending) (w' : World) : Prop :=
  ∃ A c xs, e = .returned (.slice A xs.length c) ∧ Tiny xs ∧ xs.length ≤ 64 ∧ CntsO w.heap.size w'.heap.size w' A xs.length c xs ∧ Below w.heap.size w w'
/-- Counts, a path and a bool are drawn. -/
def AddDraw (w : World) (e : Ending) (w' : World) : Prop :=
  ∃ A c xs B d p bk, e = .returned (.tuple #[.slice A xs.length c, .slice B p.length d, .bool bk]) ∧ Tiny xs ∧ xs.length ≤ 64 ∧ CntsO w.heap.size w'.heap.size w' A xs.length c xs ∧
    p.length ≤ 5 ∧ (∀ x ∈ p, -1 ≤ x ∧ x ≤ 8) ∧ Ints w.heap.size w'.heap.size w' B p.length d p ∧ Below w.heap.size w w'
set_option maxHeartbeats 1000000 in
set_option maxRecDepth 20000 in
theorem DrawLoopAdd (A0 : Option Addr) (n0 c0 : Nat) (w : World) (h : CodeIs w A0 n0 c0) :
    Calls Try.prog 8 #[.slice A0 n0 c0] w (AddDraw w) := by
  have HC := Lib.hid h
  clear h
  go_enter Try.func8, Try.ntmps8
  go_wp2_with fail
  ((with_reducible refine (l6Open _ _ _ _ HC.out).mono ?_); rintro e w1 ⟨rfl, r1, b1, s1⟩)
  have R1 := Lib.hid r1
  have B1 := Lib.hid b1
  have hs1 : w.heap.size < w1.heap.size := by omega
  clear r1 b1 s1 HC
  go_wp2_with fail
  ((with_reducible refine (l91Loops _ _ _ R1.out (by omega)).mono ?_); rintro e w2 ⟨A, c, xs, rfl, hti, hl, hx, r2, g2⟩)
  have HTI := Lib.hid hti
  have HX := Lib.hid (hx.mono (show w.heap.size + 1 ≤ w1.heap.size by omega) (Nat.le_refl _))
  have HR := Lib.hid r2
  have HB := Lib.hid (below_row B1.out g2)
  have hs2 : w1.heap.size ≤ w2.heap.size := g2.size
  clear hti hx r2 g2 B1 R1
  go_wp2_with fail
  ((with_reducible refine (l91LoopPath _ _ _ HR.out (by omega)).mono ?_); rintro e w3 ⟨B, d, p, rfl, hpl, hpb, hpi, r3, g3⟩)
  have HX3 := Lib.hid (cnts_row HX.out (Nat.le_refl _) g3)
  have HB3 := Lib.hid (below_row HB.out g3)
  have HR3 := Lib.hid r3
  have HP := Lib.hid (hpi.mono (show w.heap.size + 1 ≤ w2.heap.size by omega) (Nat.le_refl _))
  have HPB := Lib.hid hpb
  clear hpb hpi r3 g3 HX HB HR
  go_wp2_with fail
  ((with_reducible refine (pick _ _ 2 _ HR3.out (by omega) (by omega) (by omega)).mono ?_); rintro e w4 ⟨v4, rfl, hy0, hy1, r4, g4, s4⟩)
  have HPO : Hid (∀ bk, AddDraw w (.returned (.tuple #[.slice A xs.length c, .slice B p.length d, .bool bk])) w4) := fun bk =>
    ⟨A, c, xs, B, d, p, bk, rfl, HTI.out, hl, CntsO.mono (cnts_row HX3.out (Nat.le_refl _) g4) (Nat.le_succ _) (Nat.le_refl _), hpl, HPB.out, (HP.out.grown g4 (fun k e => by cases e; omega)).mono (Nat.le_succ _) g4.size, below_row HB3.out g4⟩
  clear r4 g4 s4 HX3 HB3 HR3 HP HPB
  go_wp2
  go_ret3
  exact HPO.out _

end Rd
end Go.Proofs.Ytbhafchdcofceaa
