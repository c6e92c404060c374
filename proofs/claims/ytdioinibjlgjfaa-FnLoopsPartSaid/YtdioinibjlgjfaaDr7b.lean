/-
  Draws of chapter 12: counts and two numbers.
-/
import Derived.Test.YtdioinibjlgjfaaDr7
import Derived.BigQuiet
namespace Go.Proofs.Ytdioinibjlgjfaa
open Go.RowKit
namespace Rd
open Il Sl Lc

/-- Counts and two numbers are drawn. -/
def CntsTwo (P : Int → Int → Prop) (w : World) (e : Ending) (w' : World) : Prop :=
  ∃ A c xs f t, e = .returned (.tuple #[.slice A xs.length c, .int .i64 f, .int .i64 t]) ∧ Tiny xs ∧ xs.length ≤ 64 ∧ CntsO w.heap.size w'.heap.size w' A xs.length c xs ∧ P f t ∧ Below w.heap.size w w'
theorem below_row {w w1 w' : World} (h : Below w.heap.size w w1) (hg : w1.grownBy w' (some w.heap.size)) : Below w.heap.size w w' :=
  h.grown hg h.size (fun k e => by cases e; exact Nat.le_refl _)
theorem cnts_row {w w1 w' : World} {hi n c : Nat} {A : Option Addr} {xs : List Cnt} (h : CntsO (w.heap.size + 1) hi w1 A n c xs) (hh : hi ≤ w1.heap.size) (hg : w1.grownBy w' (some w.heap.size)) : CntsO (w.heap.size + 1) w'.heap.size w' A n c xs :=
  CntsO.mono (h.grown hg (fun k e => by cases e; omega)) (Nat.le_refl _) (Nat.le_trans hh hg.size)
def NearZero (f t : Int) : Prop := (-1 ≤ f ∧ f ≤ 10) ∧ (-1 ≤ t ∧ t ≤ 10)
set_option maxHeartbeats 1000000 in
set_option maxRecDepth 20000 in
theorem DrawLoopRate (A0 : Option Addr) (n0 c0 : Nat) (w : World) (h : CodeIs w A0 n0 c0) :
    Calls Try.prog 25 #[.slice A0 n0 c0] w (CntsTwo NearZero w) := by
  have HC := Lib.hid h
  clear h
  go_enter Try.func25, Try.ntmps25
  go_wp2_with fail
  ((with_reducible refine (l6Open _ _ _ _ HC.out).mono ?_); rintro e w1 ⟨rfl, r1, b1, s1⟩)
  have R1 := Lib.hid r1
  have B1 := Lib.hid b1
  have hs1 : w.heap.size < w1.heap.size := by omega
  clear r1 b1 s1 HC
  go_wp2_with fail
  ((with_reducible refine (l91Loops _ _ _ R1.out (by omega)).mono ?_); rintro e w2 ⟨A, c, xs, rfl, hti, hl, hx, r2, g2⟩)
  have HTI := Lib.hid hti
  have HX := Lib.hid (hx.mono (show w.heap.size + 1 ≤ w1.heap.size by omega) (Nat.le_refl _))
  have HR := Lib.hid r2
  have HB := Lib.hid (below_row B1.out g2)
  have hs2 : w1.heap.size ≤ w2.heap.size := g2.size
  clear hti hx r2 g2 B1 R1
  by_cases hz : 0 < xs.length
  · have hz1 : decide ((0 : Int) < (xs.length : Int)) = true := by simp; omega
    go_wp2_with fail
    ((with_reducible refine (pick _ _ 4 _ HR.out (by omega) (by omega) (by omega)).mono ?_); rintro e w3 ⟨v3, rfl, hv0, hv1, r3, g3, s3⟩)
    clear s3
    have HX3 := Lib.hid (cnts_row HX.out (Nat.le_refl _) g3)
    have HB3 := Lib.hid (below_row HB.out g3)
    have HR3 := Lib.hid r3
    clear r3 g3 HX HB HR
    by_cases hv : 0 < v3
    · have hvd : decide (0 < v3) = true := by simpa using hv
      go_wp2_with fail
      ((with_reducible refine (pick _ _ xs.length _ HR3.out (by omega) (by omega) (by omega)).mono ?_); rintro e w4 ⟨v4, rfl, hy0, hy1, r4, g4, s4⟩)
      clear s4
      have HX4 := Lib.hid (cnts_row HX3.out (Nat.le_refl _) g4)
      have HB4 := Lib.hid (below_row HB3.out g4)
      clear r4 g4 HX3 HB3 HR3
      obtain ⟨j, rfl⟩ := Int.eq_ofNat_of_zero_le hy0
      have hj : j < xs.length := by omega
      have HTJ := Lib.hid (HTI.out _ (cntAt_mem hj))
      obtain ⟨b, off, rfl, hb1, hb2, hb3, m0, m1, m2, m3⟩ := HX4.out.cnts.at_ hj
      have HPO : Hid (∀ w5, Below w4.heap.size w4 w5 → CntsTwo NearZero w (.returned (.tuple #[.slice (some ⟨b, off, none⟩) xs.length c, .int .i64 (cntAt xs j).fr, .int .i64 (cntAt xs j).to_])) w5) := fun w5 hb5 =>
        ⟨_, c, xs, _, _, rfl, HTI.out, hl, CntsO.mono (HX4.out.below hb5 (Nat.le_refl _)) (Nat.le_succ _) hb5.size, ⟨⟨by have := HTJ.out.1; omega, HTJ.out.1.2⟩, by have := HTJ.out.2.1; omega, HTJ.out.2.1.2⟩, HB4.out.trans (hb5.mono HB4.out.size)⟩
      have HAL := Lib.hid ((Below.refl w4.heap.size w4).alloc (Nat.le_refl _) (.cells #[.int .i64 (cntAt xs j).fr, .int .i64 (cntAt xs j).to_, .int .i64 (cntAt xs j).se, .int .i64 (cntAt xs j).ba] 39))
      clear HX4 HB4 HTJ HTI
      generalize cntAt xs j = y at *
      go_wp2
      go_quiet (fail)
      go_wp2
      go_ret3
      exact HPO.out _ (HAL.out.trans ⟨rfl, rfl, rfl, Nat.le_refl _, fun _ _ => rfl⟩)
    · have hv0 : v3 = 0 := by omega
      subst hv0
      clear hv
      go_wp2_with fail
      ((with_reducible refine (pick _ _ 5 _ HR3.out (by omega) (by omega) (by omega)).mono ?_); rintro e w4 ⟨v4, rfl, hy0, hy1, r4, g4, s4⟩)
      clear s4
      have HX4 := Lib.hid (cnts_row HX3.out (Nat.le_refl _) g4)
      have HB4 := Lib.hid (below_row HB3.out g4)
      have HR4 := Lib.hid r4
      have e4 : IntKind.i64.wrap (v4 - 1) = v4 - 1 := IntWalk.i64_in _ (by omega)
      clear r4 g4 HX3 HB3 HR3
      go_wp2_with fail
      ((with_reducible refine (pick _ _ 5 _ HR4.out (by omega) (by omega) (by omega)).mono ?_); rintro e w5 ⟨v5, rfl, hu0, hu1, r5, g5, s5⟩)
      have HPO : Hid (CntsTwo NearZero w (.returned (.tuple #[.slice A xs.length c, .int .i64 (v4 - 1), .int .i64 v5])) w5) :=
        ⟨_, c, xs, _, _, rfl, HTI.out, hl, CntsO.mono (cnts_row HX4.out (Nat.le_refl _) g5) (Nat.le_succ _) (Nat.le_refl _), ⟨⟨by omega, by omega⟩, by omega, by omega⟩, below_row HB4.out g5⟩
      clear r5 g5 s5 HX4 HB4 HR4
      go_wp2
      go_ret3
      exact HPO.out
  · obtain rfl : xs = [] := List.length_eq_zero_iff.1 (by omega)
    go_wp2_with fail
    ((with_reducible refine (pick _ _ 5 _ HR.out (by omega) (by omega) (by omega)).mono ?_); rintro e w3 ⟨v3, rfl, hv0, hv1, r3, g3, s3⟩)
    clear s3
    have HX4 := Lib.hid (cnts_row HX.out (Nat.le_refl _) g3)
    have HB4 := Lib.hid (below_row HB.out g3)
    have HR4 := Lib.hid r3
    have e4 : IntKind.i64.wrap (v3 - 1) = v3 - 1 := IntWalk.i64_in _ (by omega)
    clear r3 g3 HX HB HR
    go_wp2_with fail
    ((with_reducible refine (pick _ _ 5 _ HR4.out (by omega) (by omega) (by omega)).mono ?_); rintro e w5 ⟨v5, rfl, hu0, hu1, r5, g5, s5⟩)
    have HPO : Hid (CntsTwo NearZero w (.returned (.tuple #[.slice A 0 c, .int .i64 (v3 - 1), .int .i64 v5])) w5) :=
      ⟨_, c, [], _, _, rfl, HTI.out, by simp, CntsO.mono (cnts_row HX4.out (Nat.le_refl _) g5) (Nat.le_succ _) (Nat.le_refl _), ⟨⟨by omega, by omega⟩, by omega, by omega⟩, below_row HB4.out g5⟩
    clear r5 g5 s5 HX4 HB4 HR4
    go_wp2
    go_ret3
    exact HPO.out
set_option maxHeartbeats 1000000 in
set_option maxRecDepth 20000 in
theorem DrawLoopSuspects (A0 : Option Addr) (n0 c0 : Nat) (w : World) (h : CodeIs w A0 n0 c0) :
    Calls Try.prog 28 #[.slice A0 n0 c0] w (CntsTwo (fun _ _ => True) w) := by
  have HC := Lib.hid h
  clear h
  go_enter Try.func28, Try.ntmps28
  go_wp2_with fail
  ((with_reducible refine (l6Open _ _ _ _ HC.out).mono ?_); rintro e w1 ⟨rfl, r1, b1, s1⟩)
  have R1 := Lib.hid r1
  have B1 := Lib.hid b1
  have hs1 : w.heap.size < w1.heap.size := by omega
  clear r1 b1 s1 HC
  go_wp2_with fail
  ((with_reducible refine (l91Loops _ _ _ R1.out (by omega)).mono ?_); rintro e w2 ⟨A, c, xs, rfl, hti, hl, hx, r2, g2⟩)
  have HTI := Lib.hid hti
  have HX := Lib.hid (hx.mono (show w.heap.size + 1 ≤ w1.heap.size by omega) (Nat.le_refl _))
  have HB := Lib.hid (below_row B1.out g2)
  have HR := Lib.hid r2
  have hs2 : w1.heap.size ≤ w2.heap.size := g2.size
  clear hti hx r2 g2 B1 R1
  go_wp2_with fail
  ((with_reducible refine (pick _ _ 9 _ HR.out (by omega) (by omega) (by omega)).mono ?_); rintro e w3 ⟨v3, rfl, hv0, hv1, r3, g3, s3⟩)
  clear s3
  have HX3 := Lib.hid (cnts_row HX.out (Nat.le_refl _) g3)
  have HB3 := Lib.hid (below_row HB.out g3)
  have HR3 := Lib.hid r3
  have e3 : IntKind.i64.wrap (1 + v3) = 1 + v3 := IntWalk.i64_in _ (by omega)
  have e3' : IntKind.i64.wrap (1 + v3 + 1) = 1 + v3 + 1 := IntWalk.i64_in _ (by omega)
  clear r3 g3 HX HB HR
  go_wp2_with fail
  ((with_reducible refine (pick _ _ _ _ HR3.out (by omega) (by omega) (by omega)).mono ?_); rintro e w4 ⟨v4, rfl, hy0, hy1, r4, g4, s4⟩)
  clear s4
  have HX4 := Lib.hid (cnts_row HX3.out (Nat.le_refl _) g4)
  have HB4 := Lib.hid (below_row HB3.out g4)
  have HR4 := Lib.hid r4
  clear r4 g4 HX3 HB3 HR3
  go_wp2_with fail
  ((with_reducible refine (pick _ _ 20 _ HR4.out (by omega) (by omega) (by omega)).mono ?_); rintro e w5 ⟨v5, rfl, hu0, hu1, r5, g5, s5⟩)
  clear s5
  have HX5 := Lib.hid (cnts_row HX4.out (Nat.le_refl _) g5)
  have HB5 := Lib.hid (below_row HB4.out g5)
  have HR5 := Lib.hid r5
  clear r5 g5 HX4 HB4 HR4
  go_wp2_with fail
  ((with_reducible refine (pick _ _ 3 _ HR5.out (by omega) (by omega) (by omega)).mono ?_); rintro e w6 ⟨v6, rfl, hk0, hk1, r6, g6, s6⟩)
  clear s6
  have HX6 := Lib.hid (cnts_row HX5.out (Nat.le_refl _) g6)
  have HB6 := Lib.hid (below_row HB5.out g6)
  have HR6 := Lib.hid r6
  clear r6 g6 HX5 HB5 HR5
  go_wp2_with fail
  ((with_reducible refine (pick _ _ 20 _ HR6.out (by omega) (by omega) (by omega)).mono ?_); rintro e w7 ⟨v7, rfl, hz0, hz1, r7, g7, s7⟩)
  have HPO : Hid (∀ f t, CntsTwo (fun _ _ => True) w (.returned (.tuple #[.slice A xs.length c, .int .i64 f, .int .i64 t])) w7) := fun f t =>
    ⟨_, c, xs, _, _, rfl, HTI.out, hl, CntsO.mono (cnts_row HX6.out (Nat.le_refl _) g7) (Nat.le_succ _) (Nat.le_refl _), trivial, below_row HB6.out g7⟩
  clear r7 g7 s7 HX6 HB6 HR6
  go_wp2
  go_ret3
  exact HPO.out _ _
set_option maxRecDepth 20000 in
theorem DrawLoopBlamed (A0 : Option Addr) (n0 c0 : Nat) (w : World) (h : CodeIs w A0 n0 c0) :
    Calls Try.prog 32 #[.slice A0 n0 c0] w (CntsTwo (fun _ _ => True) w) := by
  have HC := Lib.hid h
  clear h
  go_enter Try.func32, Try.ntmps32
  go_wp2_with fail
  ((with_reducible refine (DrawLoopSuspects _ _ _ _ HC.out).mono ?_); rintro e w1 ⟨A, c, xs, f, t, rfl, hti, hl, hx, hp, hb⟩)
  have HPO : Hid (CntsTwo (fun _ _ => True) w (.returned (.tuple #[.slice A xs.length c, .int .i64 f, .int .i64 t])) w1) := ⟨_, c, xs, f, t, rfl, hti, hl, hx, hp, hb⟩
  clear hti hx hb
  go_wp2
  go_ret3
  exact HPO.out

end Rd
end Go.Proofs.Ytdioinibjlgjfaa
