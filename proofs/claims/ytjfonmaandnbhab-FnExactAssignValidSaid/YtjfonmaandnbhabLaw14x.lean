/-
  Exact laws of chapter 33: valid tables.
-/
import Derived.Test.YtjfonmaandnbhabIm14
import Derived.Test.YtjfonmaandnbhabSp14
import Derived.Test.YtjfonmaandnbhabHb
import Derived.Deep.RegionLaw
import Derived.BigQuiet
namespace Go.Proofs.Ytjfonmaandnbhab
open Go.RowKit
namespace Law14x
open Il Sl Fo Bi Cb Tc Hb

set_option maxRecDepth 20000 in
theorem fnExactAssignValid (A : Option Addr) (n c : Nat) (t : List (List Bool)) (w : World) (hx : Bts 0 w.heap.size w A n c t) :
    Calls Try.prog 7 #[.slice A n c] w fun e w' => e = .returned (.bool true) ∧ Below w.heap.size w w' := by
  have HX := Lib.hid hx
  have HL := Lib.hid hx.len_
  have hz0 : w.heap.size ≤ w.heap.size := Nat.le_refl _
  clear hx
  go_enter Try.func7, Try.ntmps7
  go_wp2_with fail
  ((with_reducible refine (szBoolSS _ _ _ _ _ t _ HX.out).mono ?_); rintro e w1 ⟨⟨v, rfl, hv⟩, rfl⟩)
  rcases hv with hv | ⟨hv, hv2⟩
  · have hd : decide (v < 0) = true := decide_eq_true hv
    go_wp2
    go_ret
    exact ⟨rfl, Below.refl _ _⟩
  have hd : decide (v < 0) = false := decide_eq_false (by omega)
  have HV := Lib.hid hv2
  clear hv hv2
  go_wp2_with fail
  ((with_reducible refine (toBoolSS _ _ _ _ _ t _ HX.out HV.out).mono ?_); rintro e w1 ⟨A1, c1, G1, rfl, ho1, hw1, hb1⟩)
  have HL1 := Lib.hid ho1.len_
  have M1 := Lib.hid (ho1.sts hw1)
  have HX1 := Lib.hid (HX.out.below hb1 (Nat.le_refl _))
  have B1 := Lib.hid hb1
  clear ho1 hw1 hb1
  go_wp2_with fail
  ((with_reducible refine (Sp14.AssignValid _ _ _ _ _ t _ M1.out).mono ?_); rintro e w2 ⟨rfl, rfl⟩)
  go_wp2_with fail
  ((with_reducible refine (toBoolSS _ _ _ _ _ t _ HX1.out HV.out).mono ?_); rintro e w2 ⟨A2, c2, G2, rfl, ho2, hw2, hb2⟩)
  have M2 := Lib.hid (ho2.sts hw2)
  have HX2 := Lib.hid (HX1.out.below hb2 (Nat.le_refl _))
  have B2 := Lib.hid (B1.out.trans (hb2.mono B1.out.size))
  clear ho2 hw2 hb2
  go_wp2_with fail
  ((with_reducible refine (Im14.AssignValid _ _ _ _ _ t _ M2.out).mono ?_); rintro e w3 ⟨rfl, hb3⟩)
  have M3 := Lib.hid (M2.out.below hb3 (Nat.le_refl _))
  have HX3 := Lib.hid (HX2.out.below hb3 (Nat.le_refl _))
  have B3 := Lib.hid (B2.out.trans (hb3.mono B2.out.size))
  clear hb3
  have hne : (!(tabOk t == tabOk t)) = false := by simp
  generalize tabOk t = q at *
  go_wp2_with fail
  ((with_reducible refine (toBoolSS _ _ _ _ _ t _ HX3.out HV.out).mono ?_); rintro e w4 ⟨A4, c4, G4, rfl, ho4, hw4, hb4⟩)
  have M4 := Lib.hid (ho4.sts hw4)
  have M5 := Lib.hid (M3.out.below hb4 (Nat.le_refl _))
  have B4 := Lib.hid (B3.out.trans (hb4.mono B3.out.size))
  clear ho4 hw4 hb4
  go_wp2_with fail
  ((with_reducible refine (eqBoolSS _ _ _ _ _ _ _ _ _ t _ M5.out M4.out).mono ?_); rintro e w5 ⟨rfl, dd, rfl⟩)
  go_wp2
  go_ret
  exact ⟨rfl, below_dr B4.out⟩
end Law14x
end Go.Proofs.Ytjfonmaandnbhab
