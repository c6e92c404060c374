/-
  Contracts of the program's chapter 32: equal views.
-/
import Derived.Test.YtcbhjnjallnidaaIm13b
import Derived.Test.YtcbhjnjallnidaaSp13b
namespace Go.Proofs.Ytcbhjnjallnidaa
open Go.RowKit
namespace Im13
open Il Sl Fc Fp Pm Sp13 Nu13

set_option maxRecDepth 20000 in
set_option maxHeartbeats 1000000 in
theorem ViewSame (l1 h1 l2 h2 : Nat) (A B : Option Addr) (n c m d : Nat) (xs ys : List Fl) (w : World) (hx : Fls l1 h1 w A n c xs) (hy : Fls l2 h2 w B m d ys) :
    Calls Try.prog 15 #[.slice A n c, .slice B m d] w (BoolB (sameV xs ys) w) := by
  have HX := Lib.hid hx
  have HY := Lib.hid hy
  clear hx hy
  cases hfa : flsOk xs
  · have HF := Lib.hid (sameV_noA (b := ys) hfa)
    go_enter Try.func15, Try.ntmps15
    go_wp2_with fail
    ((with_reducible refine (flowsValid _ _ _ _ _ xs _ HX.out).mono ?_); rintro e w1 ⟨rfl, hb1⟩)
    rw [hfa]
    have HB := Lib.hid hb1
    clear hb1 hfa
    go_wp2
    go_ret
    rw [HF.out]
    exact ⟨rfl, HB.out⟩
  cases hfb : flsOk ys
  · have HF := Lib.hid (sameV_noB (a := xs) hfb)
    go_enter Try.func15, Try.ntmps15
    go_wp2_with fail
    ((with_reducible refine (flowsValid _ _ _ _ _ xs _ HX.out).mono ?_); rintro e w1 ⟨rfl, hb1⟩)
    rw [hfa]
    have HY1 := Lib.hid (HY.out.below hb1 (Nat.le_refl _))
    have HB1 := Lib.hid hb1
    clear hb1 hfa
    go_wp2_with fail
    ((with_reducible refine (flowsValid _ _ _ _ _ ys _ HY1.out).mono ?_); rintro e w2 ⟨rfl, hb2⟩)
    rw [hfb]
    have HB := Lib.hid (HB1.out.trans (hb2.mono HB1.out.size))
    clear hb2 hfb
    go_wp2
    go_ret
    rw [HF.out]
    exact ⟨rfl, HB.out⟩
  have HVS := Lib.hid (sameV_ok hfa hfb)
  have HVA := Lib.hid (viewF_yes hfa)
  have HVB := Lib.hid (viewF_yes hfb)
  go_enter Try.func15, Try.ntmps15
  go_wp2_with fail
  ((with_reducible refine (flowsValid _ _ _ _ _ xs _ HX.out).mono ?_); rintro e w1 ⟨rfl, hb1⟩)
  rw [hfa]
  have HX1 := Lib.hid (HX.out.below hb1 (Nat.le_refl _))
  have HY1 := Lib.hid (HY.out.below hb1 (Nat.le_refl _))
  have HB1 := Lib.hid hb1
  clear hb1 hfa HX HY
  go_wp2_with fail
  ((with_reducible refine (flowsValid _ _ _ _ _ ys _ HY1.out).mono ?_); rintro e w2 ⟨rfl, hb2⟩)
  rw [hfb]
  have HX2 := Lib.hid (HX1.out.below hb2 (Nat.le_refl _))
  have HY2 := Lib.hid (HY1.out.below hb2 (Nat.le_refl _))
  have HB2 := Lib.hid (HB1.out.trans (hb2.mono HB1.out.size))
  clear hb2 hfb HX1 HY1 HB1
  go_wp2_with fail
  ((with_reducible refine (ViewOf _ _ _ _ _ xs _ HX2.out).mono ?_); rintro e w3 ⟨A3, c3, rfl, ho3, hb3⟩)
  rw [HVA.out] at ho3 ⊢
  have HY3 := Lib.hid (HY2.out.below hb3 (Nat.le_refl _))
  have O3 := Lib.hid ho3.row_
  have HB3 := Lib.hid (HB2.out.trans (hb3.mono HB2.out.size))
  clear hb3 HX2 HY2 HB2 ho3 HVA
  go_wp2_with fail
  ((with_reducible refine (ViewOf _ _ _ _ _ ys _ HY3.out).mono ?_); rintro e w4 ⟨A4, c4, rfl, ho4, hb4⟩)
  rw [HVB.out] at ho4 ⊢
  have O3b := Lib.hid (O3.out.below hb4 (Nat.le_refl _))
  have O4 := Lib.hid ho4.row_
  have HB4 := Lib.hid (HB3.out.trans (hb4.mono HB3.out.size))
  clear hb4 HY3 HB3 O3 ho4 HVB
  generalize viewL xs = X at *
  generalize viewL ys = Y at *
  go_wp2_with fail
  ((with_reducible refine (equalF _ _ _ _ _ _ _ _ _ _ X Y _ O3b.out O4.out).mono ?_); rintro e w5 ⟨rfl, q, rfl⟩)
  generalize decide (X = Y) = r at *
  go_wp2
  go_ret
  rw [HVS.out]
  exact ⟨rfl, bd HB4.out⟩
end Im13
end Go.Proofs.Ytcbhjnjallnidaa
