/-
  The laws of chapter 3 by the contracts of the functions that they call: each returns true and writes nothing that was there.
-/
import Derived.Test.YtnacfjedfipggabSp3
import Derived.Test.YtnacfjedfipggabIm3
import Derived.Test.YtnacfjedfipggabDr3
import Derived.Test.YtnacfjedfipggabHlp
import Derived.Test.YtnacfjedfipggabElt
import Derived.Test.YtnacfjedfipggabIla
import Derived.Deep.Cut
namespace Go.Proofs.Ytnacfjedfipggab
open Go.RowKit
namespace Law3
open Gm Mm Tm Il Rd Hlp LawB






theorem fnExactTagOf (A : Option Addr) (n c : Nat) (xs : List Int) (key : Int) (w : World) (hx : Ints 0 w.heap.size w A n c xs) :
    Calls Try.prog 3 #[.int .i64 key, .slice A n c] w (TruePost w) := by
  have hxl := hx.len_
  have IA := Lib.hid hx
  clear hx
  by_cases hn : 1048576 < n
  · go_enter Try.func3, Try.ntmps3
    go_wp2
    go_ret
    exact ⟨rfl, Below.refl _ _⟩
  have hxn : xs.length ≤ 1048576 := by omega
  clear hxl
  have B : Hid (Below w.heap.size w w) := Below.refl _ _
  go_enter Try.func3, Try.ntmps3
  go_wp2_with fail
  ((with_reducible refine (toIntS _ _ _ _ _ xs _ IA.out (by omega)).mono ?_); rintro e w1 ⟨AT, ct, rfl, ho, hb⟩)
  replace IA := Lib.hid (IA.out.below hb (Nat.le_refl _))
  replace B := Lib.hid (B.out.trans (hb.mono B.out.size))
  have z1 := hb.size
  have OT := Lib.hid ho
  clear ho hb
  go_wp2_with fail
  ((with_reducible refine (Sp3.TagOf _ _ _ _ _ xs key _ OT.out.ints).mono ?_); rintro e w2 ⟨rfl, hb⟩)
  replace IA := Lib.hid (IA.out.below hb (Nat.le_refl _))
  replace OT := Lib.hid (OT.out.below hb (Nat.le_refl _))
  replace B := Lib.hid (B.out.trans (hb.mono B.out.size))
  have z2 := hb.size
  clear hb
  go_wp2_with fail
  ((with_reducible refine (toIntS _ _ _ _ _ xs _ IA.out (by omega)).mono ?_); rintro e w3 ⟨AX, cx, rfl, ho, hb⟩)
  replace IA := Lib.hid (IA.out.below hb (Nat.le_refl _))
  replace OT := Lib.hid (OT.out.below hb (Nat.le_refl _))
  replace B := Lib.hid (B.out.trans (hb.mono B.out.size))
  have z3 := hb.size
  have OX := Lib.hid ho
  clear ho hb
  go_wp2_with fail
  ((with_reducible refine (Im3.TagOf _ _ _ _ _ xs key _ OX.out.ints).mono ?_); rintro e w4 ⟨rfl, hb⟩)
  replace IA := Lib.hid (IA.out.below hb (Nat.le_refl _))
  replace OT := Lib.hid (OT.out.below hb (Nat.le_refl _))
  replace OX := Lib.hid (OX.out.below hb (Nat.le_refl _))
  replace B := Lib.hid (B.out.trans (hb.mono B.out.size))
  have z4 := hb.size
  clear hb
  go_wp2_with fail
  ((with_reducible refine (toIntS _ _ _ _ _ xs _ IA.out (by omega)).mono ?_); rintro e w5 ⟨AU, cu, rfl, ho, hb⟩)
  replace IA := Lib.hid (IA.out.below hb (Nat.le_refl _))
  replace OT := Lib.hid (OT.out.below hb (Nat.le_refl _))
  replace OX := Lib.hid (OX.out.below hb (Nat.le_refl _))
  replace B := Lib.hid (B.out.trans (hb.mono B.out.size))
  have z5 := hb.size
  have OU := Lib.hid ho
  clear ho hb
  go_wp2_with fail
  ((with_reducible refine (eqIntS _ _ _ _ _ _ _ _ _ _ _ _ _ OX.out.ints OU.out.ints).mono ?_); rintro e w6 ⟨rfl, hd⟩)
  have hb0 := drew_below hd
  clear hd
  replace IA := Lib.hid (IA.out.below hb0 (Nat.le_refl _))
  replace OT := Lib.hid (OT.out.below hb0 (Nat.le_refl _))
  replace OX := Lib.hid (OX.out.below hb0 (Nat.le_refl _))
  replace OU := Lib.hid (OU.out.below hb0 (Nat.le_refl _))
  replace B := Lib.hid (B.out.trans (hb0.mono B.out.size))
  have z6 := hb0.size
  clear hb0
  rw [decide_eq_true rfl]
  go_wp2
  go_ret
  exact ⟨rfl, B.out⟩

theorem fnExactTagCheck (A : Option Addr) (n c : Nat) (xs : List Int) (key tag : Int) (w : World) (hx : Ints 0 w.heap.size w A n c xs) :
    Calls Try.prog 4 #[.int .i64 key, .slice A n c, .int .i64 tag] w (TruePost w) := by
  have hxl := hx.len_
  have IA := Lib.hid hx
  clear hx
  by_cases hn : 1048576 < n
  · go_enter Try.func4, Try.ntmps4
    go_wp2
    go_ret
    exact ⟨rfl, Below.refl _ _⟩
  have hxn : xs.length ≤ 1048576 := by omega
  clear hxl
  have B : Hid (Below w.heap.size w w) := Below.refl _ _
  go_enter Try.func4, Try.ntmps4
  go_wp2_with fail
  ((with_reducible refine (toIntS _ _ _ _ _ xs _ IA.out (by omega)).mono ?_); rintro e w1 ⟨AT, ct, rfl, ho, hb⟩)
  replace IA := Lib.hid (IA.out.below hb (Nat.le_refl _))
  replace B := Lib.hid (B.out.trans (hb.mono B.out.size))
  have z1 := hb.size
  have OT := Lib.hid ho
  clear ho hb
  go_wp2_with fail
  ((with_reducible refine (Sp3.TagCheck _ _ _ _ _ xs key tag _ OT.out.ints).mono ?_); rintro e w2 ⟨rfl, hb⟩)
  replace IA := Lib.hid (IA.out.below hb (Nat.le_refl _))
  replace OT := Lib.hid (OT.out.below hb (Nat.le_refl _))
  replace B := Lib.hid (B.out.trans (hb.mono B.out.size))
  have z2 := hb.size
  clear hb
  go_wp2_with fail
  ((with_reducible refine (toIntS _ _ _ _ _ xs _ IA.out (by omega)).mono ?_); rintro e w3 ⟨AX, cx, rfl, ho, hb⟩)
  replace IA := Lib.hid (IA.out.below hb (Nat.le_refl _))
  replace OT := Lib.hid (OT.out.below hb (Nat.le_refl _))
  replace B := Lib.hid (B.out.trans (hb.mono B.out.size))
  have z3 := hb.size
  have OX := Lib.hid ho
  clear ho hb
  go_wp2_with fail
  ((with_reducible refine (Im3.TagCheck _ _ _ _ _ xs key tag _ OX.out.ints).mono ?_); rintro e w4 ⟨rfl, hb⟩)
  replace IA := Lib.hid (IA.out.below hb (Nat.le_refl _))
  replace OT := Lib.hid (OT.out.below hb (Nat.le_refl _))
  replace OX := Lib.hid (OX.out.below hb (Nat.le_refl _))
  replace B := Lib.hid (B.out.trans (hb.mono B.out.size))
  have z4 := hb.size
  clear hb
  go_wp2_with fail
  ((with_reducible refine (toIntS _ _ _ _ _ xs _ IA.out (by omega)).mono ?_); rintro e w5 ⟨AU, cu, rfl, ho, hb⟩)
  replace IA := Lib.hid (IA.out.below hb (Nat.le_refl _))
  replace OT := Lib.hid (OT.out.below hb (Nat.le_refl _))
  replace OX := Lib.hid (OX.out.below hb (Nat.le_refl _))
  replace B := Lib.hid (B.out.trans (hb.mono B.out.size))
  have z5 := hb.size
  have OU := Lib.hid ho
  clear ho hb
  go_wp2_with fail
  ((with_reducible refine (eqIntS _ _ _ _ _ _ _ _ _ _ _ _ _ OX.out.ints OU.out.ints).mono ?_); rintro e w6 ⟨rfl, hd⟩)
  have hb0 := drew_below hd
  clear hd
  replace IA := Lib.hid (IA.out.below hb0 (Nat.le_refl _))
  replace OT := Lib.hid (OT.out.below hb0 (Nat.le_refl _))
  replace OX := Lib.hid (OX.out.below hb0 (Nat.le_refl _))
  replace OU := Lib.hid (OU.out.below hb0 (Nat.le_refl _))
  replace B := Lib.hid (B.out.trans (hb0.mono B.out.size))
  have z6 := hb0.size
  clear hb0
  rw [decide_eq_true rfl]
  go_wp2
  go_ret
  exact ⟨rfl, B.out⟩

end Law3
end Go.Proofs.Ytnacfjedfipggab
