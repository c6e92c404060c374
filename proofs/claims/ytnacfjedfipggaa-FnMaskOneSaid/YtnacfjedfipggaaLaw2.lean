/-
  The laws of chapter 2 by the contracts of the functions that they call: each returns true and writes nothing that was there.
-/
import Derived.Test.YtnacfjedfipggaaSp2
import Derived.Test.YtnacfjedfipggaaIm2
import Derived.Test.YtnacfjedfipggaaRda
import Derived.Test.YtnacfjedfipggaaHlp
import Derived.Test.YtnacfjedfipggaaElt
import Derived.Test.YtnacfjedfipggaaIla
import Derived.Deep.RegionLaw
import Derived.BigQuiet
namespace Go.Proofs.Ytnacfjedfipggaa
open Go.RowKit
namespace Law2
open Gm Mm Il Rd Hlp LawB

theorem fnMask (A : Option Addr) (n c : Nat) (w : World) (h : CodeIs w A n c) :
    Calls Try.prog 3 #[.slice A n c] w (TruePost w) := by
  have HC := Lib.hid h
  clear h
  by_cases hn : 1048576 < n
  · go_enter Try.func3, Try.ntmps3
    go_wp2
    go_ret
    exact ⟨rfl, Below.refl _ _⟩
  have B : Hid (Below w.heap.size w w) := Below.refl _ _
  go_enter Try.func3, Try.ntmps3
  have hq : n ≤ 1048576 := by omega
  go_wp2_with fail
  ((with_reducible refine (DrawMaskOn _ _ _ _ HC.out).mono ?_); rintro e w1 ⟨AL, cl, xs, key, rfl, hl, hbd, hk0, hk1, ho, hb⟩)
  replace B := Lib.hid (B.out.trans (hb.mono B.out.size))
  have OL := Lib.hid ho
  have HL := Lib.hid hl
  have HBD := Lib.hid hbd
  clear ho hl hbd hb
  go_wp2_with fail
  ((with_reducible refine (Im2.MaskOn _ _ _ _ _ xs key _ OL.out.ints).mono ?_); rintro e w2 ⟨AM, cm, rfl, ho, hb⟩)
  replace OL := Lib.hid (OL.out.below hb (Nat.le_refl _))
  replace B := Lib.hid (B.out.trans (hb.mono B.out.size))
  have OM := Lib.hid ho
  clear ho hb
  go_wp2_with fail
  ((with_reducible refine (Sp2.MaskOn _ _ _ _ _ xs key _ OL.out.ints).mono ?_); rintro e w3 ⟨AS, cs, rfl, ho, hb⟩)
  replace OL := Lib.hid (OL.out.below hb (Nat.le_refl _))
  replace OM := Lib.hid (OM.out.below hb (Nat.le_refl _))
  replace B := Lib.hid (B.out.trans (hb.mono B.out.size))
  have OS := Lib.hid ho
  clear ho hb
  go_wp2_with fail
  ((with_reducible refine (sameInts _ _ _ _ _ _ _ _ _ _ _ _ _ OM.out.ints OS.out.ints).mono ?_); rintro e w4 ⟨rfl, hd⟩)
  have hb0 := drew_below hd
  clear hd
  replace OL := Lib.hid (OL.out.below hb0 (Nat.le_refl _))
  replace OM := Lib.hid (OM.out.below hb0 (Nat.le_refl _))
  replace OS := Lib.hid (OS.out.below hb0 (Nat.le_refl _))
  replace B := Lib.hid (B.out.trans (hb0.mono B.out.size))
  clear hb0
  rw [decide_eq_true rfl]
  by_cases hz : onF xs key = []
  · have hz0 := len_zero hz
    clear hz
    go_wp2_with fail
    ((with_reducible refine (sameInts _ _ _ _ _ _ _ _ _ _ _ _ _ OM.out.ints OS.out.ints).mono ?_); rintro e w5 ⟨rfl, hd⟩)
    have hb0 := drew_below hd
    clear hd
    replace OL := Lib.hid (OL.out.below hb0 (Nat.le_refl _))
    replace OM := Lib.hid (OM.out.below hb0 (Nat.le_refl _))
    replace OS := Lib.hid (OS.out.below hb0 (Nat.le_refl _))
    replace B := Lib.hid (B.out.trans (hb0.mono B.out.size))
    clear hb0
    rw [decide_eq_true rfl]
    go_wp2
    go_ret
    exact ⟨rfl, B.out⟩
  have hz0 := len_pos hz
  have hh := onF_ne hz
  clear hz
  have HG := Lib.hid hh.2
  have HK := Lib.hid hh.1
  clear hh
  go_wp2_with fail
  ((with_reducible refine (Im2.MaskOff _ _ _ _ _ _ key _ OM.out.ints).mono ?_); rintro e w5 ⟨AP, cp, rfl, ho, hb⟩)
  replace OL := Lib.hid (OL.out.below hb (Nat.le_refl _))
  replace OM := Lib.hid (OM.out.below hb (Nat.le_refl _))
  replace OS := Lib.hid (OS.out.below hb (Nat.le_refl _))
  replace B := Lib.hid (B.out.trans (hb.mono B.out.size))
  have OP := Lib.hid ho
  clear ho hb
  go_wp2_with fail
  ((with_reducible refine (sameInts _ _ _ _ _ _ _ _ _ _ _ _ _ OP.out.ints OL.out.ints).mono ?_); rintro e w6 ⟨rfl, hd⟩)
  have hb0 := drew_below hd
  clear hd
  replace OL := Lib.hid (OL.out.below hb0 (Nat.le_refl _))
  replace OM := Lib.hid (OM.out.below hb0 (Nat.le_refl _))
  replace OS := Lib.hid (OS.out.below hb0 (Nat.le_refl _))
  replace OP := Lib.hid (OP.out.below hb0 (Nat.le_refl _))
  replace B := Lib.hid (B.out.trans (hb0.mono B.out.size))
  clear hb0
  rw [decide_eq_true (offF_onF HK.out HG.out)]
  go_wp2_with fail
  ((with_reducible refine (Im2.MaskOff _ _ _ _ _ xs key _ OL.out.ints).mono ?_); rintro e w7 ⟨AQ, cq, rfl, ho, hb⟩)
  replace OL := Lib.hid (OL.out.below hb (Nat.le_refl _))
  replace OM := Lib.hid (OM.out.below hb (Nat.le_refl _))
  replace OS := Lib.hid (OS.out.below hb (Nat.le_refl _))
  replace OP := Lib.hid (OP.out.below hb (Nat.le_refl _))
  replace B := Lib.hid (B.out.trans (hb.mono B.out.size))
  have OQ := Lib.hid ho
  clear ho hb
  go_wp2_with fail
  ((with_reducible refine (Im2.MaskOn _ _ _ _ _ _ key _ OQ.out.ints).mono ?_); rintro e w8 ⟨AR, cr, rfl, ho, hb⟩)
  replace OL := Lib.hid (OL.out.below hb (Nat.le_refl _))
  replace OM := Lib.hid (OM.out.below hb (Nat.le_refl _))
  replace OS := Lib.hid (OS.out.below hb (Nat.le_refl _))
  replace OP := Lib.hid (OP.out.below hb (Nat.le_refl _))
  replace OQ := Lib.hid (OQ.out.below hb (Nat.le_refl _))
  replace B := Lib.hid (B.out.trans (hb.mono B.out.size))
  have OR := Lib.hid ho
  clear ho hb
  go_wp2_with fail
  ((with_reducible refine (sameInts _ _ _ _ _ _ _ _ _ _ _ _ _ OR.out.ints OL.out.ints).mono ?_); rintro e w9 ⟨rfl, hd⟩)
  have hb0 := drew_below hd
  clear hd
  replace OL := Lib.hid (OL.out.below hb0 (Nat.le_refl _))
  replace OM := Lib.hid (OM.out.below hb0 (Nat.le_refl _))
  replace OS := Lib.hid (OS.out.below hb0 (Nat.le_refl _))
  replace OP := Lib.hid (OP.out.below hb0 (Nat.le_refl _))
  replace OQ := Lib.hid (OQ.out.below hb0 (Nat.le_refl _))
  replace OR := Lib.hid (OR.out.below hb0 (Nat.le_refl _))
  replace B := Lib.hid (B.out.trans (hb0.mono B.out.size))
  clear hb0
  rw [decide_eq_true (onF_offF HK.out HG.out)]
  go_wp2
  go_ret
  exact ⟨rfl, B.out⟩

theorem fnMaskOrder (A : Option Addr) (n c : Nat) (A1 : Option Addr) (n1 c1 : Nat) (w : World) (h : CodeIs w A n c) :
    Calls Try.prog 4 #[.slice A n c, .slice A1 n1 c1] w (TruePost w) := by
  have HC := Lib.hid h
  clear h
  by_cases hn : 1048576 < n
  · go_enter Try.func4, Try.ntmps4
    go_wp2
    go_ret
    exact ⟨rfl, Below.refl _ _⟩
  by_cases hn1 : 1048576 < n1
  · go_enter Try.func4, Try.ntmps4
    go_wp2
    go_ret
    exact ⟨rfl, Below.refl _ _⟩
  have B : Hid (Below w.heap.size w w) := Below.refl _ _
  go_enter Try.func4, Try.ntmps4
  have hq : n ≤ 1048576 := by omega
  go_wp2_with fail
  ((with_reducible refine (DrawMaskOn _ _ _ _ HC.out).mono ?_); rintro e w1 ⟨AL, cl, xs, key, rfl, hl, hbd, hk0, hk1, ho, hb⟩)
  replace B := Lib.hid (B.out.trans (hb.mono B.out.size))
  have OL := Lib.hid ho
  have HL := Lib.hid hl
  have HBD := Lib.hid hbd
  clear ho hl hbd hb
  go_wp2_with fail
  ((with_reducible refine (Im2.MaskOn _ _ _ _ _ xs key _ OL.out.ints).mono ?_); rintro e w2 ⟨AM, cm, rfl, ho, hb⟩)
  replace OL := Lib.hid (OL.out.below hb (Nat.le_refl _))
  replace B := Lib.hid (B.out.trans (hb.mono B.out.size))
  have OM := Lib.hid ho
  clear ho hb
  go_wp2_with fail
  ((with_reducible refine (Sp2.MaskOn _ _ _ _ _ xs key _ OL.out.ints).mono ?_); rintro e w3 ⟨AS, cs, rfl, ho, hb⟩)
  replace OL := Lib.hid (OL.out.below hb (Nat.le_refl _))
  replace OM := Lib.hid (OM.out.below hb (Nat.le_refl _))
  replace B := Lib.hid (B.out.trans (hb.mono B.out.size))
  have OS := Lib.hid ho
  clear ho hb
  go_wp2_with fail
  ((with_reducible refine (sameInts _ _ _ _ _ _ _ _ _ _ _ _ _ OM.out.ints OS.out.ints).mono ?_); rintro e w4 ⟨rfl, hd⟩)
  have hb0 := drew_below hd
  clear hd
  replace OL := Lib.hid (OL.out.below hb0 (Nat.le_refl _))
  replace OM := Lib.hid (OM.out.below hb0 (Nat.le_refl _))
  replace OS := Lib.hid (OS.out.below hb0 (Nat.le_refl _))
  replace B := Lib.hid (B.out.trans (hb0.mono B.out.size))
  clear hb0
  rw [decide_eq_true rfl]
  by_cases hz : onF xs key = []
  · have hz0 := len_zero hz
    clear hz
    go_wp2_with fail
    ((with_reducible refine (sameInts _ _ _ _ _ _ _ _ _ _ _ _ _ OM.out.ints OS.out.ints).mono ?_); rintro e w5 ⟨rfl, hd⟩)
    have hb0 := drew_below hd
    clear hd
    replace OL := Lib.hid (OL.out.below hb0 (Nat.le_refl _))
    replace OM := Lib.hid (OM.out.below hb0 (Nat.le_refl _))
    replace OS := Lib.hid (OS.out.below hb0 (Nat.le_refl _))
    replace B := Lib.hid (B.out.trans (hb0.mono B.out.size))
    clear hb0
    rw [decide_eq_true rfl]
    go_wp2
    go_ret
    exact ⟨rfl, B.out⟩
  have hz0 := len_pos hz
  have hh := onF_ne hz
  clear hz
  have HG := Lib.hid hh.2
  have HK := Lib.hid hh.1
  clear hh
  have hb := el_in ((n1 : Int) * 17)
  go_wp2_with fail
  ((with_reducible refine (Elt.element _ _ (by omega) (by omega)).mono ?_); rintro e w' ⟨rfl, rfl⟩)
  generalize 1 + (n1 : Int) * 17 % 996 = k at hb ⊢
  have HB := Lib.hid hb
  clear hb
  go_wp2_with fail
  ((with_reducible refine (Im2.MaskOn _ _ _ _ _ _ k _ OM.out.ints).mono ?_); rintro e w6 ⟨AP, cp, rfl, ho, hb⟩)
  replace OL := Lib.hid (OL.out.below hb (Nat.le_refl _))
  replace OM := Lib.hid (OM.out.below hb (Nat.le_refl _))
  replace OS := Lib.hid (OS.out.below hb (Nat.le_refl _))
  replace B := Lib.hid (B.out.trans (hb.mono B.out.size))
  have OP := Lib.hid ho
  clear ho hb
  go_wp2_with fail
  ((with_reducible refine (Im2.MaskOn _ _ _ _ _ xs k _ OL.out.ints).mono ?_); rintro e w7 ⟨AQ, cq, rfl, ho, hb⟩)
  replace OL := Lib.hid (OL.out.below hb (Nat.le_refl _))
  replace OM := Lib.hid (OM.out.below hb (Nat.le_refl _))
  replace OS := Lib.hid (OS.out.below hb (Nat.le_refl _))
  replace OP := Lib.hid (OP.out.below hb (Nat.le_refl _))
  replace B := Lib.hid (B.out.trans (hb.mono B.out.size))
  have OQ := Lib.hid ho
  clear ho hb
  go_wp2_with fail
  ((with_reducible refine (Im2.MaskOn _ _ _ _ _ _ key _ OQ.out.ints).mono ?_); rintro e w8 ⟨AR, cr, rfl, ho, hb⟩)
  replace OL := Lib.hid (OL.out.below hb (Nat.le_refl _))
  replace OM := Lib.hid (OM.out.below hb (Nat.le_refl _))
  replace OS := Lib.hid (OS.out.below hb (Nat.le_refl _))
  replace OP := Lib.hid (OP.out.below hb (Nat.le_refl _))
  replace OQ := Lib.hid (OQ.out.below hb (Nat.le_refl _))
  replace B := Lib.hid (B.out.trans (hb.mono B.out.size))
  have OR := Lib.hid ho
  clear ho hb
  go_wp2_with fail
  ((with_reducible refine (sameInts _ _ _ _ _ _ _ _ _ _ _ _ _ OP.out.ints OR.out.ints).mono ?_); rintro e w9 ⟨rfl, hd⟩)
  have hb0 := drew_below hd
  clear hd
  replace OL := Lib.hid (OL.out.below hb0 (Nat.le_refl _))
  replace OM := Lib.hid (OM.out.below hb0 (Nat.le_refl _))
  replace OS := Lib.hid (OS.out.below hb0 (Nat.le_refl _))
  replace OP := Lib.hid (OP.out.below hb0 (Nat.le_refl _))
  replace OQ := Lib.hid (OQ.out.below hb0 (Nat.le_refl _))
  replace OR := Lib.hid (OR.out.below hb0 (Nat.le_refl _))
  replace B := Lib.hid (B.out.trans (hb0.mono B.out.size))
  clear hb0
  rw [decide_eq_true (onF_onF HK.out HG.out HB.out)]
  go_wp2_with fail
  ((with_reducible refine (Im2.MaskOff _ _ _ _ _ xs k _ OL.out.ints).mono ?_); rintro e w10 ⟨AT, ct, rfl, ho, hb⟩)
  replace OL := Lib.hid (OL.out.below hb (Nat.le_refl _))
  replace OM := Lib.hid (OM.out.below hb (Nat.le_refl _))
  replace OS := Lib.hid (OS.out.below hb (Nat.le_refl _))
  replace OP := Lib.hid (OP.out.below hb (Nat.le_refl _))
  replace OQ := Lib.hid (OQ.out.below hb (Nat.le_refl _))
  replace OR := Lib.hid (OR.out.below hb (Nat.le_refl _))
  replace B := Lib.hid (B.out.trans (hb.mono B.out.size))
  have OT := Lib.hid ho
  clear ho hb
  go_wp2_with fail
  ((with_reducible refine (Im2.MaskOff _ _ _ _ _ _ key _ OT.out.ints).mono ?_); rintro e w11 ⟨AU, cu, rfl, ho, hb⟩)
  replace OL := Lib.hid (OL.out.below hb (Nat.le_refl _))
  replace OM := Lib.hid (OM.out.below hb (Nat.le_refl _))
  replace OS := Lib.hid (OS.out.below hb (Nat.le_refl _))
  replace OP := Lib.hid (OP.out.below hb (Nat.le_refl _))
  replace OQ := Lib.hid (OQ.out.below hb (Nat.le_refl _))
  replace OR := Lib.hid (OR.out.below hb (Nat.le_refl _))
  replace OT := Lib.hid (OT.out.below hb (Nat.le_refl _))
  replace B := Lib.hid (B.out.trans (hb.mono B.out.size))
  have OU := Lib.hid ho
  clear ho hb
  go_wp2_with fail
  ((with_reducible refine (Im2.MaskOff _ _ _ _ _ xs key _ OL.out.ints).mono ?_); rintro e w12 ⟨AV, cv, rfl, ho, hb⟩)
  replace OL := Lib.hid (OL.out.below hb (Nat.le_refl _))
  replace OM := Lib.hid (OM.out.below hb (Nat.le_refl _))
  replace OS := Lib.hid (OS.out.below hb (Nat.le_refl _))
  replace OP := Lib.hid (OP.out.below hb (Nat.le_refl _))
  replace OQ := Lib.hid (OQ.out.below hb (Nat.le_refl _))
  replace OR := Lib.hid (OR.out.below hb (Nat.le_refl _))
  replace OT := Lib.hid (OT.out.below hb (Nat.le_refl _))
  replace OU := Lib.hid (OU.out.below hb (Nat.le_refl _))
  replace B := Lib.hid (B.out.trans (hb.mono B.out.size))
  have OV := Lib.hid ho
  clear ho hb
  go_wp2_with fail
  ((with_reducible refine (Im2.MaskOff _ _ _ _ _ _ k _ OV.out.ints).mono ?_); rintro e w13 ⟨AX, cx, rfl, ho, hb⟩)
  replace OL := Lib.hid (OL.out.below hb (Nat.le_refl _))
  replace OM := Lib.hid (OM.out.below hb (Nat.le_refl _))
  replace OS := Lib.hid (OS.out.below hb (Nat.le_refl _))
  replace OP := Lib.hid (OP.out.below hb (Nat.le_refl _))
  replace OQ := Lib.hid (OQ.out.below hb (Nat.le_refl _))
  replace OR := Lib.hid (OR.out.below hb (Nat.le_refl _))
  replace OT := Lib.hid (OT.out.below hb (Nat.le_refl _))
  replace OU := Lib.hid (OU.out.below hb (Nat.le_refl _))
  replace OV := Lib.hid (OV.out.below hb (Nat.le_refl _))
  replace B := Lib.hid (B.out.trans (hb.mono B.out.size))
  have OX := Lib.hid ho
  clear ho hb
  go_wp2_with fail
  ((with_reducible refine (sameInts _ _ _ _ _ _ _ _ _ _ _ _ _ OU.out.ints OX.out.ints).mono ?_); rintro e w14 ⟨rfl, hd⟩)
  have hb0 := drew_below hd
  clear hd
  replace OL := Lib.hid (OL.out.below hb0 (Nat.le_refl _))
  replace OM := Lib.hid (OM.out.below hb0 (Nat.le_refl _))
  replace OS := Lib.hid (OS.out.below hb0 (Nat.le_refl _))
  replace OP := Lib.hid (OP.out.below hb0 (Nat.le_refl _))
  replace OQ := Lib.hid (OQ.out.below hb0 (Nat.le_refl _))
  replace OR := Lib.hid (OR.out.below hb0 (Nat.le_refl _))
  replace OT := Lib.hid (OT.out.below hb0 (Nat.le_refl _))
  replace OU := Lib.hid (OU.out.below hb0 (Nat.le_refl _))
  replace OV := Lib.hid (OV.out.below hb0 (Nat.le_refl _))
  replace OX := Lib.hid (OX.out.below hb0 (Nat.le_refl _))
  replace B := Lib.hid (B.out.trans (hb0.mono B.out.size))
  clear hb0
  rw [decide_eq_true (offF_offF HK.out HG.out HB.out)]
  go_wp2
  go_ret
  exact ⟨rfl, B.out⟩

theorem fnMaskZero (A : Option Addr) (n c : Nat) (w : World) (h : CodeIs w A n c) :
    Calls Try.prog 5 #[.slice A n c] w (TruePost w) := by
  have HC := Lib.hid h
  clear h
  by_cases hn : 1048576 < n
  · go_enter Try.func5, Try.ntmps5
    go_wp2
    go_ret
    exact ⟨rfl, Below.refl _ _⟩
  have B : Hid (Below w.heap.size w w) := Below.refl _ _
  go_enter Try.func5, Try.ntmps5
  have hq : n ≤ 1048576 := by omega
  go_wp2_with fail
  ((with_reducible refine (DrawStreamOf _ _ _ _ HC.out).mono ?_); rintro e w1 ⟨key, nn, rfl, hk0, hk1, hn0, hn2, hb⟩)
  replace B := Lib.hid (B.out.trans (hb.mono B.out.size))
  clear hb
  go_wp2_with fail
  ((with_reducible refine (Im2.StreamOf key nn _).mono ?_); rintro e w2 ⟨AM, cm, rfl, ho, hb⟩)
  replace B := Lib.hid (B.out.trans (hb.mono B.out.size))
  have OM := Lib.hid ho
  clear ho hb
  go_wp2_with fail
  ((with_reducible refine (Sp2.StreamOf key nn _).mono ?_); rintro e w3 ⟨AS, cs, rfl, ho, hb⟩)
  replace OM := Lib.hid (OM.out.below hb (Nat.le_refl _))
  replace B := Lib.hid (B.out.trans (hb.mono B.out.size))
  have OS := Lib.hid ho
  clear ho hb
  go_wp2_with fail
  ((with_reducible refine (sameInts _ _ _ _ _ _ _ _ _ _ _ _ _ OM.out.ints OS.out.ints).mono ?_); rintro e w4 ⟨rfl, hd⟩)
  have hb0 := drew_below hd
  clear hd
  replace OM := Lib.hid (OM.out.below hb0 (Nat.le_refl _))
  replace OS := Lib.hid (OS.out.below hb0 (Nat.le_refl _))
  replace B := Lib.hid (B.out.trans (hb0.mono B.out.size))
  clear hb0
  rw [decide_eq_true rfl]
  by_cases hz : streamF key nn = []
  · have hz0 := len_zero hz
    clear hz
    go_wp2_with fail
    ((with_reducible refine (sameInts _ _ _ _ _ _ _ _ _ _ _ _ _ OM.out.ints OS.out.ints).mono ?_); rintro e w5 ⟨rfl, hd⟩)
    have hb0 := drew_below hd
    clear hd
    replace OM := Lib.hid (OM.out.below hb0 (Nat.le_refl _))
    replace OS := Lib.hid (OS.out.below hb0 (Nat.le_refl _))
    replace B := Lib.hid (B.out.trans (hb0.mono B.out.size))
    clear hb0
    rw [decide_eq_true rfl]
    go_wp2
    go_ret
    exact ⟨rfl, B.out⟩
  have hz0 := len_pos hz
  have hh := streamF_ne hz
  clear hz
  obtain ⟨hg, h0, h24⟩ := hh
  obtain ⟨m, rfl⟩ := Int.eq_ofNat_of_zero_le h0
  have HG := Lib.hid hg
  clear hg
  have hmk := run_make_row' (P := Try.prog) 23 3 (.int .i64 0) 8 Try.underlying23 infoInt rfl .i64 .i64 m (by omega) (by omega)
  have hbA : Below w4.heap.size w4 (w4.alloc (.cells (madeCells #[.int .i64 0] m) 3)) := (Below.refl _ _).alloc (Nat.le_refl _) _
  have OZ := Lib.hid (own_made w4 3 m (by unfold maxLen; omega))
  replace OM := Lib.hid (OM.out.below hbA (Nat.le_refl _))
  replace OS := Lib.hid (OS.out.below hbA (Nat.le_refl _))
  replace B := Lib.hid (B.out.trans (hbA.mono B.out.size))
  clear hbA
  go_wp2_with fail
  clear hmk
  generalize w4.heap.size = sz at *
  generalize w4.alloc (.cells (madeCells #[.int .i64 0] m) 3) = wz at *
  go_wp2_with fail
  ((with_reducible refine (Im2.MaskOn _ _ _ _ _ _ key _ OZ.out.ints).mono ?_); rintro e w5 ⟨AP, cp, rfl, ho, hb⟩)
  replace OM := Lib.hid (OM.out.below hb (Nat.le_refl _))
  replace OS := Lib.hid (OS.out.below hb (Nat.le_refl _))
  replace OZ := Lib.hid (OZ.out.below hb (Nat.le_refl _))
  replace B := Lib.hid (B.out.trans (hb.mono B.out.size))
  have OP := Lib.hid ho
  clear ho hb
  have eP : onF (List.replicate m 0) key = streamF key (m : Int) := onF_zeros (n := (m : Int)) HG.out h0 h24
  have EP := Lib.hid eP
  clear eP
  go_wp2_with fail
  ((with_reducible refine (sameInts _ _ _ _ _ _ _ _ _ _ _ _ _ OP.out.ints OM.out.ints).mono ?_); rintro e w6 ⟨rfl, hd⟩)
  have hb0 := drew_below hd
  clear hd
  replace OM := Lib.hid (OM.out.below hb0 (Nat.le_refl _))
  replace OS := Lib.hid (OS.out.below hb0 (Nat.le_refl _))
  replace OZ := Lib.hid (OZ.out.below hb0 (Nat.le_refl _))
  replace OP := Lib.hid (OP.out.below hb0 (Nat.le_refl _))
  replace B := Lib.hid (B.out.trans (hb0.mono B.out.size))
  clear hb0
  rw [decide_eq_true EP.out]
  go_wp2_with fail
  ((with_reducible refine (Im2.MaskOff _ _ _ _ _ _ key _ OM.out.ints).mono ?_); rintro e w7 ⟨AQ, cq, rfl, ho, hb⟩)
  replace OM := Lib.hid (OM.out.below hb (Nat.le_refl _))
  replace OS := Lib.hid (OS.out.below hb (Nat.le_refl _))
  replace OZ := Lib.hid (OZ.out.below hb (Nat.le_refl _))
  replace OP := Lib.hid (OP.out.below hb (Nat.le_refl _))
  replace B := Lib.hid (B.out.trans (hb.mono B.out.size))
  have OQ := Lib.hid ho
  clear ho hb
  have eQ : offF (streamF key (m : Int)) key = List.replicate m 0 := offF_stream (n := (m : Int)) HG.out h0 h24
  have EQ := Lib.hid eQ
  clear eQ
  go_wp2_with fail
  ((with_reducible refine (sameInts _ _ _ _ _ _ _ _ _ _ _ _ _ OQ.out.ints OZ.out.ints).mono ?_); rintro e w8 ⟨rfl, hd⟩)
  have hb0 := drew_below hd
  clear hd
  replace OM := Lib.hid (OM.out.below hb0 (Nat.le_refl _))
  replace OS := Lib.hid (OS.out.below hb0 (Nat.le_refl _))
  replace OZ := Lib.hid (OZ.out.below hb0 (Nat.le_refl _))
  replace OP := Lib.hid (OP.out.below hb0 (Nat.le_refl _))
  replace OQ := Lib.hid (OQ.out.below hb0 (Nat.le_refl _))
  replace B := Lib.hid (B.out.trans (hb0.mono B.out.size))
  clear hb0
  rw [decide_eq_true EQ.out]
  go_wp2
  go_ret
  exact ⟨rfl, B.out⟩

theorem fnMaskLength (A : Option Addr) (n c : Nat) (w : World) (h : CodeIs w A n c) :
    Calls Try.prog 7 #[.slice A n c] w (TruePost w) := by
  have HC := Lib.hid h
  clear h
  by_cases hn : 1048576 < n
  · go_enter Try.func7, Try.ntmps7
    go_wp2
    go_ret
    exact ⟨rfl, Below.refl _ _⟩
  have B : Hid (Below w.heap.size w w) := Below.refl _ _
  go_enter Try.func7, Try.ntmps7
  have hq : n ≤ 1048576 := by omega
  go_wp2_with fail
  ((with_reducible refine (DrawMaskOff _ _ _ _ HC.out).mono ?_); rintro e w1 ⟨AL, cl, xs, key, rfl, hl, hbd, hk0, hk1, ho, hb⟩)
  replace B := Lib.hid (B.out.trans (hb.mono B.out.size))
  have OL := Lib.hid ho
  have HL := Lib.hid hl
  have HBD := Lib.hid hbd
  clear ho hl hbd hb
  go_wp2_with fail
  ((with_reducible refine (Im2.MaskOff _ _ _ _ _ xs key _ OL.out.ints).mono ?_); rintro e w2 ⟨AM, cm, rfl, ho, hb⟩)
  replace OL := Lib.hid (OL.out.below hb (Nat.le_refl _))
  replace B := Lib.hid (B.out.trans (hb.mono B.out.size))
  have OM := Lib.hid ho
  clear ho hb
  go_wp2_with fail
  ((with_reducible refine (Sp2.MaskOff _ _ _ _ _ xs key _ OL.out.ints).mono ?_); rintro e w3 ⟨AS, cs, rfl, ho, hb⟩)
  replace OL := Lib.hid (OL.out.below hb (Nat.le_refl _))
  replace OM := Lib.hid (OM.out.below hb (Nat.le_refl _))
  replace B := Lib.hid (B.out.trans (hb.mono B.out.size))
  have OS := Lib.hid ho
  clear ho hb
  go_wp2_with fail
  ((with_reducible refine (sameInts _ _ _ _ _ _ _ _ _ _ _ _ _ OM.out.ints OS.out.ints).mono ?_); rintro e w4 ⟨rfl, hd⟩)
  have hb0 := drew_below hd
  clear hd
  replace OL := Lib.hid (OL.out.below hb0 (Nat.le_refl _))
  replace OM := Lib.hid (OM.out.below hb0 (Nat.le_refl _))
  replace OS := Lib.hid (OS.out.below hb0 (Nat.le_refl _))
  replace B := Lib.hid (B.out.trans (hb0.mono B.out.size))
  clear hb0
  rw [decide_eq_true rfl]
  by_cases hz : offF xs key = []
  · have hz0 := len_zero hz
    clear hz
    go_wp2_with fail
    ((with_reducible refine (sameInts _ _ _ _ _ _ _ _ _ _ _ _ _ OM.out.ints OS.out.ints).mono ?_); rintro e w5 ⟨rfl, hd⟩)
    have hb0 := drew_below hd
    clear hd
    replace OL := Lib.hid (OL.out.below hb0 (Nat.le_refl _))
    replace OM := Lib.hid (OM.out.below hb0 (Nat.le_refl _))
    replace OS := Lib.hid (OS.out.below hb0 (Nat.le_refl _))
    replace B := Lib.hid (B.out.trans (hb0.mono B.out.size))
    clear hb0
    rw [decide_eq_true rfl]
    go_wp2
    go_ret
    exact ⟨rfl, B.out⟩
  have hz0 := len_pos hz
  have hh := offF_ne hz
  clear hz
  have HG := Lib.hid hh.2
  have HK := Lib.hid hh.1
  clear hh
  have hlen := offF_length HK.out HG.out
  have hlen2 := onF_length HK.out HG.out
  have hle := (okL_iff.1 HK.out).2
  have hin := offF_ok HK.out HG.out
  have HIN := Lib.hid hin
  have HLE := Lib.hid hlen
  have HL2 := Lib.hid hlen2
  clear hin hlen hlen2
  have hle2 : (offF xs key).length ≤ 24 := offF_len xs key
  go_wp2
  go_loop [7] (fun i => ∃ k : Nat, k ≤ (offF xs key).length ∧ i = .int .i64 k) (fun i => (offF xs key).length - (intOf i).toNat)
  case atStart => exact ⟨0, Nat.zero_le _, rfl⟩
  case round =>
    obtain ⟨k, hk, rfl⟩ := hrel
    by_cases hlt : k < (offF xs key).length
    · obtain ⟨b, off, rfl, _, _, hcx⟩ := OM.out.ints.at_ hlt
      have hbd := okL_at HIN.out hlt
      generalize (offF xs key).getD k 0 = x at hcx hbd
      obtain ⟨hx0, hx1⟩ := hbd
      go_wp2
      go_round
      case rel => exact ⟨k + 1, by omega, by go_num⟩
      case measure => simp [intOf]; omega
    · have e1 : (((offF xs key).length : Int) == (xs.length : Int)) = true := by rw [HLE.out]; simp
      go_wp2_with fail
      ((with_reducible refine (Im2.MaskOn _ _ _ _ _ xs key _ OL.out.ints).mono ?_); rintro e w5 ⟨AP, cp, rfl, ho, hb⟩)
      replace OL := Lib.hid (OL.out.below hb (Nat.le_refl _))
      replace OM := Lib.hid (OM.out.below hb (Nat.le_refl _))
      replace OS := Lib.hid (OS.out.below hb (Nat.le_refl _))
      replace B := Lib.hid (B.out.trans (hb.mono B.out.size))
      have OP := Lib.hid ho
      clear ho hb
      have e2 : (((onF xs key).length : Int) == (xs.length : Int)) = true := by rw [HL2.out]; simp
      clear e1
      go_wp2
      go_ret
      exact ⟨rfl, B.out⟩



theorem fnMaskOne (A : Option Addr) (n c : Nat) (A1 : Option Addr) (n1 c1 : Nat) (w : World) (h : CodeIs w A n c) :
    Calls Try.prog 6 #[.slice A n c, .slice A1 n1 c1] w (TruePost w) := by
  have HC := Lib.hid h
  clear h
  by_cases hn : 1048576 < n
  · go_enter Try.func6, Try.ntmps6
    go_wp2
    go_ret
    exact ⟨rfl, Below.refl _ _⟩
  by_cases hn1 : 1048576 < n1
  · go_enter Try.func6, Try.ntmps6
    go_wp2
    go_ret
    exact ⟨rfl, Below.refl _ _⟩
  have B : Hid (Below w.heap.size w w) := Below.refl _ _
  go_enter Try.func6, Try.ntmps6
  have hq : n ≤ 1048576 := by omega
  go_wp2_with fail
  ((with_reducible refine (DrawMaskOn _ _ _ _ HC.out).mono ?_); rintro e w1 ⟨AL, cl, xs, key, rfl, hl, hbd, hk0, hk1, ho, hb⟩)
  replace B := Lib.hid (B.out.trans (hb.mono B.out.size))
  have z1 := hb.size
  have OL := Lib.hid ho
  have HL := Lib.hid hl
  have HBD := Lib.hid hbd
  clear ho hl hbd hb
  go_wp2_with fail
  ((with_reducible refine (Im2.MaskOn _ _ _ _ _ xs key _ OL.out.ints).mono ?_); rintro e w2 ⟨AM, cm, rfl, ho, hb⟩)
  replace OL := Lib.hid (OL.out.below hb (Nat.le_refl _))
  replace B := Lib.hid (B.out.trans (hb.mono B.out.size))
  have z2 := hb.size
  have OM := Lib.hid ho
  clear ho hb
  go_wp2_with fail
  ((with_reducible refine (Sp2.MaskOn _ _ _ _ _ xs key _ OL.out.ints).mono ?_); rintro e w3 ⟨AS, cs, rfl, ho, hb⟩)
  replace OL := Lib.hid (OL.out.below hb (Nat.le_refl _))
  replace OM := Lib.hid (OM.out.below hb (Nat.le_refl _))
  replace B := Lib.hid (B.out.trans (hb.mono B.out.size))
  have z3 := hb.size
  have OS := Lib.hid ho
  clear ho hb
  go_wp2_with fail
  ((with_reducible refine (sameInts _ _ _ _ _ _ _ _ _ _ _ _ _ OM.out.ints OS.out.ints).mono ?_); rintro e w4 ⟨rfl, hd⟩)
  have hb0 := drew_below hd
  clear hd
  replace OL := Lib.hid (OL.out.below hb0 (Nat.le_refl _))
  replace OM := Lib.hid (OM.out.below hb0 (Nat.le_refl _))
  replace OS := Lib.hid (OS.out.below hb0 (Nat.le_refl _))
  replace B := Lib.hid (B.out.trans (hb0.mono B.out.size))
  have z4 := hb0.size
  clear hb0
  rw [decide_eq_true rfl]
  by_cases hz : onF xs key = []
  · have hz0 := len_zero hz
    clear hz
    go_wp2_with fail
    ((with_reducible refine (sameInts _ _ _ _ _ _ _ _ _ _ _ _ _ OM.out.ints OS.out.ints).mono ?_); rintro e w5 ⟨rfl, hd⟩)
    have hb0 := drew_below hd
    clear hd
    replace OL := Lib.hid (OL.out.below hb0 (Nat.le_refl _))
    replace OM := Lib.hid (OM.out.below hb0 (Nat.le_refl _))
    replace OS := Lib.hid (OS.out.below hb0 (Nat.le_refl _))
    replace B := Lib.hid (B.out.trans (hb0.mono B.out.size))
    have z5 := hb0.size
    clear hb0
    rw [decide_eq_true rfl]
    go_wp2
    go_ret
    exact ⟨rfl, B.out⟩
  have hz0 := len_pos hz
  have hh := onF_ne hz
  clear hz
  have HG := Lib.hid hh.2
  have HK := Lib.hid hh.1
  clear hh
  have hxl : (onF xs key).length = xs.length := onF_length HK.out HG.out
  have hle := (okL_iff.1 HK.out).2
  have hpos : 0 < xs.length := by rw [← hxl]; exact pos_of_len hz0
  have HXL := Lib.hid hxl
  clear hxl
  obtain ⟨q, hq1, hqm⟩ : ∃ q : Nat, q < xs.length ∧ (n1 : Int) % (xs.length : Int) = (q : Int) := ⟨n1 % xs.length, Nat.mod_lt n1 hpos, rfl⟩
  have hnl : ¬ xs.length = 0 := by omega
  have hxq := okL_at HK.out hq1
  obtain ⟨bl, ol, rfl, _, _, _⟩ := OL.out.ints.at_ hq1
  have hal : Below w4.heap.size w4 (w4.alloc (.cells #[] 3)) := (Below.refl _ _).alloc (Nat.le_refl _) _
  have OL1 := Lib.hid (OL.out.ints.below hal (Nat.le_refl _))
  have HA := Lib.hid (acc_new w4)
  clear hal
  generalize hxe : xs.getD q 0 = x at hxq
  have HXE := Lib.hid hxe
  clear hxe
  go_wp2_with (at_builtin; refine wpList_appL _ _ _ _ HA.out _ _ _ _ _ _ OL1.out hpos (by simp; omega) _ _ rfl rfl rfl rfl ?_; intro vx wx hAcc _; rw [List.nil_append] at hAcc; obtain ⟨bx, fx, cx, rfl, OX, lx, hx, cxq, fxq, HBX⟩ := acc_open hAcc hq1; rw [HXE.out] at cxq; clear hAcc)
  have hbx := HBX.out
  replace OL := Lib.hid (OL.out.below hbx (Nat.le_refl _))
  replace OM := Lib.hid (OM.out.below hbx (Nat.le_refl _))
  replace OS := Lib.hid (OS.out.below hbx (Nat.le_refl _))
  replace B := Lib.hid (B.out.trans (hbx.mono B.out.size))
  have zx := hbx.size
  clear hbx HBX OL1 HA hqm
  obtain ⟨hy, hyn⟩ := another_ne x ((n : Int) % 989)
  go_wp2_with fail
  ((with_reducible refine (Elt.another x ((n : Int) % 989) _ (by omega) (by omega) (by omega) (by omega)).mono ?_); rintro e w' ⟨rfl, rfl⟩)
  generalize (x + 1 + (n : Int) % 989 % 990) % 991 = y at hy hyn ⊢
  have hs := onF_set HK.out HG.out hy hq1 (by rw [HXE.out]; exact hyn)
  have HS := Lib.hid hs
  clear hs
  have OY := Lib.hid (OX.out.set_ hq1 y)
  have hfar : ∀ i, i ≠ bx → (wx.setCell ⟨bx, fx + q, none⟩ (.int .i64 y)).heap[i]? = wx.heap[i]? := fun i hi => Below.heap_setCell _ _ _ _ hi
  have hsz : wx.heap.size ≤ (wx.setCell ⟨bx, fx + q, none⟩ (.int .i64 y)).heap.size := by simp [World.setCell]
  replace OM := Lib.hid (OM.out.keep hsz fun i h1 h2 h3 => hfar i (by omega))
  replace B := Lib.hid (B.out.setCell (p := ⟨bx, fx + q, none⟩) (show w.heap.size ≤ bx by omega) (.int .i64 y))
  clear hfar hsz OL OS OX
  go_wp2_with fail
  clear cxq fxq
  generalize wx.setCell ⟨bx, fx + q, none⟩ (.int .i64 y) = wy at *
  go_wp2_with fail
  ((with_reducible refine (Im2.MaskOn _ _ _ _ _ _ key _ OY.out.ints).mono ?_); rintro e w6 ⟨AZ, cz, rfl, ho, hb⟩)
  replace OM := Lib.hid (OM.out.below hb (Nat.le_refl _))
  replace OY := Lib.hid (OY.out.below hb (Nat.le_refl _))
  replace B := Lib.hid (B.out.trans (hb.mono B.out.size))
  have OZ := Lib.hid ho
  clear ho hb
  have HS1 := Lib.hid HS.out.1
  have HS2 := Lib.hid HS.out.2
  clear HS
  generalize onF (xs.set q y) key = Y at *
  generalize onF xs key = M at *
  have hle2 : M.length ≤ 24 := by rw [HXL.out]; exact hle
  have e1 : ((Y.length : Int) != (M.length : Int)) = false := by rw [HS1.out]; simp
  go_wp2
  go_loopw [12] (fun i wr => ∃ k : Nat, k ≤ M.length ∧ i = .int .i64 k ∧ Hid (∃ d, wr = w6.drewN d)) (fun i _ => M.length - (intOf i).toNat)
  case atStart => exact ⟨0, Nat.zero_le _, rfl, 0, rfl⟩
  case round =>
    obtain ⟨k, hk, rfl, hW⟩ := hrel
    obtain ⟨d, rfl⟩ := hW
    by_cases hlt : k < M.length
    · obtain ⟨bm, om, rfl, _, _, cmk⟩ := OM.out.ints.at_ hlt
      obtain ⟨bz, oz, rfl, _, _, czk⟩ := OZ.out.ints.at_ (k := k) (by rw [HS1.out]; exact hlt)
      have hlz : (k : Int) < (Y.length : Int) := by rw [HS1.out]; omega
      by_cases hkq : k = q
      · subst hkq
        have hd := HS2.out.2
        generalize Y.getD k 0 = a at czk hd
        generalize M.getD k 0 = b at cmk hd
        have e2 : (a != b) = true := by simpa using hd
        clear hd
        go_wp2
        go_quiet (fail)
        go_wp2
        refine ⟨⟨k + 1, by omega, by go_num, _, rfl⟩, ?_⟩
        simp [intOf]
        omega
      · have hd := HS2.out.1 k (by rw [← HXL.out]; exact hlt) hkq
        rw [hd] at czk
        clear hd
        generalize M.getD k 0 = b at cmk czk
        have e3 : ((k : Int) == (q : Int)) = false := by simp; omega
        clear hkq
        go_wp2
        go_quiet (fail)
        go_wp2
        refine ⟨⟨k + 1, by omega, by go_num, _, rfl⟩, ?_⟩
        simp [intOf]
        omega
    · replace B := Lib.hid (B.out.trans ((drew_below ⟨d, rfl⟩).mono B.out.size))
      go_wp2
      go_ret
      exact ⟨rfl, B.out⟩


theorem fnExactMaskOn (A : Option Addr) (n c : Nat) (xs : List Int) (key : Int) (w : World) (hx : Ints 0 w.heap.size w A n c xs) :
    Calls Try.prog 8 #[.slice A n c, .int .i64 key] w (TruePost w) := by
  have hxl := hx.len_
  have IA := Lib.hid hx
  clear hx
  by_cases hn : 1048576 < n
  · go_enter Try.func8, Try.ntmps8
    go_wp2
    go_ret
    exact ⟨rfl, Below.refl _ _⟩
  have hxn : xs.length ≤ 1048576 := by omega
  clear hxl
  have B : Hid (Below w.heap.size w w) := Below.refl _ _
  go_enter Try.func8, Try.ntmps8
  have hle := onF_len xs key
  go_wp2_with fail
  ((with_reducible refine (toIntS _ _ _ _ _ xs _ IA.out (by omega)).mono ?_); rintro e w1 ⟨AT, ct, rfl, ho, hb⟩)
  replace IA := Lib.hid (IA.out.below hb (Nat.le_refl _))
  replace B := Lib.hid (B.out.trans (hb.mono B.out.size))
  have z1 := hb.size
  have OT := Lib.hid ho
  clear ho hb
  go_wp2_with fail
  ((with_reducible refine (Sp2.MaskOn _ _ _ _ _ xs key _ OT.out.ints).mono ?_); rintro e w2 ⟨AS, cs, rfl, ho, hb⟩)
  replace IA := Lib.hid (IA.out.below hb (Nat.le_refl _))
  replace OT := Lib.hid (OT.out.below hb (Nat.le_refl _))
  replace B := Lib.hid (B.out.trans (hb.mono B.out.size))
  have z2 := hb.size
  have OS := Lib.hid ho
  clear ho hb
  go_wp2_with fail
  ((with_reducible refine (toIntS _ _ _ _ _ xs _ IA.out (by omega)).mono ?_); rintro e w3 ⟨AX, cx, rfl, ho, hb⟩)
  replace IA := Lib.hid (IA.out.below hb (Nat.le_refl _))
  replace OT := Lib.hid (OT.out.below hb (Nat.le_refl _))
  replace OS := Lib.hid (OS.out.below hb (Nat.le_refl _))
  replace B := Lib.hid (B.out.trans (hb.mono B.out.size))
  have z3 := hb.size
  have OX := Lib.hid ho
  clear ho hb
  go_wp2_with fail
  ((with_reducible refine (Im2.MaskOn _ _ _ _ _ xs key _ OX.out.ints).mono ?_); rintro e w4 ⟨AM, cm, rfl, ho, hb⟩)
  replace IA := Lib.hid (IA.out.below hb (Nat.le_refl _))
  replace OT := Lib.hid (OT.out.below hb (Nat.le_refl _))
  replace OS := Lib.hid (OS.out.below hb (Nat.le_refl _))
  replace OX := Lib.hid (OX.out.below hb (Nat.le_refl _))
  replace B := Lib.hid (B.out.trans (hb.mono B.out.size))
  have z4 := hb.size
  have OM := Lib.hid ho
  clear ho hb
  go_wp2_with fail
  ((with_reducible refine (eqIntS _ _ _ _ _ _ _ _ _ _ _ _ _ OM.out.ints OS.out.ints).mono ?_); rintro e w5 ⟨rfl, hd⟩)
  have hb0 := drew_below hd
  clear hd
  replace IA := Lib.hid (IA.out.below hb0 (Nat.le_refl _))
  replace OT := Lib.hid (OT.out.below hb0 (Nat.le_refl _))
  replace OS := Lib.hid (OS.out.below hb0 (Nat.le_refl _))
  replace OX := Lib.hid (OX.out.below hb0 (Nat.le_refl _))
  replace OM := Lib.hid (OM.out.below hb0 (Nat.le_refl _))
  replace B := Lib.hid (B.out.trans (hb0.mono B.out.size))
  have z5 := hb0.size
  clear hb0
  rw [decide_eq_true rfl]
  go_wp2_with fail
  ((with_reducible refine (toIntS _ _ _ _ _ xs _ IA.out (by omega)).mono ?_); rintro e w6 ⟨AU, cu, rfl, ho, hb⟩)
  replace IA := Lib.hid (IA.out.below hb (Nat.le_refl _))
  replace OT := Lib.hid (OT.out.below hb (Nat.le_refl _))
  replace OS := Lib.hid (OS.out.below hb (Nat.le_refl _))
  replace OX := Lib.hid (OX.out.below hb (Nat.le_refl _))
  replace OM := Lib.hid (OM.out.below hb (Nat.le_refl _))
  replace B := Lib.hid (B.out.trans (hb.mono B.out.size))
  have z6 := hb.size
  have OU := Lib.hid ho
  clear ho hb
  go_wp2_with fail
  ((with_reducible refine (eqIntS _ _ _ _ _ _ _ _ _ _ _ _ _ OX.out.ints OU.out.ints).mono ?_); rintro e w7 ⟨rfl, hd⟩)
  have hb0 := drew_below hd
  clear hd
  replace IA := Lib.hid (IA.out.below hb0 (Nat.le_refl _))
  replace OT := Lib.hid (OT.out.below hb0 (Nat.le_refl _))
  replace OS := Lib.hid (OS.out.below hb0 (Nat.le_refl _))
  replace OX := Lib.hid (OX.out.below hb0 (Nat.le_refl _))
  replace OM := Lib.hid (OM.out.below hb0 (Nat.le_refl _))
  replace OU := Lib.hid (OU.out.below hb0 (Nat.le_refl _))
  replace B := Lib.hid (B.out.trans (hb0.mono B.out.size))
  have z7 := hb0.size
  clear hb0
  rw [decide_eq_true rfl]
  go_wp2_with fail
  ((with_reducible refine (Hlp.markIntS _ _ _ _ _ _ 1 _ OX.out (by omega) (by omega) (by omega)).mono ?_); rintro e w8 ⟨rfl, hm, hk⟩)
  replace IA := Lib.hid (IA.out.kept hk (by omega))
  replace OT := Lib.hid (OT.out.kept hk (by omega))
  replace OS := Lib.hid (OS.out.kept hk (by omega))
  replace OM := Lib.hid (OM.out.kept hk (by omega))
  replace OU := Lib.hid (OU.out.kept hk (by omega))
  replace B := Lib.hid (B.out.trans (hk.below (by omega)))
  replace OX := Lib.hid hm
  have z8 := Nat.le_of_eq hk.size.symm
  have y8 := Nat.le_of_eq hk.size
  clear hm hk
  go_wp2_with fail
  ((with_reducible refine (eqIntS _ _ _ _ _ _ _ _ _ _ _ _ _ OM.out.ints OS.out.ints).mono ?_); rintro e w9 ⟨rfl, hd⟩)
  have hb0 := drew_below hd
  clear hd
  replace IA := Lib.hid (IA.out.below hb0 (Nat.le_refl _))
  replace OT := Lib.hid (OT.out.below hb0 (Nat.le_refl _))
  replace OS := Lib.hid (OS.out.below hb0 (Nat.le_refl _))
  replace OX := Lib.hid (OX.out.below hb0 (Nat.le_refl _))
  replace OM := Lib.hid (OM.out.below hb0 (Nat.le_refl _))
  replace OU := Lib.hid (OU.out.below hb0 (Nat.le_refl _))
  replace B := Lib.hid (B.out.trans (hb0.mono B.out.size))
  have z9 := hb0.size
  clear hb0
  rw [decide_eq_true rfl]
  go_wp2_with fail
  ((with_reducible refine (Hlp.markIntS _ _ _ _ _ _ 1 _ OM.out (by omega) (by omega) (by omega)).mono ?_); rintro e w10 ⟨rfl, hm, hk⟩)
  replace IA := Lib.hid (IA.out.kept hk (by omega))
  replace OT := Lib.hid (OT.out.kept hk (by omega))
  replace OS := Lib.hid (OS.out.kept hk (by omega))
  replace OX := Lib.hid (OX.out.kept hk (by omega))
  replace OU := Lib.hid (OU.out.kept hk (by omega))
  replace B := Lib.hid (B.out.trans (hk.below (by omega)))
  replace OM := Lib.hid hm
  have z10 := Nat.le_of_eq hk.size.symm
  have y10 := Nat.le_of_eq hk.size
  clear hm hk
  go_wp2_with fail
  ((with_reducible refine (Hlp.heldIntS _ _ _ _ _ 1 _ OM.out.ints (by omega) (by omega) (by omega)).mono ?_); rintro e w' ⟨rfl, rfl⟩)
  go_wp2_with fail
  ((with_reducible refine (toIntS _ _ _ _ _ xs _ IA.out (by omega)).mono ?_); rintro e w12 ⟨AV, cv, rfl, ho, hb⟩)
  replace IA := Lib.hid (IA.out.below hb (Nat.le_refl _))
  replace OT := Lib.hid (OT.out.below hb (Nat.le_refl _))
  replace OS := Lib.hid (OS.out.below hb (Nat.le_refl _))
  replace OX := Lib.hid (OX.out.below hb (Nat.le_refl _))
  replace OM := Lib.hid (OM.out.below hb (Nat.le_refl _))
  replace OU := Lib.hid (OU.out.below hb (Nat.le_refl _))
  replace B := Lib.hid (B.out.trans (hb.mono B.out.size))
  have z12 := hb.size
  have OV := Lib.hid ho
  clear ho hb
  go_wp2_with fail
  ((with_reducible refine (Im2.MaskOn _ _ _ _ _ xs key _ OV.out.ints).mono ?_); rintro e w13 ⟨AH, ch, rfl, ho, hb⟩)
  replace IA := Lib.hid (IA.out.below hb (Nat.le_refl _))
  replace OT := Lib.hid (OT.out.below hb (Nat.le_refl _))
  replace OS := Lib.hid (OS.out.below hb (Nat.le_refl _))
  replace OX := Lib.hid (OX.out.below hb (Nat.le_refl _))
  replace OM := Lib.hid (OM.out.below hb (Nat.le_refl _))
  replace OU := Lib.hid (OU.out.below hb (Nat.le_refl _))
  replace OV := Lib.hid (OV.out.below hb (Nat.le_refl _))
  replace B := Lib.hid (B.out.trans (hb.mono B.out.size))
  have z13 := hb.size
  have OH := Lib.hid ho
  clear ho hb
  go_wp2_with fail
  ((with_reducible refine (eqIntS _ _ _ _ _ _ _ _ _ _ _ _ _ OH.out.ints OS.out.ints).mono ?_); rintro e w14 ⟨rfl, hd⟩)
  have hb0 := drew_below hd
  clear hd
  replace IA := Lib.hid (IA.out.below hb0 (Nat.le_refl _))
  replace OT := Lib.hid (OT.out.below hb0 (Nat.le_refl _))
  replace OS := Lib.hid (OS.out.below hb0 (Nat.le_refl _))
  replace OX := Lib.hid (OX.out.below hb0 (Nat.le_refl _))
  replace OM := Lib.hid (OM.out.below hb0 (Nat.le_refl _))
  replace OU := Lib.hid (OU.out.below hb0 (Nat.le_refl _))
  replace OV := Lib.hid (OV.out.below hb0 (Nat.le_refl _))
  replace OH := Lib.hid (OH.out.below hb0 (Nat.le_refl _))
  replace B := Lib.hid (B.out.trans (hb0.mono B.out.size))
  have z14 := hb0.size
  clear hb0
  rw [decide_eq_true rfl]
  go_wp2_with fail
  ((with_reducible refine (Hlp.heldIntS _ _ _ _ _ 1 _ OM.out.ints (by omega) (by omega) (by omega)).mono ?_); rintro e w' ⟨rfl, rfl⟩)
  go_wp2
  go_ret
  exact ⟨rfl, B.out⟩

theorem fnExactMaskOff (A : Option Addr) (n c : Nat) (xs : List Int) (key : Int) (w : World) (hx : Ints 0 w.heap.size w A n c xs) :
    Calls Try.prog 9 #[.slice A n c, .int .i64 key] w (TruePost w) := by
  have hxl := hx.len_
  have IA := Lib.hid hx
  clear hx
  by_cases hn : 1048576 < n
  · go_enter Try.func9, Try.ntmps9
    go_wp2
    go_ret
    exact ⟨rfl, Below.refl _ _⟩
  have hxn : xs.length ≤ 1048576 := by omega
  clear hxl
  have B : Hid (Below w.heap.size w w) := Below.refl _ _
  go_enter Try.func9, Try.ntmps9
  have hle := offF_len xs key
  go_wp2_with fail
  ((with_reducible refine (toIntS _ _ _ _ _ xs _ IA.out (by omega)).mono ?_); rintro e w1 ⟨AT, ct, rfl, ho, hb⟩)
  replace IA := Lib.hid (IA.out.below hb (Nat.le_refl _))
  replace B := Lib.hid (B.out.trans (hb.mono B.out.size))
  have z1 := hb.size
  have OT := Lib.hid ho
  clear ho hb
  go_wp2_with fail
  ((with_reducible refine (Sp2.MaskOff _ _ _ _ _ xs key _ OT.out.ints).mono ?_); rintro e w2 ⟨AS, cs, rfl, ho, hb⟩)
  replace IA := Lib.hid (IA.out.below hb (Nat.le_refl _))
  replace OT := Lib.hid (OT.out.below hb (Nat.le_refl _))
  replace B := Lib.hid (B.out.trans (hb.mono B.out.size))
  have z2 := hb.size
  have OS := Lib.hid ho
  clear ho hb
  go_wp2_with fail
  ((with_reducible refine (toIntS _ _ _ _ _ xs _ IA.out (by omega)).mono ?_); rintro e w3 ⟨AX, cx, rfl, ho, hb⟩)
  replace IA := Lib.hid (IA.out.below hb (Nat.le_refl _))
  replace OT := Lib.hid (OT.out.below hb (Nat.le_refl _))
  replace OS := Lib.hid (OS.out.below hb (Nat.le_refl _))
  replace B := Lib.hid (B.out.trans (hb.mono B.out.size))
  have z3 := hb.size
  have OX := Lib.hid ho
  clear ho hb
  go_wp2_with fail
  ((with_reducible refine (Im2.MaskOff _ _ _ _ _ xs key _ OX.out.ints).mono ?_); rintro e w4 ⟨AM, cm, rfl, ho, hb⟩)
  replace IA := Lib.hid (IA.out.below hb (Nat.le_refl _))
  replace OT := Lib.hid (OT.out.below hb (Nat.le_refl _))
  replace OS := Lib.hid (OS.out.below hb (Nat.le_refl _))
  replace OX := Lib.hid (OX.out.below hb (Nat.le_refl _))
  replace B := Lib.hid (B.out.trans (hb.mono B.out.size))
  have z4 := hb.size
  have OM := Lib.hid ho
  clear ho hb
  go_wp2_with fail
  ((with_reducible refine (eqIntS _ _ _ _ _ _ _ _ _ _ _ _ _ OM.out.ints OS.out.ints).mono ?_); rintro e w5 ⟨rfl, hd⟩)
  have hb0 := drew_below hd
  clear hd
  replace IA := Lib.hid (IA.out.below hb0 (Nat.le_refl _))
  replace OT := Lib.hid (OT.out.below hb0 (Nat.le_refl _))
  replace OS := Lib.hid (OS.out.below hb0 (Nat.le_refl _))
  replace OX := Lib.hid (OX.out.below hb0 (Nat.le_refl _))
  replace OM := Lib.hid (OM.out.below hb0 (Nat.le_refl _))
  replace B := Lib.hid (B.out.trans (hb0.mono B.out.size))
  have z5 := hb0.size
  clear hb0
  rw [decide_eq_true rfl]
  go_wp2_with fail
  ((with_reducible refine (toIntS _ _ _ _ _ xs _ IA.out (by omega)).mono ?_); rintro e w6 ⟨AU, cu, rfl, ho, hb⟩)
  replace IA := Lib.hid (IA.out.below hb (Nat.le_refl _))
  replace OT := Lib.hid (OT.out.below hb (Nat.le_refl _))
  replace OS := Lib.hid (OS.out.below hb (Nat.le_refl _))
  replace OX := Lib.hid (OX.out.below hb (Nat.le_refl _))
  replace OM := Lib.hid (OM.out.below hb (Nat.le_refl _))
  replace B := Lib.hid (B.out.trans (hb.mono B.out.size))
  have z6 := hb.size
  have OU := Lib.hid ho
  clear ho hb
  go_wp2_with fail
  ((with_reducible refine (eqIntS _ _ _ _ _ _ _ _ _ _ _ _ _ OX.out.ints OU.out.ints).mono ?_); rintro e w7 ⟨rfl, hd⟩)
  have hb0 := drew_below hd
  clear hd
  replace IA := Lib.hid (IA.out.below hb0 (Nat.le_refl _))
  replace OT := Lib.hid (OT.out.below hb0 (Nat.le_refl _))
  replace OS := Lib.hid (OS.out.below hb0 (Nat.le_refl _))
  replace OX := Lib.hid (OX.out.below hb0 (Nat.le_refl _))
  replace OM := Lib.hid (OM.out.below hb0 (Nat.le_refl _))
  replace OU := Lib.hid (OU.out.below hb0 (Nat.le_refl _))
  replace B := Lib.hid (B.out.trans (hb0.mono B.out.size))
  have z7 := hb0.size
  clear hb0
  rw [decide_eq_true rfl]
  go_wp2_with fail
  ((with_reducible refine (Hlp.markIntS _ _ _ _ _ _ 1 _ OX.out (by omega) (by omega) (by omega)).mono ?_); rintro e w8 ⟨rfl, hm, hk⟩)
  replace IA := Lib.hid (IA.out.kept hk (by omega))
  replace OT := Lib.hid (OT.out.kept hk (by omega))
  replace OS := Lib.hid (OS.out.kept hk (by omega))
  replace OM := Lib.hid (OM.out.kept hk (by omega))
  replace OU := Lib.hid (OU.out.kept hk (by omega))
  replace B := Lib.hid (B.out.trans (hk.below (by omega)))
  replace OX := Lib.hid hm
  have z8 := Nat.le_of_eq hk.size.symm
  have y8 := Nat.le_of_eq hk.size
  clear hm hk
  go_wp2_with fail
  ((with_reducible refine (eqIntS _ _ _ _ _ _ _ _ _ _ _ _ _ OM.out.ints OS.out.ints).mono ?_); rintro e w9 ⟨rfl, hd⟩)
  have hb0 := drew_below hd
  clear hd
  replace IA := Lib.hid (IA.out.below hb0 (Nat.le_refl _))
  replace OT := Lib.hid (OT.out.below hb0 (Nat.le_refl _))
  replace OS := Lib.hid (OS.out.below hb0 (Nat.le_refl _))
  replace OX := Lib.hid (OX.out.below hb0 (Nat.le_refl _))
  replace OM := Lib.hid (OM.out.below hb0 (Nat.le_refl _))
  replace OU := Lib.hid (OU.out.below hb0 (Nat.le_refl _))
  replace B := Lib.hid (B.out.trans (hb0.mono B.out.size))
  have z9 := hb0.size
  clear hb0
  rw [decide_eq_true rfl]
  go_wp2_with fail
  ((with_reducible refine (Hlp.markIntS _ _ _ _ _ _ 1 _ OM.out (by omega) (by omega) (by omega)).mono ?_); rintro e w10 ⟨rfl, hm, hk⟩)
  replace IA := Lib.hid (IA.out.kept hk (by omega))
  replace OT := Lib.hid (OT.out.kept hk (by omega))
  replace OS := Lib.hid (OS.out.kept hk (by omega))
  replace OX := Lib.hid (OX.out.kept hk (by omega))
  replace OU := Lib.hid (OU.out.kept hk (by omega))
  replace B := Lib.hid (B.out.trans (hk.below (by omega)))
  replace OM := Lib.hid hm
  have z10 := Nat.le_of_eq hk.size.symm
  have y10 := Nat.le_of_eq hk.size
  clear hm hk
  go_wp2_with fail
  ((with_reducible refine (Hlp.heldIntS _ _ _ _ _ 1 _ OM.out.ints (by omega) (by omega) (by omega)).mono ?_); rintro e w' ⟨rfl, rfl⟩)
  go_wp2_with fail
  ((with_reducible refine (toIntS _ _ _ _ _ xs _ IA.out (by omega)).mono ?_); rintro e w12 ⟨AV, cv, rfl, ho, hb⟩)
  replace IA := Lib.hid (IA.out.below hb (Nat.le_refl _))
  replace OT := Lib.hid (OT.out.below hb (Nat.le_refl _))
  replace OS := Lib.hid (OS.out.below hb (Nat.le_refl _))
  replace OX := Lib.hid (OX.out.below hb (Nat.le_refl _))
  replace OM := Lib.hid (OM.out.below hb (Nat.le_refl _))
  replace OU := Lib.hid (OU.out.below hb (Nat.le_refl _))
  replace B := Lib.hid (B.out.trans (hb.mono B.out.size))
  have z12 := hb.size
  have OV := Lib.hid ho
  clear ho hb
  go_wp2_with fail
  ((with_reducible refine (Im2.MaskOff _ _ _ _ _ xs key _ OV.out.ints).mono ?_); rintro e w13 ⟨AH, ch, rfl, ho, hb⟩)
  replace IA := Lib.hid (IA.out.below hb (Nat.le_refl _))
  replace OT := Lib.hid (OT.out.below hb (Nat.le_refl _))
  replace OS := Lib.hid (OS.out.below hb (Nat.le_refl _))
  replace OX := Lib.hid (OX.out.below hb (Nat.le_refl _))
  replace OM := Lib.hid (OM.out.below hb (Nat.le_refl _))
  replace OU := Lib.hid (OU.out.below hb (Nat.le_refl _))
  replace OV := Lib.hid (OV.out.below hb (Nat.le_refl _))
  replace B := Lib.hid (B.out.trans (hb.mono B.out.size))
  have z13 := hb.size
  have OH := Lib.hid ho
  clear ho hb
  go_wp2_with fail
  ((with_reducible refine (eqIntS _ _ _ _ _ _ _ _ _ _ _ _ _ OH.out.ints OS.out.ints).mono ?_); rintro e w14 ⟨rfl, hd⟩)
  have hb0 := drew_below hd
  clear hd
  replace IA := Lib.hid (IA.out.below hb0 (Nat.le_refl _))
  replace OT := Lib.hid (OT.out.below hb0 (Nat.le_refl _))
  replace OS := Lib.hid (OS.out.below hb0 (Nat.le_refl _))
  replace OX := Lib.hid (OX.out.below hb0 (Nat.le_refl _))
  replace OM := Lib.hid (OM.out.below hb0 (Nat.le_refl _))
  replace OU := Lib.hid (OU.out.below hb0 (Nat.le_refl _))
  replace OV := Lib.hid (OV.out.below hb0 (Nat.le_refl _))
  replace OH := Lib.hid (OH.out.below hb0 (Nat.le_refl _))
  replace B := Lib.hid (B.out.trans (hb0.mono B.out.size))
  have z14 := hb0.size
  clear hb0
  rw [decide_eq_true rfl]
  go_wp2_with fail
  ((with_reducible refine (Hlp.heldIntS _ _ _ _ _ 1 _ OM.out.ints (by omega) (by omega) (by omega)).mono ?_); rintro e w' ⟨rfl, rfl⟩)
  go_wp2
  go_ret
  exact ⟨rfl, B.out⟩

end Law2
end Go.Proofs.Ytnacfjedfipggaa
