/-
  The laws of chapter 4 by the contracts of the functions that they call: each returns true and writes nothing that was there.
-/
import Derived.Test.YtnacfjedfipggabSp4
import Derived.Test.YtnacfjedfipggabIm4
import Derived.Test.YtnacfjedfipggabDr4
import Derived.Test.YtnacfjedfipggabHlp
import Derived.Test.YtnacfjedfipggabElt
import Derived.Test.YtnacfjedfipggabIla
import Derived.Deep.Cut
namespace Go.Proofs.Ytnacfjedfipggab
open Go.RowKit
namespace Law4
open Gm Mm Tm Lm Il Rd Hlp LawB

theorem fnLetter (A : Option Addr) (n c : Nat) (w : World) (h : CodeIs w A n c) :
    Calls Try.prog 5 #[.slice A n c] w (TruePost w) := by
  have HC := Lib.hid h
  clear h
  by_cases hn : 1048576 < n
  · go_enter Try.func5, Try.ntmps5
    go_wp2
    go_ret
    exact ⟨rfl, Below.refl _ _⟩
  have B : Hid (Below w.heap.size w w) := Below.refl _ _
  go_enter Try.func5, Try.ntmps5
  have hq : n ≤ 1048576 := by omega
  go_wp2_with fail
  ((with_reducible refine (DrawLetterPack _ _ _ _ HC.out).mono ?_); rintro e w1 ⟨AL, cl, xs, rfl, hl, ho, hb⟩)
  replace B := Lib.hid (B.out.trans (hb.mono B.out.size))
  have OL := Lib.hid ho
  clear ho hb
  go_wp2_with fail
  ((with_reducible refine (Im4.LetterPack _ _ _ _ _ xs _ OL.out.ints).mono ?_); rintro e w2 ⟨AM, cm, rfl, ho, hb⟩)
  replace OL := Lib.hid (OL.out.below hb (Nat.le_refl _))
  replace B := Lib.hid (B.out.trans (hb.mono B.out.size))
  have OM := Lib.hid ho
  clear ho hb
  go_wp2_with fail
  ((with_reducible refine (Sp4.LetterPack _ _ _ _ _ xs _ OL.out.ints).mono ?_); rintro e w3 ⟨AS, cs, rfl, ho, hb⟩)
  replace OL := Lib.hid (OL.out.below hb (Nat.le_refl _))
  replace OM := Lib.hid (OM.out.below hb (Nat.le_refl _))
  replace B := Lib.hid (B.out.trans (hb.mono B.out.size))
  have OS := Lib.hid ho
  clear ho hb
  cases hok : packOk xs
  · go_wp2_with fail
    ((with_reducible refine (sameInts _ _ _ _ _ _ _ _ _ _ _ _ _ OM.out.ints OS.out.ints).mono ?_); rintro e w4 ⟨rfl, hd⟩)
    have hb0 := drew_below hd
    clear hd
    replace OL := Lib.hid (OL.out.below hb0 (Nat.le_refl _))
    replace OM := Lib.hid (OM.out.below hb0 (Nat.le_refl _))
    replace OS := Lib.hid (OS.out.below hb0 (Nat.le_refl _))
    replace B := Lib.hid (B.out.trans (hb0.mono B.out.size))
    clear hb0
    rw [decide_eq_true rfl]
    go_wp2_with fail
    ((with_reducible refine (sameInts _ _ _ _ _ _ _ _ _ _ _ _ _ OM.out.ints OS.out.ints).mono ?_); rintro e w5 ⟨rfl, hd⟩)
    have hb0 := drew_below hd
    clear hd
    replace OL := Lib.hid (OL.out.below hb0 (Nat.le_refl _))
    replace OM := Lib.hid (OM.out.below hb0 (Nat.le_refl _))
    replace OS := Lib.hid (OS.out.below hb0 (Nat.le_refl _))
    replace B := Lib.hid (B.out.trans (hb0.mono B.out.size))
    clear hb0
    rw [decide_eq_true rfl]
    clear hok
    go_wp2
    go_ret
    exact ⟨rfl, B.out⟩
  go_wp2_with fail
  ((with_reducible refine (sameInts _ _ _ _ _ _ _ _ _ _ _ _ _ OM.out.ints OS.out.ints).mono ?_); rintro e w4 ⟨rfl, hd⟩)
  have hb0 := drew_below hd
  clear hd
  replace OL := Lib.hid (OL.out.below hb0 (Nat.le_refl _))
  replace OM := Lib.hid (OM.out.below hb0 (Nat.le_refl _))
  replace OS := Lib.hid (OS.out.below hb0 (Nat.le_refl _))
  replace B := Lib.hid (B.out.trans (hb0.mono B.out.size))
  clear hb0
  rw [decide_eq_true rfl]
  have HK := Lib.hid hok
  clear hok
  go_wp2_with fail
  ((with_reducible refine (Im4.LetterOpen _ _ _ _ _ (packF xs) _ OM.out.ints).mono ?_); rintro e w5 ⟨AX, cx, rfl, ho, hb⟩)
  replace OL := Lib.hid (OL.out.below hb (Nat.le_refl _))
  replace OM := Lib.hid (OM.out.below hb (Nat.le_refl _))
  replace OS := Lib.hid (OS.out.below hb (Nat.le_refl _))
  replace B := Lib.hid (B.out.trans (hb.mono B.out.size))
  have OX := Lib.hid ho
  clear ho hb
  have e1 : openOk (packF xs) = true := by rw [packF_yes HK.out]; exact openOk_pack HK.out
  have E2 : Hid (openF (packF xs) = xs) := by show openF (packF xs) = xs; rw [packF_yes HK.out]; exact openF_pack HK.out
  rw [e1]
  clear e1
  go_wp2_with fail
  ((with_reducible refine (sameInts _ _ _ _ _ _ _ _ _ _ _ _ _ OX.out.ints OL.out.ints).mono ?_); rintro e w6 ⟨rfl, hd⟩)
  have hb0 := drew_below hd
  clear hd
  replace OL := Lib.hid (OL.out.below hb0 (Nat.le_refl _))
  replace OM := Lib.hid (OM.out.below hb0 (Nat.le_refl _))
  replace OS := Lib.hid (OS.out.below hb0 (Nat.le_refl _))
  replace OX := Lib.hid (OX.out.below hb0 (Nat.le_refl _))
  replace B := Lib.hid (B.out.trans (hb0.mono B.out.size))
  clear hb0
  rw [decide_eq_true E2.out]
  have e3 : (((packF xs).length : Int) == 6) = true := by rw [packF_yes HK.out, packL_len (packOk_iff.1 HK.out).2]; rfl
  go_wp2
  go_ret
  exact ⟨rfl, B.out⟩

theorem fnLetterBack (A : Option Addr) (n c : Nat) (w : World) (h : CodeIs w A n c) :
    Calls Try.prog 7 #[.slice A n c] w (TruePost w) := by
  have HC := Lib.hid h
  clear h
  by_cases hn : 1048576 < n
  · go_enter Try.func7, Try.ntmps7
    go_wp2
    go_ret
    exact ⟨rfl, Below.refl _ _⟩
  have B : Hid (Below w.heap.size w w) := Below.refl _ _
  go_enter Try.func7, Try.ntmps7
  have hq : n ≤ 1048576 := by omega
  go_wp2_with fail
  ((with_reducible refine (DrawLetterOpen _ _ _ _ HC.out).mono ?_); rintro e w1 ⟨AL, cl, xs, rfl, hl, ho, hb⟩)
  replace B := Lib.hid (B.out.trans (hb.mono B.out.size))
  have OL := Lib.hid ho
  clear ho hb
  go_wp2_with fail
  ((with_reducible refine (Im4.LetterOpen _ _ _ _ _ xs _ OL.out.ints).mono ?_); rintro e w2 ⟨AM, cm, rfl, ho, hb⟩)
  replace OL := Lib.hid (OL.out.below hb (Nat.le_refl _))
  replace B := Lib.hid (B.out.trans (hb.mono B.out.size))
  have OM := Lib.hid ho
  clear ho hb
  go_wp2_with fail
  ((with_reducible refine (Sp4.LetterOpen _ _ _ _ _ xs _ OL.out.ints).mono ?_); rintro e w3 ⟨AS, cs, rfl, ho, hb⟩)
  replace OL := Lib.hid (OL.out.below hb (Nat.le_refl _))
  replace OM := Lib.hid (OM.out.below hb (Nat.le_refl _))
  replace B := Lib.hid (B.out.trans (hb.mono B.out.size))
  have OS := Lib.hid ho
  clear ho hb
  cases hok : openOk xs
  · go_wp2_with fail
    ((with_reducible refine (sameInts _ _ _ _ _ _ _ _ _ _ _ _ _ OM.out.ints OS.out.ints).mono ?_); rintro e w4 ⟨rfl, hd⟩)
    have hb0 := drew_below hd
    clear hd
    replace OL := Lib.hid (OL.out.below hb0 (Nat.le_refl _))
    replace OM := Lib.hid (OM.out.below hb0 (Nat.le_refl _))
    replace OS := Lib.hid (OS.out.below hb0 (Nat.le_refl _))
    replace B := Lib.hid (B.out.trans (hb0.mono B.out.size))
    clear hb0
    rw [decide_eq_true rfl]
    go_wp2_with fail
    ((with_reducible refine (sameInts _ _ _ _ _ _ _ _ _ _ _ _ _ OM.out.ints OS.out.ints).mono ?_); rintro e w5 ⟨rfl, hd⟩)
    have hb0 := drew_below hd
    clear hd
    replace OL := Lib.hid (OL.out.below hb0 (Nat.le_refl _))
    replace OM := Lib.hid (OM.out.below hb0 (Nat.le_refl _))
    replace OS := Lib.hid (OS.out.below hb0 (Nat.le_refl _))
    replace B := Lib.hid (B.out.trans (hb0.mono B.out.size))
    clear hb0
    rw [decide_eq_true rfl]
    clear hok
    go_wp2
    go_ret
    exact ⟨rfl, B.out⟩
  go_wp2_with fail
  ((with_reducible refine (sameInts _ _ _ _ _ _ _ _ _ _ _ _ _ OM.out.ints OS.out.ints).mono ?_); rintro e w4 ⟨rfl, hd⟩)
  have hb0 := drew_below hd
  clear hd
  replace OL := Lib.hid (OL.out.below hb0 (Nat.le_refl _))
  replace OM := Lib.hid (OM.out.below hb0 (Nat.le_refl _))
  replace OS := Lib.hid (OS.out.below hb0 (Nat.le_refl _))
  replace B := Lib.hid (B.out.trans (hb0.mono B.out.size))
  clear hb0
  rw [decide_eq_true rfl]
  have HK := Lib.hid hok
  clear hok
  go_wp2_with fail
  ((with_reducible refine (Im4.LetterPack _ _ _ _ _ (openF xs) _ OM.out.ints).mono ?_); rintro e w5 ⟨AX, cx, rfl, ho, hb⟩)
  replace OL := Lib.hid (OL.out.below hb (Nat.le_refl _))
  replace OM := Lib.hid (OM.out.below hb (Nat.le_refl _))
  replace OS := Lib.hid (OS.out.below hb (Nat.le_refl _))
  replace B := Lib.hid (B.out.trans (hb.mono B.out.size))
  have OX := Lib.hid ho
  clear ho hb
  rw [(pack_open HK.out).1]
  go_wp2_with fail
  ((with_reducible refine (sameInts _ _ _ _ _ _ _ _ _ _ _ _ _ OX.out.ints OL.out.ints).mono ?_); rintro e w6 ⟨rfl, hd⟩)
  have hb0 := drew_below hd
  clear hd
  replace OL := Lib.hid (OL.out.below hb0 (Nat.le_refl _))
  replace OM := Lib.hid (OM.out.below hb0 (Nat.le_refl _))
  replace OS := Lib.hid (OS.out.below hb0 (Nat.le_refl _))
  replace OX := Lib.hid (OX.out.below hb0 (Nat.le_refl _))
  replace B := Lib.hid (B.out.trans (hb0.mono B.out.size))
  clear hb0
  rw [decide_eq_true (pack_open HK.out).2]
  go_wp2
  go_ret
  exact ⟨rfl, B.out⟩

theorem fnLetterChange (A : Option Addr) (n c : Nat) (A1 : Option Addr) (n1 c1 : Nat) (w : World) (h : CodeIs w A n c) :
    Calls Try.prog 6 #[.slice A n c, .slice A1 n1 c1] w (TruePost w) := by
  have HC := Lib.hid h
  clear h
  by_cases hn : 1048576 < n
  · go_enter Try.func6, Try.ntmps6
    go_wp2
    go_ret
    exact ⟨rfl, Below.refl _ _⟩
  by_cases hn1 : 1048576 < n1
  · go_enter Try.func6, Try.ntmps6
    go_wp2
    go_ret
    exact ⟨rfl, Below.refl _ _⟩
  have B : Hid (Below w.heap.size w w) := Below.refl _ _
  go_enter Try.func6, Try.ntmps6
  have hq : n ≤ 1048576 := by omega
  go_wp2_with fail
  ((with_reducible refine (DrawLetterPack _ _ _ _ HC.out).mono ?_); rintro e w1 ⟨AL, cl, xs, rfl, hl, ho, hb⟩)
  replace B := Lib.hid (B.out.trans (hb.mono B.out.size))
  have z1 := hb.size
  have OL := Lib.hid ho
  clear ho hb
  go_wp2_with fail
  ((with_reducible refine (Im4.LetterPack _ _ _ _ _ xs _ OL.out.ints).mono ?_); rintro e w2 ⟨AM, cm, rfl, ho, hb⟩)
  replace OL := Lib.hid (OL.out.below hb (Nat.le_refl _))
  replace B := Lib.hid (B.out.trans (hb.mono B.out.size))
  have z2 := hb.size
  have OM := Lib.hid ho
  clear ho hb
  go_wp2_with fail
  ((with_reducible refine (Sp4.LetterPack _ _ _ _ _ xs _ OL.out.ints).mono ?_); rintro e w3 ⟨AS, cs, rfl, ho, hb⟩)
  replace OL := Lib.hid (OL.out.below hb (Nat.le_refl _))
  replace OM := Lib.hid (OM.out.below hb (Nat.le_refl _))
  replace B := Lib.hid (B.out.trans (hb.mono B.out.size))
  have z3 := hb.size
  have OS := Lib.hid ho
  clear ho hb
  cases hok : packOk xs
  · go_wp2_with fail
    ((with_reducible refine (sameInts _ _ _ _ _ _ _ _ _ _ _ _ _ OM.out.ints OS.out.ints).mono ?_); rintro e w4 ⟨rfl, hd⟩)
    have hb0 := drew_below hd
    clear hd
    replace OL := Lib.hid (OL.out.below hb0 (Nat.le_refl _))
    replace OM := Lib.hid (OM.out.below hb0 (Nat.le_refl _))
    replace OS := Lib.hid (OS.out.below hb0 (Nat.le_refl _))
    replace B := Lib.hid (B.out.trans (hb0.mono B.out.size))
    have z4 := hb0.size
    clear hb0
    rw [decide_eq_true rfl]
    go_wp2_with fail
    ((with_reducible refine (sameInts _ _ _ _ _ _ _ _ _ _ _ _ _ OM.out.ints OS.out.ints).mono ?_); rintro e w5 ⟨rfl, hd⟩)
    have hb0 := drew_below hd
    clear hd
    replace OL := Lib.hid (OL.out.below hb0 (Nat.le_refl _))
    replace OM := Lib.hid (OM.out.below hb0 (Nat.le_refl _))
    replace OS := Lib.hid (OS.out.below hb0 (Nat.le_refl _))
    replace B := Lib.hid (B.out.trans (hb0.mono B.out.size))
    have z5 := hb0.size
    clear hb0
    rw [decide_eq_true rfl]
    clear hok
    go_wp2
    go_ret
    exact ⟨rfl, B.out⟩
  go_wp2_with fail
  ((with_reducible refine (sameInts _ _ _ _ _ _ _ _ _ _ _ _ _ OM.out.ints OS.out.ints).mono ?_); rintro e w4 ⟨rfl, hd⟩)
  have hb0 := drew_below hd
  clear hd
  replace OL := Lib.hid (OL.out.below hb0 (Nat.le_refl _))
  replace OM := Lib.hid (OM.out.below hb0 (Nat.le_refl _))
  replace OS := Lib.hid (OS.out.below hb0 (Nat.le_refl _))
  replace B := Lib.hid (B.out.trans (hb0.mono B.out.size))
  have z4 := hb0.size
  clear hb0
  rw [decide_eq_true rfl]
  have HK := Lib.hid hok
  clear hok
  have hlen : (packF xs).length = 6 := by rw [packF_yes HK.out, packL_len (packOk_iff.1 HK.out).2]
  have hokp : okL (packF xs) = true := by rw [packF_yes HK.out]; exact packL_ok HK.out
  have hpos : 0 < (packF xs).length := by omega
  have hle : (packF xs).length ≤ 6 := by omega
  obtain ⟨q, hq1, hqm⟩ : ∃ q : Nat, q < (packF xs).length ∧ (n1 : Int) % ((packF xs).length : Int) = (q : Int) := ⟨n1 % (packF xs).length, Nat.mod_lt n1 hpos, rfl⟩
  have hnl : ¬ (packF xs).length = 0 := by omega
  have hxq := okL_at hokp hq1
  clear hlen hokp
  obtain ⟨bl, ol, rfl, _, _, _⟩ := OM.out.ints.at_ hq1
  have hal : Below w4.heap.size w4 (w4.alloc (.cells #[] 3)) := (Below.refl _ _).alloc (Nat.le_refl _) _
  have L1 := Lib.hid (OM.out.ints.below hal (Nat.le_refl _))
  have HA := Lib.hid (acc_new w4)
  clear hal
  generalize hxe : (packF xs).getD q 0 = x at hxq
  have HXE := Lib.hid hxe
  clear hxe
  go_wp2_with (at_builtin; refine wpList_appL _ _ _ _ HA.out _ _ _ _ _ _ L1.out hpos (by simp; omega) _ _ rfl rfl rfl rfl ?_; intro vx wx hAcc _; rw [List.nil_append] at hAcc; obtain ⟨bx, fx, cx, rfl, OX, lx, hx, cxq, fxq, HBX⟩ := acc_open hAcc hq1; rw [HXE.out] at cxq; clear hAcc)
  have hbx := HBX.out
  replace OL := Lib.hid (OL.out.below hbx (Nat.le_refl _))
  replace OM := Lib.hid (OM.out.below hbx (Nat.le_refl _))
  replace OS := Lib.hid (OS.out.below hbx (Nat.le_refl _))
  replace B := Lib.hid (B.out.trans (hbx.mono B.out.size))
  have zx := hbx.size
  clear hbx HBX L1 HA
  obtain ⟨hy, hyn⟩ := another_ne x ((n : Int) % 989)
  go_wp2_with fail
  ((with_reducible refine (Elt.another x ((n : Int) % 989) _ (by omega) (by omega) (by omega) (by omega)).mono ?_); rintro e w' ⟨rfl, rfl⟩)
  generalize (x + 1 + ((n : Int) % 989) % 990) % 991 = y at hy hyn ⊢
  have OY := Lib.hid (OX.out.set_ hq1 y)
  have hfar : ∀ i, i ≠ bx → (wx.setCell ⟨bx, fx + q, none⟩ (.int .i64 y)).heap[i]? = wx.heap[i]? := fun i hi => Below.heap_setCell _ _ _ _ hi
  have hsz : wx.heap.size ≤ (wx.setCell ⟨bx, fx + q, none⟩ (.int .i64 y)).heap.size := by simp [World.setCell]
  have hsy : (wx.setCell ⟨bx, fx + q, none⟩ (.int .i64 y)).heap.size ≤ wx.heap.size := by simp [World.setCell]
  replace OL := Lib.hid (OL.out.keep hsz fun i h1 h2 h3 => hfar i (by omega))
  replace OM := Lib.hid (OM.out.keep hsz fun i h1 h2 h3 => hfar i (by omega))
  replace OS := Lib.hid (OS.out.keep hsz fun i h1 h2 h3 => hfar i (by omega))
  replace B := Lib.hid (B.out.setCell (p := ⟨bx, fx + q, none⟩) (show w.heap.size ≤ bx by omega) (.int .i64 y))
  clear hfar OX
  go_wp2_with fail
  clear cxq fxq
  generalize wx.setCell ⟨bx, fx + q, none⟩ (.int .i64 y) = wy at *
  have hs : openOk ((packF xs).set q y) = false := by
    have hyn2 : y ≠ (packF xs).getD q 0 := by rw [HXE.out]; exact hyn
    rw [packF_yes HK.out] at hyn2 ⊢
    exact openOk_set HK.out (by omega) hy hyn2
  have HS := Lib.hid hs
  clear hs hqm
  go_wp2_with fail
  ((with_reducible refine (Im4.LetterOpen _ _ _ _ _ _ _ OY.out.ints).mono ?_); rintro e w6 ⟨AZ, cz, rfl, ho, hb⟩)
  replace OL := Lib.hid (OL.out.below hb (Nat.le_refl _))
  replace OM := Lib.hid (OM.out.below hb (Nat.le_refl _))
  replace OS := Lib.hid (OS.out.below hb (Nat.le_refl _))
  replace OY := Lib.hid (OY.out.below hb (Nat.le_refl _))
  replace B := Lib.hid (B.out.trans (hb.mono B.out.size))
  have z6 := hb.size
  have OX := Lib.hid ho
  clear ho hb
  rw [HS.out]
  go_wp2
  go_ret
  exact ⟨rfl, B.out⟩

theorem fnLetterZeros (A : Option Addr) (n c : Nat) (w : World) (h : CodeIs w A n c) :
    Calls Try.prog 9 #[.slice A n c] w (TruePost w) := by
  have HC := Lib.hid h
  clear h
  by_cases hn : 1048576 < n
  · go_enter Try.func9, Try.ntmps9
    go_wp2
    go_ret
    exact ⟨rfl, Below.refl _ _⟩
  have B : Hid (Below w.heap.size w w) := Below.refl _ _
  go_enter Try.func9, Try.ntmps9
  have hq : n ≤ 1048576 := by omega
  go_wp2_with fail
  ((with_reducible refine (DrawLetterPack _ _ _ _ HC.out).mono ?_); rintro e w1 ⟨AL, cl, xs, rfl, hl, ho, hb⟩)
  replace B := Lib.hid (B.out.trans (hb.mono B.out.size))
  have OL := Lib.hid ho
  clear ho hb
  go_wp2_with fail
  ((with_reducible refine (Im4.LetterPack _ _ _ _ _ xs _ OL.out.ints).mono ?_); rintro e w2 ⟨AM, cm, rfl, ho, hb⟩)
  replace OL := Lib.hid (OL.out.below hb (Nat.le_refl _))
  replace B := Lib.hid (B.out.trans (hb.mono B.out.size))
  have OM := Lib.hid ho
  clear ho hb
  go_wp2_with fail
  ((with_reducible refine (Sp4.LetterPack _ _ _ _ _ xs _ OL.out.ints).mono ?_); rintro e w3 ⟨AS, cs, rfl, ho, hb⟩)
  replace OL := Lib.hid (OL.out.below hb (Nat.le_refl _))
  replace OM := Lib.hid (OM.out.below hb (Nat.le_refl _))
  replace B := Lib.hid (B.out.trans (hb.mono B.out.size))
  have OS := Lib.hid ho
  clear ho hb
  cases hok : packOk xs
  · go_wp2_with fail
    ((with_reducible refine (sameInts _ _ _ _ _ _ _ _ _ _ _ _ _ OM.out.ints OS.out.ints).mono ?_); rintro e w4 ⟨rfl, hd⟩)
    have hb0 := drew_below hd
    clear hd
    replace OL := Lib.hid (OL.out.below hb0 (Nat.le_refl _))
    replace OM := Lib.hid (OM.out.below hb0 (Nat.le_refl _))
    replace OS := Lib.hid (OS.out.below hb0 (Nat.le_refl _))
    replace B := Lib.hid (B.out.trans (hb0.mono B.out.size))
    clear hb0
    rw [decide_eq_true rfl]
    go_wp2_with fail
    ((with_reducible refine (sameInts _ _ _ _ _ _ _ _ _ _ _ _ _ OM.out.ints OS.out.ints).mono ?_); rintro e w5 ⟨rfl, hd⟩)
    have hb0 := drew_below hd
    clear hd
    replace OL := Lib.hid (OL.out.below hb0 (Nat.le_refl _))
    replace OM := Lib.hid (OM.out.below hb0 (Nat.le_refl _))
    replace OS := Lib.hid (OS.out.below hb0 (Nat.le_refl _))
    replace B := Lib.hid (B.out.trans (hb0.mono B.out.size))
    clear hb0
    rw [decide_eq_true rfl]
    clear hok
    go_wp2
    go_ret
    exact ⟨rfl, B.out⟩
  go_wp2_with fail
  ((with_reducible refine (sameInts _ _ _ _ _ _ _ _ _ _ _ _ _ OM.out.ints OS.out.ints).mono ?_); rintro e w4 ⟨rfl, hd⟩)
  have hb0 := drew_below hd
  clear hd
  replace OL := Lib.hid (OL.out.below hb0 (Nat.le_refl _))
  replace OM := Lib.hid (OM.out.below hb0 (Nat.le_refl _))
  replace OS := Lib.hid (OS.out.below hb0 (Nat.le_refl _))
  replace B := Lib.hid (B.out.trans (hb0.mono B.out.size))
  clear hb0
  rw [decide_eq_true rfl]
  have HK := Lib.hid hok
  clear hok
  have h4 := (packOk_iff.1 HK.out).2
  have hlen : 6 ≤ (packF xs).length ∧ (packF xs).length ≤ 6 := by rw [packF_yes HK.out, packL_len h4]; omega
  obtain ⟨b, off, rfl, _, _, c0⟩ := OM.out.ints.at_ (k := 0) (by omega)
  rw [Nat.add_zero] at c0
  have hc0 : (packF xs).getD 0 0 = (xs.length : Int) := by rw [packF_yes HK.out]; exact packL_zero xs
  rw [hc0] at c0
  clear hc0
  go_wp2
  go_loop [8] (fun i => ∃ k : Nat, xs.length + 1 ≤ k ∧ k ≤ 5 ∧ i = .int .i64 k) (fun i => 5 - (intOf i).toNat)
  case atStart => exact ⟨xs.length + 1, Nat.le_refl _, by omega, by go_num⟩
  case round =>
    obtain ⟨k, hk0, hk, rfl⟩ := hrel
    by_cases hlt : k < 5
    · obtain ⟨b2, off2, e2, _, _, ck⟩ := OM.out.ints.at_ (k := k) (by omega)
      simp only [Option.some.injEq, Addr.mk.injEq, and_true] at e2
      obtain ⟨rfl, rfl⟩ := e2
      have hz : (packF xs).getD k 0 = 0 := by rw [packF_yes HK.out]; exact packL_zeros h4 k hk0 hlt
      rw [hz] at ck
      clear hz
      have hlk : (k : Int) < ((packF xs).length : Int) := by omega
      go_wp2
      go_round
      case rel => exact ⟨k + 1, by omega, by omega, by go_num⟩
      case measure => simp [intOf]; omega
    · have hl0 : (0 : Int) < ((packF xs).length : Int) := by omega
      go_wp2
      go_ret
      exact ⟨rfl, B.out⟩

theorem fnLetterSize (A : Option Addr) (n c : Nat) (w : World) (h : CodeIs w A n c) :
    Calls Try.prog 8 #[.slice A n c] w (TruePost w) := by
  have HC := Lib.hid h
  clear h
  by_cases hn : 1048576 < n
  · go_enter Try.func8, Try.ntmps8
    go_wp2
    go_ret
    exact ⟨rfl, Below.refl _ _⟩
  have B : Hid (Below w.heap.size w w) := Below.refl _ _
  go_enter Try.func8, Try.ntmps8
  have hq : n ≤ 1048576 := by omega
  go_wp2_with fail
  ((with_reducible refine (DrawLetterPack _ _ _ _ HC.out).mono ?_); rintro e w1 ⟨AL, cl, xs, rfl, hl, ho, hb⟩)
  replace B := Lib.hid (B.out.trans (hb.mono B.out.size))
  have OL := Lib.hid ho
  clear ho hb
  go_wp2_with fail
  ((with_reducible refine (Im4.LetterPack _ _ _ _ _ xs _ OL.out.ints).mono ?_); rintro e w2 ⟨AM, cm, rfl, ho, hb⟩)
  replace OL := Lib.hid (OL.out.below hb (Nat.le_refl _))
  replace B := Lib.hid (B.out.trans (hb.mono B.out.size))
  have OM := Lib.hid ho
  clear ho hb
  go_wp2_with fail
  ((with_reducible refine (Sp4.LetterPack _ _ _ _ _ xs _ OL.out.ints).mono ?_); rintro e w3 ⟨AS, cs, rfl, ho, hb⟩)
  replace OL := Lib.hid (OL.out.below hb (Nat.le_refl _))
  replace OM := Lib.hid (OM.out.below hb (Nat.le_refl _))
  replace B := Lib.hid (B.out.trans (hb.mono B.out.size))
  have OS := Lib.hid ho
  clear ho hb
  cases hok : packOk xs
  · go_wp2_with fail
    ((with_reducible refine (sameInts _ _ _ _ _ _ _ _ _ _ _ _ _ OM.out.ints OS.out.ints).mono ?_); rintro e w4 ⟨rfl, hd⟩)
    have hb0 := drew_below hd
    clear hd
    replace OL := Lib.hid (OL.out.below hb0 (Nat.le_refl _))
    replace OM := Lib.hid (OM.out.below hb0 (Nat.le_refl _))
    replace OS := Lib.hid (OS.out.below hb0 (Nat.le_refl _))
    replace B := Lib.hid (B.out.trans (hb0.mono B.out.size))
    clear hb0
    rw [decide_eq_true rfl]
    go_wp2_with fail
    ((with_reducible refine (sameInts _ _ _ _ _ _ _ _ _ _ _ _ _ OM.out.ints OS.out.ints).mono ?_); rintro e w5 ⟨rfl, hd⟩)
    have hb0 := drew_below hd
    clear hd
    replace OL := Lib.hid (OL.out.below hb0 (Nat.le_refl _))
    replace OM := Lib.hid (OM.out.below hb0 (Nat.le_refl _))
    replace OS := Lib.hid (OS.out.below hb0 (Nat.le_refl _))
    replace B := Lib.hid (B.out.trans (hb0.mono B.out.size))
    clear hb0
    rw [decide_eq_true rfl]
    clear hok
    go_wp2
    go_ret
    exact ⟨rfl, B.out⟩
  go_wp2_with fail
  ((with_reducible refine (sameInts _ _ _ _ _ _ _ _ _ _ _ _ _ OM.out.ints OS.out.ints).mono ?_); rintro e w4 ⟨rfl, hd⟩)
  have hb0 := drew_below hd
  clear hd
  replace OL := Lib.hid (OL.out.below hb0 (Nat.le_refl _))
  replace OM := Lib.hid (OM.out.below hb0 (Nat.le_refl _))
  replace OS := Lib.hid (OS.out.below hb0 (Nat.le_refl _))
  replace B := Lib.hid (B.out.trans (hb0.mono B.out.size))
  clear hb0
  rw [decide_eq_true rfl]
  have HK := Lib.hid hok
  clear hok
  have hlen : Hid ((packF xs).length = 6) := by show (packF xs).length = 6; rw [packF_yes HK.out, packL_len (packOk_iff.1 HK.out).2]
  have hbA : Below w4.heap.size w4 (w4.alloc (.cells #[] 3)) := (Below.refl _ _).alloc (Nat.le_refl _) _
  replace B := Lib.hid (B.out.trans (hbA.mono B.out.size))
  clear hbA
  go_wp2_with fail
  ((with_reducible refine (Im4.LetterPack 0 0 _ _ _ [] _ (Ints.nil_ (Nat.zero_le _))).mono ?_); rintro e w5 ⟨AX, cx, rfl, ho, hb⟩)
  replace B := Lib.hid (B.out.trans (hb.mono B.out.size))
  have OX := Lib.hid ho
  clear ho hb
  have p1 : packOk [] = true := by decide
  rw [p1]
  clear p1
  have hmk := run_make_row' (P := Try.prog) 22 3 (.int .i64 0) 8 Try.underlying22 infoInt rfl .i64 .i64 5 (by omega) (by omega)
  simp only [show ((5 : Nat) : Int) = 5 from rfl] at hmk
  have hbA : Below w5.heap.size w5 (w5.alloc (.cells (madeCells #[.int .i64 0] 5) 3)) := (Below.refl _ _).alloc (Nat.le_refl _) _
  have OZ := Lib.hid (own_made w5 3 5 (by unfold maxLen; omega))
  replace B := Lib.hid (B.out.trans (hbA.mono B.out.size))
  clear hbA OX
  go_wp2_with fail
  clear hmk
  generalize w5.heap.size = sz at *
  generalize w5.alloc (.cells (madeCells #[.int .i64 0] 5) 3) = wz at *
  go_wp2_with fail
  ((with_reducible refine (Im4.LetterPack _ _ _ _ _ (List.replicate 5 0) _ OZ.out.ints).mono ?_); rintro e w6 ⟨AY, cy, rfl, ho, hb⟩)
  replace B := Lib.hid (B.out.trans (hb.mono B.out.size))
  have OY := Lib.hid ho
  clear ho hb
  have p2 : packOk (List.replicate 5 0) = false := by decide
  rw [p2]
  clear p2
  have e3 : (((packF []).length : Int) == ((packF xs).length : Int)) = true := by rw [hlen.out]; decide
  go_wp2
  go_ret
  exact ⟨rfl, B.out⟩

theorem fnExactLetterPack (A : Option Addr) (n c : Nat) (xs : List Int) (w : World) (hx : Ints 0 w.heap.size w A n c xs) :
    Calls Try.prog 10 #[.slice A n c] w (TruePost w) := by
  have hxl := hx.len_
  have IA := Lib.hid hx
  clear hx
  by_cases hn : 1048576 < n
  · go_enter Try.func10, Try.ntmps10
    go_wp2
    go_ret
    exact ⟨rfl, Below.refl _ _⟩
  have hxn : xs.length ≤ 1048576 := by omega
  clear hxl
  have B : Hid (Below w.heap.size w w) := Below.refl _ _
  go_enter Try.func10, Try.ntmps10
  have hle := packF_le xs
  go_wp2_with fail
  ((with_reducible refine (toIntS _ _ _ _ _ xs _ IA.out (by omega)).mono ?_); rintro e w1 ⟨AT, ct, rfl, ho, hb⟩)
  replace IA := Lib.hid (IA.out.below hb (Nat.le_refl _))
  replace B := Lib.hid (B.out.trans (hb.mono B.out.size))
  have z1 := hb.size
  have OT := Lib.hid ho
  clear ho hb
  go_wp2_with fail
  ((with_reducible refine (Sp4.LetterPack _ _ _ _ _ xs _ OT.out.ints).mono ?_); rintro e w2 ⟨AS, cs, rfl, ho, hb⟩)
  replace IA := Lib.hid (IA.out.below hb (Nat.le_refl _))
  replace OT := Lib.hid (OT.out.below hb (Nat.le_refl _))
  replace B := Lib.hid (B.out.trans (hb.mono B.out.size))
  have z2 := hb.size
  have OS := Lib.hid ho
  clear ho hb
  go_wp2_with fail
  ((with_reducible refine (toIntS _ _ _ _ _ xs _ IA.out (by omega)).mono ?_); rintro e w3 ⟨AX, cx, rfl, ho, hb⟩)
  replace IA := Lib.hid (IA.out.below hb (Nat.le_refl _))
  replace OT := Lib.hid (OT.out.below hb (Nat.le_refl _))
  replace OS := Lib.hid (OS.out.below hb (Nat.le_refl _))
  replace B := Lib.hid (B.out.trans (hb.mono B.out.size))
  have z3 := hb.size
  have OX := Lib.hid ho
  clear ho hb
  go_wp2_with fail
  ((with_reducible refine (Im4.LetterPack _ _ _ _ _ xs _ OX.out.ints).mono ?_); rintro e w4 ⟨AM, cm, rfl, ho, hb⟩)
  replace IA := Lib.hid (IA.out.below hb (Nat.le_refl _))
  replace OT := Lib.hid (OT.out.below hb (Nat.le_refl _))
  replace OS := Lib.hid (OS.out.below hb (Nat.le_refl _))
  replace OX := Lib.hid (OX.out.below hb (Nat.le_refl _))
  replace B := Lib.hid (B.out.trans (hb.mono B.out.size))
  have z4 := hb.size
  have OM := Lib.hid ho
  clear ho hb
  go_wp2_with fail
  ((with_reducible refine (eqIntS _ _ _ _ _ _ _ _ _ _ _ _ _ OM.out.ints OS.out.ints).mono ?_); rintro e w5 ⟨rfl, hd⟩)
  have hb0 := drew_below hd
  clear hd
  replace IA := Lib.hid (IA.out.below hb0 (Nat.le_refl _))
  replace OT := Lib.hid (OT.out.below hb0 (Nat.le_refl _))
  replace OS := Lib.hid (OS.out.below hb0 (Nat.le_refl _))
  replace OX := Lib.hid (OX.out.below hb0 (Nat.le_refl _))
  replace OM := Lib.hid (OM.out.below hb0 (Nat.le_refl _))
  replace B := Lib.hid (B.out.trans (hb0.mono B.out.size))
  have z5 := hb0.size
  clear hb0
  rw [decide_eq_true rfl]
  go_wp2_with fail
  ((with_reducible refine (toIntS _ _ _ _ _ xs _ IA.out (by omega)).mono ?_); rintro e w6 ⟨AU, cu, rfl, ho, hb⟩)
  replace IA := Lib.hid (IA.out.below hb (Nat.le_refl _))
  replace OT := Lib.hid (OT.out.below hb (Nat.le_refl _))
  replace OS := Lib.hid (OS.out.below hb (Nat.le_refl _))
  replace OX := Lib.hid (OX.out.below hb (Nat.le_refl _))
  replace OM := Lib.hid (OM.out.below hb (Nat.le_refl _))
  replace B := Lib.hid (B.out.trans (hb.mono B.out.size))
  have z6 := hb.size
  have OU := Lib.hid ho
  clear ho hb
  go_wp2_with fail
  ((with_reducible refine (eqIntS _ _ _ _ _ _ _ _ _ _ _ _ _ OX.out.ints OU.out.ints).mono ?_); rintro e w7 ⟨rfl, hd⟩)
  have hb0 := drew_below hd
  clear hd
  replace IA := Lib.hid (IA.out.below hb0 (Nat.le_refl _))
  replace OT := Lib.hid (OT.out.below hb0 (Nat.le_refl _))
  replace OS := Lib.hid (OS.out.below hb0 (Nat.le_refl _))
  replace OX := Lib.hid (OX.out.below hb0 (Nat.le_refl _))
  replace OM := Lib.hid (OM.out.below hb0 (Nat.le_refl _))
  replace OU := Lib.hid (OU.out.below hb0 (Nat.le_refl _))
  replace B := Lib.hid (B.out.trans (hb0.mono B.out.size))
  have z7 := hb0.size
  clear hb0
  rw [decide_eq_true rfl]
  go_wp2_with fail
  ((with_reducible refine (Hlp.markIntS _ _ _ _ _ _ 1 _ OX.out (by omega) (by omega) (by omega)).mono ?_); rintro e w8 ⟨rfl, hm, hk⟩)
  replace IA := Lib.hid (IA.out.kept hk (by omega))
  replace OT := Lib.hid (OT.out.kept hk (by omega))
  replace OS := Lib.hid (OS.out.kept hk (by omega))
  replace OM := Lib.hid (OM.out.kept hk (by omega))
  replace OU := Lib.hid (OU.out.kept hk (by omega))
  replace B := Lib.hid (B.out.trans (hk.below (by omega)))
  replace OX := Lib.hid hm
  have z8 := Nat.le_of_eq hk.size.symm
  have y8 := Nat.le_of_eq hk.size
  clear hm hk
  go_wp2_with fail
  ((with_reducible refine (eqIntS _ _ _ _ _ _ _ _ _ _ _ _ _ OM.out.ints OS.out.ints).mono ?_); rintro e w9 ⟨rfl, hd⟩)
  have hb0 := drew_below hd
  clear hd
  replace IA := Lib.hid (IA.out.below hb0 (Nat.le_refl _))
  replace OT := Lib.hid (OT.out.below hb0 (Nat.le_refl _))
  replace OS := Lib.hid (OS.out.below hb0 (Nat.le_refl _))
  replace OX := Lib.hid (OX.out.below hb0 (Nat.le_refl _))
  replace OM := Lib.hid (OM.out.below hb0 (Nat.le_refl _))
  replace OU := Lib.hid (OU.out.below hb0 (Nat.le_refl _))
  replace B := Lib.hid (B.out.trans (hb0.mono B.out.size))
  have z9 := hb0.size
  clear hb0
  rw [decide_eq_true rfl]
  go_wp2_with fail
  ((with_reducible refine (Hlp.markIntS _ _ _ _ _ _ 1 _ OM.out (by omega) (by omega) (by omega)).mono ?_); rintro e w10 ⟨rfl, hm, hk⟩)
  replace IA := Lib.hid (IA.out.kept hk (by omega))
  replace OT := Lib.hid (OT.out.kept hk (by omega))
  replace OS := Lib.hid (OS.out.kept hk (by omega))
  replace OX := Lib.hid (OX.out.kept hk (by omega))
  replace OU := Lib.hid (OU.out.kept hk (by omega))
  replace B := Lib.hid (B.out.trans (hk.below (by omega)))
  replace OM := Lib.hid hm
  have z10 := Nat.le_of_eq hk.size.symm
  have y10 := Nat.le_of_eq hk.size
  clear hm hk
  go_wp2_with fail
  ((with_reducible refine (Hlp.heldIntS _ _ _ _ _ 1 _ OM.out.ints (by omega) (by omega) (by omega)).mono ?_); rintro e w' ⟨rfl, rfl⟩)
  go_wp2_with fail
  ((with_reducible refine (toIntS _ _ _ _ _ xs _ IA.out (by omega)).mono ?_); rintro e w12 ⟨AV, cv, rfl, ho, hb⟩)
  replace IA := Lib.hid (IA.out.below hb (Nat.le_refl _))
  replace OT := Lib.hid (OT.out.below hb (Nat.le_refl _))
  replace OS := Lib.hid (OS.out.below hb (Nat.le_refl _))
  replace OX := Lib.hid (OX.out.below hb (Nat.le_refl _))
  replace OM := Lib.hid (OM.out.below hb (Nat.le_refl _))
  replace OU := Lib.hid (OU.out.below hb (Nat.le_refl _))
  replace B := Lib.hid (B.out.trans (hb.mono B.out.size))
  have z12 := hb.size
  have OV := Lib.hid ho
  clear ho hb
  go_wp2_with fail
  ((with_reducible refine (Im4.LetterPack _ _ _ _ _ xs _ OV.out.ints).mono ?_); rintro e w13 ⟨AH, ch, rfl, ho, hb⟩)
  replace IA := Lib.hid (IA.out.below hb (Nat.le_refl _))
  replace OT := Lib.hid (OT.out.below hb (Nat.le_refl _))
  replace OS := Lib.hid (OS.out.below hb (Nat.le_refl _))
  replace OX := Lib.hid (OX.out.below hb (Nat.le_refl _))
  replace OM := Lib.hid (OM.out.below hb (Nat.le_refl _))
  replace OU := Lib.hid (OU.out.below hb (Nat.le_refl _))
  replace OV := Lib.hid (OV.out.below hb (Nat.le_refl _))
  replace B := Lib.hid (B.out.trans (hb.mono B.out.size))
  have z13 := hb.size
  have OH := Lib.hid ho
  clear ho hb
  go_wp2_with fail
  ((with_reducible refine (eqIntS _ _ _ _ _ _ _ _ _ _ _ _ _ OH.out.ints OS.out.ints).mono ?_); rintro e w14 ⟨rfl, hd⟩)
  have hb0 := drew_below hd
  clear hd
  replace IA := Lib.hid (IA.out.below hb0 (Nat.le_refl _))
  replace OT := Lib.hid (OT.out.below hb0 (Nat.le_refl _))
  replace OS := Lib.hid (OS.out.below hb0 (Nat.le_refl _))
  replace OX := Lib.hid (OX.out.below hb0 (Nat.le_refl _))
  replace OM := Lib.hid (OM.out.below hb0 (Nat.le_refl _))
  replace OU := Lib.hid (OU.out.below hb0 (Nat.le_refl _))
  replace OV := Lib.hid (OV.out.below hb0 (Nat.le_refl _))
  replace OH := Lib.hid (OH.out.below hb0 (Nat.le_refl _))
  replace B := Lib.hid (B.out.trans (hb0.mono B.out.size))
  have z14 := hb0.size
  clear hb0
  rw [decide_eq_true rfl]
  go_wp2_with fail
  ((with_reducible refine (Hlp.heldIntS _ _ _ _ _ 1 _ OM.out.ints (by omega) (by omega) (by omega)).mono ?_); rintro e w' ⟨rfl, rfl⟩)
  go_wp2
  go_ret
  exact ⟨rfl, B.out⟩

theorem fnExactLetterOpen (A : Option Addr) (n c : Nat) (xs : List Int) (w : World) (hx : Ints 0 w.heap.size w A n c xs) :
    Calls Try.prog 11 #[.slice A n c] w (TruePost w) := by
  have hxl := hx.len_
  have IA := Lib.hid hx
  clear hx
  by_cases hn : 1048576 < n
  · go_enter Try.func11, Try.ntmps11
    go_wp2
    go_ret
    exact ⟨rfl, Below.refl _ _⟩
  have hxn : xs.length ≤ 1048576 := by omega
  clear hxl
  have B : Hid (Below w.heap.size w w) := Below.refl _ _
  go_enter Try.func11, Try.ntmps11
  have hle := openF_le xs
  go_wp2_with fail
  ((with_reducible refine (toIntS _ _ _ _ _ xs _ IA.out (by omega)).mono ?_); rintro e w1 ⟨AT, ct, rfl, ho, hb⟩)
  replace IA := Lib.hid (IA.out.below hb (Nat.le_refl _))
  replace B := Lib.hid (B.out.trans (hb.mono B.out.size))
  have z1 := hb.size
  have OT := Lib.hid ho
  clear ho hb
  go_wp2_with fail
  ((with_reducible refine (Sp4.LetterOpen _ _ _ _ _ xs _ OT.out.ints).mono ?_); rintro e w2 ⟨AS, cs, rfl, ho, hb⟩)
  replace IA := Lib.hid (IA.out.below hb (Nat.le_refl _))
  replace OT := Lib.hid (OT.out.below hb (Nat.le_refl _))
  replace B := Lib.hid (B.out.trans (hb.mono B.out.size))
  have z2 := hb.size
  have OS := Lib.hid ho
  clear ho hb
  go_wp2_with fail
  ((with_reducible refine (toIntS _ _ _ _ _ xs _ IA.out (by omega)).mono ?_); rintro e w3 ⟨AX, cx, rfl, ho, hb⟩)
  replace IA := Lib.hid (IA.out.below hb (Nat.le_refl _))
  replace OT := Lib.hid (OT.out.below hb (Nat.le_refl _))
  replace OS := Lib.hid (OS.out.below hb (Nat.le_refl _))
  replace B := Lib.hid (B.out.trans (hb.mono B.out.size))
  have z3 := hb.size
  have OX := Lib.hid ho
  clear ho hb
  go_wp2_with fail
  ((with_reducible refine (Im4.LetterOpen _ _ _ _ _ xs _ OX.out.ints).mono ?_); rintro e w4 ⟨AM, cm, rfl, ho, hb⟩)
  replace IA := Lib.hid (IA.out.below hb (Nat.le_refl _))
  replace OT := Lib.hid (OT.out.below hb (Nat.le_refl _))
  replace OS := Lib.hid (OS.out.below hb (Nat.le_refl _))
  replace OX := Lib.hid (OX.out.below hb (Nat.le_refl _))
  replace B := Lib.hid (B.out.trans (hb.mono B.out.size))
  have z4 := hb.size
  have OM := Lib.hid ho
  clear ho hb
  go_wp2_with fail
  ((with_reducible refine (eqIntS _ _ _ _ _ _ _ _ _ _ _ _ _ OM.out.ints OS.out.ints).mono ?_); rintro e w5 ⟨rfl, hd⟩)
  have hb0 := drew_below hd
  clear hd
  replace IA := Lib.hid (IA.out.below hb0 (Nat.le_refl _))
  replace OT := Lib.hid (OT.out.below hb0 (Nat.le_refl _))
  replace OS := Lib.hid (OS.out.below hb0 (Nat.le_refl _))
  replace OX := Lib.hid (OX.out.below hb0 (Nat.le_refl _))
  replace OM := Lib.hid (OM.out.below hb0 (Nat.le_refl _))
  replace B := Lib.hid (B.out.trans (hb0.mono B.out.size))
  have z5 := hb0.size
  clear hb0
  rw [decide_eq_true rfl]
  go_wp2_with fail
  ((with_reducible refine (toIntS _ _ _ _ _ xs _ IA.out (by omega)).mono ?_); rintro e w6 ⟨AU, cu, rfl, ho, hb⟩)
  replace IA := Lib.hid (IA.out.below hb (Nat.le_refl _))
  replace OT := Lib.hid (OT.out.below hb (Nat.le_refl _))
  replace OS := Lib.hid (OS.out.below hb (Nat.le_refl _))
  replace OX := Lib.hid (OX.out.below hb (Nat.le_refl _))
  replace OM := Lib.hid (OM.out.below hb (Nat.le_refl _))
  replace B := Lib.hid (B.out.trans (hb.mono B.out.size))
  have z6 := hb.size
  have OU := Lib.hid ho
  clear ho hb
  go_wp2_with fail
  ((with_reducible refine (eqIntS _ _ _ _ _ _ _ _ _ _ _ _ _ OX.out.ints OU.out.ints).mono ?_); rintro e w7 ⟨rfl, hd⟩)
  have hb0 := drew_below hd
  clear hd
  replace IA := Lib.hid (IA.out.below hb0 (Nat.le_refl _))
  replace OT := Lib.hid (OT.out.below hb0 (Nat.le_refl _))
  replace OS := Lib.hid (OS.out.below hb0 (Nat.le_refl _))
  replace OX := Lib.hid (OX.out.below hb0 (Nat.le_refl _))
  replace OM := Lib.hid (OM.out.below hb0 (Nat.le_refl _))
  replace OU := Lib.hid (OU.out.below hb0 (Nat.le_refl _))
  replace B := Lib.hid (B.out.trans (hb0.mono B.out.size))
  have z7 := hb0.size
  clear hb0
  rw [decide_eq_true rfl]
  go_wp2_with fail
  ((with_reducible refine (Hlp.markIntS _ _ _ _ _ _ 1 _ OX.out (by omega) (by omega) (by omega)).mono ?_); rintro e w8 ⟨rfl, hm, hk⟩)
  replace IA := Lib.hid (IA.out.kept hk (by omega))
  replace OT := Lib.hid (OT.out.kept hk (by omega))
  replace OS := Lib.hid (OS.out.kept hk (by omega))
  replace OM := Lib.hid (OM.out.kept hk (by omega))
  replace OU := Lib.hid (OU.out.kept hk (by omega))
  replace B := Lib.hid (B.out.trans (hk.below (by omega)))
  replace OX := Lib.hid hm
  have z8 := Nat.le_of_eq hk.size.symm
  have y8 := Nat.le_of_eq hk.size
  clear hm hk
  go_wp2_with fail
  ((with_reducible refine (eqIntS _ _ _ _ _ _ _ _ _ _ _ _ _ OM.out.ints OS.out.ints).mono ?_); rintro e w9 ⟨rfl, hd⟩)
  have hb0 := drew_below hd
  clear hd
  replace IA := Lib.hid (IA.out.below hb0 (Nat.le_refl _))
  replace OT := Lib.hid (OT.out.below hb0 (Nat.le_refl _))
  replace OS := Lib.hid (OS.out.below hb0 (Nat.le_refl _))
  replace OX := Lib.hid (OX.out.below hb0 (Nat.le_refl _))
  replace OM := Lib.hid (OM.out.below hb0 (Nat.le_refl _))
  replace OU := Lib.hid (OU.out.below hb0 (Nat.le_refl _))
  replace B := Lib.hid (B.out.trans (hb0.mono B.out.size))
  have z9 := hb0.size
  clear hb0
  rw [decide_eq_true rfl]
  go_wp2_with fail
  ((with_reducible refine (Hlp.markIntS _ _ _ _ _ _ 1 _ OM.out (by omega) (by omega) (by omega)).mono ?_); rintro e w10 ⟨rfl, hm, hk⟩)
  replace IA := Lib.hid (IA.out.kept hk (by omega))
  replace OT := Lib.hid (OT.out.kept hk (by omega))
  replace OS := Lib.hid (OS.out.kept hk (by omega))
  replace OX := Lib.hid (OX.out.kept hk (by omega))
  replace OU := Lib.hid (OU.out.kept hk (by omega))
  replace B := Lib.hid (B.out.trans (hk.below (by omega)))
  replace OM := Lib.hid hm
  have z10 := Nat.le_of_eq hk.size.symm
  have y10 := Nat.le_of_eq hk.size
  clear hm hk
  go_wp2_with fail
  ((with_reducible refine (Hlp.heldIntS _ _ _ _ _ 1 _ OM.out.ints (by omega) (by omega) (by omega)).mono ?_); rintro e w' ⟨rfl, rfl⟩)
  go_wp2_with fail
  ((with_reducible refine (toIntS _ _ _ _ _ xs _ IA.out (by omega)).mono ?_); rintro e w12 ⟨AV, cv, rfl, ho, hb⟩)
  replace IA := Lib.hid (IA.out.below hb (Nat.le_refl _))
  replace OT := Lib.hid (OT.out.below hb (Nat.le_refl _))
  replace OS := Lib.hid (OS.out.below hb (Nat.le_refl _))
  replace OX := Lib.hid (OX.out.below hb (Nat.le_refl _))
  replace OM := Lib.hid (OM.out.below hb (Nat.le_refl _))
  replace OU := Lib.hid (OU.out.below hb (Nat.le_refl _))
  replace B := Lib.hid (B.out.trans (hb.mono B.out.size))
  have z12 := hb.size
  have OV := Lib.hid ho
  clear ho hb
  go_wp2_with fail
  ((with_reducible refine (Im4.LetterOpen _ _ _ _ _ xs _ OV.out.ints).mono ?_); rintro e w13 ⟨AH, ch, rfl, ho, hb⟩)
  replace IA := Lib.hid (IA.out.below hb (Nat.le_refl _))
  replace OT := Lib.hid (OT.out.below hb (Nat.le_refl _))
  replace OS := Lib.hid (OS.out.below hb (Nat.le_refl _))
  replace OX := Lib.hid (OX.out.below hb (Nat.le_refl _))
  replace OM := Lib.hid (OM.out.below hb (Nat.le_refl _))
  replace OU := Lib.hid (OU.out.below hb (Nat.le_refl _))
  replace OV := Lib.hid (OV.out.below hb (Nat.le_refl _))
  replace B := Lib.hid (B.out.trans (hb.mono B.out.size))
  have z13 := hb.size
  have OH := Lib.hid ho
  clear ho hb
  go_wp2_with fail
  ((with_reducible refine (eqIntS _ _ _ _ _ _ _ _ _ _ _ _ _ OH.out.ints OS.out.ints).mono ?_); rintro e w14 ⟨rfl, hd⟩)
  have hb0 := drew_below hd
  clear hd
  replace IA := Lib.hid (IA.out.below hb0 (Nat.le_refl _))
  replace OT := Lib.hid (OT.out.below hb0 (Nat.le_refl _))
  replace OS := Lib.hid (OS.out.below hb0 (Nat.le_refl _))
  replace OX := Lib.hid (OX.out.below hb0 (Nat.le_refl _))
  replace OM := Lib.hid (OM.out.below hb0 (Nat.le_refl _))
  replace OU := Lib.hid (OU.out.below hb0 (Nat.le_refl _))
  replace OV := Lib.hid (OV.out.below hb0 (Nat.le_refl _))
  replace OH := Lib.hid (OH.out.below hb0 (Nat.le_refl _))
  replace B := Lib.hid (B.out.trans (hb0.mono B.out.size))
  have z14 := hb0.size
  clear hb0
  rw [decide_eq_true rfl]
  go_wp2_with fail
  ((with_reducible refine (Hlp.heldIntS _ _ _ _ _ 1 _ OM.out.ints (by omega) (by omega) (by omega)).mono ?_); rintro e w' ⟨rfl, rfl⟩)
  go_wp2
  go_ret
  exact ⟨rfl, B.out⟩

end Law4
end Go.Proofs.Ytnacfjedfipggab
