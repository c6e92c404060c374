/-
  The laws of chapter 3 by the contracts of the functions that they call: each returns true and writes nothing that was there.
-/
import Derived.Test.YtnacfjedfipggaaSp3
import Derived.Test.YtnacfjedfipggaaIm3
import Derived.Test.YtnacfjedfipggaaDr3
import Derived.Test.YtnacfjedfipggaaHlp
import Derived.Test.YtnacfjedfipggaaElt
import Derived.Test.YtnacfjedfipggaaIla
import Derived.Deep.Cut
namespace Go.Proofs.Ytnacfjedfipggaa
open Go.RowKit
namespace Law3
open Gm Mm Tm Il Rd Hlp LawB

theorem fnTag (A : Option Addr) (n c : Nat) (w : World) (h : CodeIs w A n c) :
    Calls Try.prog 10 #[.slice A n c] w (TruePost w) := by
  have HC := Lib.hid h
  clear h
  by_cases hn : 1048576 < n
  · go_enter Try.func10, Try.ntmps10
    go_wp2
    go_ret
    exact ⟨rfl, Below.refl _ _⟩
  have B : Hid (Below w.heap.size w w) := Below.refl _ _
  go_enter Try.func10, Try.ntmps10
  have hq : n ≤ 1048576 := by omega
  go_wp2_with fail
  ((with_reducible refine (DrawTagOf _ _ _ _ HC.out).mono ?_); rintro e w1 ⟨key, AL, cl, xs, rfl, hl, hk0, hk1, ho, hb⟩)
  replace B := Lib.hid (B.out.trans (hb.mono B.out.size))
  have OL := Lib.hid ho
  clear ho hb
  go_wp2_with fail
  ((with_reducible refine (Im3.TagOf _ _ _ _ _ xs key _ OL.out.ints).mono ?_); rintro e w2 ⟨rfl, hb⟩)
  replace OL := Lib.hid (OL.out.below hb (Nat.le_refl _))
  replace B := Lib.hid (B.out.trans (hb.mono B.out.size))
  clear hb
  go_wp2_with fail
  ((with_reducible refine (Sp3.TagOf _ _ _ _ _ xs key _ OL.out.ints).mono ?_); rintro e w3 ⟨rfl, hb⟩)
  replace OL := Lib.hid (OL.out.below hb (Nat.le_refl _))
  replace B := Lib.hid (B.out.trans (hb.mono B.out.size))
  clear hb
  have htb := tagF_bd key xs
  by_cases hneg : tagF key xs < 0
  · go_wp2
    go_ret
    exact ⟨rfl, B.out⟩
  have hp : 0 ≤ tagF key xs := by omega
  have hh := tagF_ok hp
  have HG := Lib.hid hh.1
  have HK := Lib.hid hh.2
  clear hh hneg
  go_wp2_with fail
  ((with_reducible refine (Im3.TagCheck _ _ _ _ _ xs key (tagF key xs) _ OL.out.ints).mono ?_); rintro e w4 ⟨rfl, hb⟩)
  replace OL := Lib.hid (OL.out.below hb (Nat.le_refl _))
  replace B := Lib.hid (B.out.trans (hb.mono B.out.size))
  clear hb
  rw [tagC_iff.2 ⟨hp, rfl⟩]
  have hlt : tagF key xs < 991 := by omega
  go_wp2
  go_ret
  exact ⟨rfl, B.out⟩

theorem fnTagChange (A : Option Addr) (n c : Nat) (A1 : Option Addr) (n1 c1 : Nat) (w : World) (h : CodeIs w A n c) :
    Calls Try.prog 11 #[.slice A n c, .slice A1 n1 c1] w (TruePost w) := by
  have HC := Lib.hid h
  clear h
  by_cases hn : 1048576 < n
  · go_enter Try.func11, Try.ntmps11
    go_wp2
    go_ret
    exact ⟨rfl, Below.refl _ _⟩
  by_cases hn1 : 1048576 < n1
  · go_enter Try.func11, Try.ntmps11
    go_wp2
    go_ret
    exact ⟨rfl, Below.refl _ _⟩
  have B : Hid (Below w.heap.size w w) := Below.refl _ _
  go_enter Try.func11, Try.ntmps11
  have hq : n ≤ 1048576 := by omega
  go_wp2_with fail
  ((with_reducible refine (DrawTagOf _ _ _ _ HC.out).mono ?_); rintro e w1 ⟨key, AL, cl, xs, rfl, hl, hk0, hk1, ho, hb⟩)
  replace B := Lib.hid (B.out.trans (hb.mono B.out.size))
  have z1 := hb.size
  have OL := Lib.hid ho
  clear ho hb
  go_wp2_with fail
  ((with_reducible refine (Im3.TagOf _ _ _ _ _ xs key _ OL.out.ints).mono ?_); rintro e w2 ⟨rfl, hb⟩)
  replace OL := Lib.hid (OL.out.below hb (Nat.le_refl _))
  replace B := Lib.hid (B.out.trans (hb.mono B.out.size))
  have z2 := hb.size
  clear hb
  go_wp2_with fail
  ((with_reducible refine (Sp3.TagOf _ _ _ _ _ xs key _ OL.out.ints).mono ?_); rintro e w3 ⟨rfl, hb⟩)
  replace OL := Lib.hid (OL.out.below hb (Nat.le_refl _))
  replace B := Lib.hid (B.out.trans (hb.mono B.out.size))
  have z3 := hb.size
  clear hb
  have htb := tagF_bd key xs
  by_cases hneg : tagF key xs < 0
  · go_wp2
    go_ret
    exact ⟨rfl, B.out⟩
  have hp : 0 ≤ tagF key xs := by omega
  have hh := tagF_ok hp
  have HG := Lib.hid hh.1
  have HK := Lib.hid hh.2
  clear hh hneg
  by_cases hz : xs = []
  · have hz0 := len_zero hz
    clear hz
    go_wp2
    go_ret
    exact ⟨rfl, B.out⟩
  have hz0 := len_pos hz
  clear hz
  have hpos : 0 < xs.length := pos_of_len hz0
  have hle := (okL_iff.1 HK.out).2
  obtain ⟨q, hq1, hqm⟩ : ∃ q : Nat, q < xs.length ∧ (n1 : Int) % (xs.length : Int) = (q : Int) := ⟨n1 % xs.length, Nat.mod_lt n1 hpos, rfl⟩
  have hnl : ¬ xs.length = 0 := by omega
  have hxq := okL_at HK.out hq1
  obtain ⟨bl, ol, rfl, _, _, _⟩ := OL.out.ints.at_ hq1
  have hal : Below w3.heap.size w3 (w3.alloc (.cells #[] 3)) := (Below.refl _ _).alloc (Nat.le_refl _) _
  have L1 := Lib.hid (OL.out.ints.below hal (Nat.le_refl _))
  have HA := Lib.hid (acc_new w3)
  clear hal
  generalize hxe : xs.getD q 0 = x at hxq
  have HXE := Lib.hid hxe
  clear hxe
  go_wp2_with (at_builtin; refine wpList_appL _ _ _ _ HA.out _ _ _ _ _ _ L1.out hpos (by simp; omega) _ _ rfl rfl rfl rfl ?_; intro vx wx hAcc _; rw [List.nil_append] at hAcc; obtain ⟨bx, fx, cx, rfl, OX, lx, hx, cxq, fxq, HBX⟩ := acc_open hAcc hq1; rw [HXE.out] at cxq; clear hAcc)
  have hbx := HBX.out
  replace OL := Lib.hid (OL.out.below hbx (Nat.le_refl _))
  replace B := Lib.hid (B.out.trans (hbx.mono B.out.size))
  have zx := hbx.size
  clear hbx HBX L1 HA
  obtain ⟨hy, hyn⟩ := another_ne x ((n : Int) % 989)
  go_wp2_with fail
  ((with_reducible refine (Elt.another x ((n : Int) % 989) _ (by omega) (by omega) (by omega) (by omega)).mono ?_); rintro e w' ⟨rfl, rfl⟩)
  generalize (x + 1 + ((n : Int) % 989) % 990) % 991 = y at hy hyn ⊢
  have OY := Lib.hid (OX.out.set_ hq1 y)
  have hfar : ∀ i, i ≠ bx → (wx.setCell ⟨bx, fx + q, none⟩ (.int .i64 y)).heap[i]? = wx.heap[i]? := fun i hi => Below.heap_setCell _ _ _ _ hi
  have hsz : wx.heap.size ≤ (wx.setCell ⟨bx, fx + q, none⟩ (.int .i64 y)).heap.size := by simp [World.setCell]
  have hsy : (wx.setCell ⟨bx, fx + q, none⟩ (.int .i64 y)).heap.size ≤ wx.heap.size := by simp [World.setCell]
  replace OL := Lib.hid (OL.out.keep hsz fun i h1 h2 h3 => hfar i (by omega))
  replace B := Lib.hid (B.out.setCell (p := ⟨bx, fx + q, none⟩) (show w.heap.size ≤ bx by omega) (.int .i64 y))
  clear hfar OX
  go_wp2_with fail
  clear cxq fxq
  generalize wx.setCell ⟨bx, fx + q, none⟩ (.int .i64 y) = wy at *
  have hs := tagF_set (key := key) HG.out hq1 HK.out hy (by rw [HXE.out]; exact hyn)
  have HS := Lib.hid hs
  clear hs hqm
  go_wp2_with fail
  ((with_reducible refine (Im3.TagOf _ _ _ _ _ _ key _ OY.out.ints).mono ?_); rintro e w5 ⟨rfl, hb⟩)
  replace OL := Lib.hid (OL.out.below hb (Nat.le_refl _))
  replace OY := Lib.hid (OY.out.below hb (Nat.le_refl _))
  replace B := Lib.hid (B.out.trans (hb.mono B.out.size))
  have z5 := hb.size
  clear hb
  have e1 : (tagF key (xs.set q y) != tagF key xs) = true := by simpa using HS.out
  go_wp2_with fail
  ((with_reducible refine (Im3.TagCheck _ _ _ _ _ _ key (tagF key xs) _ OY.out.ints).mono ?_); rintro e w6 ⟨rfl, hb⟩)
  replace OL := Lib.hid (OL.out.below hb (Nat.le_refl _))
  replace OY := Lib.hid (OY.out.below hb (Nat.le_refl _))
  replace B := Lib.hid (B.out.trans (hb.mono B.out.size))
  have z6 := hb.size
  clear hb
  rw [tagC_no HS.out]
  go_wp2
  go_ret
  exact ⟨rfl, B.out⟩

theorem fnTagOther (A : Option Addr) (n c : Nat) (A1 : Option Addr) (n1 c1 : Nat) (w : World) (h : CodeIs w A n c) :
    Calls Try.prog 12 #[.slice A n c, .slice A1 n1 c1] w (TruePost w) := by
  have HC := Lib.hid h
  clear h
  by_cases hn : 1048576 < n
  · go_enter Try.func12, Try.ntmps12
    go_wp2
    go_ret
    exact ⟨rfl, Below.refl _ _⟩
  by_cases hn1 : 1048576 < n1
  · go_enter Try.func12, Try.ntmps12
    go_wp2
    go_ret
    exact ⟨rfl, Below.refl _ _⟩
  have B : Hid (Below w.heap.size w w) := Below.refl _ _
  go_enter Try.func12, Try.ntmps12
  have hq : n ≤ 1048576 := by omega
  go_wp2_with fail
  ((with_reducible refine (DrawTagCheck _ _ _ _ HC.out).mono ?_); rintro e w1 ⟨key, AL, cl, xs, tag, rfl, hl, hk0, hk1, ht0, ht1, ho, hb⟩)
  replace B := Lib.hid (B.out.trans (hb.mono B.out.size))
  have OL := Lib.hid ho
  clear ho hb
  go_wp2_with fail
  ((with_reducible refine (Im3.TagCheck _ _ _ _ _ xs key tag _ OL.out.ints).mono ?_); rintro e w2 ⟨rfl, hb⟩)
  replace OL := Lib.hid (OL.out.below hb (Nat.le_refl _))
  replace B := Lib.hid (B.out.trans (hb.mono B.out.size))
  clear hb
  go_wp2_with fail
  ((with_reducible refine (Sp3.TagCheck _ _ _ _ _ xs key tag _ OL.out.ints).mono ?_); rintro e w3 ⟨rfl, hb⟩)
  replace OL := Lib.hid (OL.out.below hb (Nat.le_refl _))
  replace B := Lib.hid (B.out.trans (hb.mono B.out.size))
  clear hb
  cases hc : tagC key xs tag
  · clear hc
    go_wp2
    go_ret
    exact ⟨rfl, B.out⟩
  have hcc := tagC_iff.1 hc
  have hpt := hcc.1
  have HE := Lib.hid hcc.2
  have htb : tag ≤ 990 := by rw [← hcc.2]; exact (tagF_bd key xs).2
  clear hc hcc
  obtain ⟨hy, hyn⟩ := another_ne tag ((n1 : Int) % 989)
  go_wp2_with fail
  ((with_reducible refine (Elt.another tag ((n1 : Int) % 989) _ (by omega) (by omega) (by omega) (by omega)).mono ?_); rintro e w' ⟨rfl, rfl⟩)
  generalize (tag + 1 + (n1 : Int) % 989 % 990) % 991 = y at hy hyn ⊢
  go_wp2_with fail
  ((with_reducible refine (Im3.TagCheck _ _ _ _ _ xs key y _ OL.out.ints).mono ?_); rintro e w5 ⟨rfl, hb⟩)
  replace OL := Lib.hid (OL.out.below hb (Nat.le_refl _))
  replace B := Lib.hid (B.out.trans (hb.mono B.out.size))
  clear hb
  rw [tagC_no (by rw [HE.out]; exact Ne.symm hyn)]
  go_wp2_with fail
  ((with_reducible refine (Im3.TagOf _ _ _ _ _ xs key _ OL.out.ints).mono ?_); rintro e w6 ⟨rfl, hb⟩)
  replace OL := Lib.hid (OL.out.below hb (Nat.le_refl _))
  replace B := Lib.hid (B.out.trans (hb.mono B.out.size))
  clear hb
  have e1 : (tagF key xs == tag) = true := by simpa using HE.out
  go_wp2
  go_ret
  exact ⟨rfl, B.out⟩

theorem fnTagEmpty (A : Option Addr) (n c : Nat) (w : World) (h : CodeIs w A n c) :
    Calls Try.prog 13 #[.slice A n c] w (TruePost w) := by
  have HC := Lib.hid h
  clear h
  by_cases hn : 1048576 < n
  · go_enter Try.func13, Try.ntmps13
    go_wp2
    go_ret
    exact ⟨rfl, Below.refl _ _⟩
  have B : Hid (Below w.heap.size w w) := Below.refl _ _
  go_enter Try.func13, Try.ntmps13
  have hq : n ≤ 1048576 := by omega
  go_wp2_with fail
  ((with_reducible refine (DrawTagOf _ _ _ _ HC.out).mono ?_); rintro e w1 ⟨key, AL, cl, xs, rfl, hl, hk0, hk1, ho, hb⟩)
  replace B := Lib.hid (B.out.trans (hb.mono B.out.size))
  have OL := Lib.hid ho
  clear ho hb
  go_wp2_with fail
  ((with_reducible refine (Im3.TagOf _ _ _ _ _ xs key _ OL.out.ints).mono ?_); rintro e w2 ⟨rfl, hb⟩)
  replace OL := Lib.hid (OL.out.below hb (Nat.le_refl _))
  replace B := Lib.hid (B.out.trans (hb.mono B.out.size))
  clear hb
  go_wp2_with fail
  ((with_reducible refine (Sp3.TagOf _ _ _ _ _ xs key _ OL.out.ints).mono ?_); rintro e w3 ⟨rfl, hb⟩)
  replace OL := Lib.hid (OL.out.below hb (Nat.le_refl _))
  replace B := Lib.hid (B.out.trans (hb.mono B.out.size))
  clear hb
  have htb := tagF_bd key xs
  by_cases hneg : tagF key xs < 0
  · go_wp2
    go_ret
    exact ⟨rfl, B.out⟩
  have hp : 0 ≤ tagF key xs := by omega
  have hh := tagF_ok hp
  have HG := Lib.hid hh.1
  have HK := Lib.hid hh.2
  clear hh hneg
  have gk := inG_iff.1 HG.out
  have hbA : Below w3.heap.size w3 (w3.alloc (.cells #[] 3)) := (Below.refl _ _).alloc (Nat.le_refl _) _
  replace B := Lib.hid (B.out.trans (hbA.mono B.out.size))
  clear hbA
  go_wp2_with fail
  ((with_reducible refine (Im3.TagOf 0 0 _ _ _ [] key _ (Ints.nil_ (Nat.zero_le _))).mono ?_); rintro e w4 ⟨rfl, hb⟩)
  replace B := Lib.hid (B.out.trans (hb.mono B.out.size))
  clear hb
  have e1 : (tagF key [] == (3 * key + 1) % 991) = true := by simpa using tagF_nil HG.out
  go_wp2
  go_ret
  exact ⟨rfl, B.out⟩

theorem fnTagNext (A : Option Addr) (n c : Nat) (A1 : Option Addr) (n1 c1 : Nat) (w : World) (h : CodeIs w A n c) :
    Calls Try.prog 14 #[.slice A n c, .slice A1 n1 c1] w (TruePost w) := by
  have HC := Lib.hid h
  clear h
  by_cases hn : 1048576 < n
  · go_enter Try.func14, Try.ntmps14
    go_wp2
    go_ret
    exact ⟨rfl, Below.refl _ _⟩
  by_cases hn1 : 1048576 < n1
  · go_enter Try.func14, Try.ntmps14
    go_wp2
    go_ret
    exact ⟨rfl, Below.refl _ _⟩
  have B : Hid (Below w.heap.size w w) := Below.refl _ _
  go_enter Try.func14, Try.ntmps14
  have hq : n ≤ 1048576 := by omega
  go_wp2_with fail
  ((with_reducible refine (DrawTagOf _ _ _ _ HC.out).mono ?_); rintro e w1 ⟨key, AL, cl, xs, rfl, hl, hk0, hk1, ho, hb⟩)
  replace B := Lib.hid (B.out.trans (hb.mono B.out.size))
  have z1 := hb.size
  have OL := Lib.hid ho
  clear ho hb
  go_wp2_with fail
  ((with_reducible refine (Im3.TagOf _ _ _ _ _ xs key _ OL.out.ints).mono ?_); rintro e w2 ⟨rfl, hb⟩)
  replace OL := Lib.hid (OL.out.below hb (Nat.le_refl _))
  replace B := Lib.hid (B.out.trans (hb.mono B.out.size))
  have z2 := hb.size
  clear hb
  go_wp2_with fail
  ((with_reducible refine (Sp3.TagOf _ _ _ _ _ xs key _ OL.out.ints).mono ?_); rintro e w3 ⟨rfl, hb⟩)
  replace OL := Lib.hid (OL.out.below hb (Nat.le_refl _))
  replace B := Lib.hid (B.out.trans (hb.mono B.out.size))
  have z3 := hb.size
  clear hb
  have htb := tagF_bd key xs
  by_cases hneg : tagF key xs < 0
  · go_wp2
    go_ret
    exact ⟨rfl, B.out⟩
  have hp : 0 ≤ tagF key xs := by omega
  have hh := tagF_ok hp
  have HG := Lib.hid hh.1
  have HK := Lib.hid hh.2
  clear hh hneg
  by_cases hz : xs = []
  · have hz0 := len_zero hz
    clear hz
    go_wp2
    go_ret
    exact ⟨rfl, B.out⟩
  have hz0 := len_pos hz
  clear hz
  have hpos : 0 < xs.length := pos_of_len hz0
  have hle := (okL_iff.1 HK.out).2
  by_cases h24 : xs.length = 24
  · have e24 : ((xs.length : Int) == 24) = true := by simp; omega
    clear h24
    go_wp2
    go_ret
    exact ⟨rfl, B.out⟩
  have e24 : ((xs.length : Int) == 24) = false := by simp; omega
  have hq1 : 0 < xs.length := hpos
  have hxq := okL_at HK.out hq1
  obtain ⟨nn, hn0, hnm⟩ : ∃ nn : Int, (0 ≤ nn ∧ nn ≤ 990) ∧ (n1 : Int) % 991 = nn := ⟨_, by omega, rfl⟩
  have HLT : Hid (xs.length < 24) := by show xs.length < 24; omega
  obtain ⟨bl, ol, rfl, _, _, _⟩ := OL.out.ints.at_ hq1
  have hal : Below w3.heap.size w3 (w3.alloc (.cells #[] 3)) := (Below.refl _ _).alloc (Nat.le_refl _) _
  have L1 := Lib.hid (OL.out.ints.below hal (Nat.le_refl _))
  have HA := Lib.hid (acc_new w3)
  clear hal
  generalize hxe : xs.getD 0 0 = x at hxq
  have HXE := Lib.hid hxe
  clear hxe
  go_wp2_with (at_builtin; refine wpList_appL _ _ _ _ HA.out _ _ _ _ _ _ L1.out hpos (by simp; omega) _ _ rfl rfl rfl rfl ?_; intro vx wx hAcc _; rw [List.nil_append] at hAcc; obtain ⟨bx, fx, cx, rfl, OX, lx, hx, cxq, fxq, HBX⟩ := acc_open hAcc hq1; rw [HXE.out] at cxq; clear hAcc; rw [Nat.add_zero] at cxq fxq)
  have hbx := HBX.out
  replace OL := Lib.hid (OL.out.below hbx (Nat.le_refl _))
  replace B := Lib.hid (B.out.trans (hbx.mono B.out.size))
  have zx := hbx.size
  clear hbx HBX L1 HA
  obtain ⟨hy, hyn⟩ := another_ne x ((n : Int) % 989)
  go_wp2_with fail
  ((with_reducible refine (Elt.another x ((n : Int) % 989) _ (by omega) (by omega) (by omega) (by omega)).mono ?_); rintro e w' ⟨rfl, rfl⟩)
  generalize (x + 1 + ((n : Int) % 989) % 990) % 991 = y at hy hyn ⊢
  have OY := Lib.hid (OX.out.set_ hq1 y)
  rw [Nat.add_zero] at OY
  have hfar : ∀ i, i ≠ bx → (wx.setCell ⟨bx, fx, none⟩ (.int .i64 y)).heap[i]? = wx.heap[i]? := fun i hi => Below.heap_setCell _ _ _ _ hi
  have hsz : wx.heap.size ≤ (wx.setCell ⟨bx, fx, none⟩ (.int .i64 y)).heap.size := by simp [World.setCell]
  have hsy : (wx.setCell ⟨bx, fx, none⟩ (.int .i64 y)).heap.size ≤ wx.heap.size := by simp [World.setCell]
  replace OL := Lib.hid (OL.out.keep hsz fun i h1 h2 h3 => hfar i (by omega))
  replace B := Lib.hid (B.out.setCell (p := ⟨bx, fx, none⟩) (show w.heap.size ≤ bx by omega) (.int .i64 y))
  clear hfar OX
  go_upto_region 11 with (fail)
  clear cxq fxq
  generalize wx.setCell ⟨bx, fx, none⟩ (.int .i64 y) = wy at *
  have HS := Lib.hid (tagF_set (key := key) HG.out hq1 HK.out hy (by rw [HXE.out]; exact hyn))
  have HT := Lib.hid (tagF_snoc (key := key) (n := nn) HG.out hq1 HK.out HLT.out hn0 hy (by rw [HXE.out]; exact hyn))
  have hal : Below wy.heap.size wy (wy.alloc (.cells #[] 3)) := (Below.refl _ _).alloc (Nat.le_refl _) _
  have L1 := Lib.hid (OL.out.ints.below hal (Nat.le_refl _))
  have HA := Lib.hid (acc_new wy)
  clear hal
  go_wp2_with (first | (at_builtin; refine wpList_app1 _ _ _ _ _ hAcc (by simp; omega) (.tmp 70) (.tmp 72) rfl rfl rfl rfl ?_; intro vb w5 hAcd _) | (at_builtin; refine wpList_appL _ _ _ _ HA.out _ _ _ _ _ _ L1.out (by omega) (by simp; omega) (.tmp 68) (.tmp 69) rfl rfl rfl rfl ?_; intro va wa hAcc _))
  have hbx := Il.Acc.below hAcd
  rw [List.nil_append] at hAcd
  obtain ⟨AOA, cOA, rfl, hoOA⟩ := own_of hAcd.1
  replace OL := Lib.hid (OL.out.below hbx (Nat.le_refl _))
  replace OY := Lib.hid (OY.out.below hbx (Nat.le_refl _))
  replace B := Lib.hid (B.out.trans (hbx.mono B.out.size))
  have OA := Lib.hid hoOA
  have z5 := hbx.size
  clear hbx hoOA hAcc hAcd L1 HA
  go_wp2_with fail
  ((with_reducible refine (Im3.TagOf _ _ _ _ _ (xs ++ [nn]) key _ OA.out.ints).mono ?_); rintro e w6 ⟨rfl, hb⟩)
  replace OL := Lib.hid (OL.out.below hb (Nat.le_refl _))
  replace OY := Lib.hid (OY.out.below hb (Nat.le_refl _))
  replace OA := Lib.hid (OA.out.below hb (Nat.le_refl _))
  replace B := Lib.hid (B.out.trans (hb.mono B.out.size))
  have z6 := hb.size
  clear hb
  have hal : Below w6.heap.size w6 (w6.alloc (.cells #[] 3)) := (Below.refl _ _).alloc (Nat.le_refl _) _
  have L1 := Lib.hid (OY.out.ints.below hal (Nat.le_refl _))
  have HA := Lib.hid (acc_new w6)
  clear hal
  go_wp2_with (first | (at_builtin; refine wpList_app1 _ _ _ _ _ hAcc (by simp; omega) (.tmp 78) (.tmp 80) rfl rfl rfl rfl ?_; intro vb w7 hAcd _) | (at_builtin; refine wpList_appL _ _ _ _ HA.out _ _ _ _ _ _ L1.out (by omega) (by simp; omega) (.tmp 76) (.tmp 77) rfl rfl rfl rfl ?_; intro va wa hAcc _))
  have hbx := Il.Acc.below hAcd
  rw [List.nil_append] at hAcd
  obtain ⟨AOB, cOB, rfl, hoOB⟩ := own_of hAcd.1
  replace OL := Lib.hid (OL.out.below hbx (Nat.le_refl _))
  replace OY := Lib.hid (OY.out.below hbx (Nat.le_refl _))
  replace OA := Lib.hid (OA.out.below hbx (Nat.le_refl _))
  replace B := Lib.hid (B.out.trans (hbx.mono B.out.size))
  have OB := Lib.hid hoOB
  have z7 := hbx.size
  clear hbx hoOB hAcc hAcd L1 HA
  go_wp2_with fail
  ((with_reducible refine (Im3.TagOf _ _ _ _ _ (xs.set 0 y ++ [nn]) key _ OB.out.ints).mono ?_); rintro e w8 ⟨rfl, hb⟩)
  replace OL := Lib.hid (OL.out.below hb (Nat.le_refl _))
  replace OY := Lib.hid (OY.out.below hb (Nat.le_refl _))
  replace OA := Lib.hid (OA.out.below hb (Nat.le_refl _))
  replace OB := Lib.hid (OB.out.below hb (Nat.le_refl _))
  replace B := Lib.hid (B.out.trans (hb.mono B.out.size))
  have z8 := hb.size
  clear hb
  go_wp2_with fail
  ((with_reducible refine (Im3.TagOf _ _ _ _ _ (xs.set 0 y) key _ OY.out.ints).mono ?_); rintro e w9 ⟨rfl, hb⟩)
  replace OL := Lib.hid (OL.out.below hb (Nat.le_refl _))
  replace OY := Lib.hid (OY.out.below hb (Nat.le_refl _))
  replace OA := Lib.hid (OA.out.below hb (Nat.le_refl _))
  replace OB := Lib.hid (OB.out.below hb (Nat.le_refl _))
  replace B := Lib.hid (B.out.trans (hb.mono B.out.size))
  have z9 := hb.size
  clear hb
  have e1 : (tagF key (xs.set 0 y) == tagF key xs) = false := by simpa using HS.out
  have e2 : (tagF key (xs ++ [nn]) == tagF key (xs.set 0 y ++ [nn])) = false := by simpa using HT.out
  go_wp2
  go_ret
  exact ⟨rfl, B.out⟩



end Law3
end Go.Proofs.Ytnacfjedfipggaa
