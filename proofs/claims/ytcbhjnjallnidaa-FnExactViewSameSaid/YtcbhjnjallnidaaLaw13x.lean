/-
  Exact laws of chapter 32 on views: each returns true and writes nothing that was there.
-/
import Derived.Test.YtcbhjnjallnidaaIm13c
import Derived.Test.YtcbhjnjallnidaaHvd
import Derived.Test.YtcbhjnjallnidaaIla
import Derived.Deep.Cut
namespace Go.Proofs.Ytcbhjnjallnidaa
open Go.RowKit
namespace Law13x
open Il Sl Fc Fp Pm Sp13 Im13 LawB

theorem viewF_len (xs : List Fl) : (viewF xs).length ≤ xs.length := by
  cases h : flsOk xs
  · rw [viewF_no h]; exact Nat.zero_le _
  · rw [viewF_yes h, view_len]; exact Nat.le_refl _
section
variable {lo hi l1 h1 l2 h2 n c m d : Nat} {A B : Option Addr} {xs ys : List Fl} {w : World} {r : Bool}
theorem viewI (e : viewF xs = ys) (hx : Fls lo hi w A n c xs) : Calls Try.prog 12 #[.slice A n c] w (FlsPost ys w) := e ▸ ViewOf lo hi A n c xs w hx
theorem viewS (e : viewF xs = ys) (hx : Fls lo hi w A n c xs) : Calls Try.prog 13 #[.slice A n c] w (FlsPost ys w) := e ▸ sViewOf lo hi A n c xs w hx
theorem sameI (e : sameV xs ys = r) (hx : Fls l1 h1 w A n c xs) (hy : Fls l2 h2 w B m d ys) : Calls Try.prog 15 #[.slice A n c, .slice B m d] w (BoolB r w) := e ▸ ViewSame l1 h1 l2 h2 A B n c m d xs ys w hx hy
theorem sameS (e : sameV xs ys = r) (hx : Fls l1 h1 w A n c xs) (hy : Fls l2 h2 w B m d ys) : Calls Try.prog 17 #[.slice A n c, .slice B m d] w (BoolB r w) := e ▸ sViewSame l1 h1 l2 h2 A B n c m d xs ys w hx hy
end
set_option maxRecDepth 20000 in
set_option maxHeartbeats 2000000 in
theorem fnExactViewOf (A : Option Addr) (n c : Nat) (xs : List Fl) (w : World) (hx : Fls 0 w.heap.size w A n c xs) :
    Calls Try.prog 9 #[.slice A n c] w (TruePost w) := by
  have hc1 := hx.max_
  have hc2 := hx.cap_
  obtain rfl := hx.len_
  have IA := Lib.hid hx
  clear hx
  by_cases hbig : 1048576 < xs.length
  · go_enter Try.func9, Try.ntmps9
    go_wp2_with fail
    ((with_reducible refine (Hv.sz_no _ _ _ _ _ hc1 hc2 (by omega) (by omega) (by omega)).mono ?_); rintro e w1 ⟨rfl, rfl⟩)
    go_wp2
    go_ret
    exact ⟨rfl, Below.refl _ _⟩
  have hn : xs.length ≤ 1048576 := by omega
  clear hbig
  have B : Hid (Below w.heap.size w w) := Below.refl _ _
  have e0 : decide (1048576 - (xs.length : Int) < 0) = false := by simp; omega
  go_enter Try.func9, Try.ntmps9
  go_wp2_with fail
  ((with_reducible refine (Hv.sz_yes _ _ _ _ _ (by omega) (by omega)).mono ?_); rintro e w0 ⟨rfl, rfl⟩)
  obtain ⟨ys, HV⟩ : ∃ ys, Hid (viewF xs = ys) := ⟨_, rfl⟩
  have hyl : ys.length ≤ 1048576 := by rw [← HV.out]; exact Nat.le_trans (viewF_len xs) hn
  go_wp2_with fail
  ((with_reducible refine (Hv.toFlowS _ _ _ _ _ xs _ IA.out hn).mono ?_); rintro e w1 ⟨AT, cT, rfl, ho, hb⟩)
  replace IA := Lib.hid (IA.out.below hb (Nat.le_refl _))
  replace B := Lib.hid (B.out.trans (hb.mono B.out.size))
  have z1 := hb.size
  have OT := Lib.hid ho
  clear ho hb
  go_wp2_with fail
  ((with_reducible refine (viewS HV.out OT.out.row_).mono ?_); rintro e w2 ⟨AS, cS, rfl, ho, hb⟩)
  replace IA := Lib.hid (IA.out.below hb (Nat.le_refl _))
  replace OT := Lib.hid (OT.out.below hb (Nat.le_refl _))
  replace B := Lib.hid (B.out.trans (hb.mono B.out.size))
  have z2 := hb.size
  have OS := Lib.hid ho
  clear ho hb
  go_wp2_with fail
  ((with_reducible refine (Hv.toFlowS _ _ _ _ _ xs _ IA.out hn).mono ?_); rintro e w3 ⟨AX, cX, rfl, ho, hb⟩)
  replace IA := Lib.hid (IA.out.below hb (Nat.le_refl _))
  replace OT := Lib.hid (OT.out.below hb (Nat.le_refl _))
  replace OS := Lib.hid (OS.out.below hb (Nat.le_refl _))
  replace B := Lib.hid (B.out.trans (hb.mono B.out.size))
  have z3 := hb.size
  have OX := Lib.hid ho
  clear ho hb
  go_wp2_with fail
  ((with_reducible refine (viewI HV.out OX.out.row_).mono ?_); rintro e w4 ⟨AM, cM, rfl, ho, hb⟩)
  replace IA := Lib.hid (IA.out.below hb (Nat.le_refl _))
  replace OT := Lib.hid (OT.out.below hb (Nat.le_refl _))
  replace OS := Lib.hid (OS.out.below hb (Nat.le_refl _))
  replace OX := Lib.hid (OX.out.below hb (Nat.le_refl _))
  replace B := Lib.hid (B.out.trans (hb.mono B.out.size))
  have z4 := hb.size
  have OM := Lib.hid ho
  clear ho hb
  go_wp2_with fail
  ((with_reducible refine (Hv.eqFlowS _ _ _ _ _ _ _ _ _ _ _ OM.out.row_ OS.out.row_).mono ?_); rintro e w5 ⟨rfl, hb⟩)
  replace IA := Lib.hid (IA.out.below hb (Nat.le_refl _))
  replace OT := Lib.hid (OT.out.below hb (Nat.le_refl _))
  replace OS := Lib.hid (OS.out.below hb (Nat.le_refl _))
  replace OX := Lib.hid (OX.out.below hb (Nat.le_refl _))
  replace OM := Lib.hid (OM.out.below hb (Nat.le_refl _))
  replace B := Lib.hid (B.out.trans (hb.mono B.out.size))
  have z5 := hb.size
  clear hb
  go_wp2_with fail
  ((with_reducible refine (Hv.toFlowS _ _ _ _ _ xs _ IA.out hn).mono ?_); rintro e w6 ⟨AU, cU, rfl, ho, hb⟩)
  replace IA := Lib.hid (IA.out.below hb (Nat.le_refl _))
  replace OT := Lib.hid (OT.out.below hb (Nat.le_refl _))
  replace OS := Lib.hid (OS.out.below hb (Nat.le_refl _))
  replace OX := Lib.hid (OX.out.below hb (Nat.le_refl _))
  replace OM := Lib.hid (OM.out.below hb (Nat.le_refl _))
  replace B := Lib.hid (B.out.trans (hb.mono B.out.size))
  have z6 := hb.size
  have OU := Lib.hid ho
  clear ho hb
  go_wp2_with fail
  ((with_reducible refine (Hv.eqFlowS _ _ _ _ _ _ _ _ _ _ _ OX.out.row_ OU.out.row_).mono ?_); rintro e w7 ⟨rfl, hb⟩)
  replace IA := Lib.hid (IA.out.below hb (Nat.le_refl _))
  replace OT := Lib.hid (OT.out.below hb (Nat.le_refl _))
  replace OS := Lib.hid (OS.out.below hb (Nat.le_refl _))
  replace OX := Lib.hid (OX.out.below hb (Nat.le_refl _))
  replace OM := Lib.hid (OM.out.below hb (Nat.le_refl _))
  replace OU := Lib.hid (OU.out.below hb (Nat.le_refl _))
  replace B := Lib.hid (B.out.trans (hb.mono B.out.size))
  have z7 := hb.size
  clear hb
  go_wp2_with fail
  ((with_reducible refine (Hv.markFlowS _ _ _ _ _ _ 1 _ OX.out (by omega) (by omega) (by omega)).mono ?_); rintro e w8 ⟨rfl, hm, hk⟩)
  replace IA := Lib.hid (IA.out.kept hk (by omega))
  replace OT := Lib.hid (OT.out.kept hk (by omega))
  replace OS := Lib.hid (OS.out.kept hk (by omega))
  replace OM := Lib.hid (OM.out.kept hk (by omega))
  replace OU := Lib.hid (OU.out.kept hk (by omega))
  replace B := Lib.hid (B.out.trans (hk.below (by omega)))
  replace OX := Lib.hid hm
  have z8 := Nat.le_of_eq hk.size.symm
  have y8 := Nat.le_of_eq hk.size
  clear hm hk
  have e1 : decide (1 + 3 * (xs.length : Int) < 0) = false := by simp; omega
  go_wp2_with fail
  ((with_reducible refine (Hv.eqFlowS _ _ _ _ _ _ _ _ _ _ _ OM.out.row_ OS.out.row_).mono ?_); rintro e w9 ⟨rfl, hb⟩)
  replace IA := Lib.hid (IA.out.below hb (Nat.le_refl _))
  replace OT := Lib.hid (OT.out.below hb (Nat.le_refl _))
  replace OS := Lib.hid (OS.out.below hb (Nat.le_refl _))
  replace OX := Lib.hid (OX.out.below hb (Nat.le_refl _))
  replace OM := Lib.hid (OM.out.below hb (Nat.le_refl _))
  replace OU := Lib.hid (OU.out.below hb (Nat.le_refl _))
  replace B := Lib.hid (B.out.trans (hb.mono B.out.size))
  have z9 := hb.size
  clear hb
  go_wp2_with fail
  ((with_reducible refine (Hv.markFlowS _ _ _ _ _ _ 1 _ OM.out (by omega) (by omega) (by omega)).mono ?_); rintro e w10 ⟨rfl, hm, hk⟩)
  replace IA := Lib.hid (IA.out.kept hk (by omega))
  replace OT := Lib.hid (OT.out.kept hk (by omega))
  replace OS := Lib.hid (OS.out.kept hk (by omega))
  replace OX := Lib.hid (OX.out.kept hk (by omega))
  replace OU := Lib.hid (OU.out.kept hk (by omega))
  replace B := Lib.hid (B.out.trans (hk.below (by omega)))
  replace OM := Lib.hid hm
  have z10 := Nat.le_of_eq hk.size.symm
  have y10 := Nat.le_of_eq hk.size
  clear hm hk
  have e2 : decide (1 + 3 * (ys.length : Int) < 0) = false := by simp; omega
  go_wp2_with fail
  ((with_reducible refine (Hv.heldFlowS _ _ _ _ _ 1 _ OM.out.row_ (by omega) (by omega) (by omega)).mono ?_); rintro e w' ⟨rfl, rfl⟩)
  go_wp2_with fail
  ((with_reducible refine (Hv.toFlowS _ _ _ _ _ xs _ IA.out hn).mono ?_); rintro e w12 ⟨AV, cV, rfl, ho, hb⟩)
  replace IA := Lib.hid (IA.out.below hb (Nat.le_refl _))
  replace OT := Lib.hid (OT.out.below hb (Nat.le_refl _))
  replace OS := Lib.hid (OS.out.below hb (Nat.le_refl _))
  replace OX := Lib.hid (OX.out.below hb (Nat.le_refl _))
  replace OM := Lib.hid (OM.out.below hb (Nat.le_refl _))
  replace OU := Lib.hid (OU.out.below hb (Nat.le_refl _))
  replace B := Lib.hid (B.out.trans (hb.mono B.out.size))
  have z12 := hb.size
  have OV := Lib.hid ho
  clear ho hb
  go_wp2_with fail
  ((with_reducible refine (viewI HV.out OV.out.row_).mono ?_); rintro e w13 ⟨AH, cH, rfl, ho, hb⟩)
  replace IA := Lib.hid (IA.out.below hb (Nat.le_refl _))
  replace OT := Lib.hid (OT.out.below hb (Nat.le_refl _))
  replace OS := Lib.hid (OS.out.below hb (Nat.le_refl _))
  replace OX := Lib.hid (OX.out.below hb (Nat.le_refl _))
  replace OM := Lib.hid (OM.out.below hb (Nat.le_refl _))
  replace OU := Lib.hid (OU.out.below hb (Nat.le_refl _))
  replace OV := Lib.hid (OV.out.below hb (Nat.le_refl _))
  replace B := Lib.hid (B.out.trans (hb.mono B.out.size))
  have z13 := hb.size
  have OH := Lib.hid ho
  clear ho hb
  go_wp2_with fail
  ((with_reducible refine (Hv.eqFlowS _ _ _ _ _ _ _ _ _ _ _ OH.out.row_ OS.out.row_).mono ?_); rintro e w14 ⟨rfl, hb⟩)
  replace IA := Lib.hid (IA.out.below hb (Nat.le_refl _))
  replace OT := Lib.hid (OT.out.below hb (Nat.le_refl _))
  replace OS := Lib.hid (OS.out.below hb (Nat.le_refl _))
  replace OX := Lib.hid (OX.out.below hb (Nat.le_refl _))
  replace OM := Lib.hid (OM.out.below hb (Nat.le_refl _))
  replace OU := Lib.hid (OU.out.below hb (Nat.le_refl _))
  replace OV := Lib.hid (OV.out.below hb (Nat.le_refl _))
  replace OH := Lib.hid (OH.out.below hb (Nat.le_refl _))
  replace B := Lib.hid (B.out.trans (hb.mono B.out.size))
  have z14 := hb.size
  clear hb
  go_wp2_with fail
  ((with_reducible refine (Hv.heldFlowS _ _ _ _ _ 1 _ OM.out.row_ (by omega) (by omega) (by omega)).mono ?_); rintro e w' ⟨rfl, rfl⟩)
  go_wp2
  go_ret
  exact ⟨rfl, B.out⟩
set_option maxRecDepth 20000 in
set_option maxHeartbeats 2000000 in
theorem fnExactViewSame (A : Option Addr) (n c : Nat) (xs : List Fl) (A2 : Option Addr) (m d : Nat) (ys : List Fl) (w : World) (hx : Fls 0 w.heap.size w A n c xs) (hy : Fls 0 w.heap.size w A2 m d ys) :
    Calls Try.prog 10 #[.slice A n c, .slice A2 m d] w (TruePost w) := by
  have hc1 := hx.max_
  have hc2 := hx.cap_
  have hd1 := hy.max_
  have hd2 := hy.cap_
  obtain rfl := hx.len_
  obtain rfl := hy.len_
  have IA := Lib.hid hx
  have IB := Lib.hid hy
  clear hx hy
  by_cases hbig : 1048576 < xs.length
  · go_enter Try.func10, Try.ntmps10
    go_wp2_with fail
    ((with_reducible refine (Hv.sz_no _ _ _ _ _ hc1 hc2 (by omega) (by omega) (by omega)).mono ?_); rintro e w1 ⟨rfl, rfl⟩)
    go_wp2
    go_ret
    exact ⟨rfl, Below.refl _ _⟩
  have hn : xs.length ≤ 1048576 := by omega
  have e0 : decide (1048576 - (xs.length : Int) < 0) = false := by simp; omega
  by_cases hbig2 : 1048576 - (xs.length : Int) < (ys.length : Int)
  · go_enter Try.func10, Try.ntmps10
    go_wp2_with fail
    ((with_reducible refine (Hv.sz_yes _ _ _ _ _ (by omega) (by omega)).mono ?_); rintro e w0 ⟨rfl, rfl⟩)
    go_wp2_with fail
    ((with_reducible refine (Hv.sz_no _ _ _ _ _ hd1 hd2 hbig2 (by omega) (by omega)).mono ?_); rintro e w1 ⟨rfl, rfl⟩)
    clear hbig2
    go_wp2
    go_ret
    exact ⟨rfl, Below.refl _ _⟩
  have hm : ys.length ≤ 1048576 := by omega
  have e1 : decide (1048576 - (xs.length : Int) - (ys.length : Int) < 0) = false := by simp; omega
  have B : Hid (Below w.heap.size w w) := Below.refl _ _
  go_enter Try.func10, Try.ntmps10
  go_wp2_with fail
  ((with_reducible refine (Hv.sz_yes _ _ _ _ _ (by omega) (by omega)).mono ?_); rintro e w0 ⟨rfl, rfl⟩)
  go_wp2_with fail
  ((with_reducible refine (Hv.sz_yes _ _ _ _ _ (by omega) (by omega)).mono ?_); rintro e w0 ⟨rfl, rfl⟩)
  clear hbig hbig2
  obtain ⟨r, HR⟩ : ∃ r, Hid (sameV xs ys = r) := ⟨_, rfl⟩
  have er : (r != r) = false := by cases r <;> rfl
  go_wp2_with fail
  ((with_reducible refine (Hv.toFlowS _ _ _ _ _ xs _ IA.out hn).mono ?_); rintro e w1 ⟨AT, cT, rfl, ho, hb⟩)
  replace IA := Lib.hid (IA.out.below hb (Nat.le_refl _))
  replace IB := Lib.hid (IB.out.below hb (Nat.le_refl _))
  replace B := Lib.hid (B.out.trans (hb.mono B.out.size))
  have z1 := hb.size
  have OT := Lib.hid ho
  clear ho hb
  go_wp2_with fail
  ((with_reducible refine (Hv.toFlowS _ _ _ _ _ ys _ IB.out hm).mono ?_); rintro e w2 ⟨AQ, cQ, rfl, ho, hb⟩)
  replace IA := Lib.hid (IA.out.below hb (Nat.le_refl _))
  replace IB := Lib.hid (IB.out.below hb (Nat.le_refl _))
  replace OT := Lib.hid (OT.out.below hb (Nat.le_refl _))
  replace B := Lib.hid (B.out.trans (hb.mono B.out.size))
  have z2 := hb.size
  have OQ := Lib.hid ho
  clear ho hb
  go_wp2_with fail
  ((with_reducible refine (sameS HR.out OT.out.row_ OQ.out.row_).mono ?_); rintro e w3 ⟨rfl, hb⟩)
  replace IA := Lib.hid (IA.out.below hb (Nat.le_refl _))
  replace IB := Lib.hid (IB.out.below hb (Nat.le_refl _))
  replace OT := Lib.hid (OT.out.below hb (Nat.le_refl _))
  replace OQ := Lib.hid (OQ.out.below hb (Nat.le_refl _))
  replace B := Lib.hid (B.out.trans (hb.mono B.out.size))
  have z3 := hb.size
  clear hb
  go_wp2_with fail
  ((with_reducible refine (Hv.toFlowS _ _ _ _ _ xs _ IA.out hn).mono ?_); rintro e w4 ⟨AX, cX, rfl, ho, hb⟩)
  replace IA := Lib.hid (IA.out.below hb (Nat.le_refl _))
  replace IB := Lib.hid (IB.out.below hb (Nat.le_refl _))
  replace OT := Lib.hid (OT.out.below hb (Nat.le_refl _))
  replace OQ := Lib.hid (OQ.out.below hb (Nat.le_refl _))
  replace B := Lib.hid (B.out.trans (hb.mono B.out.size))
  have z4 := hb.size
  have OX := Lib.hid ho
  clear ho hb
  go_wp2_with fail
  ((with_reducible refine (Hv.toFlowS _ _ _ _ _ ys _ IB.out hm).mono ?_); rintro e w5 ⟨AY, cY, rfl, ho, hb⟩)
  replace IA := Lib.hid (IA.out.below hb (Nat.le_refl _))
  replace IB := Lib.hid (IB.out.below hb (Nat.le_refl _))
  replace OT := Lib.hid (OT.out.below hb (Nat.le_refl _))
  replace OQ := Lib.hid (OQ.out.below hb (Nat.le_refl _))
  replace OX := Lib.hid (OX.out.below hb (Nat.le_refl _))
  replace B := Lib.hid (B.out.trans (hb.mono B.out.size))
  have z5 := hb.size
  have OY := Lib.hid ho
  clear ho hb
  go_wp2_with fail
  ((with_reducible refine (sameI HR.out OX.out.row_ OY.out.row_).mono ?_); rintro e w6 ⟨rfl, hb⟩)
  replace IA := Lib.hid (IA.out.below hb (Nat.le_refl _))
  replace IB := Lib.hid (IB.out.below hb (Nat.le_refl _))
  replace OT := Lib.hid (OT.out.below hb (Nat.le_refl _))
  replace OQ := Lib.hid (OQ.out.below hb (Nat.le_refl _))
  replace OX := Lib.hid (OX.out.below hb (Nat.le_refl _))
  replace OY := Lib.hid (OY.out.below hb (Nat.le_refl _))
  replace B := Lib.hid (B.out.trans (hb.mono B.out.size))
  have z6 := hb.size
  clear hb
  go_wp2_with fail
  ((with_reducible refine (Hv.toFlowS _ _ _ _ _ xs _ IA.out hn).mono ?_); rintro e w7 ⟨AU, cU, rfl, ho, hb⟩)
  replace IA := Lib.hid (IA.out.below hb (Nat.le_refl _))
  replace IB := Lib.hid (IB.out.below hb (Nat.le_refl _))
  replace OT := Lib.hid (OT.out.below hb (Nat.le_refl _))
  replace OQ := Lib.hid (OQ.out.below hb (Nat.le_refl _))
  replace OX := Lib.hid (OX.out.below hb (Nat.le_refl _))
  replace OY := Lib.hid (OY.out.below hb (Nat.le_refl _))
  replace B := Lib.hid (B.out.trans (hb.mono B.out.size))
  have z7 := hb.size
  have OU := Lib.hid ho
  clear ho hb
  go_wp2_with fail
  ((with_reducible refine (Hv.eqFlowS _ _ _ _ _ _ _ _ _ _ _ OX.out.row_ OU.out.row_).mono ?_); rintro e w8 ⟨rfl, hb⟩)
  replace IA := Lib.hid (IA.out.below hb (Nat.le_refl _))
  replace IB := Lib.hid (IB.out.below hb (Nat.le_refl _))
  replace OT := Lib.hid (OT.out.below hb (Nat.le_refl _))
  replace OQ := Lib.hid (OQ.out.below hb (Nat.le_refl _))
  replace OX := Lib.hid (OX.out.below hb (Nat.le_refl _))
  replace OY := Lib.hid (OY.out.below hb (Nat.le_refl _))
  replace OU := Lib.hid (OU.out.below hb (Nat.le_refl _))
  replace B := Lib.hid (B.out.trans (hb.mono B.out.size))
  have z8 := hb.size
  clear hb
  go_wp2_with fail
  ((with_reducible refine (Hv.toFlowS _ _ _ _ _ ys _ IB.out hm).mono ?_); rintro e w9 ⟨AV, cV, rfl, ho, hb⟩)
  replace IA := Lib.hid (IA.out.below hb (Nat.le_refl _))
  replace IB := Lib.hid (IB.out.below hb (Nat.le_refl _))
  replace OT := Lib.hid (OT.out.below hb (Nat.le_refl _))
  replace OQ := Lib.hid (OQ.out.below hb (Nat.le_refl _))
  replace OX := Lib.hid (OX.out.below hb (Nat.le_refl _))
  replace OY := Lib.hid (OY.out.below hb (Nat.le_refl _))
  replace OU := Lib.hid (OU.out.below hb (Nat.le_refl _))
  replace B := Lib.hid (B.out.trans (hb.mono B.out.size))
  have z9 := hb.size
  have OV := Lib.hid ho
  clear ho hb
  go_wp2_with fail
  ((with_reducible refine (Hv.eqFlowS _ _ _ _ _ _ _ _ _ _ _ OY.out.row_ OV.out.row_).mono ?_); rintro e w10 ⟨rfl, hb⟩)
  replace IA := Lib.hid (IA.out.below hb (Nat.le_refl _))
  replace IB := Lib.hid (IB.out.below hb (Nat.le_refl _))
  replace OT := Lib.hid (OT.out.below hb (Nat.le_refl _))
  replace OQ := Lib.hid (OQ.out.below hb (Nat.le_refl _))
  replace OX := Lib.hid (OX.out.below hb (Nat.le_refl _))
  replace OY := Lib.hid (OY.out.below hb (Nat.le_refl _))
  replace OU := Lib.hid (OU.out.below hb (Nat.le_refl _))
  replace OV := Lib.hid (OV.out.below hb (Nat.le_refl _))
  replace B := Lib.hid (B.out.trans (hb.mono B.out.size))
  have z10 := hb.size
  clear hb
  go_wp2
  go_ret
  exact ⟨rfl, B.out⟩
end Law13x
end Go.Proofs.Ytcbhjnjallnidaa
