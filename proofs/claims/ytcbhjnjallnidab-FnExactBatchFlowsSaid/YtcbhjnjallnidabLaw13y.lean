/-
  The exact law of chapter 32 on batches: it returns true and writes nothing that was there.
-/
import Derived.Test.YtcbhjnjallnidabIm13d
import Derived.Test.YtcbhjnjallnidabHv
import Derived.Test.YtcbhjnjallnidabHlp
import Derived.Test.YtcbhjnjallnidabIla
import Derived.Deep.Cut
namespace Go.Proofs.Ytcbhjnjallnidab
open Go.RowKit
namespace Law13y
open Il Sl Fc Fp Pm Sp13 Im13 LawB

theorem batF_len (ss rs : List Int) (nm : Int) : (batF ss rs nm).length ≤ 16 := by
  cases h : batOk ss rs nm
  · rw [batF_no h]; exact Nat.zero_le _
  · rw [batF_yes h, bat_len h]
    have := (batOk_iff.1 h).2.2.2.1
    omega
section
variable {lo hi l1 h1 l2 h2 n c m d : Nat} {A B : Option Addr} {xs ys : List Fl} {ss rs : List Int} {nm : Int} {w : World} {r : Bool}
theorem batI (e : batF ss rs nm = ys) (hx : Ints l1 h1 w A n c ss) (hy : Ints l2 h2 w B m d rs) (hn : n ≤ 2000000) : Calls Try.prog 11 #[.slice A n c, .slice B m d, .int .i64 nm] w (FlsPost ys w) := e ▸ BatchFlows l1 h1 l2 h2 A B n m c d ss rs nm w hx hy hn
theorem batS (e : batF ss rs nm = ys) (hx : Ints l1 h1 w A n c ss) (hy : Ints l2 h2 w B m d rs) (hn : n ≤ 2000000) : Calls Try.prog 12 #[.slice A n c, .slice B m d, .int .i64 nm] w (FlsPost ys w) := e ▸ sBatchFlows l1 h1 l2 h2 A B n m c d ss rs nm w hx hy hn
end
set_option maxRecDepth 20000 in
set_option maxHeartbeats 2000000 in
theorem fnExactBatchFlows (A : Option Addr) (n c : Nat) (ss : List Int) (A2 : Option Addr) (m d : Nat) (rs : List Int) (nm : Int) (w : World) (hx : Ints 0 w.heap.size w A n c ss) (hy : Ints 0 w.heap.size w A2 m d rs) :
    Calls Try.prog 9 #[.slice A n c, .slice A2 m d, .int .i64 nm] w (TruePost w) := by
  obtain rfl := hx.1
  obtain rfl := hy.1
  have IA := Lib.hid hx
  have IB := Lib.hid hy
  clear hx hy
  by_cases hn : 1048576 < ss.length
  · go_enter Try.func9, Try.ntmps9
    go_wp2
    go_ret
    exact ⟨rfl, Below.refl _ _⟩
  by_cases hm : 1048576 < rs.length
  · go_enter Try.func9, Try.ntmps9
    go_wp2
    go_ret
    exact ⟨rfl, Below.refl _ _⟩
  have hn2 : ss.length ≤ 1048576 := by omega
  have hm2 : rs.length ≤ 1048576 := by omega
  have B : Hid (Below w.heap.size w w) := Below.refl _ _
  go_enter Try.func9, Try.ntmps9
  obtain ⟨ys, HV⟩ : ∃ ys, Hid (batF ss rs nm = ys) := ⟨_, rfl⟩
  have hyl : ys.length ≤ 16 := by rw [← HV.out]; exact batF_len ss rs nm
  have hs2 : ss.length ≤ 2000000 := by omega
  go_wp2_with fail
  ((with_reducible refine (Hlp.toIntS _ _ _ _ _ ss _ IA.out (by omega)).mono ?_); rintro e w1 ⟨AT, kT, rfl, ho, hb⟩)
  replace IA := Lib.hid (IA.out.below hb (Nat.le_refl _))
  replace IB := Lib.hid (IB.out.below hb (Nat.le_refl _))
  replace B := Lib.hid (B.out.trans (hb.mono B.out.size))
  have z1 := hb.size
  have OT := Lib.hid ho
  clear ho hb
  go_wp2_with fail
  ((with_reducible refine (Hlp.toIntS _ _ _ _ _ rs _ IB.out (by omega)).mono ?_); rintro e w2 ⟨AQ, kQ, rfl, ho, hb⟩)
  replace IA := Lib.hid (IA.out.below hb (Nat.le_refl _))
  replace IB := Lib.hid (IB.out.below hb (Nat.le_refl _))
  replace OT := Lib.hid (OT.out.below hb (Nat.le_refl _))
  replace B := Lib.hid (B.out.trans (hb.mono B.out.size))
  have z2 := hb.size
  have OQ := Lib.hid ho
  clear ho hb
  go_wp2_with fail
  ((with_reducible refine (batS HV.out OT.out.ints OQ.out.ints hs2).mono ?_); rintro e w3 ⟨AS, cS, rfl, ho, hb⟩)
  replace IA := Lib.hid (IA.out.below hb (Nat.le_refl _))
  replace IB := Lib.hid (IB.out.below hb (Nat.le_refl _))
  replace OT := Lib.hid (OT.out.below hb (Nat.le_refl _))
  replace OQ := Lib.hid (OQ.out.below hb (Nat.le_refl _))
  replace B := Lib.hid (B.out.trans (hb.mono B.out.size))
  have z3 := hb.size
  have OS := Lib.hid ho
  clear ho hb
  go_wp2_with fail
  ((with_reducible refine (Hlp.toIntS _ _ _ _ _ ss _ IA.out (by omega)).mono ?_); rintro e w4 ⟨AX, kX, rfl, ho, hb⟩)
  replace IA := Lib.hid (IA.out.below hb (Nat.le_refl _))
  replace IB := Lib.hid (IB.out.below hb (Nat.le_refl _))
  replace OT := Lib.hid (OT.out.below hb (Nat.le_refl _))
  replace OQ := Lib.hid (OQ.out.below hb (Nat.le_refl _))
  replace OS := Lib.hid (OS.out.below hb (Nat.le_refl _))
  replace B := Lib.hid (B.out.trans (hb.mono B.out.size))
  have z4 := hb.size
  have OX := Lib.hid ho
  clear ho hb
  go_wp2_with fail
  ((with_reducible refine (Hlp.toIntS _ _ _ _ _ rs _ IB.out (by omega)).mono ?_); rintro e w5 ⟨AY, kY, rfl, ho, hb⟩)
  replace IA := Lib.hid (IA.out.below hb (Nat.le_refl _))
  replace IB := Lib.hid (IB.out.below hb (Nat.le_refl _))
  replace OT := Lib.hid (OT.out.below hb (Nat.le_refl _))
  replace OQ := Lib.hid (OQ.out.below hb (Nat.le_refl _))
  replace OS := Lib.hid (OS.out.below hb (Nat.le_refl _))
  replace OX := Lib.hid (OX.out.below hb (Nat.le_refl _))
  replace B := Lib.hid (B.out.trans (hb.mono B.out.size))
  have z5 := hb.size
  have OY := Lib.hid ho
  clear ho hb
  go_wp2_with fail
  ((with_reducible refine (batI HV.out OX.out.ints OY.out.ints hs2).mono ?_); rintro e w6 ⟨AG, cG, rfl, ho, hb⟩)
  replace IA := Lib.hid (IA.out.below hb (Nat.le_refl _))
  replace IB := Lib.hid (IB.out.below hb (Nat.le_refl _))
  replace OT := Lib.hid (OT.out.below hb (Nat.le_refl _))
  replace OQ := Lib.hid (OQ.out.below hb (Nat.le_refl _))
  replace OS := Lib.hid (OS.out.below hb (Nat.le_refl _))
  replace OX := Lib.hid (OX.out.below hb (Nat.le_refl _))
  replace OY := Lib.hid (OY.out.below hb (Nat.le_refl _))
  replace B := Lib.hid (B.out.trans (hb.mono B.out.size))
  have z6 := hb.size
  have OG := Lib.hid ho
  clear ho hb
  go_wp2_with fail
  ((with_reducible refine (Hv.eqFlowS _ _ _ _ _ _ _ _ _ _ _ OG.out.row_ OS.out.row_).mono ?_); rintro e w7 ⟨rfl, hb⟩)
  replace IA := Lib.hid (IA.out.below hb (Nat.le_refl _))
  replace IB := Lib.hid (IB.out.below hb (Nat.le_refl _))
  replace OT := Lib.hid (OT.out.below hb (Nat.le_refl _))
  replace OQ := Lib.hid (OQ.out.below hb (Nat.le_refl _))
  replace OS := Lib.hid (OS.out.below hb (Nat.le_refl _))
  replace OX := Lib.hid (OX.out.below hb (Nat.le_refl _))
  replace OY := Lib.hid (OY.out.below hb (Nat.le_refl _))
  replace OG := Lib.hid (OG.out.below hb (Nat.le_refl _))
  replace B := Lib.hid (B.out.trans (hb.mono B.out.size))
  have z7 := hb.size
  clear hb
  go_wp2_with fail
  ((with_reducible refine (Hlp.toIntS _ _ _ _ _ ss _ IA.out (by omega)).mono ?_); rintro e w8 ⟨AV, kV, rfl, ho, hb⟩)
  replace IA := Lib.hid (IA.out.below hb (Nat.le_refl _))
  replace IB := Lib.hid (IB.out.below hb (Nat.le_refl _))
  replace OT := Lib.hid (OT.out.below hb (Nat.le_refl _))
  replace OQ := Lib.hid (OQ.out.below hb (Nat.le_refl _))
  replace OS := Lib.hid (OS.out.below hb (Nat.le_refl _))
  replace OX := Lib.hid (OX.out.below hb (Nat.le_refl _))
  replace OY := Lib.hid (OY.out.below hb (Nat.le_refl _))
  replace OG := Lib.hid (OG.out.below hb (Nat.le_refl _))
  replace B := Lib.hid (B.out.trans (hb.mono B.out.size))
  have z8 := hb.size
  have OV := Lib.hid ho
  clear ho hb
  go_wp2_with fail
  ((with_reducible refine (Hlp.eqIntS _ _ _ _ _ _ _ _ _ _ _ _ _ OX.out.ints OV.out.ints).mono ?_); rintro e w9 ⟨rfl, hd⟩)
  have hb0 := drew_below hd
  clear hd
  replace IA := Lib.hid (IA.out.below hb0 (Nat.le_refl _))
  replace IB := Lib.hid (IB.out.below hb0 (Nat.le_refl _))
  replace OT := Lib.hid (OT.out.below hb0 (Nat.le_refl _))
  replace OQ := Lib.hid (OQ.out.below hb0 (Nat.le_refl _))
  replace OS := Lib.hid (OS.out.below hb0 (Nat.le_refl _))
  replace OX := Lib.hid (OX.out.below hb0 (Nat.le_refl _))
  replace OY := Lib.hid (OY.out.below hb0 (Nat.le_refl _))
  replace OG := Lib.hid (OG.out.below hb0 (Nat.le_refl _))
  replace OV := Lib.hid (OV.out.below hb0 (Nat.le_refl _))
  replace B := Lib.hid (B.out.trans (hb0.mono B.out.size))
  have z9 := hb0.size
  clear hb0
  rw [decide_eq_true rfl]
  go_wp2_with fail
  ((with_reducible refine (Hlp.toIntS _ _ _ _ _ rs _ IB.out (by omega)).mono ?_); rintro e w10 ⟨AW, kW, rfl, ho, hb⟩)
  replace IA := Lib.hid (IA.out.below hb (Nat.le_refl _))
  replace IB := Lib.hid (IB.out.below hb (Nat.le_refl _))
  replace OT := Lib.hid (OT.out.below hb (Nat.le_refl _))
  replace OQ := Lib.hid (OQ.out.below hb (Nat.le_refl _))
  replace OS := Lib.hid (OS.out.below hb (Nat.le_refl _))
  replace OX := Lib.hid (OX.out.below hb (Nat.le_refl _))
  replace OY := Lib.hid (OY.out.below hb (Nat.le_refl _))
  replace OG := Lib.hid (OG.out.below hb (Nat.le_refl _))
  replace OV := Lib.hid (OV.out.below hb (Nat.le_refl _))
  replace B := Lib.hid (B.out.trans (hb.mono B.out.size))
  have z10 := hb.size
  have OW := Lib.hid ho
  clear ho hb
  go_wp2_with fail
  ((with_reducible refine (Hlp.eqIntS _ _ _ _ _ _ _ _ _ _ _ _ _ OY.out.ints OW.out.ints).mono ?_); rintro e w11 ⟨rfl, hd⟩)
  have hb0 := drew_below hd
  clear hd
  replace IA := Lib.hid (IA.out.below hb0 (Nat.le_refl _))
  replace IB := Lib.hid (IB.out.below hb0 (Nat.le_refl _))
  replace OT := Lib.hid (OT.out.below hb0 (Nat.le_refl _))
  replace OQ := Lib.hid (OQ.out.below hb0 (Nat.le_refl _))
  replace OS := Lib.hid (OS.out.below hb0 (Nat.le_refl _))
  replace OX := Lib.hid (OX.out.below hb0 (Nat.le_refl _))
  replace OY := Lib.hid (OY.out.below hb0 (Nat.le_refl _))
  replace OG := Lib.hid (OG.out.below hb0 (Nat.le_refl _))
  replace OV := Lib.hid (OV.out.below hb0 (Nat.le_refl _))
  replace OW := Lib.hid (OW.out.below hb0 (Nat.le_refl _))
  replace B := Lib.hid (B.out.trans (hb0.mono B.out.size))
  have z11 := hb0.size
  clear hb0
  rw [decide_eq_true rfl]
  go_wp2_with fail
  ((with_reducible refine (Hlp.markIntS _ _ _ _ _ _ 1 _ OX.out (by omega) (by omega) (by omega)).mono ?_); rintro e w12 ⟨rfl, hm, hk⟩)
  replace IA := Lib.hid (IA.out.kept hk (by omega))
  replace IB := Lib.hid (IB.out.kept hk (by omega))
  replace OT := Lib.hid (OT.out.kept hk (by omega))
  replace OQ := Lib.hid (OQ.out.kept hk (by omega))
  replace OS := Lib.hid (OS.out.kept hk (by omega))
  replace OY := Lib.hid (OY.out.kept hk (by omega))
  replace OG := Lib.hid (OG.out.kept hk (by omega))
  replace OV := Lib.hid (OV.out.kept hk (by omega))
  replace OW := Lib.hid (OW.out.kept hk (by omega))
  replace B := Lib.hid (B.out.trans (hk.below (by omega)))
  replace OX := Lib.hid hm
  have z12 := Nat.le_of_eq hk.size.symm
  have y12 := Nat.le_of_eq hk.size
  clear hm hk
  have hk9 : (0 : Int) ≤ 1 + ↑ss.length := by omega
  go_wp2_with fail
  ((with_reducible refine (Hlp.markIntS _ _ _ _ _ _ (1 + ↑ss.length) _ OY.out (by omega) (by omega) (by omega)).mono ?_); rintro e w13 ⟨rfl, hm, hk⟩)
  replace IA := Lib.hid (IA.out.kept hk (by omega))
  replace IB := Lib.hid (IB.out.kept hk (by omega))
  replace OT := Lib.hid (OT.out.kept hk (by omega))
  replace OQ := Lib.hid (OQ.out.kept hk (by omega))
  replace OS := Lib.hid (OS.out.kept hk (by omega))
  replace OX := Lib.hid (OX.out.kept hk (by omega))
  replace OG := Lib.hid (OG.out.kept hk (by omega))
  replace OV := Lib.hid (OV.out.kept hk (by omega))
  replace OW := Lib.hid (OW.out.kept hk (by omega))
  replace B := Lib.hid (B.out.trans (hk.below (by omega)))
  replace OY := Lib.hid hm
  have z13 := Nat.le_of_eq hk.size.symm
  have y13 := Nat.le_of_eq hk.size
  clear hm hk
  have e1 : decide (1 + (ss.length : Int) + (rs.length : Int) < 0) = false := by simp; omega
  go_wp2_with fail
  ((with_reducible refine (Hv.eqFlowS _ _ _ _ _ _ _ _ _ _ _ OG.out.row_ OS.out.row_).mono ?_); rintro e w14 ⟨rfl, hb⟩)
  replace IA := Lib.hid (IA.out.below hb (Nat.le_refl _))
  replace IB := Lib.hid (IB.out.below hb (Nat.le_refl _))
  replace OT := Lib.hid (OT.out.below hb (Nat.le_refl _))
  replace OQ := Lib.hid (OQ.out.below hb (Nat.le_refl _))
  replace OS := Lib.hid (OS.out.below hb (Nat.le_refl _))
  replace OX := Lib.hid (OX.out.below hb (Nat.le_refl _))
  replace OY := Lib.hid (OY.out.below hb (Nat.le_refl _))
  replace OG := Lib.hid (OG.out.below hb (Nat.le_refl _))
  replace OV := Lib.hid (OV.out.below hb (Nat.le_refl _))
  replace OW := Lib.hid (OW.out.below hb (Nat.le_refl _))
  replace B := Lib.hid (B.out.trans (hb.mono B.out.size))
  have z14 := hb.size
  clear hb
  go_wp2_with fail
  ((with_reducible refine (Hv.markFlowS _ _ _ _ _ _ 1 _ OG.out (by omega) (by omega) (by omega)).mono ?_); rintro e w15 ⟨rfl, hm, hk⟩)
  replace IA := Lib.hid (IA.out.kept hk (by omega))
  replace IB := Lib.hid (IB.out.kept hk (by omega))
  replace OT := Lib.hid (OT.out.kept hk (by omega))
  replace OQ := Lib.hid (OQ.out.kept hk (by omega))
  replace OS := Lib.hid (OS.out.kept hk (by omega))
  replace OX := Lib.hid (OX.out.kept hk (by omega))
  replace OY := Lib.hid (OY.out.kept hk (by omega))
  replace OV := Lib.hid (OV.out.kept hk (by omega))
  replace OW := Lib.hid (OW.out.kept hk (by omega))
  replace B := Lib.hid (B.out.trans (hk.below (by omega)))
  replace OG := Lib.hid hm
  have z15 := Nat.le_of_eq hk.size.symm
  have y15 := Nat.le_of_eq hk.size
  clear hm hk
  have e2 : decide (1 + 3 * (ys.length : Int) < 0) = false := by simp; omega
  go_wp2_with fail
  ((with_reducible refine (Hv.heldFlowS _ _ _ _ _ 1 _ OG.out.row_ (by omega) (by omega) (by omega)).mono ?_); rintro e w' ⟨rfl, rfl⟩)
  go_wp2_with fail
  ((with_reducible refine (Hlp.toIntS _ _ _ _ _ ss _ IA.out (by omega)).mono ?_); rintro e w17 ⟨AP, kP, rfl, ho, hb⟩)
  replace IA := Lib.hid (IA.out.below hb (Nat.le_refl _))
  replace IB := Lib.hid (IB.out.below hb (Nat.le_refl _))
  replace OT := Lib.hid (OT.out.below hb (Nat.le_refl _))
  replace OQ := Lib.hid (OQ.out.below hb (Nat.le_refl _))
  replace OS := Lib.hid (OS.out.below hb (Nat.le_refl _))
  replace OX := Lib.hid (OX.out.below hb (Nat.le_refl _))
  replace OY := Lib.hid (OY.out.below hb (Nat.le_refl _))
  replace OG := Lib.hid (OG.out.below hb (Nat.le_refl _))
  replace OV := Lib.hid (OV.out.below hb (Nat.le_refl _))
  replace OW := Lib.hid (OW.out.below hb (Nat.le_refl _))
  replace B := Lib.hid (B.out.trans (hb.mono B.out.size))
  have z17 := hb.size
  have OP := Lib.hid ho
  clear ho hb
  go_wp2_with fail
  ((with_reducible refine (Hlp.toIntS _ _ _ _ _ rs _ IB.out (by omega)).mono ?_); rintro e w18 ⟨AR, kR, rfl, ho, hb⟩)
  replace IA := Lib.hid (IA.out.below hb (Nat.le_refl _))
  replace IB := Lib.hid (IB.out.below hb (Nat.le_refl _))
  replace OT := Lib.hid (OT.out.below hb (Nat.le_refl _))
  replace OQ := Lib.hid (OQ.out.below hb (Nat.le_refl _))
  replace OS := Lib.hid (OS.out.below hb (Nat.le_refl _))
  replace OX := Lib.hid (OX.out.below hb (Nat.le_refl _))
  replace OY := Lib.hid (OY.out.below hb (Nat.le_refl _))
  replace OG := Lib.hid (OG.out.below hb (Nat.le_refl _))
  replace OV := Lib.hid (OV.out.below hb (Nat.le_refl _))
  replace OW := Lib.hid (OW.out.below hb (Nat.le_refl _))
  replace OP := Lib.hid (OP.out.below hb (Nat.le_refl _))
  replace B := Lib.hid (B.out.trans (hb.mono B.out.size))
  have z18 := hb.size
  have OR := Lib.hid ho
  clear ho hb
  go_wp2_with fail
  ((with_reducible refine (batI HV.out OP.out.ints OR.out.ints hs2).mono ?_); rintro e w19 ⟨AH, cH, rfl, ho, hb⟩)
  replace IA := Lib.hid (IA.out.below hb (Nat.le_refl _))
  replace IB := Lib.hid (IB.out.below hb (Nat.le_refl _))
  replace OT := Lib.hid (OT.out.below hb (Nat.le_refl _))
  replace OQ := Lib.hid (OQ.out.below hb (Nat.le_refl _))
  replace OS := Lib.hid (OS.out.below hb (Nat.le_refl _))
  replace OX := Lib.hid (OX.out.below hb (Nat.le_refl _))
  replace OY := Lib.hid (OY.out.below hb (Nat.le_refl _))
  replace OG := Lib.hid (OG.out.below hb (Nat.le_refl _))
  replace OV := Lib.hid (OV.out.below hb (Nat.le_refl _))
  replace OW := Lib.hid (OW.out.below hb (Nat.le_refl _))
  replace OP := Lib.hid (OP.out.below hb (Nat.le_refl _))
  replace OR := Lib.hid (OR.out.below hb (Nat.le_refl _))
  replace B := Lib.hid (B.out.trans (hb.mono B.out.size))
  have z19 := hb.size
  have OH := Lib.hid ho
  clear ho hb
  go_wp2_with fail
  ((with_reducible refine (Hv.eqFlowS _ _ _ _ _ _ _ _ _ _ _ OH.out.row_ OS.out.row_).mono ?_); rintro e w20 ⟨rfl, hb⟩)
  replace IA := Lib.hid (IA.out.below hb (Nat.le_refl _))
  replace IB := Lib.hid (IB.out.below hb (Nat.le_refl _))
  replace OT := Lib.hid (OT.out.below hb (Nat.le_refl _))
  replace OQ := Lib.hid (OQ.out.below hb (Nat.le_refl _))
  replace OS := Lib.hid (OS.out.below hb (Nat.le_refl _))
  replace OX := Lib.hid (OX.out.below hb (Nat.le_refl _))
  replace OY := Lib.hid (OY.out.below hb (Nat.le_refl _))
  replace OG := Lib.hid (OG.out.below hb (Nat.le_refl _))
  replace OV := Lib.hid (OV.out.below hb (Nat.le_refl _))
  replace OW := Lib.hid (OW.out.below hb (Nat.le_refl _))
  replace OP := Lib.hid (OP.out.below hb (Nat.le_refl _))
  replace OR := Lib.hid (OR.out.below hb (Nat.le_refl _))
  replace OH := Lib.hid (OH.out.below hb (Nat.le_refl _))
  replace B := Lib.hid (B.out.trans (hb.mono B.out.size))
  have z20 := hb.size
  clear hb
  go_wp2_with fail
  ((with_reducible refine (Hv.heldFlowS _ _ _ _ _ 1 _ OG.out.row_ (by omega) (by omega) (by omega)).mono ?_); rintro e w' ⟨rfl, rfl⟩)
  go_wp2
  go_ret
  exact ⟨rfl, B.out⟩
end Law13y
end Go.Proofs.Ytcbhjnjallnidab
