/-
  The exact law of LoopAdd, by the contracts of the functions that they call: each returns true and writes nothing that was there.
-/
import Derived.Test.YtbhafchdcofceaaSp7e
import Derived.Test.YtbhafchdcofceaaIm7h
import Derived.Test.YtbhafchdcofceaaHd
import Derived.Test.YtbhafchdcofceaaHlp
import Derived.Test.YtbhafchdcofceaaIla
import Derived.Deep.Cut
namespace Go.Proofs.Ytbhafchdcofceaa
open Go.RowKit
namespace Law7y
open Il Sl Lc Hc LawB

theorem addR_len (xs : List Cnt) (p : List Int) (bk : Bool) (h : xs.length ≤ 1048576) : (addR xs p bk).length ≤ 2000000 := by
  unfold addR
  cases hx : loopsOk xs
  · exact Nat.zero_le _
  · cases hp : lpOk p
    · exact Nat.zero_le _
    · cases loopsOk (addL xs p bk)
      · show xs.length ≤ _; omega
      · have := addP_len hx p bk (p.length - 1) (by have := (lpOk_iff.1 hp).2.2.2; omega)
        show (addP xs p bk (p.length - 1)).length ≤ _
        omega
theorem loopAdd_y (lo hi l2 h3 : Nat) (A B : Option Addr) (n c m d : Nat) (xs ys : List Cnt) (p : List Int) (bk ok : Bool) (w : World) (h : addR xs p bk = ys) (h2 : addB xs p bk = ok) (hx : Cnts lo hi w A n c xs) (hp : Ints l2 h3 w B m d p) (hh : hi ≤ w.heap.size) (hh2 : h3 ≤ w.heap.size) :
    Calls Try.prog 9 #[.slice A n c, .slice B m d, .bool bk] w (CntsPairPost ys ok w) := by
  subst h
  subst h2
  exact Im7.LoopAdd lo hi l2 h3 A B n c m d xs p bk w hx hp hh hh2
set_option maxRecDepth 20000 in
set_option maxHeartbeats 2000000 in
theorem fnExactLoopAdd (A : Option Addr) (n c : Nat) (xs : List Cnt) (P : Option Addr) (m d : Nat) (p : List Int) (bk : Bool) (w : World) (hx : Cnts 0 w.heap.size w A n c xs) (hp : Ints 0 w.heap.size w P m d p) :
    Calls Try.prog 7 #[.slice A n c, .slice P m d, .bool bk] w (TruePost w) := by
  have hc1 := hx.max_
  have hc2 := hx.cap_
  obtain rfl := hx.len_
  have IA := Lib.hid hx
  have IP := Lib.hid hp
  have hpl := hp.1
  clear hx hp
  by_cases hbm : 1048576 < m
  · go_enter Try.func7, Try.ntmps7
    go_wp2
    go_ret
    exact ⟨rfl, Below.refl _ _⟩
  have hm : m ≤ 1048576 := by omega
  have hpn : p.length ≤ 1048576 := by omega
  clear hbm hpl
  by_cases hbig : 1048576 < xs.length
  · go_enter Try.func7, Try.ntmps7
    go_wp2_with fail
    ((with_reducible refine (sz_no _ _ _ _ hc1 hc2 hbig).mono ?_); rintro e w1 ⟨rfl, rfl⟩)
    go_wp2
    go_ret
    exact ⟨rfl, Below.refl _ _⟩
  have hn : xs.length ≤ 1048576 := by omega
  clear hbig
  have B : Hid (Below w.heap.size w w) := Below.refl _ _
  have e0 : decide (1048576 - (xs.length : Int) < 0) = false := by simp; omega
  go_enter Try.func7, Try.ntmps7
  go_wp2_with fail
  ((with_reducible refine (sz_yes _ _ _ _ hn).mono ?_); rintro e w0 ⟨rfl, rfl⟩)
  have hyl : (addR xs p bk).length ≤ 2000000 := addR_len xs p bk (by omega)
  go_wp2_with fail
  ((with_reducible refine (toLinkCountS _ _ _ _ _ xs _ IA.out hn).mono ?_); rintro e w1 ⟨AT, cT, rfl, ho, hb⟩)
  replace IA := Lib.hid (IA.out.below hb (Nat.le_refl _))
  replace IP := Lib.hid (IP.out.below hb (Nat.le_refl _))
  replace B := Lib.hid (B.out.trans (hb.mono B.out.size))
  have z1 := hb.size
  have OT := Lib.hid ho
  clear ho hb
  go_wp2_with fail
  ((with_reducible refine (Hlp.toIntS _ _ _ _ _ p _ IP.out (by omega)).mono ?_); rintro e w2 ⟨ATP, cTP, rfl, ho, hb⟩)
  replace IA := Lib.hid (IA.out.below hb (Nat.le_refl _))
  replace IP := Lib.hid (IP.out.below hb (Nat.le_refl _))
  replace OT := Lib.hid (OT.out.below hb (Nat.le_refl _))
  replace B := Lib.hid (B.out.trans (hb.mono B.out.size))
  have z2 := hb.size
  have OTP := Lib.hid ho
  clear ho hb
  go_wp2_with fail
  ((with_reducible refine (Sp7.LoopAdd _ _ _ _ _ _ _ _ _ _ xs p bk _ OT.out.cnts OTP.out.ints (by omega) (by omega)).mono ?_); rintro e w3 ⟨AS, cS, rfl, ho, hb⟩)
  replace IA := Lib.hid (IA.out.below hb (Nat.le_refl _))
  replace IP := Lib.hid (IP.out.below hb (Nat.le_refl _))
  replace OT := Lib.hid (OT.out.below hb (Nat.le_refl _))
  replace OTP := Lib.hid (OTP.out.below hb (Nat.le_refl _))
  replace B := Lib.hid (B.out.trans (hb.mono B.out.size))
  have z3 := hb.size
  have OS := Lib.hid ho
  clear ho hb
  go_wp2_with fail
  ((with_reducible refine (toLinkCountS _ _ _ _ _ xs _ IA.out hn).mono ?_); rintro e w4 ⟨AX, cX, rfl, ho, hb⟩)
  replace IA := Lib.hid (IA.out.below hb (Nat.le_refl _))
  replace IP := Lib.hid (IP.out.below hb (Nat.le_refl _))
  replace OT := Lib.hid (OT.out.below hb (Nat.le_refl _))
  replace OTP := Lib.hid (OTP.out.below hb (Nat.le_refl _))
  replace OS := Lib.hid (OS.out.below hb (Nat.le_refl _))
  replace B := Lib.hid (B.out.trans (hb.mono B.out.size))
  have z4 := hb.size
  have OX := Lib.hid ho
  clear ho hb
  go_wp2_with fail
  ((with_reducible refine (Hlp.toIntS _ _ _ _ _ p _ IP.out (by omega)).mono ?_); rintro e w5 ⟨AXP, cXP, rfl, ho, hb⟩)
  replace IA := Lib.hid (IA.out.below hb (Nat.le_refl _))
  replace IP := Lib.hid (IP.out.below hb (Nat.le_refl _))
  replace OT := Lib.hid (OT.out.below hb (Nat.le_refl _))
  replace OTP := Lib.hid (OTP.out.below hb (Nat.le_refl _))
  replace OS := Lib.hid (OS.out.below hb (Nat.le_refl _))
  replace OX := Lib.hid (OX.out.below hb (Nat.le_refl _))
  replace B := Lib.hid (B.out.trans (hb.mono B.out.size))
  have z5 := hb.size
  have OXP := Lib.hid ho
  clear ho hb
  go_wp2_with fail
  ((with_reducible refine (Im7.LoopAdd _ _ _ _ _ _ _ _ _ _ xs p bk _ OX.out.cnts OXP.out.ints (by omega) (by omega)).mono ?_); rintro e w6 ⟨AM, cM, rfl, ho, hb⟩)
  replace IA := Lib.hid (IA.out.below hb (Nat.le_refl _))
  replace IP := Lib.hid (IP.out.below hb (Nat.le_refl _))
  replace OT := Lib.hid (OT.out.below hb (Nat.le_refl _))
  replace OTP := Lib.hid (OTP.out.below hb (Nat.le_refl _))
  replace OS := Lib.hid (OS.out.below hb (Nat.le_refl _))
  replace OX := Lib.hid (OX.out.below hb (Nat.le_refl _))
  replace OXP := Lib.hid (OXP.out.below hb (Nat.le_refl _))
  replace B := Lib.hid (B.out.trans (hb.mono B.out.size))
  have z6 := hb.size
  have OM := Lib.hid ho
  clear ho hb
  have hok : (addB xs p bk != addB xs p bk) = false := by cases addB xs p bk <;> rfl
  have hok2 : (addB xs p bk == addB xs p bk) = true := by cases addB xs p bk <;> rfl
  generalize hyx : addR xs p bk = ys at *
  have HYX := Lib.hid hyx
  clear hyx
  generalize hox : addB xs p bk = ok at *
  have HOX := Lib.hid hox
  clear hox
  go_wp2_with fail
  ((with_reducible refine (eqLinkCountS _ _ _ _ _ _ _ _ _ _ _ OM.out.cnts OS.out.cnts).mono ?_); rintro e w7 ⟨rfl, hb⟩)
  replace IA := Lib.hid (IA.out.below hb (Nat.le_refl _))
  replace IP := Lib.hid (IP.out.below hb (Nat.le_refl _))
  replace OT := Lib.hid (OT.out.below hb (Nat.le_refl _))
  replace OTP := Lib.hid (OTP.out.below hb (Nat.le_refl _))
  replace OS := Lib.hid (OS.out.below hb (Nat.le_refl _))
  replace OX := Lib.hid (OX.out.below hb (Nat.le_refl _))
  replace OXP := Lib.hid (OXP.out.below hb (Nat.le_refl _))
  replace OM := Lib.hid (OM.out.below hb (Nat.le_refl _))
  replace B := Lib.hid (B.out.trans (hb.mono B.out.size))
  have z7 := hb.size
  clear hb
  go_wp2_with fail
  ((with_reducible refine (toLinkCountS _ _ _ _ _ xs _ IA.out hn).mono ?_); rintro e w8 ⟨AU, cU, rfl, ho, hb⟩)
  replace IA := Lib.hid (IA.out.below hb (Nat.le_refl _))
  replace IP := Lib.hid (IP.out.below hb (Nat.le_refl _))
  replace OT := Lib.hid (OT.out.below hb (Nat.le_refl _))
  replace OTP := Lib.hid (OTP.out.below hb (Nat.le_refl _))
  replace OS := Lib.hid (OS.out.below hb (Nat.le_refl _))
  replace OX := Lib.hid (OX.out.below hb (Nat.le_refl _))
  replace OXP := Lib.hid (OXP.out.below hb (Nat.le_refl _))
  replace OM := Lib.hid (OM.out.below hb (Nat.le_refl _))
  replace B := Lib.hid (B.out.trans (hb.mono B.out.size))
  have z8 := hb.size
  have OU := Lib.hid ho
  clear ho hb
  go_wp2_with fail
  ((with_reducible refine (eqLinkCountS _ _ _ _ _ _ _ _ _ _ _ OX.out.cnts OU.out.cnts).mono ?_); rintro e w9 ⟨rfl, hb⟩)
  replace IA := Lib.hid (IA.out.below hb (Nat.le_refl _))
  replace IP := Lib.hid (IP.out.below hb (Nat.le_refl _))
  replace OT := Lib.hid (OT.out.below hb (Nat.le_refl _))
  replace OTP := Lib.hid (OTP.out.below hb (Nat.le_refl _))
  replace OS := Lib.hid (OS.out.below hb (Nat.le_refl _))
  replace OX := Lib.hid (OX.out.below hb (Nat.le_refl _))
  replace OXP := Lib.hid (OXP.out.below hb (Nat.le_refl _))
  replace OM := Lib.hid (OM.out.below hb (Nat.le_refl _))
  replace OU := Lib.hid (OU.out.below hb (Nat.le_refl _))
  replace B := Lib.hid (B.out.trans (hb.mono B.out.size))
  have z9 := hb.size
  clear hb
  go_wp2_with fail
  ((with_reducible refine (Hlp.toIntS _ _ _ _ _ p _ IP.out (by omega)).mono ?_); rintro e w10 ⟨AUP, cUP, rfl, ho, hb⟩)
  replace IA := Lib.hid (IA.out.below hb (Nat.le_refl _))
  replace IP := Lib.hid (IP.out.below hb (Nat.le_refl _))
  replace OT := Lib.hid (OT.out.below hb (Nat.le_refl _))
  replace OTP := Lib.hid (OTP.out.below hb (Nat.le_refl _))
  replace OS := Lib.hid (OS.out.below hb (Nat.le_refl _))
  replace OX := Lib.hid (OX.out.below hb (Nat.le_refl _))
  replace OXP := Lib.hid (OXP.out.below hb (Nat.le_refl _))
  replace OM := Lib.hid (OM.out.below hb (Nat.le_refl _))
  replace OU := Lib.hid (OU.out.below hb (Nat.le_refl _))
  replace B := Lib.hid (B.out.trans (hb.mono B.out.size))
  have z10 := hb.size
  have OUP := Lib.hid ho
  clear ho hb
  go_wp2_with fail
  ((with_reducible refine (Hlp.eqIntS _ _ _ _ _ _ _ _ _ _ _ _ _ OXP.out.ints OUP.out.ints).mono ?_); rintro e w11 ⟨rfl, hd⟩)
  have hb0 := drew_below hd
  clear hd
  replace IA := Lib.hid (IA.out.below hb0 (Nat.le_refl _))
  replace IP := Lib.hid (IP.out.below hb0 (Nat.le_refl _))
  replace OT := Lib.hid (OT.out.below hb0 (Nat.le_refl _))
  replace OTP := Lib.hid (OTP.out.below hb0 (Nat.le_refl _))
  replace OS := Lib.hid (OS.out.below hb0 (Nat.le_refl _))
  replace OX := Lib.hid (OX.out.below hb0 (Nat.le_refl _))
  replace OXP := Lib.hid (OXP.out.below hb0 (Nat.le_refl _))
  replace OM := Lib.hid (OM.out.below hb0 (Nat.le_refl _))
  replace OU := Lib.hid (OU.out.below hb0 (Nat.le_refl _))
  replace OUP := Lib.hid (OUP.out.below hb0 (Nat.le_refl _))
  replace B := Lib.hid (B.out.trans (hb0.mono B.out.size))
  have z11 := hb0.size
  clear hb0
  rw [decide_eq_true rfl]
  go_wp2_with fail
  ((with_reducible refine (markLinkCountS _ _ _ _ _ _ 1 _ OX.out (by omega) (by omega) (by omega)).mono ?_); rintro e w12 ⟨rfl, hm, hk⟩)
  replace IA := Lib.hid (IA.out.kept hk (by omega))
  replace IP := Lib.hid (IP.out.kept hk (by omega))
  replace OT := Lib.hid (OT.out.kept hk (by omega))
  replace OTP := Lib.hid (OTP.out.kept hk (by omega))
  replace OS := Lib.hid (OS.out.kept hk (by omega))
  replace OXP := Lib.hid (OXP.out.kept hk (by omega))
  replace OM := Lib.hid (OM.out.kept hk (by omega))
  replace OU := Lib.hid (OU.out.kept hk (by omega))
  replace OUP := Lib.hid (OUP.out.kept hk (by omega))
  replace B := Lib.hid (B.out.trans (hk.below (by omega)))
  replace OX := Lib.hid hm
  have z12 := Nat.le_of_eq hk.size.symm
  have y12 := Nat.le_of_eq hk.size
  clear hm hk
  go_wp2_with fail
  ((with_reducible refine (Hlp.markIntS _ _ _ _ _ _ (1 + 4 * (xs.length : Int)) _ OXP.out (by omega) (by omega) (by omega)).mono ?_); rintro e w13 ⟨rfl, hm', hk⟩)
  replace IA := Lib.hid (IA.out.kept hk (by omega))
  replace IP := Lib.hid (IP.out.kept hk (by omega))
  replace OT := Lib.hid (OT.out.kept hk (by omega))
  replace OTP := Lib.hid (OTP.out.kept hk (by omega))
  replace OS := Lib.hid (OS.out.kept hk (by omega))
  replace OX := Lib.hid (OX.out.kept hk (by omega))
  replace OM := Lib.hid (OM.out.kept hk (by omega))
  replace OU := Lib.hid (OU.out.kept hk (by omega))
  replace OUP := Lib.hid (OUP.out.kept hk (by omega))
  replace B := Lib.hid (B.out.trans (hk.below (by omega)))
  replace OXP := Lib.hid hm'
  have z13 := Nat.le_of_eq hk.size.symm
  have y13 := Nat.le_of_eq hk.size
  clear hm' hk
  have e1 : decide (1 + 4 * (xs.length : Int) + (m : Int) < 0) = false := by simp; omega
  go_wp2_with fail
  ((with_reducible refine (eqLinkCountS _ _ _ _ _ _ _ _ _ _ _ OM.out.cnts OS.out.cnts).mono ?_); rintro e w14 ⟨rfl, hb⟩)
  replace IA := Lib.hid (IA.out.below hb (Nat.le_refl _))
  replace IP := Lib.hid (IP.out.below hb (Nat.le_refl _))
  replace OT := Lib.hid (OT.out.below hb (Nat.le_refl _))
  replace OTP := Lib.hid (OTP.out.below hb (Nat.le_refl _))
  replace OS := Lib.hid (OS.out.below hb (Nat.le_refl _))
  replace OX := Lib.hid (OX.out.below hb (Nat.le_refl _))
  replace OXP := Lib.hid (OXP.out.below hb (Nat.le_refl _))
  replace OM := Lib.hid (OM.out.below hb (Nat.le_refl _))
  replace OU := Lib.hid (OU.out.below hb (Nat.le_refl _))
  replace OUP := Lib.hid (OUP.out.below hb (Nat.le_refl _))
  replace B := Lib.hid (B.out.trans (hb.mono B.out.size))
  have z14 := hb.size
  clear hb
  go_wp2_with fail
  ((with_reducible refine (markLinkCountS _ _ _ _ _ _ 1 _ OM.out (by omega) (by omega) (by omega)).mono ?_); rintro e w15 ⟨rfl, hm, hk⟩)
  replace IA := Lib.hid (IA.out.kept hk (by omega))
  replace IP := Lib.hid (IP.out.kept hk (by omega))
  replace OT := Lib.hid (OT.out.kept hk (by omega))
  replace OTP := Lib.hid (OTP.out.kept hk (by omega))
  replace OS := Lib.hid (OS.out.kept hk (by omega))
  replace OX := Lib.hid (OX.out.kept hk (by omega))
  replace OXP := Lib.hid (OXP.out.kept hk (by omega))
  replace OU := Lib.hid (OU.out.kept hk (by omega))
  replace OUP := Lib.hid (OUP.out.kept hk (by omega))
  replace B := Lib.hid (B.out.trans (hk.below (by omega)))
  replace OM := Lib.hid hm
  have z15 := Nat.le_of_eq hk.size.symm
  have y15 := Nat.le_of_eq hk.size
  clear hm hk
  go_wp2_with fail
  ((with_reducible refine (heldLinkCountS _ _ _ _ _ 1 _ OM.out.cnts (by omega) (by omega) (by omega)).mono ?_); rintro e w' ⟨rfl, rfl⟩)
  have e2 : decide (1 + 4 * (ys.length : Int) < 0) = false := by simp; omega
  go_wp2_with fail
  ((with_reducible refine (toLinkCountS _ _ _ _ _ xs _ IA.out hn).mono ?_); rintro e w17 ⟨AV, cV, rfl, ho, hb⟩)
  replace IA := Lib.hid (IA.out.below hb (Nat.le_refl _))
  replace IP := Lib.hid (IP.out.below hb (Nat.le_refl _))
  replace OT := Lib.hid (OT.out.below hb (Nat.le_refl _))
  replace OTP := Lib.hid (OTP.out.below hb (Nat.le_refl _))
  replace OS := Lib.hid (OS.out.below hb (Nat.le_refl _))
  replace OX := Lib.hid (OX.out.below hb (Nat.le_refl _))
  replace OXP := Lib.hid (OXP.out.below hb (Nat.le_refl _))
  replace OM := Lib.hid (OM.out.below hb (Nat.le_refl _))
  replace OU := Lib.hid (OU.out.below hb (Nat.le_refl _))
  replace OUP := Lib.hid (OUP.out.below hb (Nat.le_refl _))
  replace B := Lib.hid (B.out.trans (hb.mono B.out.size))
  have z17 := hb.size
  have OV := Lib.hid ho
  clear ho hb
  go_wp2_with fail
  ((with_reducible refine (Hlp.toIntS _ _ _ _ _ p _ IP.out (by omega)).mono ?_); rintro e w18 ⟨AVP, cVP, rfl, ho, hb⟩)
  replace IA := Lib.hid (IA.out.below hb (Nat.le_refl _))
  replace IP := Lib.hid (IP.out.below hb (Nat.le_refl _))
  replace OT := Lib.hid (OT.out.below hb (Nat.le_refl _))
  replace OTP := Lib.hid (OTP.out.below hb (Nat.le_refl _))
  replace OS := Lib.hid (OS.out.below hb (Nat.le_refl _))
  replace OX := Lib.hid (OX.out.below hb (Nat.le_refl _))
  replace OXP := Lib.hid (OXP.out.below hb (Nat.le_refl _))
  replace OM := Lib.hid (OM.out.below hb (Nat.le_refl _))
  replace OU := Lib.hid (OU.out.below hb (Nat.le_refl _))
  replace OUP := Lib.hid (OUP.out.below hb (Nat.le_refl _))
  replace OV := Lib.hid (OV.out.below hb (Nat.le_refl _))
  replace B := Lib.hid (B.out.trans (hb.mono B.out.size))
  have z18 := hb.size
  have OVP := Lib.hid ho
  clear ho hb
  go_wp2_with fail
  ((with_reducible refine (loopAdd_y _ _ _ _ _ _ _ _ _ _ xs ys p bk ok _ HYX.out HOX.out OV.out.cnts OVP.out.ints (by omega) (by omega)).mono ?_); rintro e w19 ⟨AH, cH, rfl, ho, hb⟩)
  replace IA := Lib.hid (IA.out.below hb (Nat.le_refl _))
  replace IP := Lib.hid (IP.out.below hb (Nat.le_refl _))
  replace OT := Lib.hid (OT.out.below hb (Nat.le_refl _))
  replace OTP := Lib.hid (OTP.out.below hb (Nat.le_refl _))
  replace OS := Lib.hid (OS.out.below hb (Nat.le_refl _))
  replace OX := Lib.hid (OX.out.below hb (Nat.le_refl _))
  replace OXP := Lib.hid (OXP.out.below hb (Nat.le_refl _))
  replace OM := Lib.hid (OM.out.below hb (Nat.le_refl _))
  replace OU := Lib.hid (OU.out.below hb (Nat.le_refl _))
  replace OUP := Lib.hid (OUP.out.below hb (Nat.le_refl _))
  replace OV := Lib.hid (OV.out.below hb (Nat.le_refl _))
  replace OVP := Lib.hid (OVP.out.below hb (Nat.le_refl _))
  replace B := Lib.hid (B.out.trans (hb.mono B.out.size))
  have z19 := hb.size
  have OH := Lib.hid ho
  clear ho hb
  go_wp2_with fail
  ((with_reducible refine (eqLinkCountS _ _ _ _ _ _ _ _ _ _ _ OH.out.cnts OS.out.cnts).mono ?_); rintro e w20 ⟨rfl, hb⟩)
  replace IA := Lib.hid (IA.out.below hb (Nat.le_refl _))
  replace IP := Lib.hid (IP.out.below hb (Nat.le_refl _))
  replace OT := Lib.hid (OT.out.below hb (Nat.le_refl _))
  replace OTP := Lib.hid (OTP.out.below hb (Nat.le_refl _))
  replace OS := Lib.hid (OS.out.below hb (Nat.le_refl _))
  replace OX := Lib.hid (OX.out.below hb (Nat.le_refl _))
  replace OXP := Lib.hid (OXP.out.below hb (Nat.le_refl _))
  replace OM := Lib.hid (OM.out.below hb (Nat.le_refl _))
  replace OU := Lib.hid (OU.out.below hb (Nat.le_refl _))
  replace OUP := Lib.hid (OUP.out.below hb (Nat.le_refl _))
  replace OV := Lib.hid (OV.out.below hb (Nat.le_refl _))
  replace OVP := Lib.hid (OVP.out.below hb (Nat.le_refl _))
  replace OH := Lib.hid (OH.out.below hb (Nat.le_refl _))
  replace B := Lib.hid (B.out.trans (hb.mono B.out.size))
  have z20 := hb.size
  clear hb
  go_wp2_with fail
  ((with_reducible refine (heldLinkCountS _ _ _ _ _ 1 _ OM.out.cnts (by omega) (by omega) (by omega)).mono ?_); rintro e w' ⟨rfl, rfl⟩)
  go_wp2
  go_ret
  exact ⟨rfl, B.out⟩

end Law7y
end Go.Proofs.Ytbhafchdcofceaa
