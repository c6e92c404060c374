/-
  Exact laws of chapter 31: each returns true and writes nothing that was there.
-/
import Derived.Test.YtecdoibdpimlaabHt12
import Derived.Test.YtecdoibdpimlaabAu12
import Derived.Test.YtecdoibdpimlaabHlp
import Derived.Test.YtecdoibdpimlaabIla
import Derived.Test.YtecdoibdpimlaabKi
import Derived.Deep.RegionLaw
import Derived.BigQuiet
import Derived.Deep.Cut
namespace Go.Proofs.Ytecdoibdpimlaab
open Go.RowKit
namespace Law12x
open Il Sl Cm Cs Gm Mm Tk LawB Hlp Sp12 Ht12

set_option maxRecDepth 20000 in
set_option maxHeartbeats 2000000 in
theorem fnExactTicketMake (s n : Int) (w : World) :
    Calls Try.prog 3 #[.int .i64 s, .int .i64 n] w (TruePost w) := by
  have B : Hid (Below w.heap.size w w) := Below.refl _ _
  have e0 : (mkB s n != mkB s n) = false := by simp
  go_enter Try.func3, Try.ntmps3
  go_wp2_with fail
  ((with_reducible refine (TicketMake s n _).mono ?_); rintro e w1 ⟨rfl, hb⟩)
  replace B := Lib.hid (B.out.trans (hb.mono B.out.size))
  have z1 := hb.size
  clear hb
  have hal : Below w1.heap.size w1 (w1.alloc (.cells #[.int .i64 (mkS s n), .int .i64 (mkG s n)] 23)) := (Below.refl _ _).alloc (Nat.le_refl _) _
  have Z1 := Lib.hid (blk_new w1 #[.int .i64 (mkS s n), .int .i64 (mkG s n)] 23)
  replace B := Lib.hid (B.out.trans (hal.mono B.out.size))
  clear hal
  go_upto_region 2 with (fail)
  generalize w1.alloc (.cells #[.int .i64 (mkS s n), .int .i64 (mkG s n)] 23) = wa at *
  go_wp2_with fail
  ((with_reducible refine (Im12.TicketMake s n _).mono ?_); rintro e w2 ⟨rfl, hb⟩)
  replace Z1 := Lib.hid (Z1.out.below hb (Nat.le_refl _))
  replace B := Lib.hid (B.out.trans (hb.mono B.out.size))
  have z2 := hb.size
  clear hb
  have hal : Below w2.heap.size w2 (w2.alloc (.cells #[.int .i64 (mkS s n), .int .i64 (mkG s n)] 23)) := (Below.refl _ _).alloc (Nat.le_refl _) _
  have Z2 := Lib.hid (blk_new w2 #[.int .i64 (mkS s n), .int .i64 (mkG s n)] 23)
  replace Z1 := Lib.hid (Z1.out.below hal (Nat.le_refl _))
  replace B := Lib.hid (B.out.trans (hal.mono B.out.size))
  clear hal
  go_upto_region 3 with (fail)
  generalize w2.alloc (.cells #[.int .i64 (mkS s n), .int .i64 (mkG s n)] 23) = wb at *
  obtain ⟨p0, p1, pf⟩ := two_cells Z1.out
  obtain ⟨q0, q1, qf⟩ := two_cells Z2.out
  go_wp2_with fail
  ((with_reducible refine (eqTicket (mkS s n) (mkG s n) _).mono ?_); rintro e w3 ⟨rfl, hb⟩)
  replace Z1 := Lib.hid (Z1.out.below hb (Nat.le_refl _))
  replace Z2 := Lib.hid (Z2.out.below hb (Nat.le_refl _))
  replace B := Lib.hid (B.out.trans (hb.mono B.out.size))
  have z3 := hb.size
  clear hb
  go_wp2
  go_ret
  exact ⟨rfl, B.out⟩

set_option maxRecDepth 20000 in
set_option maxHeartbeats 2000000 in
theorem fnExactTicketCheck (p s g : Int) (w : World) :
    Calls Try.prog 4 #[.int .i64 p, .agg #[.int .i64 s, .int .i64 g]] w (TruePost w) := by
  have B : Hid (Below w.heap.size w w) := Below.refl _ _
  have e0 : (chkF p s g != chkF p s g) = false := by simp
  have ZT := Lib.hid (blk_new w #[.int .i64 s, .int .i64 g] 28)
  replace B : Hid (Below w.heap.size w (w.alloc (.cells #[.int .i64 s, .int .i64 g] 28))) := (Below.refl _ _).alloc (Nat.le_refl _) _
  go_enter Try.func4, Try.ntmps4
  go_upto_region 1 with (fail)
  generalize w.alloc (.cells #[.int .i64 s, .int .i64 g] 28) = wt at *
  obtain ⟨t0, t1, tf⟩ := two_cells ZT.out
  go_wp2_with fail
  ((with_reducible refine (toTicket s g _).mono ?_); rintro e w1 ⟨rfl, hb⟩)
  replace ZT := Lib.hid (ZT.out.below hb (Nat.le_refl _))
  replace B := Lib.hid (B.out.trans (hb.mono B.out.size))
  have z1 := hb.size
  clear hb
  clear t0 t1 tf
  go_wp2_with fail
  ((with_reducible refine (TicketCheck p s g _).mono ?_); rintro e w2 ⟨rfl, hb⟩)
  replace ZT := Lib.hid (ZT.out.below hb (Nat.le_refl _))
  replace B := Lib.hid (B.out.trans (hb.mono B.out.size))
  have z2 := hb.size
  clear hb
  obtain ⟨t0, t1, tf⟩ := two_cells ZT.out
  go_wp2_with fail
  ((with_reducible refine (toTicket s g _).mono ?_); rintro e w3 ⟨rfl, hb⟩)
  replace ZT := Lib.hid (ZT.out.below hb (Nat.le_refl _))
  replace B := Lib.hid (B.out.trans (hb.mono B.out.size))
  have z3 := hb.size
  clear hb
  clear t0 t1 tf
  go_wp2_with fail
  ((with_reducible refine (Im12.TicketCheck p s g _).mono ?_); rintro e w4 ⟨rfl, hb⟩)
  replace ZT := Lib.hid (ZT.out.below hb (Nat.le_refl _))
  replace B := Lib.hid (B.out.trans (hb.mono B.out.size))
  have z4 := hb.size
  clear hb
  go_wp2
  go_ret
  exact ⟨rfl, B.out⟩

set_option maxRecDepth 20000 in
set_option maxHeartbeats 2000000 in
theorem fnExactTicketAudit (A : Option Addr) (n c : Nat) (xs : List Int) (A9 : Option Addr) (n9 c9 : Nat) (ys : List Int) (w : World) (hx : Ints 0 w.heap.size w A n c xs) (hy : Ints 0 w.heap.size w A9 n9 c9 ys) :
    Calls Try.prog 5 #[.slice A n c, .slice A9 n9 c9] w (TruePost w) := by
  have hxl := hx.len_
  have hyl := hy.len_
  have IA := Lib.hid hx
  have IB := Lib.hid hy
  clear hx hy
  by_cases hn : 1048576 < n
  · go_enter Try.func5, Try.ntmps5
    go_wp2
    go_ret
    exact ⟨rfl, Below.refl _ _⟩
  have hxn : xs.length ≤ 1048576 := by omega
  by_cases hn9 : 1048576 < n9
  · go_enter Try.func5, Try.ntmps5
    go_wp2
    go_ret
    exact ⟨rfl, Below.refl _ _⟩
  have hyn : ys.length ≤ 1048576 := by omega
  clear hxl hyl
  have hdl := aud_20 xs ys
  have B : Hid (Below w.heap.size w w) := Below.refl _ _
  go_enter Try.func5, Try.ntmps5
  go_wp2_with fail
  ((with_reducible refine (toIntS _ _ _ _ _ xs _ IA.out (by omega)).mono ?_); rintro e w1 ⟨AT, kT, rfl, ho, hb⟩)
  replace IA := Lib.hid (IA.out.below hb (Nat.le_refl _))
  replace IB := Lib.hid (IB.out.below hb (Nat.le_refl _))
  replace B := Lib.hid (B.out.trans (hb.mono B.out.size))
  have z1 := hb.size
  have OT := Lib.hid ho
  clear ho hb
  go_wp2_with fail
  ((with_reducible refine (toIntS _ _ _ _ _ ys _ IB.out (by omega)).mono ?_); rintro e w2 ⟨AU, kU, rfl, ho, hb⟩)
  replace IA := Lib.hid (IA.out.below hb (Nat.le_refl _))
  replace IB := Lib.hid (IB.out.below hb (Nat.le_refl _))
  replace OT := Lib.hid (OT.out.below hb (Nat.le_refl _))
  replace B := Lib.hid (B.out.trans (hb.mono B.out.size))
  have z2 := hb.size
  have OU := Lib.hid ho
  clear ho hb
  go_wp2_with fail
  ((with_reducible refine (Im12.sTicketAudit _ _ _ _ _ _ _ _ _ _ xs ys _ OT.out.ints OU.out.ints).mono ?_); rintro e w3 ⟨AS, kS, rfl, ho, hb⟩)
  replace IA := Lib.hid (IA.out.below hb (Nat.le_refl _))
  replace IB := Lib.hid (IB.out.below hb (Nat.le_refl _))
  replace OT := Lib.hid (OT.out.below hb (Nat.le_refl _))
  replace OU := Lib.hid (OU.out.below hb (Nat.le_refl _))
  replace B := Lib.hid (B.out.trans (hb.mono B.out.size))
  have z3 := hb.size
  have OS := Lib.hid ho
  clear ho hb
  go_wp2_with fail
  ((with_reducible refine (toIntS _ _ _ _ _ xs _ IA.out (by omega)).mono ?_); rintro e w4 ⟨AX, kX, rfl, ho, hb⟩)
  replace IA := Lib.hid (IA.out.below hb (Nat.le_refl _))
  replace IB := Lib.hid (IB.out.below hb (Nat.le_refl _))
  replace OT := Lib.hid (OT.out.below hb (Nat.le_refl _))
  replace OU := Lib.hid (OU.out.below hb (Nat.le_refl _))
  replace OS := Lib.hid (OS.out.below hb (Nat.le_refl _))
  replace B := Lib.hid (B.out.trans (hb.mono B.out.size))
  have z4 := hb.size
  have OX := Lib.hid ho
  clear ho hb
  go_wp2_with fail
  ((with_reducible refine (toIntS _ _ _ _ _ ys _ IB.out (by omega)).mono ?_); rintro e w5 ⟨AY, kY, rfl, ho, hb⟩)
  replace IA := Lib.hid (IA.out.below hb (Nat.le_refl _))
  replace IB := Lib.hid (IB.out.below hb (Nat.le_refl _))
  replace OT := Lib.hid (OT.out.below hb (Nat.le_refl _))
  replace OU := Lib.hid (OU.out.below hb (Nat.le_refl _))
  replace OS := Lib.hid (OS.out.below hb (Nat.le_refl _))
  replace OX := Lib.hid (OX.out.below hb (Nat.le_refl _))
  replace B := Lib.hid (B.out.trans (hb.mono B.out.size))
  have z5 := hb.size
  have OY := Lib.hid ho
  clear ho hb
  go_wp2_with fail
  ((with_reducible refine (Im12.TicketAudit _ _ _ _ _ _ _ _ _ _ xs ys _ OX.out.ints OY.out.ints).mono ?_); rintro e w6 ⟨AG, kG, rfl, ho, hb⟩)
  replace IA := Lib.hid (IA.out.below hb (Nat.le_refl _))
  replace IB := Lib.hid (IB.out.below hb (Nat.le_refl _))
  replace OT := Lib.hid (OT.out.below hb (Nat.le_refl _))
  replace OU := Lib.hid (OU.out.below hb (Nat.le_refl _))
  replace OS := Lib.hid (OS.out.below hb (Nat.le_refl _))
  replace OX := Lib.hid (OX.out.below hb (Nat.le_refl _))
  replace OY := Lib.hid (OY.out.below hb (Nat.le_refl _))
  replace B := Lib.hid (B.out.trans (hb.mono B.out.size))
  have z6 := hb.size
  have OG := Lib.hid ho
  clear ho hb
  go_wp2_with fail
  ((with_reducible refine (Hlp.eqIntS _ _ _ _ _ _ _ _ _ _ _ _ _ OG.out.ints OS.out.ints).mono ?_); rintro e w7 ⟨rfl, hd⟩)
  have hb0 := drew_below hd
  clear hd
  replace IA := Lib.hid (IA.out.below hb0 (Nat.le_refl _))
  replace IB := Lib.hid (IB.out.below hb0 (Nat.le_refl _))
  replace OT := Lib.hid (OT.out.below hb0 (Nat.le_refl _))
  replace OU := Lib.hid (OU.out.below hb0 (Nat.le_refl _))
  replace OS := Lib.hid (OS.out.below hb0 (Nat.le_refl _))
  replace OX := Lib.hid (OX.out.below hb0 (Nat.le_refl _))
  replace OY := Lib.hid (OY.out.below hb0 (Nat.le_refl _))
  replace OG := Lib.hid (OG.out.below hb0 (Nat.le_refl _))
  replace B := Lib.hid (B.out.trans (hb0.mono B.out.size))
  have z7 := hb0.size
  clear hb0
  rw [decide_eq_true rfl]
  go_wp2_with fail
  ((with_reducible refine (toIntS _ _ _ _ _ xs _ IA.out (by omega)).mono ?_); rintro e w8 ⟨AV, kV, rfl, ho, hb⟩)
  replace IA := Lib.hid (IA.out.below hb (Nat.le_refl _))
  replace IB := Lib.hid (IB.out.below hb (Nat.le_refl _))
  replace OT := Lib.hid (OT.out.below hb (Nat.le_refl _))
  replace OU := Lib.hid (OU.out.below hb (Nat.le_refl _))
  replace OS := Lib.hid (OS.out.below hb (Nat.le_refl _))
  replace OX := Lib.hid (OX.out.below hb (Nat.le_refl _))
  replace OY := Lib.hid (OY.out.below hb (Nat.le_refl _))
  replace OG := Lib.hid (OG.out.below hb (Nat.le_refl _))
  replace B := Lib.hid (B.out.trans (hb.mono B.out.size))
  have z8 := hb.size
  have OV := Lib.hid ho
  clear ho hb
  go_wp2_with fail
  ((with_reducible refine (Hlp.eqIntS _ _ _ _ _ _ _ _ _ _ _ _ _ OX.out.ints OV.out.ints).mono ?_); rintro e w9 ⟨rfl, hd⟩)
  have hb0 := drew_below hd
  clear hd
  replace IA := Lib.hid (IA.out.below hb0 (Nat.le_refl _))
  replace IB := Lib.hid (IB.out.below hb0 (Nat.le_refl _))
  replace OT := Lib.hid (OT.out.below hb0 (Nat.le_refl _))
  replace OU := Lib.hid (OU.out.below hb0 (Nat.le_refl _))
  replace OS := Lib.hid (OS.out.below hb0 (Nat.le_refl _))
  replace OX := Lib.hid (OX.out.below hb0 (Nat.le_refl _))
  replace OY := Lib.hid (OY.out.below hb0 (Nat.le_refl _))
  replace OG := Lib.hid (OG.out.below hb0 (Nat.le_refl _))
  replace OV := Lib.hid (OV.out.below hb0 (Nat.le_refl _))
  replace B := Lib.hid (B.out.trans (hb0.mono B.out.size))
  have z9 := hb0.size
  clear hb0
  rw [decide_eq_true rfl]
  go_wp2_with fail
  ((with_reducible refine (toIntS _ _ _ _ _ ys _ IB.out (by omega)).mono ?_); rintro e w10 ⟨AW, kW, rfl, ho, hb⟩)
  replace IA := Lib.hid (IA.out.below hb (Nat.le_refl _))
  replace IB := Lib.hid (IB.out.below hb (Nat.le_refl _))
  replace OT := Lib.hid (OT.out.below hb (Nat.le_refl _))
  replace OU := Lib.hid (OU.out.below hb (Nat.le_refl _))
  replace OS := Lib.hid (OS.out.below hb (Nat.le_refl _))
  replace OX := Lib.hid (OX.out.below hb (Nat.le_refl _))
  replace OY := Lib.hid (OY.out.below hb (Nat.le_refl _))
  replace OG := Lib.hid (OG.out.below hb (Nat.le_refl _))
  replace OV := Lib.hid (OV.out.below hb (Nat.le_refl _))
  replace B := Lib.hid (B.out.trans (hb.mono B.out.size))
  have z10 := hb.size
  have OW := Lib.hid ho
  clear ho hb
  go_wp2_with fail
  ((with_reducible refine (Hlp.eqIntS _ _ _ _ _ _ _ _ _ _ _ _ _ OY.out.ints OW.out.ints).mono ?_); rintro e w11 ⟨rfl, hd⟩)
  have hb0 := drew_below hd
  clear hd
  replace IA := Lib.hid (IA.out.below hb0 (Nat.le_refl _))
  replace IB := Lib.hid (IB.out.below hb0 (Nat.le_refl _))
  replace OT := Lib.hid (OT.out.below hb0 (Nat.le_refl _))
  replace OU := Lib.hid (OU.out.below hb0 (Nat.le_refl _))
  replace OS := Lib.hid (OS.out.below hb0 (Nat.le_refl _))
  replace OX := Lib.hid (OX.out.below hb0 (Nat.le_refl _))
  replace OY := Lib.hid (OY.out.below hb0 (Nat.le_refl _))
  replace OG := Lib.hid (OG.out.below hb0 (Nat.le_refl _))
  replace OV := Lib.hid (OV.out.below hb0 (Nat.le_refl _))
  replace OW := Lib.hid (OW.out.below hb0 (Nat.le_refl _))
  replace B := Lib.hid (B.out.trans (hb0.mono B.out.size))
  have z11 := hb0.size
  clear hb0
  rw [decide_eq_true rfl]
  go_wp2_with fail
  ((with_reducible refine (Hlp.markIntS _ _ _ _ _ _ (1) _ OX.out (by omega) (by omega) (by omega)).mono ?_); rintro e w12 ⟨rfl, hm, hk⟩)
  replace IA := Lib.hid (IA.out.kept hk (by omega))
  replace IB := Lib.hid (IB.out.kept hk (by omega))
  replace OT := Lib.hid (OT.out.kept hk (by omega))
  replace OU := Lib.hid (OU.out.kept hk (by omega))
  replace OS := Lib.hid (OS.out.kept hk (by omega))
  replace OY := Lib.hid (OY.out.kept hk (by omega))
  replace OG := Lib.hid (OG.out.kept hk (by omega))
  replace OV := Lib.hid (OV.out.kept hk (by omega))
  replace OW := Lib.hid (OW.out.kept hk (by omega))
  replace B := Lib.hid (B.out.trans (hk.below (by omega)))
  replace OX := Lib.hid hm
  have z12 := Nat.le_of_eq hk.size.symm
  have y12 := Nat.le_of_eq hk.size
  clear hm hk
  have hk9 : (0 : Int) ≤ 1 + ↑xs.length := by omega
  go_wp2_with fail
  ((with_reducible refine (Hlp.markIntS _ _ _ _ _ _ (1 + ↑xs.length) _ OY.out (by omega) (by omega) (by omega)).mono ?_); rintro e w13 ⟨rfl, hm, hk⟩)
  replace IA := Lib.hid (IA.out.kept hk (by omega))
  replace IB := Lib.hid (IB.out.kept hk (by omega))
  replace OT := Lib.hid (OT.out.kept hk (by omega))
  replace OU := Lib.hid (OU.out.kept hk (by omega))
  replace OS := Lib.hid (OS.out.kept hk (by omega))
  replace OX := Lib.hid (OX.out.kept hk (by omega))
  replace OG := Lib.hid (OG.out.kept hk (by omega))
  replace OV := Lib.hid (OV.out.kept hk (by omega))
  replace OW := Lib.hid (OW.out.kept hk (by omega))
  replace B := Lib.hid (B.out.trans (hk.below (by omega)))
  replace OY := Lib.hid hm
  have z13 := Nat.le_of_eq hk.size.symm
  have y13 := Nat.le_of_eq hk.size
  clear hm hk
  go_wp2_with fail
  ((with_reducible refine (Hlp.eqIntS _ _ _ _ _ _ _ _ _ _ _ _ _ OG.out.ints OS.out.ints).mono ?_); rintro e w14 ⟨rfl, hd⟩)
  have hb0 := drew_below hd
  clear hd
  replace IA := Lib.hid (IA.out.below hb0 (Nat.le_refl _))
  replace IB := Lib.hid (IB.out.below hb0 (Nat.le_refl _))
  replace OT := Lib.hid (OT.out.below hb0 (Nat.le_refl _))
  replace OU := Lib.hid (OU.out.below hb0 (Nat.le_refl _))
  replace OS := Lib.hid (OS.out.below hb0 (Nat.le_refl _))
  replace OX := Lib.hid (OX.out.below hb0 (Nat.le_refl _))
  replace OY := Lib.hid (OY.out.below hb0 (Nat.le_refl _))
  replace OG := Lib.hid (OG.out.below hb0 (Nat.le_refl _))
  replace OV := Lib.hid (OV.out.below hb0 (Nat.le_refl _))
  replace OW := Lib.hid (OW.out.below hb0 (Nat.le_refl _))
  replace B := Lib.hid (B.out.trans (hb0.mono B.out.size))
  have z14 := hb0.size
  clear hb0
  rw [decide_eq_true rfl]
  go_wp2_with fail
  ((with_reducible refine (Hlp.markIntS _ _ _ _ _ _ (1) _ OG.out (by omega) (by omega) (by omega)).mono ?_); rintro e w15 ⟨rfl, hm, hk⟩)
  replace IA := Lib.hid (IA.out.kept hk (by omega))
  replace IB := Lib.hid (IB.out.kept hk (by omega))
  replace OT := Lib.hid (OT.out.kept hk (by omega))
  replace OU := Lib.hid (OU.out.kept hk (by omega))
  replace OS := Lib.hid (OS.out.kept hk (by omega))
  replace OX := Lib.hid (OX.out.kept hk (by omega))
  replace OY := Lib.hid (OY.out.kept hk (by omega))
  replace OV := Lib.hid (OV.out.kept hk (by omega))
  replace OW := Lib.hid (OW.out.kept hk (by omega))
  replace B := Lib.hid (B.out.trans (hk.below (by omega)))
  replace OG := Lib.hid hm
  have z15 := Nat.le_of_eq hk.size.symm
  have y15 := Nat.le_of_eq hk.size
  clear hm hk
  go_wp2_with fail
  ((with_reducible refine (Hlp.heldIntS _ _ _ _ _ 1 _ OG.out.ints (by omega) (by omega) (by omega)).mono ?_); rintro e w' ⟨rfl, rfl⟩)
  go_wp2_with fail
  ((with_reducible refine (toIntS _ _ _ _ _ xs _ IA.out (by omega)).mono ?_); rintro e w17 ⟨AP, kP, rfl, ho, hb⟩)
  replace IA := Lib.hid (IA.out.below hb (Nat.le_refl _))
  replace IB := Lib.hid (IB.out.below hb (Nat.le_refl _))
  replace OT := Lib.hid (OT.out.below hb (Nat.le_refl _))
  replace OU := Lib.hid (OU.out.below hb (Nat.le_refl _))
  replace OS := Lib.hid (OS.out.below hb (Nat.le_refl _))
  replace OX := Lib.hid (OX.out.below hb (Nat.le_refl _))
  replace OY := Lib.hid (OY.out.below hb (Nat.le_refl _))
  replace OG := Lib.hid (OG.out.below hb (Nat.le_refl _))
  replace OV := Lib.hid (OV.out.below hb (Nat.le_refl _))
  replace OW := Lib.hid (OW.out.below hb (Nat.le_refl _))
  replace B := Lib.hid (B.out.trans (hb.mono B.out.size))
  have z17 := hb.size
  have OP := Lib.hid ho
  clear ho hb
  go_wp2_with fail
  ((with_reducible refine (toIntS _ _ _ _ _ ys _ IB.out (by omega)).mono ?_); rintro e w18 ⟨AQ, kQ, rfl, ho, hb⟩)
  replace IA := Lib.hid (IA.out.below hb (Nat.le_refl _))
  replace IB := Lib.hid (IB.out.below hb (Nat.le_refl _))
  replace OT := Lib.hid (OT.out.below hb (Nat.le_refl _))
  replace OU := Lib.hid (OU.out.below hb (Nat.le_refl _))
  replace OS := Lib.hid (OS.out.below hb (Nat.le_refl _))
  replace OX := Lib.hid (OX.out.below hb (Nat.le_refl _))
  replace OY := Lib.hid (OY.out.below hb (Nat.le_refl _))
  replace OG := Lib.hid (OG.out.below hb (Nat.le_refl _))
  replace OV := Lib.hid (OV.out.below hb (Nat.le_refl _))
  replace OW := Lib.hid (OW.out.below hb (Nat.le_refl _))
  replace OP := Lib.hid (OP.out.below hb (Nat.le_refl _))
  replace B := Lib.hid (B.out.trans (hb.mono B.out.size))
  have z18 := hb.size
  have OQ := Lib.hid ho
  clear ho hb
  go_wp2_with fail
  ((with_reducible refine (Im12.TicketAudit _ _ _ _ _ _ _ _ _ _ xs ys _ OP.out.ints OQ.out.ints).mono ?_); rintro e w19 ⟨AJ, kJ, rfl, ho, hb⟩)
  replace IA := Lib.hid (IA.out.below hb (Nat.le_refl _))
  replace IB := Lib.hid (IB.out.below hb (Nat.le_refl _))
  replace OT := Lib.hid (OT.out.below hb (Nat.le_refl _))
  replace OU := Lib.hid (OU.out.below hb (Nat.le_refl _))
  replace OS := Lib.hid (OS.out.below hb (Nat.le_refl _))
  replace OX := Lib.hid (OX.out.below hb (Nat.le_refl _))
  replace OY := Lib.hid (OY.out.below hb (Nat.le_refl _))
  replace OG := Lib.hid (OG.out.below hb (Nat.le_refl _))
  replace OV := Lib.hid (OV.out.below hb (Nat.le_refl _))
  replace OW := Lib.hid (OW.out.below hb (Nat.le_refl _))
  replace OP := Lib.hid (OP.out.below hb (Nat.le_refl _))
  replace OQ := Lib.hid (OQ.out.below hb (Nat.le_refl _))
  replace B := Lib.hid (B.out.trans (hb.mono B.out.size))
  have z19 := hb.size
  have OJ := Lib.hid ho
  clear ho hb
  go_wp2_with fail
  ((with_reducible refine (Hlp.eqIntS _ _ _ _ _ _ _ _ _ _ _ _ _ OJ.out.ints OS.out.ints).mono ?_); rintro e w20 ⟨rfl, hd⟩)
  have hb0 := drew_below hd
  clear hd
  replace IA := Lib.hid (IA.out.below hb0 (Nat.le_refl _))
  replace IB := Lib.hid (IB.out.below hb0 (Nat.le_refl _))
  replace OT := Lib.hid (OT.out.below hb0 (Nat.le_refl _))
  replace OU := Lib.hid (OU.out.below hb0 (Nat.le_refl _))
  replace OS := Lib.hid (OS.out.below hb0 (Nat.le_refl _))
  replace OX := Lib.hid (OX.out.below hb0 (Nat.le_refl _))
  replace OY := Lib.hid (OY.out.below hb0 (Nat.le_refl _))
  replace OG := Lib.hid (OG.out.below hb0 (Nat.le_refl _))
  replace OV := Lib.hid (OV.out.below hb0 (Nat.le_refl _))
  replace OW := Lib.hid (OW.out.below hb0 (Nat.le_refl _))
  replace OP := Lib.hid (OP.out.below hb0 (Nat.le_refl _))
  replace OQ := Lib.hid (OQ.out.below hb0 (Nat.le_refl _))
  replace OJ := Lib.hid (OJ.out.below hb0 (Nat.le_refl _))
  replace B := Lib.hid (B.out.trans (hb0.mono B.out.size))
  have z20 := hb0.size
  clear hb0
  rw [decide_eq_true rfl]
  go_wp2_with fail
  ((with_reducible refine (Hlp.heldIntS _ _ _ _ _ 1 _ OG.out.ints (by omega) (by omega) (by omega)).mono ?_); rintro e w' ⟨rfl, rfl⟩)
  go_wp2
  go_ret
  exact ⟨rfl, B.out⟩

end Law12x
end Go.Proofs.Ytecdoibdpimlaab
