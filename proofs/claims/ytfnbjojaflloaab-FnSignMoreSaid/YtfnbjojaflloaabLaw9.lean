/-
  Laws of chapter 21: each returns true and writes nothing that was there.
-/
import Derived.Test.YtfnbjojaflloaabLaw9p
namespace Go.Proofs.Ytfnbjojaflloaab
open Go.RowKit
namespace Law9
open Il Sl Cm Ec Dm Sp9 Gm H9 LawB Rd Sg



set_option maxRecDepth 20000 in
set_option maxHeartbeats 1000000 in
theorem fnSignOther (A : Option Addr) (n c : Nat) (A1 : Option Addr) (n1 c1 : Nat) (w : World) (h : CodeIs w A n c) :
    Calls Try.prog 7 #[.slice A n c, .slice A1 n1 c1] w (TruePost w) := by
  have HC := Lib.hid h
  clear h
  by_cases hn : 1048576 < n
  · go_enter Try.func7, Try.ntmps7
    go_wp2
    go_ret
    exact ⟨rfl, Below.refl _ _⟩
  by_cases hn1 : 1048576 < n1
  · go_enter Try.func7, Try.ntmps7
    go_wp2
    go_ret
    exact ⟨rfl, Below.refl _ _⟩
  have B : Hid (Below w.heap.size w w) := Below.refl _ _
  go_enter Try.func7, Try.ntmps7
  go_wp2_with fail
  ((with_reducible refine (DrawDirectoryCheck _ _ _ _ HC.out).mono ?_); rintro e w1 ⟨PA, pc, A0, k0, ep, es, GA, gc, ps, gs, rfl, hgd, ⟨hds, hb⟩, hps, hgs, hpl, hgl⟩)
  replace B := Lib.hid (B.out.trans (hb.mono B.out.size))
  have z1 := hb.size
  have R0 := Lib.hid hds.row_
  have IP := Lib.hid hps
  have IG := Lib.hid hgs
  have GD := Lib.hid hgd
  clear hgd hds hps hgs HC
  clear hb
  have hal : Below w1.heap.size w1 (w1.alloc (.cells #[.int .i64 ep, .slice A0 es.length k0] 40)) := (Below.refl _ _).alloc (Nat.le_refl _) _
  have V0 := Lib.hid (vd_new (ep := ep) (lo' := w.heap.size) R0.out (Nat.le_refl _) B.out.size)
  replace IP := Lib.hid (IP.out.below hal (Nat.le_refl _))
  replace IG := Lib.hid (IG.out.below hal (Nat.le_refl _))
  replace B := Lib.hid (B.out.trans (hal.mono B.out.size))
  have zzV0 := hal.size
  clear hal
  clear R0
  obtain ⟨x, HX⟩ : ∃ x, Hid (checkF ps ep es gs = x) := ⟨_, rfl⟩
  obtain ⟨V00, V01, V0f⟩ := V0.out.1.cells
  go_wp2_with fail
  ((with_reducible refine (checkI HX.out V0.out.st IP.out IG.out).mono ?_); rintro e w2 ⟨rfl, hb⟩)
  replace IP := Lib.hid (IP.out.below hb (Nat.le_refl _))
  replace IG := Lib.hid (IG.out.below hb (Nat.le_refl _))
  replace V0 := Lib.hid (V0.out.below hb (Nat.le_refl _))
  replace B := Lib.hid (B.out.trans (hb.mono B.out.size))
  have z2 := hb.size
  clear V00 V01 V0f hb
  obtain ⟨V00, V01, V0f⟩ := V0.out.1.cells
  go_wp2_with fail
  ((with_reducible refine (checkS HX.out V0.out.st IP.out IG.out).mono ?_); rintro e w3 ⟨rfl, hb⟩)
  replace IP := Lib.hid (IP.out.below hb (Nat.le_refl _))
  replace IG := Lib.hid (IG.out.below hb (Nat.le_refl _))
  replace V0 := Lib.hid (V0.out.below hb (Nat.le_refl _))
  replace B := Lib.hid (B.out.trans (hb.mono B.out.size))
  have z3 := hb.size
  clear V00 V01 V0f hb
  have e0 : (x != x) = false := by cases x <;> rfl
  have e1 : (x == x) = true := by cases x <;> rfl
  cases x
  · go_wp2
    go_ret
    exact ⟨rfl, B.out⟩
  have HC2 := Lib.hid (checkF_iff.1 HX.out)
  have HEP := Lib.hid (dirOk_iff.1 HC2.out.1).2.1
  obtain ⟨hp0, hp1⟩ := HEP.out
  obtain ⟨r, hr, hr0, hr1⟩ : ∃ r : Int, ((n1 : Nat) : Int).tmod 99 = r ∧ 0 ≤ r ∧ r ≤ 98 := ⟨_, rfl, Int.tmod_nonneg _ (by omega), by have := Int.tmod_lt_of_pos ((n1 : Nat) : Int) (show (0 : Int) < 99 by decide); omega⟩
  have ew1 : IntKind.i64.wrap (ep + 1) = ep + 1 := IntWalk.i64_in _ (by omega)
  have ew2 : IntKind.i64.wrap (ep + 1 + r) = ep + 1 + r := IntWalk.i64_in _ (by omega)
  obtain ⟨y, hy, hy0⟩ : ∃ y : Int, (ep + 1 + r).tmod 100 = y ∧ y ≠ ep := ⟨_, rfl, by rw [Int.tmod_eq_emod_of_nonneg (by omega)]; omega⟩
  have HY := Lib.hid (check_other (ep2 := y) HX.out (Ne.symm hy0))
  clear hy0
  obtain ⟨V00, V01, V0f⟩ := V0.out.1.cells
  obtain ⟨m0, m1, mf⟩ := (V0.out.1.below (w' := w3.alloc (.cells #[.int .i64 ep, .slice A0 es.length k0] 40)) ((Below.refl _ _).alloc (Nat.le_refl _) _) (Nat.le_refl _)).cells
  have hal : Below w3.heap.size w3 (w3.alloc (.cells #[.int .i64 y, .slice A0 es.length k0] 40)) := (Below.refl _ _).alloc (Nat.le_refl _) _
  have V1 := Lib.hid (vd_new (ep := y) (lo' := w.heap.size) V0.out.st (Nat.le_refl _) B.out.size)
  replace IP := Lib.hid (IP.out.below hal (Nat.le_refl _))
  replace IG := Lib.hid (IG.out.below hal (Nat.le_refl _))
  replace V0 := Lib.hid (V0.out.below hal (Nat.le_refl _))
  replace B := Lib.hid (B.out.trans (hal.mono B.out.size))
  have zzV1 := hal.size
  clear hal
  go_wp2_with fail
  ((with_reducible refine (checkI HY.out V1.out.st IP.out IG.out).mono ?_); rintro e w4 ⟨rfl, hb⟩)
  replace IP := Lib.hid (IP.out.below hb (Nat.le_refl _))
  replace IG := Lib.hid (IG.out.below hb (Nat.le_refl _))
  replace V0 := Lib.hid (V0.out.below hb (Nat.le_refl _))
  replace V1 := Lib.hid (V1.out.below hb (Nat.le_refl _))
  replace B := Lib.hid (B.out.trans (hb.mono B.out.size))
  have z4 := hb.size
  clear hb
  clear V00 V01 V0f
  go_wp2
  go_ret
  exact ⟨rfl, B.out⟩

set_option maxRecDepth 20000 in
set_option maxHeartbeats 1000000 in
theorem fnSignMore (A : Option Addr) (n c : Nat) (A1 : Option Addr) (n1 c1 : Nat) (w : World) (h : CodeIs w A n c) :
    Calls Try.prog 8 #[.slice A n c, .slice A1 n1 c1] w (TruePost w) := by
  have HC := Lib.hid h
  clear h
  by_cases hn : 1048576 < n
  · go_enter Try.func8, Try.ntmps8
    go_wp2
    go_ret
    exact ⟨rfl, Below.refl _ _⟩
  by_cases hn1 : 1048576 < n1
  · go_enter Try.func8, Try.ntmps8
    go_wp2
    go_ret
    exact ⟨rfl, Below.refl _ _⟩
  have B : Hid (Below w.heap.size w w) := Below.refl _ _
  go_enter Try.func8, Try.ntmps8
  go_wp2_with fail
  ((with_reducible refine (DrawDirectoryCheck _ _ _ _ HC.out).mono ?_); rintro e w1 ⟨PA, pc, A0, k0, ep, es, GA, gc, ps, gs, rfl, hgd, ⟨hds, hb⟩, hps, hgs, hpl, hgl⟩)
  replace B := Lib.hid (B.out.trans (hb.mono B.out.size))
  have z1 := hb.size
  have R0 := Lib.hid hds.row_
  have IP := Lib.hid hps
  have IG := Lib.hid hgs
  have GD := Lib.hid hgd
  clear hgd hds hps hgs HC
  clear hb
  have hal : Below w1.heap.size w1 (w1.alloc (.cells #[.int .i64 ep, .slice A0 es.length k0] 40)) := (Below.refl _ _).alloc (Nat.le_refl _) _
  have V0 := Lib.hid (vd_new (ep := ep) (lo' := w.heap.size) R0.out (Nat.le_refl _) B.out.size)
  replace IP := Lib.hid (IP.out.below hal (Nat.le_refl _))
  replace IG := Lib.hid (IG.out.below hal (Nat.le_refl _))
  replace B := Lib.hid (B.out.trans (hal.mono B.out.size))
  have zzV0 := hal.size
  clear hal
  clear R0
  obtain ⟨x, HX⟩ : ∃ x, Hid (checkF ps ep es gs = x) := ⟨_, rfl⟩
  obtain ⟨V00, V01, V0f⟩ := V0.out.1.cells
  go_wp2_with fail
  ((with_reducible refine (checkI HX.out V0.out.st IP.out IG.out).mono ?_); rintro e w2 ⟨rfl, hb⟩)
  replace IP := Lib.hid (IP.out.below hb (Nat.le_refl _))
  replace IG := Lib.hid (IG.out.below hb (Nat.le_refl _))
  replace V0 := Lib.hid (V0.out.below hb (Nat.le_refl _))
  replace B := Lib.hid (B.out.trans (hb.mono B.out.size))
  have z2 := hb.size
  clear V00 V01 V0f hb
  obtain ⟨V00, V01, V0f⟩ := V0.out.1.cells
  go_wp2_with fail
  ((with_reducible refine (checkS HX.out V0.out.st IP.out IG.out).mono ?_); rintro e w3 ⟨rfl, hb⟩)
  replace IP := Lib.hid (IP.out.below hb (Nat.le_refl _))
  replace IG := Lib.hid (IG.out.below hb (Nat.le_refl _))
  replace V0 := Lib.hid (V0.out.below hb (Nat.le_refl _))
  replace B := Lib.hid (B.out.trans (hb.mono B.out.size))
  have z3 := hb.size
  clear V00 V01 V0f hb
  have e0 : (x != x) = false := by cases x <;> rfl
  have e1 : (x == x) = true := by cases x <;> rfl
  cases x
  · go_wp2
    go_ret
    exact ⟨rfl, B.out⟩
  have HC2 := Lib.hid (checkF_iff.1 HX.out)
  obtain ⟨r, hr, hr3⟩ : ∃ r : Nat, ((n1 : Nat) : Int).tmod 3 = (r : Int) ∧ r < 3 := ⟨n1 % 3, by rw [Int.tmod_eq_emod_of_nonneg (by omega)]; omega, by omega⟩
  have hr3i : (r : Int) < 3 := by omega
  have hrg : r < gs.length := by have := HC2.out.2.2.1; omega
  have hrgi : (r : Int) < (gs.length : Int) := by omega
  obtain ⟨Z, hmk, hown⟩ := make3
  obtain ⟨V00, V01, V0f⟩ := V0.out.1.cells
  go_upto_region 10 with (fail)
  clear V00 V01 V0f
  clear hmk
  have OZ := hown w3
  have hbz := (Below.refl w3.heap.size w3).alloc (Nat.le_refl _) (.cells Z 3)
  generalize (w3.alloc (.cells Z 3)) = wz at *
  obtain ⟨bG, oG, rfl, _, _, cg⟩ := (IG.out.below hbz (Nat.le_refl _)).at_ hrg
  obtain ⟨_, _, e0, _, _, m0⟩ := OZ.ints.at_ hr3
  simp only [Option.some.injEq, Addr.mk.injEq, and_true] at e0
  obtain ⟨rfl, rfl⟩ := e0
  have f0 := OZ.2 _ _ (by omega) rfl r hr3
  have OY := OZ.set_ hr3 (gs.getD r 0)
  rw [Nat.zero_add] at m0 f0 OY
  have hb : Below w3.heap.size w3 (wz.setCell ⟨w3.heap.size, r, none⟩ (.int .i64 (gs.getD r 0))) := hbz.setCell (p := ⟨w3.heap.size, r, none⟩) (Nat.le_refl _) _
  have OX := Lib.hid OY
  replace IP := Lib.hid (IP.out.below hb (Nat.le_refl _))
  replace IG := Lib.hid (IG.out.below hb (Nat.le_refl _))
  replace V0 := Lib.hid (V0.out.below hb (Nat.le_refl _))
  replace B := Lib.hid (B.out.trans (hb.mono B.out.size))
  clear hb hbz OZ OY
  generalize gs.getD r 0 = gv at *
  have HY : Hid (checkF ps ep es ([0, 0, 0].set r gv) = false) := check_one (k := r) fun i hi => three_set hi
  obtain ⟨V00, V01, V0f⟩ := V0.out.1.cells
  go_wp2_with fail
  ((with_reducible refine (checkI HY.out V0.out.st IP.out OX.out.ints).mono ?_); rintro e w4 ⟨rfl, hb⟩)
  replace IP := Lib.hid (IP.out.below hb (Nat.le_refl _))
  replace IG := Lib.hid (IG.out.below hb (Nat.le_refl _))
  replace V0 := Lib.hid (V0.out.below hb (Nat.le_refl _))
  replace OX := Lib.hid (OX.out.below hb (Nat.le_refl _))
  replace B := Lib.hid (B.out.trans (hb.mono B.out.size))
  have z4 := hb.size
  clear V00 V01 V0f hb
  go_wp2
  go_ret
  exact ⟨rfl, B.out⟩




end Law9
end Go.Proofs.Ytfnbjojaflloaab
