/-
  Laws of chapter 21: each returns true and writes nothing that was there.
-/
import Derived.Test.YtfjggpdinfidcaaLaw9p
namespace Go.Proofs.Ytfjggpdinfidcaa
open Go.RowKit
namespace Law9
open Il Sl Cm Ec Dm Sp9 Gm H9 LawB Rd Sg

set_option maxRecDepth 20000 in
set_option maxHeartbeats 1000000 in
theorem fnDirectoryEpoch (A : Option Addr) (n c : Nat) (A1 : Option Addr) (n1 c1 : Nat) (w : World) (h : CodeIs w A n c) :
    Calls Try.prog 5 #[.slice A n c, .slice A1 n1 c1] w (TruePost w) := by
  have HC := Lib.hid h
  clear h
  by_cases hn : 1048576 < n
  · go_enter Try.func5, Try.ntmps5
    go_wp2
    go_ret
    exact ⟨rfl, Below.refl _ _⟩
  by_cases hn1 : 1048576 < n1
  · go_enter Try.func5, Try.ntmps5
    go_wp2
    go_ret
    exact ⟨rfl, Below.refl _ _⟩
  have B : Hid (Below w.heap.size w w) := Below.refl _ _
  go_enter Try.func5, Try.ntmps5
  go_wp2_with fail
  ((with_reducible refine (DrawDirectoryDigest _ _ _ _ HC.out).mono ?_); rintro e w1 ⟨A0, k0, ep, es, rfl, hgd, hds, hb⟩)
  replace B := Lib.hid (B.out.trans (hb.mono B.out.size))
  have z1 := hb.size
  have R0 := Lib.hid hds.row_
  have GD := Lib.hid hgd
  clear hgd hds HC
  clear hb
  have hal : Below w1.heap.size w1 (w1.alloc (.cells #[.int .i64 ep, .slice A0 es.length k0] 25)) := (Below.refl _ _).alloc (Nat.le_refl _) _
  have V0 := Lib.hid (vd_new (ep := ep) (lo' := w.heap.size) R0.out (Nat.le_refl _) B.out.size)
  replace B := Lib.hid (B.out.trans (hal.mono B.out.size))
  have zzV0 := hal.size
  clear hal
  clear R0
  obtain ⟨x, HX⟩ : ∃ x, Hid (digF ep es = x) := ⟨_, rfl⟩
  obtain ⟨V00, V01, V0f⟩ := V0.out.1.cells
  go_wp2_with fail
  ((with_reducible refine (digI HX.out V0.out.st).mono ?_); rintro e w2 ⟨rfl, hb⟩)
  replace V0 := Lib.hid (V0.out.below hb (Nat.le_refl _))
  replace B := Lib.hid (B.out.trans (hb.mono B.out.size))
  have z2 := hb.size
  clear V00 V01 V0f hb
  obtain ⟨V00, V01, V0f⟩ := V0.out.1.cells
  go_wp2_with fail
  ((with_reducible refine (digS HX.out V0.out.st).mono ?_); rintro e w3 ⟨rfl, hb⟩)
  replace V0 := Lib.hid (V0.out.below hb (Nat.le_refl _))
  replace B := Lib.hid (B.out.trans (hb.mono B.out.size))
  have z3 := hb.size
  clear V00 V01 V0f hb
  have e0 : (x != x) = false := by simp
  have e1 : (x == x) = true := by simp
  by_cases hx0 : x < 0
  · go_wp2
    go_ret
    exact ⟨rfl, B.out⟩
  have hx0d : decide (x < 0) = false := by simp; omega
  have HD := Lib.hid (digF_ok (show 0 ≤ digF ep es by rw [HX.out]; omega))
  have HEP := Lib.hid (dirOk_iff.1 HD.out).2.1
  obtain ⟨hp0, hp1⟩ := HEP.out
  obtain ⟨r, hr, hr0, hr1⟩ : ∃ r : Int, ((n1 : Nat) : Int).tmod 99 = r ∧ 0 ≤ r ∧ r ≤ 98 := ⟨_, rfl, Int.tmod_nonneg _ (by omega), by have := Int.tmod_lt_of_pos ((n1 : Nat) : Int) (show (0 : Int) < 99 by decide); omega⟩
  have ew1 : IntKind.i64.wrap (ep + 1) = ep + 1 := IntWalk.i64_in _ (by omega)
  have ew2 : IntKind.i64.wrap (ep + 1 + r) = ep + 1 + r := IntWalk.i64_in _ (by omega)
  obtain ⟨y, hy, hy0⟩ : ∃ y : Int, (ep + 1 + r).tmod 100 = y ∧ y ≠ ep := ⟨_, rfl, by rw [Int.tmod_eq_emod_of_nonneg (by omega)]; omega⟩
  have HY := Lib.hid (digF_ep (ep2 := y) HD.out (Ne.symm hy0))
  clear hx0 hy0
  obtain ⟨V00, V01, V0f⟩ := V0.out.1.cells
  obtain ⟨m0, m1, mf⟩ := (V0.out.1.below (w' := w3.alloc (.cells #[.int .i64 ep, .slice A0 es.length k0] 25)) ((Below.refl _ _).alloc (Nat.le_refl _) _) (Nat.le_refl _)).cells
  have hal : Below w3.heap.size w3 (w3.alloc (.cells #[.int .i64 y, .slice A0 es.length k0] 25)) := (Below.refl _ _).alloc (Nat.le_refl _) _
  have V1 := Lib.hid (vd_new (ep := y) (lo' := w.heap.size) V0.out.st (Nat.le_refl _) B.out.size)
  replace V0 := Lib.hid (V0.out.below hal (Nat.le_refl _))
  replace B := Lib.hid (B.out.trans (hal.mono B.out.size))
  have zzV1 := hal.size
  clear hal
  obtain ⟨x2, HX2, hx2⟩ : ∃ x2, Hid (digF y es = x2) ∧ x2 ≠ x := ⟨_, rfl, by rw [← HX.out]; exact HY.out⟩
  go_wp2_with fail
  ((with_reducible refine (digI HX2.out V1.out.st).mono ?_); rintro e w4 ⟨rfl, hb⟩)
  replace V0 := Lib.hid (V0.out.below hb (Nat.le_refl _))
  replace V1 := Lib.hid (V1.out.below hb (Nat.le_refl _))
  replace B := Lib.hid (B.out.trans (hb.mono B.out.size))
  have z4 := hb.size
  clear hb
  clear V00 V01 V0f
  have e2 : (x2 != x) = true := by simpa using hx2
  go_wp2
  go_ret
  exact ⟨rfl, B.out⟩

set_option maxRecDepth 20000 in
set_option maxHeartbeats 1000000 in
theorem fnPickOrder (A : Option Addr) (n c : Nat) (w : World) (h : CodeIs w A n c) :
    Calls Try.prog 10 #[.slice A n c] w (TruePost w) := by
  have HC := Lib.hid h
  clear h
  by_cases hn : 1048576 < n
  · go_enter Try.func10, Try.ntmps10
    go_wp2
    go_ret
    exact ⟨rfl, Below.refl _ _⟩
  have B : Hid (Below w.heap.size w w) := Below.refl _ _
  go_enter Try.func10, Try.ntmps10
  go_wp2_with fail
  ((with_reducible refine (DrawDirectoryPick _ _ _ _ HC.out).mono ?_); rintro e w1 ⟨A0, k0, ep, es, p, rfl, hgd, ⟨hds, hb⟩, hp0, hp1⟩)
  replace B := Lib.hid (B.out.trans (hb.mono B.out.size))
  have z1 := hb.size
  have R0 := Lib.hid hds.row_
  have GD := Lib.hid hgd
  clear hgd hds HC
  clear hb
  have hal : Below w1.heap.size w1 (w1.alloc (.cells #[.int .i64 ep, .slice A0 es.length k0] 25)) := (Below.refl _ _).alloc (Nat.le_refl _) _
  have V0 := Lib.hid (vd_new (ep := ep) (lo' := w.heap.size) R0.out (Nat.le_refl _) B.out.size)
  replace B := Lib.hid (B.out.trans (hal.mono B.out.size))
  have zzV0 := hal.size
  clear hal
  clear R0
  obtain ⟨x, HX⟩ : ∃ x, Hid (pickF ep es p = x) := ⟨_, rfl⟩
  obtain ⟨V00, V01, V0f⟩ := V0.out.1.cells
  go_wp2_with fail
  ((with_reducible refine (pickI HX.out V0.out.st (by omega)).mono ?_); rintro e w2 ⟨rfl, hb⟩)
  replace V0 := Lib.hid (V0.out.below hb (Nat.le_refl _))
  replace B := Lib.hid (B.out.trans (hb.mono B.out.size))
  have z2 := hb.size
  clear V00 V01 V0f hb
  obtain ⟨V00, V01, V0f⟩ := V0.out.1.cells
  go_wp2_with fail
  ((with_reducible refine (pickS HX.out V0.out.st (by omega)).mono ?_); rintro e w3 ⟨rfl, hb⟩)
  replace V0 := Lib.hid (V0.out.below hb (Nat.le_refl _))
  replace B := Lib.hid (B.out.trans (hb.mono B.out.size))
  have z3 := hb.size
  clear V00 V01 V0f hb
  have e0 : (x != x) = false := by simp
  have e1 : (x == x) = true := by simp
  by_cases hx0 : x < 0
  · go_wp2
    go_ret
    exact ⟨rfl, B.out⟩
  have hx0d : decide (x < 0) = false := by simp; omega
  have HF := Lib.hid (pickF_of HX.out (by omega))
  obtain ⟨HD, HQ, HP0, HL⟩ := HF.out
  have HNN := Lib.hid (nn_of (dirOk_iff.1 HD).1)
  obtain ⟨j, hj, hjx, hwt⟩ := pickL_wt HNN.out HP0 HL (by omega)
  subst hjx
  have hji : (j : Int) < (es.length : Int) := by omega
  have ew1 : IntKind.i64.wrap (p + 1) = p + 1 := IntWalk.i64_in _ (by omega)
  obtain ⟨x2, HX2, HM⟩ : ∃ x2, Hid (pickF ep es (p + 1) = x2) ∧ Hid (x2 = -1 ∨ (j : Int) ≤ x2) := ⟨_, rfl, by show _ ∨ _; rw [pickF_yes HD (by omega), ← HL]; exact pick_mono HNN.out HP0 (by omega) (by rw [HL]; omega)⟩
  have GT : decide ((enAt es j).wt > 0) = true := decide_eq_true hwt
  clear HD HQ HP0 HL hwt hx0
  obtain ⟨V00, V01, V0f⟩ := V0.out.1.cells
  go_wp2_with fail
  ((with_reducible refine (pickI HX2.out V0.out.st (by omega)).mono ?_); rintro e w4 ⟨rfl, hb⟩)
  replace V0 := Lib.hid (V0.out.below hb (Nat.le_refl _))
  replace B := Lib.hid (B.out.trans (hb.mono B.out.size))
  have z4 := hb.size
  clear V00 V01 V0f hb
  obtain ⟨bE, oE, rfl, _, _, _, c0, c1, c2⟩ := V0.out.st.at_ hj
  have gt2 : decide (0 < (enAt es j).wt) = true := GT
  generalize (enAt es j).wt = q at *
  obtain ⟨V00, V01, V0f⟩ := V0.out.1.cells
  by_cases h1 : x2 = -1
  · subst h1
    go_wp2
    go_ret
    exact ⟨rfl, B.out⟩
  have h1d : (x2 == -1) = false := by simpa using h1
  have h2 : (j : Int) ≤ x2 := HM.out.resolve_left h1
  go_wp2
  go_ret
  exact ⟨rfl, B.out⟩

set_option maxRecDepth 20000 in
set_option maxHeartbeats 1000000 in
theorem fnSignOther (A : Option Addr) (n c : Nat) (A1 : Option Addr) (n1 c1 : Nat) (w : World) (h : CodeIs w A n c) :
    Calls Try.prog 7 #[.slice A n c, .slice A1 n1 c1] w (TruePost w) := by
  have HC := Lib.hid h
  clear h
  by_cases hn : 1048576 < n
  · go_enter Try.func7, Try.ntmps7
    go_wp2
    go_ret
    exact ⟨rfl, Below.refl _ _⟩
  by_cases hn1 : 1048576 < n1
  · go_enter Try.func7, Try.ntmps7
    go_wp2
    go_ret
    exact ⟨rfl, Below.refl _ _⟩
  have B : Hid (Below w.heap.size w w) := Below.refl _ _
  go_enter Try.func7, Try.ntmps7
  go_wp2_with fail
  ((with_reducible refine (DrawDirectoryCheck _ _ _ _ HC.out).mono ?_); rintro e w1 ⟨PA, pc, A0, k0, ep, es, GA, gc, ps, gs, rfl, hgd, ⟨hds, hb⟩, hps, hgs, hpl, hgl⟩)
  replace B := Lib.hid (B.out.trans (hb.mono B.out.size))
  have z1 := hb.size
  have R0 := Lib.hid hds.row_
  have IP := Lib.hid hps
  have IG := Lib.hid hgs
  have GD := Lib.hid hgd
  clear hgd hds hps hgs HC
  clear hb
  have hal : Below w1.heap.size w1 (w1.alloc (.cells #[.int .i64 ep, .slice A0 es.length k0] 25)) := (Below.refl _ _).alloc (Nat.le_refl _) _
  have V0 := Lib.hid (vd_new (ep := ep) (lo' := w.heap.size) R0.out (Nat.le_refl _) B.out.size)
  replace IP := Lib.hid (IP.out.below hal (Nat.le_refl _))
  replace IG := Lib.hid (IG.out.below hal (Nat.le_refl _))
  replace B := Lib.hid (B.out.trans (hal.mono B.out.size))
  have zzV0 := hal.size
  clear hal
  clear R0
  obtain ⟨x, HX⟩ : ∃ x, Hid (checkF ps ep es gs = x) := ⟨_, rfl⟩
  obtain ⟨V00, V01, V0f⟩ := V0.out.1.cells
  go_wp2_with fail
  ((with_reducible refine (checkI HX.out V0.out.st IP.out IG.out).mono ?_); rintro e w2 ⟨rfl, hb⟩)
  replace IP := Lib.hid (IP.out.below hb (Nat.le_refl _))
  replace IG := Lib.hid (IG.out.below hb (Nat.le_refl _))
  replace V0 := Lib.hid (V0.out.below hb (Nat.le_refl _))
  replace B := Lib.hid (B.out.trans (hb.mono B.out.size))
  have z2 := hb.size
  clear V00 V01 V0f hb
  obtain ⟨V00, V01, V0f⟩ := V0.out.1.cells
  go_wp2_with fail
  ((with_reducible refine (checkS HX.out V0.out.st IP.out IG.out).mono ?_); rintro e w3 ⟨rfl, hb⟩)
  replace IP := Lib.hid (IP.out.below hb (Nat.le_refl _))
  replace IG := Lib.hid (IG.out.below hb (Nat.le_refl _))
  replace V0 := Lib.hid (V0.out.below hb (Nat.le_refl _))
  replace B := Lib.hid (B.out.trans (hb.mono B.out.size))
  have z3 := hb.size
  clear V00 V01 V0f hb
  have e0 : (x != x) = false := by cases x <;> rfl
  have e1 : (x == x) = true := by cases x <;> rfl
  cases x
  · go_wp2
    go_ret
    exact ⟨rfl, B.out⟩
  have HC2 := Lib.hid (checkF_iff.1 HX.out)
  have HEP := Lib.hid (dirOk_iff.1 HC2.out.1).2.1
  obtain ⟨hp0, hp1⟩ := HEP.out
  obtain ⟨r, hr, hr0, hr1⟩ : ∃ r : Int, ((n1 : Nat) : Int).tmod 99 = r ∧ 0 ≤ r ∧ r ≤ 98 := ⟨_, rfl, Int.tmod_nonneg _ (by omega), by have := Int.tmod_lt_of_pos ((n1 : Nat) : Int) (show (0 : Int) < 99 by decide); omega⟩
  have ew1 : IntKind.i64.wrap (ep + 1) = ep + 1 := IntWalk.i64_in _ (by omega)
  have ew2 : IntKind.i64.wrap (ep + 1 + r) = ep + 1 + r := IntWalk.i64_in _ (by omega)
  obtain ⟨y, hy, hy0⟩ : ∃ y : Int, (ep + 1 + r).tmod 100 = y ∧ y ≠ ep := ⟨_, rfl, by rw [Int.tmod_eq_emod_of_nonneg (by omega)]; omega⟩
  have HY := Lib.hid (check_other (ep2 := y) HX.out (Ne.symm hy0))
  clear hy0
  obtain ⟨V00, V01, V0f⟩ := V0.out.1.cells
  obtain ⟨m0, m1, mf⟩ := (V0.out.1.below (w' := w3.alloc (.cells #[.int .i64 ep, .slice A0 es.length k0] 25)) ((Below.refl _ _).alloc (Nat.le_refl _) _) (Nat.le_refl _)).cells
  have hal : Below w3.heap.size w3 (w3.alloc (.cells #[.int .i64 y, .slice A0 es.length k0] 25)) := (Below.refl _ _).alloc (Nat.le_refl _) _
  have V1 := Lib.hid (vd_new (ep := y) (lo' := w.heap.size) V0.out.st (Nat.le_refl _) B.out.size)
  replace IP := Lib.hid (IP.out.below hal (Nat.le_refl _))
  replace IG := Lib.hid (IG.out.below hal (Nat.le_refl _))
  replace V0 := Lib.hid (V0.out.below hal (Nat.le_refl _))
  replace B := Lib.hid (B.out.trans (hal.mono B.out.size))
  have zzV1 := hal.size
  clear hal
  go_wp2_with fail
  ((with_reducible refine (checkI HY.out V1.out.st IP.out IG.out).mono ?_); rintro e w4 ⟨rfl, hb⟩)
  replace IP := Lib.hid (IP.out.below hb (Nat.le_refl _))
  replace IG := Lib.hid (IG.out.below hb (Nat.le_refl _))
  replace V0 := Lib.hid (V0.out.below hb (Nat.le_refl _))
  replace V1 := Lib.hid (V1.out.below hb (Nat.le_refl _))
  replace B := Lib.hid (B.out.trans (hb.mono B.out.size))
  have z4 := hb.size
  clear hb
  clear V00 V01 V0f
  go_wp2
  go_ret
  exact ⟨rfl, B.out⟩

set_option maxRecDepth 20000 in
set_option maxHeartbeats 1000000 in
theorem fnSignMore (A : Option Addr) (n c : Nat) (A1 : Option Addr) (n1 c1 : Nat) (w : World) (h : CodeIs w A n c) :
    Calls Try.prog 8 #[.slice A n c, .slice A1 n1 c1] w (TruePost w) := by
  have HC := Lib.hid h
  clear h
  by_cases hn : 1048576 < n
  · go_enter Try.func8, Try.ntmps8
    go_wp2
    go_ret
    exact ⟨rfl, Below.refl _ _⟩
  by_cases hn1 : 1048576 < n1
  · go_enter Try.func8, Try.ntmps8
    go_wp2
    go_ret
    exact ⟨rfl, Below.refl _ _⟩
  have B : Hid (Below w.heap.size w w) := Below.refl _ _
  go_enter Try.func8, Try.ntmps8
  go_wp2_with fail
  ((with_reducible refine (DrawDirectoryCheck _ _ _ _ HC.out).mono ?_); rintro e w1 ⟨PA, pc, A0, k0, ep, es, GA, gc, ps, gs, rfl, hgd, ⟨hds, hb⟩, hps, hgs, hpl, hgl⟩)
  replace B := Lib.hid (B.out.trans (hb.mono B.out.size))
  have z1 := hb.size
  have R0 := Lib.hid hds.row_
  have IP := Lib.hid hps
  have IG := Lib.hid hgs
  have GD := Lib.hid hgd
  clear hgd hds hps hgs HC
  clear hb
  have hal : Below w1.heap.size w1 (w1.alloc (.cells #[.int .i64 ep, .slice A0 es.length k0] 25)) := (Below.refl _ _).alloc (Nat.le_refl _) _
  have V0 := Lib.hid (vd_new (ep := ep) (lo' := w.heap.size) R0.out (Nat.le_refl _) B.out.size)
  replace IP := Lib.hid (IP.out.below hal (Nat.le_refl _))
  replace IG := Lib.hid (IG.out.below hal (Nat.le_refl _))
  replace B := Lib.hid (B.out.trans (hal.mono B.out.size))
  have zzV0 := hal.size
  clear hal
  clear R0
  obtain ⟨x, HX⟩ : ∃ x, Hid (checkF ps ep es gs = x) := ⟨_, rfl⟩
  obtain ⟨V00, V01, V0f⟩ := V0.out.1.cells
  go_wp2_with fail
  ((with_reducible refine (checkI HX.out V0.out.st IP.out IG.out).mono ?_); rintro e w2 ⟨rfl, hb⟩)
  replace IP := Lib.hid (IP.out.below hb (Nat.le_refl _))
  replace IG := Lib.hid (IG.out.below hb (Nat.le_refl _))
  replace V0 := Lib.hid (V0.out.below hb (Nat.le_refl _))
  replace B := Lib.hid (B.out.trans (hb.mono B.out.size))
  have z2 := hb.size
  clear V00 V01 V0f hb
  obtain ⟨V00, V01, V0f⟩ := V0.out.1.cells
  go_wp2_with fail
  ((with_reducible refine (checkS HX.out V0.out.st IP.out IG.out).mono ?_); rintro e w3 ⟨rfl, hb⟩)
  replace IP := Lib.hid (IP.out.below hb (Nat.le_refl _))
  replace IG := Lib.hid (IG.out.below hb (Nat.le_refl _))
  replace V0 := Lib.hid (V0.out.below hb (Nat.le_refl _))
  replace B := Lib.hid (B.out.trans (hb.mono B.out.size))
  have z3 := hb.size
  clear V00 V01 V0f hb
  have e0 : (x != x) = false := by cases x <;> rfl
  have e1 : (x == x) = true := by cases x <;> rfl
  cases x
  · go_wp2
    go_ret
    exact ⟨rfl, B.out⟩
  have HC2 := Lib.hid (checkF_iff.1 HX.out)
  obtain ⟨r, hr, hr3⟩ : ∃ r : Nat, ((n1 : Nat) : Int).tmod 3 = (r : Int) ∧ r < 3 := ⟨n1 % 3, by rw [Int.tmod_eq_emod_of_nonneg (by omega)]; omega, by omega⟩
  have hr3i : (r : Int) < 3 := by omega
  have hrg : r < gs.length := by have := HC2.out.2.2.1; omega
  have hrgi : (r : Int) < (gs.length : Int) := by omega
  obtain ⟨Z, hmk, hown⟩ := make3
  obtain ⟨V00, V01, V0f⟩ := V0.out.1.cells
  go_upto_region 10 with (fail)
  clear V00 V01 V0f
  clear hmk
  have OZ := hown w3
  have hbz := (Below.refl w3.heap.size w3).alloc (Nat.le_refl _) (.cells Z 3)
  generalize (w3.alloc (.cells Z 3)) = wz at *
  obtain ⟨bG, oG, rfl, _, _, cg⟩ := (IG.out.below hbz (Nat.le_refl _)).at_ hrg
  obtain ⟨_, _, e0, _, _, m0⟩ := OZ.ints.at_ hr3
  simp only [Option.some.injEq, Addr.mk.injEq, and_true] at e0
  obtain ⟨rfl, rfl⟩ := e0
  have f0 := OZ.2 _ _ (by omega) rfl r hr3
  have OY := OZ.set_ hr3 (gs.getD r 0)
  rw [Nat.zero_add] at m0 f0 OY
  have hb : Below w3.heap.size w3 (wz.setCell ⟨w3.heap.size, r, none⟩ (.int .i64 (gs.getD r 0))) := hbz.setCell (p := ⟨w3.heap.size, r, none⟩) (Nat.le_refl _) _
  have OX := Lib.hid OY
  replace IP := Lib.hid (IP.out.below hb (Nat.le_refl _))
  replace IG := Lib.hid (IG.out.below hb (Nat.le_refl _))
  replace V0 := Lib.hid (V0.out.below hb (Nat.le_refl _))
  replace B := Lib.hid (B.out.trans (hb.mono B.out.size))
  clear hb hbz OZ OY
  generalize gs.getD r 0 = gv at *
  have HY : Hid (checkF ps ep es ([0, 0, 0].set r gv) = false) := check_one (k := r) fun i hi => three_set hi
  obtain ⟨V00, V01, V0f⟩ := V0.out.1.cells
  go_wp2_with fail
  ((with_reducible refine (checkI HY.out V0.out.st IP.out OX.out.ints).mono ?_); rintro e w4 ⟨rfl, hb⟩)
  replace IP := Lib.hid (IP.out.below hb (Nat.le_refl _))
  replace IG := Lib.hid (IG.out.below hb (Nat.le_refl _))
  replace V0 := Lib.hid (V0.out.below hb (Nat.le_refl _))
  replace OX := Lib.hid (OX.out.below hb (Nat.le_refl _))
  replace B := Lib.hid (B.out.trans (hb.mono B.out.size))
  have z4 := hb.size
  clear V00 V01 V0f hb
  go_wp2
  go_ret
  exact ⟨rfl, B.out⟩

set_option maxRecDepth 20000 in
set_option maxHeartbeats 2000000 in
theorem fnPick (A : Option Addr) (n c : Nat) (w : World) (h : CodeIs w A n c) :
    Calls Try.prog 9 #[.slice A n c] w (TruePost w) := by
  have HC := Lib.hid h
  clear h
  by_cases hn : 1048576 < n
  · go_enter Try.func9, Try.ntmps9
    go_wp2
    go_ret
    exact ⟨rfl, Below.refl _ _⟩
  have B : Hid (Below w.heap.size w w) := Below.refl _ _
  go_enter Try.func9, Try.ntmps9
  go_wp2_with fail
  ((with_reducible refine (DrawDirectoryPick _ _ _ _ HC.out).mono ?_); rintro e w1 ⟨A0, k0, ep, es, p, rfl, hgd, ⟨hds, hb⟩, hp0, hp1⟩)
  replace B := Lib.hid (B.out.trans (hb.mono B.out.size))
  have z1 := hb.size
  have R0 := Lib.hid hds.row_
  have GD := Lib.hid hgd
  clear hgd hds HC
  clear hb
  have hal : Below w1.heap.size w1 (w1.alloc (.cells #[.int .i64 ep, .slice A0 es.length k0] 25)) := (Below.refl _ _).alloc (Nat.le_refl _) _
  have V0 := Lib.hid (vd_new (ep := ep) (lo' := w.heap.size) R0.out (Nat.le_refl _) B.out.size)
  replace B := Lib.hid (B.out.trans (hal.mono B.out.size))
  have zzV0 := hal.size
  clear hal
  clear R0
  obtain ⟨x, HX⟩ : ∃ x, Hid (pickF ep es p = x) := ⟨_, rfl⟩
  obtain ⟨V00, V01, V0f⟩ := V0.out.1.cells
  go_wp2_with fail
  ((with_reducible refine (pickI HX.out V0.out.st (by omega)).mono ?_); rintro e w2 ⟨rfl, hb⟩)
  replace V0 := Lib.hid (V0.out.below hb (Nat.le_refl _))
  replace B := Lib.hid (B.out.trans (hb.mono B.out.size))
  have z2 := hb.size
  clear V00 V01 V0f hb
  obtain ⟨V00, V01, V0f⟩ := V0.out.1.cells
  go_wp2_with fail
  ((with_reducible refine (pickS HX.out V0.out.st (by omega)).mono ?_); rintro e w3 ⟨rfl, hb⟩)
  replace V0 := Lib.hid (V0.out.below hb (Nat.le_refl _))
  replace B := Lib.hid (B.out.trans (hb.mono B.out.size))
  have z3 := hb.size
  clear V00 V01 V0f hb
  have e0 : (x != x) = false := by simp
  have e1 : (x == x) = true := by simp
  cases hd : dirOk ep es
  · obtain ⟨V00, V01, V0f⟩ := V0.out.1.cells
    go_wp2_with fail
    ((with_reducible refine (validS hd V0.out.st).mono ?_); rintro e w4 ⟨rfl, hb⟩)
    replace V0 := Lib.hid (V0.out.below hb (Nat.le_refl _))
    replace B := Lib.hid (B.out.trans (hb.mono B.out.size))
    have z4 := hb.size
    clear V00 V01 V0f hb
    go_wp2
    go_ret
    exact ⟨rfl, B.out⟩
  have HD := Lib.hid hd
  have HNN := Lib.hid (nn_of (dirOk_iff.1 hd).1)
  have HWB := Lib.hid (wb_of hd)
  obtain ⟨hw0, hw1⟩ := wtL_max hd []
  obtain ⟨M, hM⟩ := Int.eq_ofNat_of_zero_le hw0
  rw [hM] at hw1
  have HM : Hid (wtL [] es = (M : Int)) := hM
  have hM6 : M ≤ 600 := by omega
  have hl6 : es.length ≤ 6 := (dirOk_iff.1 hd).2.2
  clear hM hw0 hw1
  obtain ⟨V00, V01, V0f⟩ := V0.out.1.cells
  go_wp2_with fail
  ((with_reducible refine (validS hd V0.out.st).mono ?_); rintro e w4 ⟨rfl, hb⟩)
  replace V0 := Lib.hid (V0.out.below hb (Nat.le_refl _))
  replace B := Lib.hid (B.out.trans (hb.mono B.out.size))
  have z4 := hb.size
  clear V00 V01 V0f hb
  clear hd
  obtain ⟨V00, V01, V0f⟩ := V0.out.1.cells
  go_wp2_with fail
  ((with_reducible refine (sumK HM.out V0.out.st HWB.out).mono ?_); rintro e w5 ⟨rfl, hb⟩)
  replace V0 := Lib.hid (V0.out.below hb (Nat.le_refl _))
  replace B := Lib.hid (B.out.trans (hb.mono B.out.size))
  have z5 := hb.size
  clear V00 V01 V0f hb
  have HP0 : Hid (PkRel w.heap.size w1.heap.size w5.heap.size w (w5.alloc (.cells (madeCells #[.int .i64 0] es.length) 3)) ep A0 k0 es 0) := by
    have hal : Below w5.heap.size w5 (w5.alloc (.cells (madeCells #[.int .i64 0] es.length) 3)) := (Below.refl _ _).alloc (Nat.le_refl _) _
    refine ⟨V0.out.1.below hal (Nat.le_refl _), V0.out.st.below hal (Nat.le_refl _), ?_, B.out.trans (hal.mono B.out.size), V0.out.1.lt, B.out.size, by simp⟩
    rw [cntsR_zero]
    exact own_made w5 3 es.length (by unfold maxLen; omega)
  have hmk := run_make_row' (P := Try.prog) 32 3 (.int .i64 0) 8 Try.underlying32 infoInt rfl .i64 .i64 es.length (by omega) (by omega)
  obtain ⟨V00, V01, V0f⟩ := V0.out.1.cells
  go_wp2
  clear hmk V00 V01 V0f
  generalize hgN : w5.heap.size = gN at *
  clear V0 B
  go_loopw [9, 10] (fun p _ wr => ∃ t : Nat, t ≤ M ∧ p = .int .i64 t ∧ Hid (PkRel w.heap.size w1.heap.size gN w wr ep A0 k0 es t)) (fun p _ _ => M - (intOf p).toNat)
  case atStart => exact ⟨0, Nat.zero_le _, rfl, HP0.out⟩
  case round =>
    obtain ⟨t, ht, rfl, hR⟩ := hrel
    clear HP0
    obtain ⟨z0, z1, zf⟩ := hR.out.1.cells
    by_cases hlt : t < M
    · have hti : (t : Int) < (M : Int) := by omega
      obtain ⟨j, hj, hpj, _, _⟩ := pickL_some (ch := []) HNN.out (p := (t : Int)) (by omega) (by rw [HM.out]; exact hti)
      have HPK : Hid (pickF ep es (t : Int) = (j : Int)) := by show _ = _; rw [pickF_yes HD.out (by omega), hpj]
      have HST := Lib.hid (cntsR_set hpj)
      have HAT := Lib.hid (cntsR_at (m := t) hj)
      have hhl := hits_le es j t
      have hji : (j : Int) < (es.length : Int) := by omega
      have hjn : ¬ (es.length : Int) ≤ (j : Int) := by omega
      clear hpj
      go_wp2_with fail
      ((with_reducible refine (pickI HPK.out hR.out.ens (by omega)).mono ?_); rintro e w9 ⟨rfl, hb9⟩)
      have hR9 := hR.out.below hb9
      clear hb9 hR z0 z1 zf
      obtain ⟨_, _, e0, _, _, m0⟩ := hR9.2.2.1.ints.at_ hj
      simp only [Option.some.injEq, Addr.mk.injEq, and_true] at e0
      obtain ⟨rfl, rfl⟩ := e0
      have f0 := hR9.2.2.1.2 _ _ (by omega) rfl j hj
      rw [HAT.out] at m0
      have hP9 := hR9.put hj (((hits es j t : Nat) : Int) + 1)
      rw [HST.out] at hP9
      have HP9 := Lib.hid hP9
      rw [Nat.zero_add] at m0 f0
      clear hR9 hP9 HST HAT
      generalize hits es j t = q at *
      go_wp2
      go_roundw
      case rel => exact ⟨t + 1, by omega, by go_num, HP9.out⟩
      case measure => simp [intOf]; omega
    · obtain rfl : t = M := by omega
      have HR := Lib.hid hR.out
      clear hR hlt
      go_wp2
      go_loopw [11] (fun i wr => ∃ u : Nat, u ≤ es.length ∧ i = .int .i64 u ∧ Hid (PkRel w.heap.size w1.heap.size gN w wr ep A0 k0 es t)) (fun i _ => es.length - (intOf i).toNat)
      case atStart => exact ⟨0, Nat.zero_le _, rfl, HR.out⟩
      case round =>
        obtain ⟨u, hu, rfl, hS⟩ := hrel
        clear HR z0 z1 zf
        obtain ⟨z0, z1, zf⟩ := hS.out.1.cells
        by_cases hlu : u < es.length
        · have hui : (u : Int) < (es.length : Int) := by omega
          obtain ⟨bE, oE, rfl, _, _, _, c0, c1, c2⟩ := hS.out.2.1.at_ hlu
          obtain ⟨_, _, e0, _, _, m0⟩ := hS.out.2.2.1.ints.at_ hlu
          simp only [Option.some.injEq, Addr.mk.injEq, and_true] at e0
          obtain ⟨rfl, rfl⟩ := e0
          have hA := hits_all HNN.out hlu
          rw [HM.out, Int.toNat_natCast] at hA
          rw [cntsR_at hlu, hA, Nat.zero_add] at m0
          have HS := Lib.hid hS.out
          clear c0 c1 hA hS
          generalize (enAt es u).wt = q at *
          have e9 : (q != q) = false := by simp
          go_wp2
          go_quiet (fail)
          have HS2 : Hid (PkRel w.heap.size w1.heap.size gN w (wr.drewN nq) ep _ k0 es t) := HS.out.drew nq
          go_wp2
          go_roundw
          case rel => exact ⟨u + 1, by omega, by go_num, HS2.out⟩
          case measure => simp [intOf]; omega
        · obtain rfl : u = es.length := by omega
          have HPN : Hid (pickF ep es (t : Int) = -1) := by show _ = _; rw [pickF_yes HD.out (by omega)]; exact pickL_none HNN.out (by omega) (by rw [HM.out]; exact Int.le_refl _)
          clear hlu
          go_wp2_with fail
          ((with_reducible refine (pickI HPN.out hS.out.ens (by omega)).mono ?_); rintro e w9 ⟨rfl, hb9⟩)
          have HB := Lib.hid (hS.out.below hb9).2.2.2.1
          clear hb9 hS z0 z1 zf
          go_wp2
          go_ret
          exact ⟨rfl, HB.out⟩

set_option maxRecDepth 20000 in
set_option maxHeartbeats 1000000 in
theorem fnPath (A : Option Addr) (n c : Nat) (w : World) (h : CodeIs w A n c) :
    Calls Try.prog 11 #[.slice A n c] w (TruePost w) := by
  have HC := Lib.hid h
  clear h
  by_cases hn : 1048576 < n
  · go_enter Try.func11, Try.ntmps11
    go_wp2
    go_ret
    exact ⟨rfl, Below.refl _ _⟩
  have B : Hid (Below w.heap.size w w) := Below.refl _ _
  go_enter Try.func11, Try.ntmps11
  go_wp2_with fail
  ((with_reducible refine (DrawDirectoryPath _ _ _ _ HC.out).mono ?_); rintro e w1 ⟨A0, k0, ep, es, s, h, rfl, hgd, ⟨hds, hb⟩, ⟨hs0, hs1⟩, hh0, hh1⟩)
  replace B := Lib.hid (B.out.trans (hb.mono B.out.size))
  have z1 := hb.size
  have R0 := Lib.hid hds.row_
  have GD := Lib.hid hgd
  clear hgd hds HC
  clear hb
  have hal : Below w1.heap.size w1 (w1.alloc (.cells #[.int .i64 ep, .slice A0 es.length k0] 25)) := (Below.refl _ _).alloc (Nat.le_refl _) _
  have V0 := Lib.hid (vd_new (ep := ep) (lo' := w.heap.size) R0.out (Nat.le_refl _) B.out.size)
  replace B := Lib.hid (B.out.trans (hal.mono B.out.size))
  have zzV0 := hal.size
  clear hal
  clear R0
  obtain ⟨xs, HX⟩ : ∃ xs, Hid (pathF ep es s h = xs) := ⟨_, rfl⟩
  obtain ⟨V00, V01, V0f⟩ := V0.out.1.cells
  go_wp2_with fail
  ((with_reducible refine (pathI HX.out V0.out.st).mono ?_); rintro e w2 ⟨AI5, kI5, rfl, ho, hb⟩)
  replace V0 := Lib.hid (V0.out.below hb (Nat.le_refl _))
  replace B := Lib.hid (B.out.trans (hb.mono B.out.size))
  have z2 := hb.size
  have I5 := Lib.hid ho.ints
  clear ho
  clear V00 V01 V0f hb
  obtain ⟨V00, V01, V0f⟩ := V0.out.1.cells
  go_wp2_with fail
  ((with_reducible refine (pathS HX.out V0.out.st).mono ?_); rintro e w3 ⟨AI6, kI6, rfl, ho, hb⟩)
  replace V0 := Lib.hid (V0.out.below hb (Nat.le_refl _))
  replace I5 := Lib.hid (I5.out.below hb (Nat.le_refl _))
  replace B := Lib.hid (B.out.trans (hb.mono B.out.size))
  have z3 := hb.size
  have I6 := Lib.hid ho.ints
  clear ho
  clear V00 V01 V0f hb
  go_wp2_with fail
  ((with_reducible refine (sameK I5.out I6.out).mono ?_); rintro e w4 ⟨rfl, hb⟩)
  replace V0 := Lib.hid (V0.out.below hb (Nat.le_refl _))
  replace I5 := Lib.hid (I5.out.below hb (Nat.le_refl _))
  replace I6 := Lib.hid (I6.out.below hb (Nat.le_refl _))
  replace B := Lib.hid (B.out.trans (hb.mono B.out.size))
  have z4 := hb.size
  clear hb
  by_cases hx0 : xs.length = 0
  · have e0 : ((xs.length : Int) == 0) = true := by rw [hx0]; rfl
    clear hx0
    go_wp2_with fail
    ((with_reducible refine (sameK I5.out I6.out).mono ?_); rintro e w5 ⟨rfl, hb⟩)
    replace V0 := Lib.hid (V0.out.below hb (Nat.le_refl _))
    replace I5 := Lib.hid (I5.out.below hb (Nat.le_refl _))
    replace I6 := Lib.hid (I6.out.below hb (Nat.le_refl _))
    replace B := Lib.hid (B.out.trans (hb.mono B.out.size))
    have z5 := hb.size
    clear hb
    go_wp2
    go_ret
    exact ⟨rfl, B.out⟩
  have e0 : ((xs.length : Int) == 0) = false := by rw [beq_eq_false_iff_ne]; omega
  have HNE : Hid (pathF ep es s h ≠ []) := fun e => hx0 (by rw [← HX.out, e]; rfl)
  obtain ⟨HD, ⟨hs2, hs3⟩, ⟨hh2, hh3⟩, -⟩ := pathF_open HNE.out
  have HD := Lib.hid HD
  have HPA := Lib.hid (path_all HX.out HNE.out)
  have HLN := Lib.hid (path_hops HX.out HNE.out)
  obtain ⟨lI, hI, I5⟩ : ∃ lo hi, Hid (Ints lo hi w4 AI5 xs.length kI5 xs) := ⟨_, _, I5⟩
  have HES := Lib.hid (dirOk_iff.1 HD.out).1
  have hc5 := I5.out.2.2.1
  unfold maxLen at hc5
  have hc6 := I5.out.2.1
  clear I6 HNE HX hx0
  obtain ⟨V00, V01, V0f⟩ := V0.out.1.cells
  go_wp2
  clear V00 V01 V0f
  go_loopw [8, 9] (fun i _ wr => ∃ t : Nat, t ≤ xs.length ∧ i = .int .i64 t ∧ Hid (Vd w.heap.size wr w1.heap.size ep A0 k0 es) ∧ Hid (Ints lI hI wr AI5 xs.length kI5 xs) ∧ Hid (Below w.heap.size w wr)) (fun i _ _ => xs.length - (intOf i).toNat)
  case atStart => exact ⟨0, Nat.zero_le _, rfl, V0.out, I5.out, B.out⟩
  case round =>
    obtain ⟨t, ht, rfl, hV, hI5, hB⟩ := hrel
    clear V0 I5 B
    by_cases hlt : t < xs.length
    · obtain ⟨j, hj, hxj, hwj, hnd⟩ := HPA.out t hlt
      have HEN : Hid (entL es (xs.getD t 0) = (j : Int)) := by show _ = _; rw [hxj]; exact ent_at HES.out hj
      have HK : Hid (hasK (xs.take t) (xs.getD t 0) = false) := lacks_all (n := t) (by rw [List.length_take]; omega) fun i hi => by rw [take_getD hi, hxj]; exact hnd i hi
      have htk : t ≤ kI5 := by omega
      have hti : (t : Int) < (xs.length : Int) := by omega
      have hji : (j : Int) < (es.length : Int) := by omega
      have V0d : Hid (Vd w.heap.size wr.drew w1.heap.size ep A0 k0 es) := hV.out
      have I5d : Hid (Ints lI hI wr.drew AI5 xs.length kI5 xs) := hI5.out
      have Bd : Hid (Below w.heap.size w wr.drew) := below_dr hB.out
      obtain ⟨V0d0, V0d1, V0df⟩ := V0d.out.1.cells
      obtain ⟨bO, oO, rfl, _, _, cO⟩ := I5d.out.at_ hlt
      clear hV hI5 hB hxj hnd
      generalize xs.getD t 0 = y at *
      go_wp2
      go_region_law (first
        | (go_simp; go_at_call 33; (with_reducible refine (entK HEN.out V0d.out.st).mono ?_); rintro e w9 ⟨rfl, hb9⟩; have V0g := Lib.hid (V0d.out.below hb9 (Nat.le_refl _)); have I5g := Lib.hid (I5d.out.below hb9 (Nat.le_refl _)); have Bg := Lib.hid (Bd.out.trans (hb9.mono Bd.out.size)); have cO9 := cO; have cOg : w9.cell? _ = _ := (hb9.cell (lt_of_cell cO9)).trans cO9; clear hb9 cO9)
        | fail)
      all_goals
        obtain ⟨g0, g1, gf⟩ := V0g.out.1.cells
        obtain ⟨bE, oE, rfl, _, _, _, c0, c1, c2⟩ := V0g.out.st.at_ hj
        have hwz : ((enAt es j).wt == 0) = false := by rw [beq_eq_false_iff_ne]; omega
        have I7 := Lib.hid (I5g.out.take ht)
        clear V0d0 V0d1 V0df cO V0d I5d Bd hwj c0 c1
        generalize (enAt es j).wt = q at *
        go_wp2
        go_quiet ((go_at_call 34; with_reducible exact quiet_eq (hasN HK.out I7.out)))
        have V0h : Hid (Vd w.heap.size (w9.drewN nq) w1.heap.size ep _ k0 es) := V0g.out
        have I5h : Hid (Ints lI hI (w9.drewN nq) _ xs.length kI5 xs) := I5g.out
        have Bh : Hid (Below w.heap.size w (w9.drewN nq)) := below_dr Bg.out
        clear V0g I5g Bg g0 g1 gf c2 I7 cOg
        go_wp2
        go_roundw
        case rel => exact ⟨t + 1, by omega, by go_num, V0h.out, I5h.out, Bh.out⟩
        case measure => simp [intOf]; omega
    · obtain rfl : t = xs.length := by omega
      have e9 : ((xs.length : Int) == h) = true := by rw [beq_iff_eq]; exact HLN.out
      clear hlt
      go_wp2
      go_ret
      exact ⟨rfl, hB.out⟩

set_option maxRecDepth 20000 in
set_option maxHeartbeats 1000000 in
theorem fnPathFirst (A : Option Addr) (n c : Nat) (w : World) (h : CodeIs w A n c) :
    Calls Try.prog 12 #[.slice A n c] w (TruePost w) := by
  have HC := Lib.hid h
  clear h
  by_cases hn : 1048576 < n
  · go_enter Try.func12, Try.ntmps12
    go_wp2
    go_ret
    exact ⟨rfl, Below.refl _ _⟩
  have B : Hid (Below w.heap.size w w) := Below.refl _ _
  go_enter Try.func12, Try.ntmps12
  go_wp2_with fail
  ((with_reducible refine (DrawDirectoryPath _ _ _ _ HC.out).mono ?_); rintro e w1 ⟨A0, k0, ep, es, s, h, rfl, hgd, ⟨hds, hb⟩, ⟨hs0, hs1⟩, hh0, hh1⟩)
  replace B := Lib.hid (B.out.trans (hb.mono B.out.size))
  have z1 := hb.size
  have R0 := Lib.hid hds.row_
  have GD := Lib.hid hgd
  clear hgd hds HC
  clear hb
  have hal : Below w1.heap.size w1 (w1.alloc (.cells #[.int .i64 ep, .slice A0 es.length k0] 25)) := (Below.refl _ _).alloc (Nat.le_refl _) _
  have V0 := Lib.hid (vd_new (ep := ep) (lo' := w.heap.size) R0.out (Nat.le_refl _) B.out.size)
  replace B := Lib.hid (B.out.trans (hal.mono B.out.size))
  have zzV0 := hal.size
  clear hal
  clear R0
  obtain ⟨xs, HX⟩ : ∃ xs, Hid (pathF ep es s h = xs) := ⟨_, rfl⟩
  obtain ⟨V00, V01, V0f⟩ := V0.out.1.cells
  go_wp2_with fail
  ((with_reducible refine (pathI HX.out V0.out.st).mono ?_); rintro e w2 ⟨AI5, kI5, rfl, ho, hb⟩)
  replace V0 := Lib.hid (V0.out.below hb (Nat.le_refl _))
  replace B := Lib.hid (B.out.trans (hb.mono B.out.size))
  have z2 := hb.size
  have I5 := Lib.hid ho.ints
  clear ho
  clear V00 V01 V0f hb
  obtain ⟨V00, V01, V0f⟩ := V0.out.1.cells
  go_wp2_with fail
  ((with_reducible refine (pathS HX.out V0.out.st).mono ?_); rintro e w3 ⟨AI6, kI6, rfl, ho, hb⟩)
  replace V0 := Lib.hid (V0.out.below hb (Nat.le_refl _))
  replace I5 := Lib.hid (I5.out.below hb (Nat.le_refl _))
  replace B := Lib.hid (B.out.trans (hb.mono B.out.size))
  have z3 := hb.size
  have I6 := Lib.hid ho.ints
  clear ho
  clear V00 V01 V0f hb
  go_wp2_with fail
  ((with_reducible refine (sameK I5.out I6.out).mono ?_); rintro e w4 ⟨rfl, hb⟩)
  replace V0 := Lib.hid (V0.out.below hb (Nat.le_refl _))
  replace I5 := Lib.hid (I5.out.below hb (Nat.le_refl _))
  replace I6 := Lib.hid (I6.out.below hb (Nat.le_refl _))
  replace B := Lib.hid (B.out.trans (hb.mono B.out.size))
  have z4 := hb.size
  clear hb
  by_cases hx0 : xs.length = 0
  · have e0 : ((xs.length : Int) == 0) = true := by rw [hx0]; rfl
    clear hx0
    go_wp2_with fail
    ((with_reducible refine (sameK I5.out I6.out).mono ?_); rintro e w5 ⟨rfl, hb⟩)
    replace V0 := Lib.hid (V0.out.below hb (Nat.le_refl _))
    replace I5 := Lib.hid (I5.out.below hb (Nat.le_refl _))
    replace I6 := Lib.hid (I6.out.below hb (Nat.le_refl _))
    replace B := Lib.hid (B.out.trans (hb.mono B.out.size))
    have z5 := hb.size
    clear hb
    go_wp2
    go_ret
    exact ⟨rfl, B.out⟩
  have e0 : ((xs.length : Int) == 0) = false := by rw [beq_eq_false_iff_ne]; omega
  have HNE : Hid (pathF ep es s h ≠ []) := fun e => hx0 (by rw [← HX.out, e]; rfl)
  obtain ⟨HD, ⟨hs2, hs3⟩, ⟨hh2, hh3⟩, -⟩ := pathF_open HNE.out
  have HD := Lib.hid HD
  obtain ⟨j, hj, hw, hp, hn⟩ := path_first HNE.out
  rw [HX.out] at hn
  obtain ⟨hw0, hw1⟩ := wtL_max HD.out []
  have HPK : Hid (pickF ep es (s % wtL [] es) = (j : Int)) := by
    show _ = _
    rw [pickF_yes HD.out (Int.emod_nonneg _ hw), hp]
  have hm0 : 0 ≤ s % wtL [] es := Int.emod_nonneg _ hw
  have hm1 : s % wtL [] es ≤ 600 := by have := Int.emod_lt_of_pos s (show 0 < wtL [] es by omega); omega
  have htm : s.tmod (wtL [] es) = s % wtL [] es := Int.tmod_eq_emod_of_nonneg (by omega)
  have hwz : (wtL [] es == 0) = false := by simpa using hw
  have HWB := Lib.hid GD.out.2.1
  obtain ⟨wv, HSW⟩ : ∃ x, Hid (wtL [] es = x) := ⟨_, rfl⟩
  rw [HSW.out] at hw hw0 hw1 HPK hm0 hm1 hwz htm
  clear hp GD HX
  generalize s % wv = p at *
  obtain ⟨V00, V01, V0f⟩ := V0.out.1.cells
  go_upto_region 8 with (fail)
  clear V00 V01 V0f
  have V0d : Hid (Vd w.heap.size w4.drew w1.heap.size ep A0 k0 es) := V0.out
  have I5d : Hid (Ints _ _ w4.drew AI5 xs.length kI5 xs) := I5.out
  have Bd : Hid (Below w.heap.size w w4.drew) := below_dr B.out
  clear V0 I5 I6 B HNE
  obtain ⟨V0d0, V0d1, V0df⟩ := V0d.out.1.cells
  have hx1 : 0 < xs.length := by omega
  have hx2 : (0 : Int) < (xs.length : Int) := by omega
  have hji : (j : Int) < (es.length : Int) := by omega
  go_region_law (first
    | (go_simp; go_at_call 26; (with_reducible refine (pickI HPK.out V0e.out.st (by omega)).mono ?_); rintro e w9 ⟨rfl, hb9⟩; have V0g := Lib.hid (V0e.out.below hb9 (Nat.le_refl _)); have I5g := Lib.hid (I5e.out.below hb9 (Nat.le_refl _)); have Bg := Lib.hid (Be.out.trans (hb9.mono Be.out.size)); clear hb9)
    | (go_simp; go_at_call 28; (with_reducible refine (sumK HSW.out V0d.out.st HWB.out).mono ?_); rintro e w8 ⟨rfl, hb8⟩; have V0e := Lib.hid (V0d.out.below hb8 (Nat.le_refl _)); have I5e := Lib.hid (I5d.out.below hb8 (Nat.le_refl _)); have Be := Lib.hid (Bd.out.trans (hb8.mono Bd.out.size)); obtain ⟨V0e0, V0e1, V0ef⟩ := V0e.out.1.cells; clear hb8)
    | fail)
  all_goals
    obtain ⟨g0, g1, gf⟩ := V0g.out.1.cells
    obtain ⟨bE, oE, rfl, _, _, _, c0, c1, c2⟩ := V0g.out.st.at_ hj
    obtain ⟨bO, oO, rfl, _, _, cO⟩ := I5g.out.at_ hx1
    rw [hn, Nat.add_zero] at cO
    clear V0d0 V0d1 V0df V0e0 V0e1 V0ef V0d V0e I5d I5e Bd Be hn
    generalize (enAt es j).nm = nv at *
    go_wp2
    go_quiet (fail)
    go_wp2
    go_ret
    exact ⟨rfl, below_dr Bg.out⟩

end Law9
end Go.Proofs.Ytfjggpdinfidcaa
