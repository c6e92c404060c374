/-
  The exact laws of chapter 12 (but for LoopAdd's), by the contracts of the functions that they call: each returns true and writes nothing that was there.
-/
import Derived.Test.YtdioinibjlgjfaaSp7c
import Derived.Test.YtdioinibjlgjfaaIm7d
import Derived.Test.YtdioinibjlgjfaaHd
import Derived.Test.YtdioinibjlgjfaaHlp
import Derived.Test.YtdioinibjlgjfaaIla
import Derived.Deep.Cut
namespace Go.Proofs.Ytdioinibjlgjfaa
open Go.RowKit
namespace Law7x
open Il Sl Lc Hc LawB

set_option maxRecDepth 20000 in
set_option maxHeartbeats 2000000 in
theorem fnExactLoopsValid (A : Option Addr) (n c : Nat) (xs : List Cnt) (w : World) (hx : Cnts 0 w.heap.size w A n c xs) (hw : ∀ x ∈ xs, Im7.wf x.fr ∧ Im7.wf x.to_) :
    Calls Try.prog 13 #[.slice A n c] w (TruePost w) := by
  have hc1 := hx.max_
  have hc2 := hx.cap_
  obtain rfl := hx.len_
  have IA := Lib.hid hx
  have HW := Lib.hid hw
  clear hx hw
  by_cases hbig : 1048576 < xs.length
  · go_enter Try.func13, Try.ntmps13
    go_wp2_with fail
    ((with_reducible refine (sz_no _ _ _ _ hc1 hc2 hbig).mono ?_); rintro e w1 ⟨rfl, rfl⟩)
    go_wp2
    go_ret
    exact ⟨rfl, Below.refl _ _⟩
  have hn : xs.length ≤ 1048576 := by omega
  clear hbig
  have B : Hid (Below w.heap.size w w) := Below.refl _ _
  have e0 : decide (1048576 - (xs.length : Int) < 0) = false := by simp; omega
  go_enter Try.func13, Try.ntmps13
  go_wp2_with fail
  ((with_reducible refine (sz_yes _ _ _ _ hn).mono ?_); rintro e w0 ⟨rfl, rfl⟩)
  go_wp2_with fail
  ((with_reducible refine (toLinkCountS _ _ _ _ _ xs _ IA.out hn).mono ?_); rintro e w1 ⟨AT, cT, rfl, ho, hb⟩)
  replace IA := Lib.hid (IA.out.below hb (Nat.le_refl _))
  replace B := Lib.hid (B.out.trans (hb.mono B.out.size))
  have z1 := hb.size
  have OT := Lib.hid ho
  clear ho hb
  go_wp2_with fail
  ((with_reducible refine (Sp7.LoopsValid _ _ _ _ _ xs _ OT.out.cnts).mono ?_); rintro e w2 ⟨rfl, hb⟩)
  replace IA := Lib.hid (IA.out.below hb (Nat.le_refl _))
  replace OT := Lib.hid (OT.out.below hb (Nat.le_refl _))
  replace B := Lib.hid (B.out.trans (hb.mono B.out.size))
  have z2 := hb.size
  clear hb
  go_wp2_with fail
  ((with_reducible refine (toLinkCountS _ _ _ _ _ xs _ IA.out hn).mono ?_); rintro e w3 ⟨AX, cX, rfl, ho, hb⟩)
  replace IA := Lib.hid (IA.out.below hb (Nat.le_refl _))
  replace OT := Lib.hid (OT.out.below hb (Nat.le_refl _))
  replace B := Lib.hid (B.out.trans (hb.mono B.out.size))
  have z3 := hb.size
  have OX := Lib.hid ho
  clear ho hb
  go_wp2_with fail
  ((with_reducible refine (Im7.LoopsValid _ _ _ _ _ xs _ OX.out.cnts).mono ?_); rintro e w4 ⟨rfl, hb⟩)
  replace IA := Lib.hid (IA.out.below hb (Nat.le_refl _))
  replace OT := Lib.hid (OT.out.below hb (Nat.le_refl _))
  replace OX := Lib.hid (OX.out.below hb (Nat.le_refl _))
  replace B := Lib.hid (B.out.trans (hb.mono B.out.size))
  have z4 := hb.size
  clear hb
  have e1 : (loopsOk xs != loopsOk xs) = false := by cases loopsOk xs <;> rfl
  generalize loopsOk xs = ok at *
  go_wp2_with fail
  ((with_reducible refine (toLinkCountS _ _ _ _ _ xs _ IA.out hn).mono ?_); rintro e w5 ⟨AU, cU, rfl, ho, hb⟩)
  replace IA := Lib.hid (IA.out.below hb (Nat.le_refl _))
  replace OT := Lib.hid (OT.out.below hb (Nat.le_refl _))
  replace OX := Lib.hid (OX.out.below hb (Nat.le_refl _))
  replace B := Lib.hid (B.out.trans (hb.mono B.out.size))
  have z5 := hb.size
  have OU := Lib.hid ho
  clear ho hb
  go_wp2_with fail
  ((with_reducible refine (eqLinkCountS _ _ _ _ _ _ _ _ _ _ _ OX.out.cnts OU.out.cnts).mono ?_); rintro e w6 ⟨rfl, hb⟩)
  replace IA := Lib.hid (IA.out.below hb (Nat.le_refl _))
  replace OT := Lib.hid (OT.out.below hb (Nat.le_refl _))
  replace OX := Lib.hid (OX.out.below hb (Nat.le_refl _))
  replace OU := Lib.hid (OU.out.below hb (Nat.le_refl _))
  replace B := Lib.hid (B.out.trans (hb.mono B.out.size))
  have z6 := hb.size
  clear hb
  go_wp2
  go_ret
  exact ⟨rfl, B.out⟩

set_option maxRecDepth 20000 in
set_option maxHeartbeats 2000000 in
theorem fnExactLoopRate (A : Option Addr) (n c : Nat) (xs : List Cnt) (f t : Int) (w : World) (hx : Cnts 0 w.heap.size w A n c xs) (hw : ∀ x ∈ xs, Im7.wf x.fr ∧ Im7.wf x.to_) (hf : Im7.wf f) (ht : Im7.wf t) :
    Calls Try.prog 15 #[.slice A n c, .int .i64 f, .int .i64 t] w (TruePost w) := by
  have hc1 := hx.max_
  have hc2 := hx.cap_
  obtain rfl := hx.len_
  have IA := Lib.hid hx
  have HW := Lib.hid hw
  clear hx hw
  by_cases hbig : 1048576 < xs.length
  · go_enter Try.func15, Try.ntmps15
    go_wp2_with fail
    ((with_reducible refine (sz_no _ _ _ _ hc1 hc2 hbig).mono ?_); rintro e w1 ⟨rfl, rfl⟩)
    go_wp2
    go_ret
    exact ⟨rfl, Below.refl _ _⟩
  have hn : xs.length ≤ 1048576 := by omega
  clear hbig
  have B : Hid (Below w.heap.size w w) := Below.refl _ _
  have e0 : decide (1048576 - (xs.length : Int) < 0) = false := by simp; omega
  go_enter Try.func15, Try.ntmps15
  go_wp2_with fail
  ((with_reducible refine (sz_yes _ _ _ _ hn).mono ?_); rintro e w0 ⟨rfl, rfl⟩)
  go_wp2_with fail
  ((with_reducible refine (toLinkCountS _ _ _ _ _ xs _ IA.out hn).mono ?_); rintro e w1 ⟨AT, cT, rfl, ho, hb⟩)
  replace IA := Lib.hid (IA.out.below hb (Nat.le_refl _))
  replace B := Lib.hid (B.out.trans (hb.mono B.out.size))
  have z1 := hb.size
  have OT := Lib.hid ho
  clear ho hb
  go_wp2_with fail
  ((with_reducible refine (Sp7.LoopRate _ _ _ _ _ xs f t _ OT.out.cnts).mono ?_); rintro e w2 ⟨rfl, hb⟩)
  replace IA := Lib.hid (IA.out.below hb (Nat.le_refl _))
  replace OT := Lib.hid (OT.out.below hb (Nat.le_refl _))
  replace B := Lib.hid (B.out.trans (hb.mono B.out.size))
  have z2 := hb.size
  clear hb
  go_wp2_with fail
  ((with_reducible refine (toLinkCountS _ _ _ _ _ xs _ IA.out hn).mono ?_); rintro e w3 ⟨AX, cX, rfl, ho, hb⟩)
  replace IA := Lib.hid (IA.out.below hb (Nat.le_refl _))
  replace OT := Lib.hid (OT.out.below hb (Nat.le_refl _))
  replace B := Lib.hid (B.out.trans (hb.mono B.out.size))
  have z3 := hb.size
  have OX := Lib.hid ho
  clear ho hb
  go_wp2_with fail
  ((with_reducible refine (Im7.LoopRate _ _ _ _ _ xs f t _ OX.out.cnts (by omega) hf ht).mono ?_); rintro e w4 ⟨rfl, hb⟩)
  replace IA := Lib.hid (IA.out.below hb (Nat.le_refl _))
  replace OT := Lib.hid (OT.out.below hb (Nat.le_refl _))
  replace OX := Lib.hid (OX.out.below hb (Nat.le_refl _))
  replace B := Lib.hid (B.out.trans (hb.mono B.out.size))
  have z4 := hb.size
  clear hb
  generalize (rateL xs f t).1 = r1 at *
  generalize (rateL xs f t).2 = r2 at *
  go_wp2_with fail
  ((with_reducible refine (toLinkCountS _ _ _ _ _ xs _ IA.out hn).mono ?_); rintro e w5 ⟨AU, cU, rfl, ho, hb⟩)
  replace IA := Lib.hid (IA.out.below hb (Nat.le_refl _))
  replace OT := Lib.hid (OT.out.below hb (Nat.le_refl _))
  replace OX := Lib.hid (OX.out.below hb (Nat.le_refl _))
  replace B := Lib.hid (B.out.trans (hb.mono B.out.size))
  have z5 := hb.size
  have OU := Lib.hid ho
  clear ho hb
  go_wp2_with fail
  ((with_reducible refine (eqLinkCountS _ _ _ _ _ _ _ _ _ _ _ OX.out.cnts OU.out.cnts).mono ?_); rintro e w6 ⟨rfl, hb⟩)
  replace IA := Lib.hid (IA.out.below hb (Nat.le_refl _))
  replace OT := Lib.hid (OT.out.below hb (Nat.le_refl _))
  replace OX := Lib.hid (OX.out.below hb (Nat.le_refl _))
  replace OU := Lib.hid (OU.out.below hb (Nat.le_refl _))
  replace B := Lib.hid (B.out.trans (hb.mono B.out.size))
  have z6 := hb.size
  clear hb
  go_wp2
  go_ret
  exact ⟨rfl, B.out⟩

theorem loopSuspects_y (lo hi : Nat) (A : Option Addr) (n c : Nat) (xs ys : List Cnt) (num den : Int) (w : World) (h : suspL xs num den = ys) (hx : Cnts lo hi w A n c xs) (hh : hi ≤ w.heap.size) :
    Calls Try.prog 29 #[.slice A n c, .int .i64 num, .int .i64 den] w (CntsPost ys w) := by
  subst h
  exact Im7.LoopSuspects lo hi A n c xs num den w hx hh
set_option maxRecDepth 20000 in
set_option maxHeartbeats 2000000 in
theorem fnExactLoopSuspects (A : Option Addr) (n c : Nat) (xs : List Cnt) (num den : Int) (w : World) (hx : Cnts 0 w.heap.size w A n c xs) (hw : ∀ x ∈ xs, Im7.wf x.fr ∧ Im7.wf x.to_) :
    Calls Try.prog 16 #[.slice A n c, .int .i64 num, .int .i64 den] w (TruePost w) := by
  have hc1 := hx.max_
  have hc2 := hx.cap_
  obtain rfl := hx.len_
  have IA := Lib.hid hx
  have HW := Lib.hid hw
  clear hx hw
  by_cases hbig : 1048576 < xs.length
  · go_enter Try.func16, Try.ntmps16
    go_wp2_with fail
    ((with_reducible refine (sz_no _ _ _ _ hc1 hc2 hbig).mono ?_); rintro e w1 ⟨rfl, rfl⟩)
    go_wp2
    go_ret
    exact ⟨rfl, Below.refl _ _⟩
  have hn : xs.length ≤ 1048576 := by omega
  clear hbig
  have B : Hid (Below w.heap.size w w) := Below.refl _ _
  have e0 : decide (1048576 - (xs.length : Int) < 0) = false := by simp; omega
  go_enter Try.func16, Try.ntmps16
  go_wp2_with fail
  ((with_reducible refine (sz_yes _ _ _ _ hn).mono ?_); rintro e w0 ⟨rfl, rfl⟩)
  have hsl := Im7.suspL_len xs num den
  go_wp2_with fail
  ((with_reducible refine (toLinkCountS _ _ _ _ _ xs _ IA.out hn).mono ?_); rintro e w1 ⟨AT, cT, rfl, ho, hb⟩)
  replace IA := Lib.hid (IA.out.below hb (Nat.le_refl _))
  replace B := Lib.hid (B.out.trans (hb.mono B.out.size))
  have z1 := hb.size
  have OT := Lib.hid ho
  clear ho hb
  go_wp2_with fail
  ((with_reducible refine (Sp7.LoopSuspects _ _ _ _ _ xs num den _ OT.out.cnts (by omega)).mono ?_); rintro e w2 ⟨AS, cS, rfl, ho, hb⟩)
  replace IA := Lib.hid (IA.out.below hb (Nat.le_refl _))
  replace OT := Lib.hid (OT.out.below hb (Nat.le_refl _))
  replace B := Lib.hid (B.out.trans (hb.mono B.out.size))
  have z2 := hb.size
  have OS := Lib.hid ho
  clear ho hb
  go_wp2_with fail
  ((with_reducible refine (toLinkCountS _ _ _ _ _ xs _ IA.out hn).mono ?_); rintro e w3 ⟨AX, cX, rfl, ho, hb⟩)
  replace IA := Lib.hid (IA.out.below hb (Nat.le_refl _))
  replace OT := Lib.hid (OT.out.below hb (Nat.le_refl _))
  replace OS := Lib.hid (OS.out.below hb (Nat.le_refl _))
  replace B := Lib.hid (B.out.trans (hb.mono B.out.size))
  have z3 := hb.size
  have OX := Lib.hid ho
  clear ho hb
  go_wp2_with fail
  ((with_reducible refine (Im7.LoopSuspects _ _ _ _ _ xs num den _ OX.out.cnts (by omega)).mono ?_); rintro e w4 ⟨AM, cM, rfl, ho, hb⟩)
  replace IA := Lib.hid (IA.out.below hb (Nat.le_refl _))
  replace OT := Lib.hid (OT.out.below hb (Nat.le_refl _))
  replace OS := Lib.hid (OS.out.below hb (Nat.le_refl _))
  replace OX := Lib.hid (OX.out.below hb (Nat.le_refl _))
  replace B := Lib.hid (B.out.trans (hb.mono B.out.size))
  have z4 := hb.size
  have OM := Lib.hid ho
  clear ho hb
  generalize hyx : suspL xs num den = ys at *
  have HYX := Lib.hid hyx
  clear hyx
  go_wp2_with fail
  ((with_reducible refine (eqLinkCountS _ _ _ _ _ _ _ _ _ _ _ OM.out.cnts OS.out.cnts).mono ?_); rintro e w5 ⟨rfl, hb⟩)
  replace IA := Lib.hid (IA.out.below hb (Nat.le_refl _))
  replace OT := Lib.hid (OT.out.below hb (Nat.le_refl _))
  replace OS := Lib.hid (OS.out.below hb (Nat.le_refl _))
  replace OX := Lib.hid (OX.out.below hb (Nat.le_refl _))
  replace OM := Lib.hid (OM.out.below hb (Nat.le_refl _))
  replace B := Lib.hid (B.out.trans (hb.mono B.out.size))
  have z5 := hb.size
  clear hb
  go_wp2_with fail
  ((with_reducible refine (toLinkCountS _ _ _ _ _ xs _ IA.out hn).mono ?_); rintro e w6 ⟨AU, cU, rfl, ho, hb⟩)
  replace IA := Lib.hid (IA.out.below hb (Nat.le_refl _))
  replace OT := Lib.hid (OT.out.below hb (Nat.le_refl _))
  replace OS := Lib.hid (OS.out.below hb (Nat.le_refl _))
  replace OX := Lib.hid (OX.out.below hb (Nat.le_refl _))
  replace OM := Lib.hid (OM.out.below hb (Nat.le_refl _))
  replace B := Lib.hid (B.out.trans (hb.mono B.out.size))
  have z6 := hb.size
  have OU := Lib.hid ho
  clear ho hb
  go_wp2_with fail
  ((with_reducible refine (eqLinkCountS _ _ _ _ _ _ _ _ _ _ _ OX.out.cnts OU.out.cnts).mono ?_); rintro e w7 ⟨rfl, hb⟩)
  replace IA := Lib.hid (IA.out.below hb (Nat.le_refl _))
  replace OT := Lib.hid (OT.out.below hb (Nat.le_refl _))
  replace OS := Lib.hid (OS.out.below hb (Nat.le_refl _))
  replace OX := Lib.hid (OX.out.below hb (Nat.le_refl _))
  replace OM := Lib.hid (OM.out.below hb (Nat.le_refl _))
  replace OU := Lib.hid (OU.out.below hb (Nat.le_refl _))
  replace B := Lib.hid (B.out.trans (hb.mono B.out.size))
  have z7 := hb.size
  clear hb
  go_wp2_with fail
  ((with_reducible refine (markLinkCountS _ _ _ _ _ _ 1 _ OX.out (by omega) (by omega) (by omega)).mono ?_); rintro e w8 ⟨rfl, hm, hk⟩)
  replace IA := Lib.hid (IA.out.kept hk (by omega))
  replace OT := Lib.hid (OT.out.kept hk (by omega))
  replace OS := Lib.hid (OS.out.kept hk (by omega))
  replace OM := Lib.hid (OM.out.kept hk (by omega))
  replace OU := Lib.hid (OU.out.kept hk (by omega))
  replace B := Lib.hid (B.out.trans (hk.below (by omega)))
  replace OX := Lib.hid hm
  have z8 := Nat.le_of_eq hk.size.symm
  have y8 := Nat.le_of_eq hk.size
  clear hm hk
  have e1 : decide (1 + 4 * (xs.length : Int) < 0) = false := by simp; omega
  go_wp2_with fail
  ((with_reducible refine (eqLinkCountS _ _ _ _ _ _ _ _ _ _ _ OM.out.cnts OS.out.cnts).mono ?_); rintro e w9 ⟨rfl, hb⟩)
  replace IA := Lib.hid (IA.out.below hb (Nat.le_refl _))
  replace OT := Lib.hid (OT.out.below hb (Nat.le_refl _))
  replace OS := Lib.hid (OS.out.below hb (Nat.le_refl _))
  replace OX := Lib.hid (OX.out.below hb (Nat.le_refl _))
  replace OM := Lib.hid (OM.out.below hb (Nat.le_refl _))
  replace OU := Lib.hid (OU.out.below hb (Nat.le_refl _))
  replace B := Lib.hid (B.out.trans (hb.mono B.out.size))
  have z9 := hb.size
  clear hb
  go_wp2_with fail
  ((with_reducible refine (markLinkCountS _ _ _ _ _ _ 1 _ OM.out (by omega) (by omega) (by omega)).mono ?_); rintro e w10 ⟨rfl, hm, hk⟩)
  replace IA := Lib.hid (IA.out.kept hk (by omega))
  replace OT := Lib.hid (OT.out.kept hk (by omega))
  replace OS := Lib.hid (OS.out.kept hk (by omega))
  replace OX := Lib.hid (OX.out.kept hk (by omega))
  replace OU := Lib.hid (OU.out.kept hk (by omega))
  replace B := Lib.hid (B.out.trans (hk.below (by omega)))
  replace OM := Lib.hid hm
  have z10 := Nat.le_of_eq hk.size.symm
  have y10 := Nat.le_of_eq hk.size
  clear hm hk
  have e2 : decide (1 + 4 * (ys.length : Int) < 0) = false := by simp; omega
  go_wp2_with fail
  ((with_reducible refine (heldLinkCountS _ _ _ _ _ 1 _ OM.out.cnts (by omega) (by omega) (by omega)).mono ?_); rintro e w' ⟨rfl, rfl⟩)
  go_wp2_with fail
  ((with_reducible refine (toLinkCountS _ _ _ _ _ xs _ IA.out hn).mono ?_); rintro e w12 ⟨AV, cV, rfl, ho, hb⟩)
  replace IA := Lib.hid (IA.out.below hb (Nat.le_refl _))
  replace OT := Lib.hid (OT.out.below hb (Nat.le_refl _))
  replace OS := Lib.hid (OS.out.below hb (Nat.le_refl _))
  replace OX := Lib.hid (OX.out.below hb (Nat.le_refl _))
  replace OM := Lib.hid (OM.out.below hb (Nat.le_refl _))
  replace OU := Lib.hid (OU.out.below hb (Nat.le_refl _))
  replace B := Lib.hid (B.out.trans (hb.mono B.out.size))
  have z12 := hb.size
  have OV := Lib.hid ho
  clear ho hb
  go_wp2_with fail
  ((with_reducible refine (loopSuspects_y _ _ _ _ _ xs ys num den _ HYX.out OV.out.cnts (by omega)).mono ?_); rintro e w13 ⟨AH, cH, rfl, ho, hb⟩)
  replace IA := Lib.hid (IA.out.below hb (Nat.le_refl _))
  replace OT := Lib.hid (OT.out.below hb (Nat.le_refl _))
  replace OS := Lib.hid (OS.out.below hb (Nat.le_refl _))
  replace OX := Lib.hid (OX.out.below hb (Nat.le_refl _))
  replace OM := Lib.hid (OM.out.below hb (Nat.le_refl _))
  replace OU := Lib.hid (OU.out.below hb (Nat.le_refl _))
  replace OV := Lib.hid (OV.out.below hb (Nat.le_refl _))
  replace B := Lib.hid (B.out.trans (hb.mono B.out.size))
  have z13 := hb.size
  have OH := Lib.hid ho
  clear ho hb
  go_wp2_with fail
  ((with_reducible refine (eqLinkCountS _ _ _ _ _ _ _ _ _ _ _ OH.out.cnts OS.out.cnts).mono ?_); rintro e w14 ⟨rfl, hb⟩)
  replace IA := Lib.hid (IA.out.below hb (Nat.le_refl _))
  replace OT := Lib.hid (OT.out.below hb (Nat.le_refl _))
  replace OS := Lib.hid (OS.out.below hb (Nat.le_refl _))
  replace OX := Lib.hid (OX.out.below hb (Nat.le_refl _))
  replace OM := Lib.hid (OM.out.below hb (Nat.le_refl _))
  replace OU := Lib.hid (OU.out.below hb (Nat.le_refl _))
  replace OV := Lib.hid (OV.out.below hb (Nat.le_refl _))
  replace OH := Lib.hid (OH.out.below hb (Nat.le_refl _))
  replace B := Lib.hid (B.out.trans (hb.mono B.out.size))
  have z14 := hb.size
  clear hb
  go_wp2_with fail
  ((with_reducible refine (heldLinkCountS _ _ _ _ _ 1 _ OM.out.cnts (by omega) (by omega) (by omega)).mono ?_); rintro e w' ⟨rfl, rfl⟩)
  go_wp2
  go_ret
  exact ⟨rfl, B.out⟩

theorem blamed_len (xs : List Cnt) (num den : Int) : (blamedL xs num den).length ≤ 8 := by
  rw [Im7.blamed_is]
  exact List.length_filter_le _ _
theorem loopBlamed_y (lo hi : Nat) (A : Option Addr) (n c : Nat) (xs : List Cnt) (ys : List Int) (num den : Int) (w : World) (h : blamedL xs num den = ys) (hx : Cnts lo hi w A n c xs) (hh : hi ≤ w.heap.size) (hw : ∀ x ∈ xs, Im7.wf x.fr ∧ Im7.wf x.to_) (hn : n ≤ 10000000) :
    Calls Try.prog 31 #[.slice A n c, .int .i64 num, .int .i64 den] w (NewInts w ys) := by
  subst h
  exact Im7.LoopBlamed lo hi A n c xs num den w hx hh hw hn
set_option maxRecDepth 20000 in
set_option maxHeartbeats 2000000 in
theorem fnExactLoopBlamed (A : Option Addr) (n c : Nat) (xs : List Cnt) (num den : Int) (w : World) (hx : Cnts 0 w.heap.size w A n c xs) (hw : ∀ x ∈ xs, Im7.wf x.fr ∧ Im7.wf x.to_) :
    Calls Try.prog 17 #[.slice A n c, .int .i64 num, .int .i64 den] w (TruePost w) := by
  have hc1 := hx.max_
  have hc2 := hx.cap_
  obtain rfl := hx.len_
  have IA := Lib.hid hx
  have HW := Lib.hid hw
  clear hx hw
  by_cases hbig : 1048576 < xs.length
  · go_enter Try.func17, Try.ntmps17
    go_wp2_with fail
    ((with_reducible refine (sz_no _ _ _ _ hc1 hc2 hbig).mono ?_); rintro e w1 ⟨rfl, rfl⟩)
    go_wp2
    go_ret
    exact ⟨rfl, Below.refl _ _⟩
  have hn : xs.length ≤ 1048576 := by omega
  clear hbig
  have B : Hid (Below w.heap.size w w) := Below.refl _ _
  have e0 : decide (1048576 - (xs.length : Int) < 0) = false := by simp; omega
  go_enter Try.func17, Try.ntmps17
  go_wp2_with fail
  ((with_reducible refine (sz_yes _ _ _ _ hn).mono ?_); rintro e w0 ⟨rfl, rfl⟩)
  have hsl : (blamedL xs num den).length ≤ 8 := blamed_len xs num den
  go_wp2_with fail
  ((with_reducible refine (toLinkCountS _ _ _ _ _ xs _ IA.out hn).mono ?_); rintro e w1 ⟨AT, cT, rfl, ho, hb⟩)
  replace IA := Lib.hid (IA.out.below hb (Nat.le_refl _))
  replace B := Lib.hid (B.out.trans (hb.mono B.out.size))
  have z1 := hb.size
  have OT := Lib.hid ho
  clear ho hb
  go_wp2_with fail
  ((with_reducible refine (Sp7.LoopBlamed _ _ _ _ _ xs num den _ OT.out.cnts (by omega)).mono ?_); rintro e w2 ⟨AS, cS, rfl, ho, hb⟩)
  replace IA := Lib.hid (IA.out.below hb (Nat.le_refl _))
  replace OT := Lib.hid (OT.out.below hb (Nat.le_refl _))
  replace B := Lib.hid (B.out.trans (hb.mono B.out.size))
  have z2 := hb.size
  have OS := Lib.hid ho
  clear ho hb
  go_wp2_with fail
  ((with_reducible refine (toLinkCountS _ _ _ _ _ xs _ IA.out hn).mono ?_); rintro e w3 ⟨AX, cX, rfl, ho, hb⟩)
  replace IA := Lib.hid (IA.out.below hb (Nat.le_refl _))
  replace OT := Lib.hid (OT.out.below hb (Nat.le_refl _))
  replace OS := Lib.hid (OS.out.below hb (Nat.le_refl _))
  replace B := Lib.hid (B.out.trans (hb.mono B.out.size))
  have z3 := hb.size
  have OX := Lib.hid ho
  clear ho hb
  go_wp2_with fail
  ((with_reducible refine (Im7.LoopBlamed _ _ _ _ _ xs num den _ OX.out.cnts (by omega) HW.out (by omega)).mono ?_); rintro e w4 ⟨AM, cM, rfl, ho, hb⟩)
  replace IA := Lib.hid (IA.out.below hb (Nat.le_refl _))
  replace OT := Lib.hid (OT.out.below hb (Nat.le_refl _))
  replace OS := Lib.hid (OS.out.below hb (Nat.le_refl _))
  replace OX := Lib.hid (OX.out.below hb (Nat.le_refl _))
  replace B := Lib.hid (B.out.trans (hb.mono B.out.size))
  have z4 := hb.size
  have OM := Lib.hid ho
  clear ho hb
  generalize hyx : blamedL xs num den = ys at *
  have HYX := Lib.hid hyx
  clear hyx
  go_wp2_with fail
  ((with_reducible refine (Hlp.eqIntS _ _ _ _ _ _ _ _ _ _ _ _ _ OM.out.ints OS.out.ints).mono ?_); rintro e w5 ⟨rfl, hd⟩)
  have hb0 := drew_below hd
  clear hd
  replace IA := Lib.hid (IA.out.below hb0 (Nat.le_refl _))
  replace OT := Lib.hid (OT.out.below hb0 (Nat.le_refl _))
  replace OS := Lib.hid (OS.out.below hb0 (Nat.le_refl _))
  replace OX := Lib.hid (OX.out.below hb0 (Nat.le_refl _))
  replace OM := Lib.hid (OM.out.below hb0 (Nat.le_refl _))
  replace B := Lib.hid (B.out.trans (hb0.mono B.out.size))
  have z5 := hb0.size
  clear hb0
  rw [decide_eq_true rfl]
  go_wp2_with fail
  ((with_reducible refine (toLinkCountS _ _ _ _ _ xs _ IA.out hn).mono ?_); rintro e w6 ⟨AU, cU, rfl, ho, hb⟩)
  replace IA := Lib.hid (IA.out.below hb (Nat.le_refl _))
  replace OT := Lib.hid (OT.out.below hb (Nat.le_refl _))
  replace OS := Lib.hid (OS.out.below hb (Nat.le_refl _))
  replace OX := Lib.hid (OX.out.below hb (Nat.le_refl _))
  replace OM := Lib.hid (OM.out.below hb (Nat.le_refl _))
  replace B := Lib.hid (B.out.trans (hb.mono B.out.size))
  have z6 := hb.size
  have OU := Lib.hid ho
  clear ho hb
  go_wp2_with fail
  ((with_reducible refine (eqLinkCountS _ _ _ _ _ _ _ _ _ _ _ OX.out.cnts OU.out.cnts).mono ?_); rintro e w7 ⟨rfl, hb⟩)
  replace IA := Lib.hid (IA.out.below hb (Nat.le_refl _))
  replace OT := Lib.hid (OT.out.below hb (Nat.le_refl _))
  replace OS := Lib.hid (OS.out.below hb (Nat.le_refl _))
  replace OX := Lib.hid (OX.out.below hb (Nat.le_refl _))
  replace OM := Lib.hid (OM.out.below hb (Nat.le_refl _))
  replace OU := Lib.hid (OU.out.below hb (Nat.le_refl _))
  replace B := Lib.hid (B.out.trans (hb.mono B.out.size))
  have z7 := hb.size
  clear hb
  go_wp2_with fail
  ((with_reducible refine (markLinkCountS _ _ _ _ _ _ 1 _ OX.out (by omega) (by omega) (by omega)).mono ?_); rintro e w8 ⟨rfl, hm, hk⟩)
  replace IA := Lib.hid (IA.out.kept hk (by omega))
  replace OT := Lib.hid (OT.out.kept hk (by omega))
  replace OS := Lib.hid (OS.out.kept hk (by omega))
  replace OM := Lib.hid (OM.out.kept hk (by omega))
  replace OU := Lib.hid (OU.out.kept hk (by omega))
  replace B := Lib.hid (B.out.trans (hk.below (by omega)))
  replace OX := Lib.hid hm
  have z8 := Nat.le_of_eq hk.size.symm
  have y8 := Nat.le_of_eq hk.size
  clear hm hk
  have e1 : decide (1 + 4 * (xs.length : Int) < 0) = false := by simp; omega
  go_wp2_with fail
  ((with_reducible refine (Hlp.eqIntS _ _ _ _ _ _ _ _ _ _ _ _ _ OM.out.ints OS.out.ints).mono ?_); rintro e w9 ⟨rfl, hd⟩)
  have hb0 := drew_below hd
  clear hd
  replace IA := Lib.hid (IA.out.below hb0 (Nat.le_refl _))
  replace OT := Lib.hid (OT.out.below hb0 (Nat.le_refl _))
  replace OS := Lib.hid (OS.out.below hb0 (Nat.le_refl _))
  replace OX := Lib.hid (OX.out.below hb0 (Nat.le_refl _))
  replace OM := Lib.hid (OM.out.below hb0 (Nat.le_refl _))
  replace OU := Lib.hid (OU.out.below hb0 (Nat.le_refl _))
  replace B := Lib.hid (B.out.trans (hb0.mono B.out.size))
  have z9 := hb0.size
  clear hb0
  rw [decide_eq_true rfl]
  go_wp2_with fail
  ((with_reducible refine (Hlp.markIntS _ _ _ _ _ _ 1 _ OM.out (by omega) (by omega) (by omega)).mono ?_); rintro e w10 ⟨rfl, hm, hk⟩)
  replace IA := Lib.hid (IA.out.kept hk (by omega))
  replace OT := Lib.hid (OT.out.kept hk (by omega))
  replace OS := Lib.hid (OS.out.kept hk (by omega))
  replace OX := Lib.hid (OX.out.kept hk (by omega))
  replace OU := Lib.hid (OU.out.kept hk (by omega))
  replace B := Lib.hid (B.out.trans (hk.below (by omega)))
  replace OM := Lib.hid hm
  have z10 := Nat.le_of_eq hk.size.symm
  have y10 := Nat.le_of_eq hk.size
  clear hm hk
  have e2 : decide (1 + (ys.length : Int) < 0) = false := by simp; omega
  go_wp2_with fail
  ((with_reducible refine (Hlp.heldIntS _ _ _ _ _ 1 _ OM.out.ints (by omega) (by omega) (by omega)).mono ?_); rintro e w' ⟨rfl, rfl⟩)
  go_wp2_with fail
  ((with_reducible refine (toLinkCountS _ _ _ _ _ xs _ IA.out hn).mono ?_); rintro e w12 ⟨AV, cV, rfl, ho, hb⟩)
  replace IA := Lib.hid (IA.out.below hb (Nat.le_refl _))
  replace OT := Lib.hid (OT.out.below hb (Nat.le_refl _))
  replace OS := Lib.hid (OS.out.below hb (Nat.le_refl _))
  replace OX := Lib.hid (OX.out.below hb (Nat.le_refl _))
  replace OM := Lib.hid (OM.out.below hb (Nat.le_refl _))
  replace OU := Lib.hid (OU.out.below hb (Nat.le_refl _))
  replace B := Lib.hid (B.out.trans (hb.mono B.out.size))
  have z12 := hb.size
  have OV := Lib.hid ho
  clear ho hb
  go_wp2_with fail
  ((with_reducible refine (loopBlamed_y _ _ _ _ _ xs ys num den _ HYX.out OV.out.cnts (by omega) HW.out (by omega)).mono ?_); rintro e w13 ⟨AH, cH, rfl, ho, hb⟩)
  replace IA := Lib.hid (IA.out.below hb (Nat.le_refl _))
  replace OT := Lib.hid (OT.out.below hb (Nat.le_refl _))
  replace OS := Lib.hid (OS.out.below hb (Nat.le_refl _))
  replace OX := Lib.hid (OX.out.below hb (Nat.le_refl _))
  replace OM := Lib.hid (OM.out.below hb (Nat.le_refl _))
  replace OU := Lib.hid (OU.out.below hb (Nat.le_refl _))
  replace OV := Lib.hid (OV.out.below hb (Nat.le_refl _))
  replace B := Lib.hid (B.out.trans (hb.mono B.out.size))
  have z13 := hb.size
  have OH := Lib.hid ho
  clear ho hb
  go_wp2_with fail
  ((with_reducible refine (Hlp.eqIntS _ _ _ _ _ _ _ _ _ _ _ _ _ OH.out.ints OS.out.ints).mono ?_); rintro e w14 ⟨rfl, hd⟩)
  have hb0 := drew_below hd
  clear hd
  replace IA := Lib.hid (IA.out.below hb0 (Nat.le_refl _))
  replace OT := Lib.hid (OT.out.below hb0 (Nat.le_refl _))
  replace OS := Lib.hid (OS.out.below hb0 (Nat.le_refl _))
  replace OX := Lib.hid (OX.out.below hb0 (Nat.le_refl _))
  replace OM := Lib.hid (OM.out.below hb0 (Nat.le_refl _))
  replace OU := Lib.hid (OU.out.below hb0 (Nat.le_refl _))
  replace OV := Lib.hid (OV.out.below hb0 (Nat.le_refl _))
  replace OH := Lib.hid (OH.out.below hb0 (Nat.le_refl _))
  replace B := Lib.hid (B.out.trans (hb0.mono B.out.size))
  have z14 := hb0.size
  clear hb0
  rw [decide_eq_true rfl]
  go_wp2_with fail
  ((with_reducible refine (Hlp.heldIntS _ _ _ _ _ 1 _ OM.out.ints (by omega) (by omega) (by omega)).mono ?_); rintro e w' ⟨rfl, rfl⟩)
  go_wp2
  go_ret
  exact ⟨rfl, B.out⟩

end Law7x
end Go.Proofs.Ytdioinibjlgjfaa
