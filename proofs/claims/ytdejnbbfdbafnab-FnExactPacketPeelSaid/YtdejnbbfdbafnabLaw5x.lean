/-
  The exact laws of chapter 5 on packets that come in, by the contracts of the functions that they call: each returns true and writes nothing that was there.
-/
import Derived.Test.YtdejnbbfdbafnabSp5c
import Derived.Test.YtdejnbbfdbafnabIm5e
import Derived.Test.YtdejnbbfdbafnabHlp6
import Derived.Test.YtdejnbbfdbafnabPo2
import Derived.Deep.RegionLaw
import Derived.Deep.RegionHeld3
namespace Go.Proofs.Ytdejnbbfdbafnab
open Go.RowKit
namespace Law5x
open Gm Mm Tm Lm Pm Po Pq Il Hlp5 Hlp6 LawB


theorem peel_len (x : Int) (p : Pkt) : (peelF x p).pk.hd.length ≤ 9 ∧ (peelF x p).pk.bd.length ≤ 6 := by
  cases h : peelOk x p
  · rw [peelF_no h]
    exact ⟨Nat.zero_le _, Nat.zero_le _⟩
  · obtain ⟨_, _, h3, _, _, h6⟩ := pktOk_iff.1 (peel_valid h).1
    omega
set_option maxRecDepth 20000 in
set_option maxHeartbeats 4000000 in
theorem fnExactPacketPeelP (x : Int) (p : Pkt) (A B : Option Addr) (c d : Nat) (w : World) (i1 : Ints 0 w.heap.size w A p.hd.length c p.hd) (i2 : Ints 0 w.heap.size w B p.bd.length d p.bd) :
    Calls Try.prog 3 #[.int .i64 x, .agg #[.int .i64 p.el, .slice A p.hd.length c, .int .i64 p.tag, .slice B p.bd.length d]] w (TruePost w) := by
  have hm1 : p.hd.length ≤ maxLen := Nat.le_trans i1.2.1 i1.2.2.1
  have hm2 : p.bd.length ≤ maxLen := Nat.le_trans i2.2.1 i2.2.2.1
  have IA := Lib.hid i1
  have IB := Lib.hid i2
  clear i1 i2
  have B0 : Hid (Below w.heap.size w w) := Below.refl _ _
  by_cases hsz : p.hd.length + p.bd.length ≤ 1048576
  case neg =>
    have hb0 : Below w.heap.size w (w.alloc (.cells #[.int .i64 p.el, .slice A p.hd.length c, .int .i64 p.tag, .slice B p.bd.length d] 24)) := (Below.refl _ _).alloc (Nat.le_refl _) _
    have BB := Lib.hid hb0
    clear hb0
    go_enter Try.func3, Try.ntmps3
    go_wp2_with fail
    ((with_reducible refine (szPacket p.el p.tag p.hd.length p.bd.length _ _ _ _ _ hm1 hm2).mono ?_); rintro e w1 ⟨rfl, hb⟩)
    rw [if_neg hsz]
    have B9 := Lib.hid (BB.out.trans (hb.mono BB.out.size))
    clear hb
    go_wp2
    go_ret
    exact ⟨rfl, B9.out⟩
  have B1 := B0
  go_enter Try.func3, Try.ntmps3
  have hal : Below w.heap.size w (w.alloc (.cells #[.int .i64 p.el, .slice A p.hd.length c, .int .i64 p.tag, .slice B p.bd.length d] 24)) := (Below.refl _ _).alloc (Nat.le_refl _) _
  have hzz : Blk (w.alloc (.cells #[.int .i64 p.el, .slice A p.hd.length c, .int .i64 p.tag, .slice B p.bd.length d] 24)) w.heap.size #[.int .i64 p.el, .slice A p.hd.length c, .int .i64 p.tag, .slice B p.bd.length d] 24 := heap_alloc_new _ _
  replace IA := Lib.hid (IA.out.below hal (Nat.le_refl _))
  replace IB := Lib.hid (IB.out.below hal (Nat.le_refl _))
  replace B1 := Lib.hid (B1.out.trans (hal.mono B1.out.size))
  have ZA := Lib.hid hzz
  clear hzz
  clear hal
  have hzA : w.heap.size < (w.alloc (.cells #[.int .i64 p.el, .slice A p.hd.length c, .int .i64 p.tag, .slice B p.bd.length d] 24)).heap.size := by simp
  obtain ⟨a0, a1, a2, a3, af⟩ := four_cells ZA.out
  go_wp2_with fail
  ((with_reducible refine (szPacket p.el p.tag p.hd.length p.bd.length _ _ _ _ _ hm1 hm2).mono ?_); rintro e w2 ⟨rfl, hb⟩)
  replace IA := Lib.hid (IA.out.below hb (Nat.le_refl _))
  replace IB := Lib.hid (IB.out.below hb (Nat.le_refl _))
  replace ZA := Lib.hid (ZA.out.below hb (Nat.le_refl _))
  replace B1 := Lib.hid (B1.out.trans (hb.mono B1.out.size))
  have z2 := hb.size
  clear hb
  clear a0 a1 a2 a3 af
  rw [if_pos hsz]
  obtain ⟨hr1, hr2⟩ := peel_len x ⟨p.el, p.hd, p.tag, p.bd⟩
  obtain ⟨a0, a1, a2, a3, af⟩ := four_cells ZA.out
  go_wp2_with fail
  ((with_reducible refine (toPacket p _ _ _ _ _ _ _ _ _ IA.out IB.out (by omega) (by omega)).mono ?_); rintro e w3 ⟨AT, ct, BT, dt, b1T, b2T, rfl, hlie, hq1T, hq2T, hb⟩)
  replace IA := Lib.hid (IA.out.below hb (Nat.le_refl _))
  replace IB := Lib.hid (IB.out.below hb (Nat.le_refl _))
  replace ZA := Lib.hid (ZA.out.below hb (Nat.le_refl _))
  replace B1 := Lib.hid (B1.out.trans (hb.mono B1.out.size))
  have z3 := hb.size
  have LT := Lib.hid hlie
  clear hlie hb
  clear a0 a1 a2 a3 af
  go_wp2_with fail
  ((with_reducible refine (Sp5.PacketPeel _ _ _ _ _ _ _ _ _ _ x p.el p.tag p.hd p.bd _ LT.out.hdr.ints LT.out.bdy.ints).mono ?_); rintro e w4 ⟨AS, cs, BS, ds, g3, g4, rfl, hlie, hg3, hg4, hb⟩)
  replace IA := Lib.hid (IA.out.below hb (Nat.le_refl _))
  replace IB := Lib.hid (IB.out.below hb (Nat.le_refl _))
  replace ZA := Lib.hid (ZA.out.below hb (Nat.le_refl _))
  replace LT := Lib.hid (LT.out.below hb (Nat.le_refl _))
  replace B1 := Lib.hid (B1.out.trans (hb.mono B1.out.size))
  have z4 := hb.size
  have LS := Lib.hid hlie
  clear hlie hb
  clear LT
  generalize hpe : peelF x ⟨p.el, p.hd, p.tag, p.bd⟩ = r at *
  have HPE := Lib.hid hpe
  generalize hoe : peelOk x ⟨p.el, p.hd, p.tag, p.bd⟩ = ok at *
  have HOE := Lib.hid hoe
  clear hpe hoe
  have e0 : (ok != ok) = false := by cases ok <;> rfl
  obtain ⟨t3, t4⟩ := lies_lt LS.out
  have T3 := Lib.hid t3
  have T4 := Lib.hid t4
  clear t3 t4
  have hal : Below w4.heap.size w4 (w4.alloc (.cells #[.int .i64 r.kind, .int .i64 r.next, .int .i64 r.pk.el, .slice AS r.pk.hd.length cs, .int .i64 r.pk.tag, .slice BS r.pk.bd.length ds] 28)) := (Below.refl _ _).alloc (Nat.le_refl _) _
  have hzz : Blk (w4.alloc (.cells #[.int .i64 r.kind, .int .i64 r.next, .int .i64 r.pk.el, .slice AS r.pk.hd.length cs, .int .i64 r.pk.tag, .slice BS r.pk.bd.length ds] 28)) w4.heap.size #[.int .i64 r.kind, .int .i64 r.next, .int .i64 r.pk.el, .slice AS r.pk.hd.length cs, .int .i64 r.pk.tag, .slice BS r.pk.bd.length ds] 28 := heap_alloc_new _ _
  replace IA := Lib.hid (IA.out.below hal (Nat.le_refl _))
  replace IB := Lib.hid (IB.out.below hal (Nat.le_refl _))
  replace ZA := Lib.hid (ZA.out.below hal (Nat.le_refl _))
  replace LS := Lib.hid (LS.out.below hal (Nat.le_refl _))
  replace B1 := Lib.hid (B1.out.trans (hal.mono B1.out.size))
  have ZS := Lib.hid hzz
  clear hzz
  clear hal
  have hzS : w4.heap.size < (w4.alloc (.cells #[.int .i64 r.kind, .int .i64 r.next, .int .i64 r.pk.el, .slice AS r.pk.hd.length cs, .int .i64 r.pk.tag, .slice BS r.pk.bd.length ds] 28)).heap.size := by simp
  obtain ⟨a0, a1, a2, a3, af⟩ := four_cells ZA.out
  go_wp2_with fail
  ((with_reducible refine (toPacket p _ _ _ _ _ _ _ _ _ IA.out IB.out (by omega) (by omega)).mono ?_); rintro e w6 ⟨AX, cx, BX, dx, b1X, b2X, rfl, hlie, hq1X, hq2X, hb⟩)
  replace IA := Lib.hid (IA.out.below hb (Nat.le_refl _))
  replace IB := Lib.hid (IB.out.below hb (Nat.le_refl _))
  replace ZA := Lib.hid (ZA.out.below hb (Nat.le_refl _))
  replace LS := Lib.hid (LS.out.below hb (Nat.le_refl _))
  replace ZS := Lib.hid (ZS.out.below hb (Nat.le_refl _))
  replace B1 := Lib.hid (B1.out.trans (hb.mono B1.out.size))
  have z6 := hb.size
  have LX := Lib.hid hlie
  clear hlie hb
  clear a0 a1 a2 a3 af
  obtain ⟨t5, t6⟩ := lies_lt LX.out
  have T5 := Lib.hid t5
  have T6 := Lib.hid t6
  clear t5 t6
  have hal : Below w6.heap.size w6 (w6.alloc (.cells #[.int .i64 p.el, .slice AX p.hd.length cx, .int .i64 p.tag, .slice BX p.bd.length dx] 26)) := (Below.refl _ _).alloc (Nat.le_refl _) _
  have hzz : Blk (w6.alloc (.cells #[.int .i64 p.el, .slice AX p.hd.length cx, .int .i64 p.tag, .slice BX p.bd.length dx] 26)) w6.heap.size #[.int .i64 p.el, .slice AX p.hd.length cx, .int .i64 p.tag, .slice BX p.bd.length dx] 26 := heap_alloc_new _ _
  replace IA := Lib.hid (IA.out.below hal (Nat.le_refl _))
  replace IB := Lib.hid (IB.out.below hal (Nat.le_refl _))
  replace ZA := Lib.hid (ZA.out.below hal (Nat.le_refl _))
  replace LS := Lib.hid (LS.out.below hal (Nat.le_refl _))
  replace ZS := Lib.hid (ZS.out.below hal (Nat.le_refl _))
  replace LX := Lib.hid (LX.out.below hal (Nat.le_refl _))
  replace B1 := Lib.hid (B1.out.trans (hal.mono B1.out.size))
  have ZX := Lib.hid hzz
  clear hzz
  clear hal
  have hzX : w6.heap.size < (w6.alloc (.cells #[.int .i64 p.el, .slice AX p.hd.length cx, .int .i64 p.tag, .slice BX p.bd.length dx] 26)).heap.size := by simp
  obtain ⟨a0, a1, a2, a3, af⟩ := four_cells ZX.out
  go_wp2_with fail
  ((with_reducible refine (Im5.PacketPeel _ _ _ _ _ _ _ _ _ _ x p.el p.tag p.hd p.bd _ LX.out.hdr.ints LX.out.bdy.ints).mono ?_); rintro e w8 ⟨AM, cm, BM, dm, g1, g2, rfl, hlie, hg1, hg2, hb⟩)
  replace IA := Lib.hid (IA.out.below hb (Nat.le_refl _))
  replace IB := Lib.hid (IB.out.below hb (Nat.le_refl _))
  replace ZA := Lib.hid (ZA.out.below hb (Nat.le_refl _))
  replace LS := Lib.hid (LS.out.below hb (Nat.le_refl _))
  replace ZS := Lib.hid (ZS.out.below hb (Nat.le_refl _))
  replace LX := Lib.hid (LX.out.below hb (Nat.le_refl _))
  replace ZX := Lib.hid (ZX.out.below hb (Nat.le_refl _))
  replace B1 := Lib.hid (B1.out.trans (hb.mono B1.out.size))
  have z8 := hb.size
  have LM := Lib.hid hlie
  clear hlie hb
  clear a0 a1 a2 a3 af
  rw [HPE.out] at LM ⊢
  rw [HOE.out]
  obtain ⟨t1, t2⟩ := lies_lt LM.out
  have T1 := Lib.hid t1
  have T2 := Lib.hid t2
  clear t1 t2
  have hal : Below w8.heap.size w8 (w8.alloc (.cells #[.int .i64 r.kind, .int .i64 r.next, .int .i64 r.pk.el, .slice AM r.pk.hd.length cm, .int .i64 r.pk.tag, .slice BM r.pk.bd.length dm] 28)) := (Below.refl _ _).alloc (Nat.le_refl _) _
  have hzz : Blk (w8.alloc (.cells #[.int .i64 r.kind, .int .i64 r.next, .int .i64 r.pk.el, .slice AM r.pk.hd.length cm, .int .i64 r.pk.tag, .slice BM r.pk.bd.length dm] 28)) w8.heap.size #[.int .i64 r.kind, .int .i64 r.next, .int .i64 r.pk.el, .slice AM r.pk.hd.length cm, .int .i64 r.pk.tag, .slice BM r.pk.bd.length dm] 28 := heap_alloc_new _ _
  replace IA := Lib.hid (IA.out.below hal (Nat.le_refl _))
  replace IB := Lib.hid (IB.out.below hal (Nat.le_refl _))
  replace ZA := Lib.hid (ZA.out.below hal (Nat.le_refl _))
  replace LS := Lib.hid (LS.out.below hal (Nat.le_refl _))
  replace ZS := Lib.hid (ZS.out.below hal (Nat.le_refl _))
  replace LX := Lib.hid (LX.out.below hal (Nat.le_refl _))
  replace ZX := Lib.hid (ZX.out.below hal (Nat.le_refl _))
  replace LM := Lib.hid (LM.out.below hal (Nat.le_refl _))
  replace B1 := Lib.hid (B1.out.trans (hal.mono B1.out.size))
  have ZM := Lib.hid hzz
  clear hzz
  clear hal
  have hzM : w8.heap.size < (w8.alloc (.cells #[.int .i64 r.kind, .int .i64 r.next, .int .i64 r.pk.el, .slice AM r.pk.hd.length cm, .int .i64 r.pk.tag, .slice BM r.pk.bd.length dm] 28)).heap.size := by simp
  obtain ⟨m0, m1, m2, m3, m4, m5, mf⟩ := six_cells ZM.out
  obtain ⟨s0, s1, s2, s3, s4, s5, sf⟩ := six_cells ZS.out
  go_wp2_with fail
  ((with_reducible refine (eqPeeled r _ _ _ _ _ _ _ _ _ _ _ _ _ _ _ _ _ LM.out.hdr.ints LM.out.bdy.ints LS.out.hdr.ints LS.out.bdy.ints).mono ?_); rintro e w10 ⟨rfl, hb⟩)
  replace IA := Lib.hid (IA.out.below hb (Nat.le_refl _))
  replace IB := Lib.hid (IB.out.below hb (Nat.le_refl _))
  replace ZA := Lib.hid (ZA.out.below hb (Nat.le_refl _))
  replace LS := Lib.hid (LS.out.below hb (Nat.le_refl _))
  replace ZS := Lib.hid (ZS.out.below hb (Nat.le_refl _))
  replace LX := Lib.hid (LX.out.below hb (Nat.le_refl _))
  replace ZX := Lib.hid (ZX.out.below hb (Nat.le_refl _))
  replace LM := Lib.hid (LM.out.below hb (Nat.le_refl _))
  replace ZM := Lib.hid (ZM.out.below hb (Nat.le_refl _))
  replace B1 := Lib.hid (B1.out.trans (hb.mono B1.out.size))
  have z10 := hb.size
  clear hb
  clear m0 m1 m2 m3 m4 m5 mf s0 s1 s2 s3 s4 s5 sf
  have hrf : Below w10.heap.size w10 w10 := Below.refl _ _
  have SA : Hid (w10.drew.cell? ⟨w6.heap.size, 0, none⟩ = some (.int .i64 p.el) ∧ w10.drew.cell? ⟨w6.heap.size, 1, none⟩ = some (.slice AX p.hd.length cx) ∧ w10.drew.cell? ⟨w6.heap.size, 2, none⟩ = some (.int .i64 p.tag) ∧ w10.drew.cell? ⟨w6.heap.size, 3, none⟩ = some (.slice BX p.bd.length dx) ∧ w10.drew.cell? ⟨w.heap.size, 0, none⟩ = some (.int .i64 p.el) ∧ w10.drew.cell? ⟨w.heap.size, 1, none⟩ = some (.slice A p.hd.length c) ∧ w10.drew.cell? ⟨w.heap.size, 2, none⟩ = some (.int .i64 p.tag) ∧ w10.drew.cell? ⟨w.heap.size, 3, none⟩ = some (.slice B p.bd.length d)) := Lib.hid (show (w10.cell? ⟨w6.heap.size, 0, none⟩ = some (.int .i64 p.el) ∧ w10.cell? ⟨w6.heap.size, 1, none⟩ = some (.slice AX p.hd.length cx) ∧ w10.cell? ⟨w6.heap.size, 2, none⟩ = some (.int .i64 p.tag) ∧ w10.cell? ⟨w6.heap.size, 3, none⟩ = some (.slice BX p.bd.length dx) ∧ w10.cell? ⟨w.heap.size, 0, none⟩ = some (.int .i64 p.el) ∧ w10.cell? ⟨w.heap.size, 1, none⟩ = some (.slice A p.hd.length c) ∧ w10.cell? ⟨w.heap.size, 2, none⟩ = some (.int .i64 p.tag) ∧ w10.cell? ⟨w.heap.size, 3, none⟩ = some (.slice B p.bd.length d)) from ⟨(four_cells (ZX.out.below hrf (Nat.le_refl _))).1, (four_cells (ZX.out.below hrf (Nat.le_refl _))).2.1, (four_cells (ZX.out.below hrf (Nat.le_refl _))).2.2.1, (four_cells (ZX.out.below hrf (Nat.le_refl _))).2.2.2.1, (four_cells (ZA.out.below hrf (Nat.le_refl _))).1, (four_cells (ZA.out.below hrf (Nat.le_refl _))).2.1, (four_cells (ZA.out.below hrf (Nat.le_refl _))).2.2.1, (four_cells (ZA.out.below hrf (Nat.le_refl _))).2.2.2.1⟩)
  clear hrf
  have IAD : Hid (Ints _ _ w10.drew A p.hd.length c p.hd) := IA.out
  have IBD : Hid (Ints _ _ w10.drew B p.bd.length d p.bd) := IB.out
  go_wp2_with fail
  go_region_held3 (fun w' => w'.cell? ⟨w6.heap.size, 0, none⟩ = some (.int .i64 p.el) ∧ w'.cell? ⟨w6.heap.size, 1, none⟩ = some (.slice AX p.hd.length cx) ∧ w'.cell? ⟨w6.heap.size, 2, none⟩ = some (.int .i64 p.tag) ∧ w'.cell? ⟨w6.heap.size, 3, none⟩ = some (.slice BX p.bd.length dx) ∧ w'.cell? ⟨w.heap.size, 0, none⟩ = some (.int .i64 p.el) ∧ w'.cell? ⟨w.heap.size, 1, none⟩ = some (.slice A p.hd.length c) ∧ w'.cell? ⟨w.heap.size, 2, none⟩ = some (.int .i64 p.tag) ∧ w'.cell? ⟨w.heap.size, 3, none⟩ = some (.slice B p.bd.length d))
    (first | with_reducible exact SA.out | with_reducible exact kB | with_reducible exact kC)
    (first
    | (go_at_call 13; refine (toPacket p _ _ _ _ _ _ _ _ _ IAD.out IBD.out (by omega) (by omega)).mono ?_; rintro e wv ⟨AU, cu, BU, du, b3, b4, rfl, hlu, hb3, hb4, hbv0⟩; have hbv : Below w10.heap.size w10 wv := below_drew hbv0; have kB : (wv.cell? ⟨w6.heap.size, 0, none⟩ = some (.int .i64 p.el) ∧ wv.cell? ⟨w6.heap.size, 1, none⟩ = some (.slice AX p.hd.length cx) ∧ wv.cell? ⟨w6.heap.size, 2, none⟩ = some (.int .i64 p.tag) ∧ wv.cell? ⟨w6.heap.size, 3, none⟩ = some (.slice BX p.bd.length dx) ∧ wv.cell? ⟨w.heap.size, 0, none⟩ = some (.int .i64 p.el) ∧ wv.cell? ⟨w.heap.size, 1, none⟩ = some (.slice A p.hd.length c) ∧ wv.cell? ⟨w.heap.size, 2, none⟩ = some (.int .i64 p.tag) ∧ wv.cell? ⟨w.heap.size, 3, none⟩ = some (.slice B p.bd.length d)) := ⟨(four_cells (ZX.out.below hbv (Nat.le_refl _))).1, (four_cells (ZX.out.below hbv (Nat.le_refl _))).2.1, (four_cells (ZX.out.below hbv (Nat.le_refl _))).2.2.1, (four_cells (ZX.out.below hbv (Nat.le_refl _))).2.2.2.1, (four_cells (ZA.out.below hbv (Nat.le_refl _))).1, (four_cells (ZA.out.below hbv (Nat.le_refl _))).2.1, (four_cells (ZA.out.below hbv (Nat.le_refl _))).2.2.1, (four_cells (ZA.out.below hbv (Nat.le_refl _))).2.2.2.1⟩; have lx := LX.out.below hbv (Nat.le_refl _))
    | (go_at_call 16; refine (eqPacket p _ _ _ _ _ _ _ _ _ _ _ _ _ _ _ _ _ lx.hdr.ints lx.bdy.ints hlu.hdr.ints hlu.bdy.ints).mono ?_; rintro e wz ⟨rfl, hbz⟩; have hbw := hbv.trans (hbz.mono hbv.size); have kC : (wz.cell? ⟨w6.heap.size, 0, none⟩ = some (.int .i64 p.el) ∧ wz.cell? ⟨w6.heap.size, 1, none⟩ = some (.slice AX p.hd.length cx) ∧ wz.cell? ⟨w6.heap.size, 2, none⟩ = some (.int .i64 p.tag) ∧ wz.cell? ⟨w6.heap.size, 3, none⟩ = some (.slice BX p.bd.length dx) ∧ wz.cell? ⟨w.heap.size, 0, none⟩ = some (.int .i64 p.el) ∧ wz.cell? ⟨w.heap.size, 1, none⟩ = some (.slice A p.hd.length c) ∧ wz.cell? ⟨w.heap.size, 2, none⟩ = some (.int .i64 p.tag) ∧ wz.cell? ⟨w.heap.size, 3, none⟩ = some (.slice B p.bd.length d)) := ⟨(four_cells (ZX.out.below hbw (Nat.le_refl _))).1, (four_cells (ZX.out.below hbw (Nat.le_refl _))).2.1, (four_cells (ZX.out.below hbw (Nat.le_refl _))).2.2.1, (four_cells (ZX.out.below hbw (Nat.le_refl _))).2.2.2.1, (four_cells (ZA.out.below hbw (Nat.le_refl _))).1, (four_cells (ZA.out.below hbw (Nat.le_refl _))).2.1, (four_cells (ZA.out.below hbw (Nat.le_refl _))).2.2.1, (four_cells (ZA.out.below hbw (Nat.le_refl _))).2.2.2.1⟩))
  all_goals
    replace IA := Lib.hid (IA.out.below hbw (Nat.le_refl _))
    replace IB := Lib.hid (IB.out.below hbw (Nat.le_refl _))
    replace ZA := Lib.hid (ZA.out.below hbw (Nat.le_refl _))
    replace LS := Lib.hid (LS.out.below hbw (Nat.le_refl _))
    replace ZS := Lib.hid (ZS.out.below hbw (Nat.le_refl _))
    replace LX := Lib.hid (LX.out.below hbw (Nat.le_refl _))
    replace ZX := Lib.hid (ZX.out.below hbw (Nat.le_refl _))
    replace LM := Lib.hid (LM.out.below hbw (Nat.le_refl _))
    replace ZM := Lib.hid (ZM.out.below hbw (Nat.le_refl _))
    replace B1 := Lib.hid (B1.out.trans (hbw.mono B1.out.size))
    have zz := hbw.size
    clear hbv hbv0 hbw hbz kB kC lx hlu SA IAD IBD
    have hne := LX.out.2.2
    have hBs := B1.out.size
    obtain ⟨m0, m1, m2, m3, mf⟩ := four_cells ZX.out
    go_wp2_with fail
    ((with_reducible refine (markPacket _ _ _ _ _ _ _ _ _ _ _ _ 1 _ LX.out.hdr LX.out.bdy hne (by omega) (by omega) (by omega) (by omega)).mono ?_); rintro e w41 ⟨rfl, mk1, mk2, hk⟩)
    clear m0 m1 m2 m3 mf mk1 mk2
    replace IA := Lib.hid (ints_kept2 IA.out hk (fun _ => by omega) (fun _ => by omega))
    replace IB := Lib.hid (ints_kept2 IB.out hk (fun _ => by omega) (fun _ => by omega))
    replace LS := Lib.hid (lies_kept2 LS.out hk (fun h => by have := T3.out h; exact ⟨fun _ => by omega, fun _ => by omega⟩) (fun h => by have := T4.out h; exact ⟨fun _ => by omega, fun _ => by omega⟩))
    replace LM := Lib.hid (lies_kept2 LM.out hk (fun h => ⟨fun h1 => by have := T5.out h1; omega, fun h1 => by have := T6.out h1; omega⟩) (fun h => ⟨fun h1 => by have := T5.out h1; omega, fun h1 => by have := T6.out h1; omega⟩))
    replace ZA := Lib.hid (blk_kept2 ZA.out hk (fun _ => by omega) (fun _ => by omega))
    replace ZS := Lib.hid (blk_kept2 ZS.out hk (fun _ => by omega) (fun _ => by omega))
    replace ZM := Lib.hid (blk_kept2 ZM.out hk (fun h => by have := T5.out h; omega) (fun h => by have := T6.out h; omega))
    replace B1 := Lib.hid (below_kept2 B1.out hk hBs (by omega) (by omega))
    have z41 := hk.size
    clear hk hne hBs LX ZX
    obtain ⟨m0, m1, m2, m3, m4, m5, mf⟩ := six_cells ZM.out
    obtain ⟨s0, s1, s2, s3, s4, s5, sf⟩ := six_cells ZS.out
    go_wp2_with fail
    ((with_reducible refine (eqPeeled r _ _ _ _ _ _ _ _ _ _ _ _ _ _ _ _ _ LM.out.hdr.ints LM.out.bdy.ints LS.out.hdr.ints LS.out.bdy.ints).mono ?_); rintro e w42 ⟨rfl, hb⟩)
    replace IA := Lib.hid (IA.out.below hb (Nat.le_refl _))
    replace IB := Lib.hid (IB.out.below hb (Nat.le_refl _))
    replace ZA := Lib.hid (ZA.out.below hb (Nat.le_refl _))
    replace LS := Lib.hid (LS.out.below hb (Nat.le_refl _))
    replace ZS := Lib.hid (ZS.out.below hb (Nat.le_refl _))
    replace LM := Lib.hid (LM.out.below hb (Nat.le_refl _))
    replace ZM := Lib.hid (ZM.out.below hb (Nat.le_refl _))
    replace B1 := Lib.hid (B1.out.trans (hb.mono B1.out.size))
    have z42 := hb.size
    clear hb
    clear m0 m1 m2 m3 m4 m5 mf s0 s1 s2 s3 s4 s5 sf
    have hne := LM.out.2.2
    have hBs := B1.out.size
    obtain ⟨m0, m1, m2, m3, m4, m5, mf⟩ := six_cells ZM.out
    go_wp2_with fail
    ((with_reducible refine (markPeeled _ _ _ _ _ _ _ _ _ _ _ _ _ _ 1 _ LM.out.hdr LM.out.bdy hne (by omega) (by omega) (by omega) (by omega)).mono ?_); rintro e w43 ⟨rfl, mk1, mk2, hk⟩)
    clear m0 m1 m2 m3 m4 m5 mf
    replace IA := Lib.hid (ints_kept2 IA.out hk (fun _ => by omega) (fun _ => by omega))
    replace IB := Lib.hid (ints_kept2 IB.out hk (fun _ => by omega) (fun _ => by omega))
    replace LS := Lib.hid (lies_kept2 LS.out hk (fun h => by have := T3.out h; exact ⟨fun _ => by omega, fun _ => by omega⟩) (fun h => by have := T4.out h; exact ⟨fun _ => by omega, fun _ => by omega⟩))
    replace ZA := Lib.hid (blk_kept2 ZA.out hk (fun _ => by omega) (fun _ => by omega))
    replace ZS := Lib.hid (blk_kept2 ZS.out hk (fun _ => by omega) (fun _ => by omega))
    replace ZM := Lib.hid (blk_kept2 ZM.out hk (fun h => by have := T1.out h; omega) (fun h => by have := T2.out h; omega))
    replace B1 := Lib.hid (below_kept2 B1.out hk hBs (by omega) (by omega))
    have z43 := hk.size
    have OP := Lib.hid mk1
    have OQ := Lib.hid mk2
    clear mk1 mk2 hk hne hBs LM
    obtain ⟨m0, m1, m2, m3, m4, m5, mf⟩ := six_cells ZM.out
    go_wp2_with fail
    ((with_reducible refine (heldPeeled _ _ _ _ _ _ _ _ _ _ _ _ _ _ 1 _ OP.out.ints OQ.out.ints (by omega) (by omega) (by omega) (by omega)).mono ?_); rintro e w44 ⟨rfl, hb⟩)
    replace IA := Lib.hid (IA.out.below hb (Nat.le_refl _))
    replace IB := Lib.hid (IB.out.below hb (Nat.le_refl _))
    replace ZA := Lib.hid (ZA.out.below hb (Nat.le_refl _))
    replace LS := Lib.hid (LS.out.below hb (Nat.le_refl _))
    replace ZS := Lib.hid (ZS.out.below hb (Nat.le_refl _))
    replace ZM := Lib.hid (ZM.out.below hb (Nat.le_refl _))
    replace OP := Lib.hid (OP.out.below hb (Nat.le_refl _))
    replace OQ := Lib.hid (OQ.out.below hb (Nat.le_refl _))
    replace B1 := Lib.hid (B1.out.trans (hb.mono B1.out.size))
    have z44 := hb.size
    clear hb
    clear m0 m1 m2 m3 m4 m5 mf
    obtain ⟨a0, a1, a2, a3, af⟩ := four_cells ZA.out
    go_wp2_with fail
    ((with_reducible refine (toPacket p _ _ _ _ _ _ _ _ _ IA.out IB.out (by omega) (by omega)).mono ?_); rintro e w45 ⟨AV, cv, BV, dv, b1V, b2V, rfl, hlie, hq1V, hq2V, hb⟩)
    replace IA := Lib.hid (IA.out.below hb (Nat.le_refl _))
    replace IB := Lib.hid (IB.out.below hb (Nat.le_refl _))
    replace ZA := Lib.hid (ZA.out.below hb (Nat.le_refl _))
    replace LS := Lib.hid (LS.out.below hb (Nat.le_refl _))
    replace ZS := Lib.hid (ZS.out.below hb (Nat.le_refl _))
    replace ZM := Lib.hid (ZM.out.below hb (Nat.le_refl _))
    replace OP := Lib.hid (OP.out.below hb (Nat.le_refl _))
    replace OQ := Lib.hid (OQ.out.below hb (Nat.le_refl _))
    replace B1 := Lib.hid (B1.out.trans (hb.mono B1.out.size))
    have z45 := hb.size
    have LV := Lib.hid hlie
    clear hlie hb
    clear a0 a1 a2 a3 af
    go_wp2_with fail
    ((with_reducible refine (Im5.PacketPeel _ _ _ _ _ _ _ _ _ _ x p.el p.tag p.hd p.bd _ LV.out.hdr.ints LV.out.bdy.ints).mono ?_); rintro e w46 ⟨AH, ch, BH, dh, g5, g6, rfl, hlie, hg5, hg6, hb⟩)
    replace IA := Lib.hid (IA.out.below hb (Nat.le_refl _))
    replace IB := Lib.hid (IB.out.below hb (Nat.le_refl _))
    replace ZA := Lib.hid (ZA.out.below hb (Nat.le_refl _))
    replace LS := Lib.hid (LS.out.below hb (Nat.le_refl _))
    replace ZS := Lib.hid (ZS.out.below hb (Nat.le_refl _))
    replace ZM := Lib.hid (ZM.out.below hb (Nat.le_refl _))
    replace OP := Lib.hid (OP.out.below hb (Nat.le_refl _))
    replace OQ := Lib.hid (OQ.out.below hb (Nat.le_refl _))
    replace LV := Lib.hid (LV.out.below hb (Nat.le_refl _))
    replace B1 := Lib.hid (B1.out.trans (hb.mono B1.out.size))
    have z46 := hb.size
    have LH := Lib.hid hlie
    clear hlie hb
    rw [HPE.out] at LH ⊢
    rw [HOE.out]
    clear LV
    have hal : Below w46.heap.size w46 (w46.alloc (.cells #[.int .i64 r.kind, .int .i64 r.next, .int .i64 r.pk.el, .slice AH r.pk.hd.length ch, .int .i64 r.pk.tag, .slice BH r.pk.bd.length dh] 28)) := (Below.refl _ _).alloc (Nat.le_refl _) _
    have hzz : Blk (w46.alloc (.cells #[.int .i64 r.kind, .int .i64 r.next, .int .i64 r.pk.el, .slice AH r.pk.hd.length ch, .int .i64 r.pk.tag, .slice BH r.pk.bd.length dh] 28)) w46.heap.size #[.int .i64 r.kind, .int .i64 r.next, .int .i64 r.pk.el, .slice AH r.pk.hd.length ch, .int .i64 r.pk.tag, .slice BH r.pk.bd.length dh] 28 := heap_alloc_new _ _
    replace IA := Lib.hid (IA.out.below hal (Nat.le_refl _))
    replace IB := Lib.hid (IB.out.below hal (Nat.le_refl _))
    replace ZA := Lib.hid (ZA.out.below hal (Nat.le_refl _))
    replace LS := Lib.hid (LS.out.below hal (Nat.le_refl _))
    replace ZS := Lib.hid (ZS.out.below hal (Nat.le_refl _))
    replace ZM := Lib.hid (ZM.out.below hal (Nat.le_refl _))
    replace OP := Lib.hid (OP.out.below hal (Nat.le_refl _))
    replace OQ := Lib.hid (OQ.out.below hal (Nat.le_refl _))
    replace LH := Lib.hid (LH.out.below hal (Nat.le_refl _))
    replace B1 := Lib.hid (B1.out.trans (hal.mono B1.out.size))
    have ZH := Lib.hid hzz
    clear hzz
    clear hal
    obtain ⟨m0, m1, m2, m3, m4, m5, mf⟩ := six_cells ZH.out
    obtain ⟨s0, s1, s2, s3, s4, s5, sf⟩ := six_cells ZS.out
    go_wp2_with fail
    ((with_reducible refine (eqPeeled r _ _ _ _ _ _ _ _ _ _ _ _ _ _ _ _ _ LH.out.hdr.ints LH.out.bdy.ints LS.out.hdr.ints LS.out.bdy.ints).mono ?_); rintro e w48 ⟨rfl, hb⟩)
    replace IA := Lib.hid (IA.out.below hb (Nat.le_refl _))
    replace IB := Lib.hid (IB.out.below hb (Nat.le_refl _))
    replace ZA := Lib.hid (ZA.out.below hb (Nat.le_refl _))
    replace LS := Lib.hid (LS.out.below hb (Nat.le_refl _))
    replace ZS := Lib.hid (ZS.out.below hb (Nat.le_refl _))
    replace ZM := Lib.hid (ZM.out.below hb (Nat.le_refl _))
    replace OP := Lib.hid (OP.out.below hb (Nat.le_refl _))
    replace OQ := Lib.hid (OQ.out.below hb (Nat.le_refl _))
    replace LH := Lib.hid (LH.out.below hb (Nat.le_refl _))
    replace ZH := Lib.hid (ZH.out.below hb (Nat.le_refl _))
    replace B1 := Lib.hid (B1.out.trans (hb.mono B1.out.size))
    have z48 := hb.size
    clear hb
    clear m0 m1 m2 m3 m4 m5 mf s0 s1 s2 s3 s4 s5 sf
    obtain ⟨m0, m1, m2, m3, m4, m5, mf⟩ := six_cells ZM.out
    go_wp2_with fail
    ((with_reducible refine (heldPeeled _ _ _ _ _ _ _ _ _ _ _ _ _ _ 1 _ OP.out.ints OQ.out.ints (by omega) (by omega) (by omega) (by omega)).mono ?_); rintro e w49 ⟨rfl, hb⟩)
    replace IA := Lib.hid (IA.out.below hb (Nat.le_refl _))
    replace IB := Lib.hid (IB.out.below hb (Nat.le_refl _))
    replace ZA := Lib.hid (ZA.out.below hb (Nat.le_refl _))
    replace LS := Lib.hid (LS.out.below hb (Nat.le_refl _))
    replace ZS := Lib.hid (ZS.out.below hb (Nat.le_refl _))
    replace ZM := Lib.hid (ZM.out.below hb (Nat.le_refl _))
    replace OP := Lib.hid (OP.out.below hb (Nat.le_refl _))
    replace OQ := Lib.hid (OQ.out.below hb (Nat.le_refl _))
    replace LH := Lib.hid (LH.out.below hb (Nat.le_refl _))
    replace ZH := Lib.hid (ZH.out.below hb (Nat.le_refl _))
    replace B1 := Lib.hid (B1.out.trans (hb.mono B1.out.size))
    have z49 := hb.size
    clear hb
    clear m0 m1 m2 m3 m4 m5 mf
    go_wp2
    go_ret
    exact ⟨rfl, B1.out⟩

end Law5x
end Go.Proofs.Ytdejnbbfdbafnab
