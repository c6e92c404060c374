/-
  The exact laws of chapter 5 on packets that come in, by the contracts of the functions that they call: each returns true and writes nothing that was there.
-/
import Derived.Test.YtdejnbbfdbafnaaSp5c
import Derived.Test.YtdejnbbfdbafnaaIm5e
import Derived.Test.YtdejnbbfdbafnaaHlp6
import Derived.Test.YtdejnbbfdbafnaaPo2
import Derived.Deep.RegionLaw
import Derived.Deep.RegionHeld3
namespace Go.Proofs.Ytdejnbbfdbafnaa
open Go.RowKit
namespace Law5x
open Gm Mm Tm Lm Pm Po Pq Il Hlp5 Hlp6 LawB

set_option maxHeartbeats 2000000 in
theorem fnExactPacketValidP (p : Pkt) (A B : Option Addr) (c d : Nat) (w : World) (i1 : Ints 0 w.heap.size w A p.hd.length c p.hd) (i2 : Ints 0 w.heap.size w B p.bd.length d p.bd) :
    Calls Try.prog 9 #[.agg #[.int .i64 p.el, .slice A p.hd.length c, .int .i64 p.tag, .slice B p.bd.length d]] w (TruePost w) := by
  have hm1 : p.hd.length ≤ maxLen := Nat.le_trans i1.2.1 i1.2.2.1
  have hm2 : p.bd.length ≤ maxLen := Nat.le_trans i2.2.1 i2.2.2.1
  have IA := Lib.hid i1
  have IB := Lib.hid i2
  clear i1 i2
  have B0 : Hid (Below w.heap.size w w) := Below.refl _ _
  by_cases hsz : p.hd.length + p.bd.length ≤ 1048576
  case neg =>
    have hb0 : Below w.heap.size w (w.alloc (.cells #[.int .i64 p.el, .slice A p.hd.length c, .int .i64 p.tag, .slice B p.bd.length d] 46)) := (Below.refl _ _).alloc (Nat.le_refl _) _
    have BB := Lib.hid hb0
    clear hb0
    go_enter Try.func9, Try.ntmps9
    go_wp2_with fail
    ((with_reducible refine (szPacket p.el p.tag p.hd.length p.bd.length _ _ _ _ _ hm1 hm2).mono ?_); rintro e w1 ⟨rfl, hb⟩)
    rw [if_neg hsz]
    have B9 := Lib.hid (BB.out.trans (hb.mono BB.out.size))
    clear hb
    go_wp2
    go_ret
    exact ⟨rfl, B9.out⟩
  have B1 := B0
  go_enter Try.func9, Try.ntmps9
  have hal : Below w.heap.size w (w.alloc (.cells #[.int .i64 p.el, .slice A p.hd.length c, .int .i64 p.tag, .slice B p.bd.length d] 46)) := (Below.refl _ _).alloc (Nat.le_refl _) _
  have hzz : Blk (w.alloc (.cells #[.int .i64 p.el, .slice A p.hd.length c, .int .i64 p.tag, .slice B p.bd.length d] 46)) w.heap.size #[.int .i64 p.el, .slice A p.hd.length c, .int .i64 p.tag, .slice B p.bd.length d] 46 := heap_alloc_new _ _
  replace IA := Lib.hid (IA.out.below hal (Nat.le_refl _))
  replace IB := Lib.hid (IB.out.below hal (Nat.le_refl _))
  replace B1 := Lib.hid (B1.out.trans (hal.mono B1.out.size))
  have ZA := Lib.hid hzz
  clear hzz
  clear hal
  obtain ⟨a0, a1, a2, a3, af⟩ := four_cells ZA.out
  go_wp2_with fail
  ((with_reducible refine (szPacket p.el p.tag p.hd.length p.bd.length _ _ _ _ _ hm1 hm2).mono ?_); rintro e w2 ⟨rfl, hb⟩)
  replace IA := Lib.hid (IA.out.below hb (Nat.le_refl _))
  replace IB := Lib.hid (IB.out.below hb (Nat.le_refl _))
  replace ZA := Lib.hid (ZA.out.below hb (Nat.le_refl _))
  replace B1 := Lib.hid (B1.out.trans (hb.mono B1.out.size))
  have z2 := hb.size
  clear hb
  clear a0 a1 a2 a3 af
  rw [if_pos hsz]
  obtain ⟨a0, a1, a2, a3, af⟩ := four_cells ZA.out
  go_wp2_with fail
  ((with_reducible refine (toPacket p _ _ _ _ _ _ _ _ _ IA.out IB.out (by omega) (by omega)).mono ?_); rintro e w3 ⟨AT, ct, BT, dt, b1T, b2T, rfl, hlie, hq1T, hq2T, hb⟩)
  replace IA := Lib.hid (IA.out.below hb (Nat.le_refl _))
  replace IB := Lib.hid (IB.out.below hb (Nat.le_refl _))
  replace ZA := Lib.hid (ZA.out.below hb (Nat.le_refl _))
  replace B1 := Lib.hid (B1.out.trans (hb.mono B1.out.size))
  have z3 := hb.size
  have LT := Lib.hid hlie
  clear hlie hb
  clear a0 a1 a2 a3 af
  go_wp2_with fail
  ((with_reducible refine (Sp5.PacketValid _ _ _ _ _ _ _ _ _ _ p.el p.tag p.hd p.bd _ LT.out.hdr.ints LT.out.bdy.ints).mono ?_); rintro e w4 ⟨rfl, hb⟩)
  replace IA := Lib.hid (IA.out.below hb (Nat.le_refl _))
  replace IB := Lib.hid (IB.out.below hb (Nat.le_refl _))
  replace ZA := Lib.hid (ZA.out.below hb (Nat.le_refl _))
  replace LT := Lib.hid (LT.out.below hb (Nat.le_refl _))
  replace B1 := Lib.hid (B1.out.trans (hb.mono B1.out.size))
  have z4 := hb.size
  clear hb
  clear LT
  obtain ⟨a0, a1, a2, a3, af⟩ := four_cells ZA.out
  go_wp2_with fail
  ((with_reducible refine (toPacket p _ _ _ _ _ _ _ _ _ IA.out IB.out (by omega) (by omega)).mono ?_); rintro e w5 ⟨AX, cx, BX, dx, b1X, b2X, rfl, hlie, hq1X, hq2X, hb⟩)
  replace IA := Lib.hid (IA.out.below hb (Nat.le_refl _))
  replace IB := Lib.hid (IB.out.below hb (Nat.le_refl _))
  replace ZA := Lib.hid (ZA.out.below hb (Nat.le_refl _))
  replace B1 := Lib.hid (B1.out.trans (hb.mono B1.out.size))
  have z5 := hb.size
  have LX := Lib.hid hlie
  clear hlie hb
  clear a0 a1 a2 a3 af
  have hal : Below w5.heap.size w5 (w5.alloc (.cells #[.int .i64 p.el, .slice AX p.hd.length cx, .int .i64 p.tag, .slice BX p.bd.length dx] 27)) := (Below.refl _ _).alloc (Nat.le_refl _) _
  have hzz : Blk (w5.alloc (.cells #[.int .i64 p.el, .slice AX p.hd.length cx, .int .i64 p.tag, .slice BX p.bd.length dx] 27)) w5.heap.size #[.int .i64 p.el, .slice AX p.hd.length cx, .int .i64 p.tag, .slice BX p.bd.length dx] 27 := heap_alloc_new _ _
  replace IA := Lib.hid (IA.out.below hal (Nat.le_refl _))
  replace IB := Lib.hid (IB.out.below hal (Nat.le_refl _))
  replace ZA := Lib.hid (ZA.out.below hal (Nat.le_refl _))
  replace LX := Lib.hid (LX.out.below hal (Nat.le_refl _))
  replace B1 := Lib.hid (B1.out.trans (hal.mono B1.out.size))
  have ZX := Lib.hid hzz
  clear hzz
  clear hal
  obtain ⟨a0, a1, a2, a3, af⟩ := four_cells ZX.out
  go_wp2_with fail
  ((with_reducible refine (Im5.PacketValid _ _ _ _ _ _ _ _ _ _ p.el p.tag p.hd p.bd _ LX.out.hdr.ints LX.out.bdy.ints).mono ?_); rintro e w7 ⟨rfl, hb⟩)
  replace IA := Lib.hid (IA.out.below hb (Nat.le_refl _))
  replace IB := Lib.hid (IB.out.below hb (Nat.le_refl _))
  replace ZA := Lib.hid (ZA.out.below hb (Nat.le_refl _))
  replace LX := Lib.hid (LX.out.below hb (Nat.le_refl _))
  replace ZX := Lib.hid (ZX.out.below hb (Nat.le_refl _))
  replace B1 := Lib.hid (B1.out.trans (hb.mono B1.out.size))
  have z7 := hb.size
  clear hb
  clear a0 a1 a2 a3 af
  generalize pktOk ⟨p.el, p.hd, p.tag, p.bd⟩ = bb at *
  have e0 : (bb != bb) = false := by cases bb <;> rfl
  have hrf : Below w7.heap.size w7 w7 := Below.refl _ _
  have SA : Hid (w7.drew.cell? ⟨w5.heap.size, 0, none⟩ = some (.int .i64 p.el) ∧ w7.drew.cell? ⟨w5.heap.size, 1, none⟩ = some (.slice AX p.hd.length cx) ∧ w7.drew.cell? ⟨w5.heap.size, 2, none⟩ = some (.int .i64 p.tag) ∧ w7.drew.cell? ⟨w5.heap.size, 3, none⟩ = some (.slice BX p.bd.length dx) ∧ w7.drew.cell? ⟨w.heap.size, 0, none⟩ = some (.int .i64 p.el) ∧ w7.drew.cell? ⟨w.heap.size, 1, none⟩ = some (.slice A p.hd.length c) ∧ w7.drew.cell? ⟨w.heap.size, 2, none⟩ = some (.int .i64 p.tag) ∧ w7.drew.cell? ⟨w.heap.size, 3, none⟩ = some (.slice B p.bd.length d)) := Lib.hid (show (w7.cell? ⟨w5.heap.size, 0, none⟩ = some (.int .i64 p.el) ∧ w7.cell? ⟨w5.heap.size, 1, none⟩ = some (.slice AX p.hd.length cx) ∧ w7.cell? ⟨w5.heap.size, 2, none⟩ = some (.int .i64 p.tag) ∧ w7.cell? ⟨w5.heap.size, 3, none⟩ = some (.slice BX p.bd.length dx) ∧ w7.cell? ⟨w.heap.size, 0, none⟩ = some (.int .i64 p.el) ∧ w7.cell? ⟨w.heap.size, 1, none⟩ = some (.slice A p.hd.length c) ∧ w7.cell? ⟨w.heap.size, 2, none⟩ = some (.int .i64 p.tag) ∧ w7.cell? ⟨w.heap.size, 3, none⟩ = some (.slice B p.bd.length d)) from ⟨(four_cells (ZX.out.below hrf (Nat.le_refl _))).1, (four_cells (ZX.out.below hrf (Nat.le_refl _))).2.1, (four_cells (ZX.out.below hrf (Nat.le_refl _))).2.2.1, (four_cells (ZX.out.below hrf (Nat.le_refl _))).2.2.2.1, (four_cells (ZA.out.below hrf (Nat.le_refl _))).1, (four_cells (ZA.out.below hrf (Nat.le_refl _))).2.1, (four_cells (ZA.out.below hrf (Nat.le_refl _))).2.2.1, (four_cells (ZA.out.below hrf (Nat.le_refl _))).2.2.2.1⟩)
  clear hrf
  have IAD : Hid (Ints _ _ w7.drew A p.hd.length c p.hd) := IA.out
  have IBD : Hid (Ints _ _ w7.drew B p.bd.length d p.bd) := IB.out
  go_wp2_with fail
  go_region_held3 (fun w' => w'.cell? ⟨w5.heap.size, 0, none⟩ = some (.int .i64 p.el) ∧ w'.cell? ⟨w5.heap.size, 1, none⟩ = some (.slice AX p.hd.length cx) ∧ w'.cell? ⟨w5.heap.size, 2, none⟩ = some (.int .i64 p.tag) ∧ w'.cell? ⟨w5.heap.size, 3, none⟩ = some (.slice BX p.bd.length dx) ∧ w'.cell? ⟨w.heap.size, 0, none⟩ = some (.int .i64 p.el) ∧ w'.cell? ⟨w.heap.size, 1, none⟩ = some (.slice A p.hd.length c) ∧ w'.cell? ⟨w.heap.size, 2, none⟩ = some (.int .i64 p.tag) ∧ w'.cell? ⟨w.heap.size, 3, none⟩ = some (.slice B p.bd.length d))
    (first | with_reducible exact SA.out | with_reducible exact kB | with_reducible exact kC)
    (first
    | (go_at_call 27; refine (toPacket p _ _ _ _ _ _ _ _ _ IAD.out IBD.out (by omega) (by omega)).mono ?_; rintro e wv ⟨AU, cu, BU, du, b3, b4, rfl, hlu, hb3, hb4, hbv0⟩; have hbv : Below w7.heap.size w7 wv := below_drew hbv0; have kB : (wv.cell? ⟨w5.heap.size, 0, none⟩ = some (.int .i64 p.el) ∧ wv.cell? ⟨w5.heap.size, 1, none⟩ = some (.slice AX p.hd.length cx) ∧ wv.cell? ⟨w5.heap.size, 2, none⟩ = some (.int .i64 p.tag) ∧ wv.cell? ⟨w5.heap.size, 3, none⟩ = some (.slice BX p.bd.length dx) ∧ wv.cell? ⟨w.heap.size, 0, none⟩ = some (.int .i64 p.el) ∧ wv.cell? ⟨w.heap.size, 1, none⟩ = some (.slice A p.hd.length c) ∧ wv.cell? ⟨w.heap.size, 2, none⟩ = some (.int .i64 p.tag) ∧ wv.cell? ⟨w.heap.size, 3, none⟩ = some (.slice B p.bd.length d)) := ⟨(four_cells (ZX.out.below hbv (Nat.le_refl _))).1, (four_cells (ZX.out.below hbv (Nat.le_refl _))).2.1, (four_cells (ZX.out.below hbv (Nat.le_refl _))).2.2.1, (four_cells (ZX.out.below hbv (Nat.le_refl _))).2.2.2.1, (four_cells (ZA.out.below hbv (Nat.le_refl _))).1, (four_cells (ZA.out.below hbv (Nat.le_refl _))).2.1, (four_cells (ZA.out.below hbv (Nat.le_refl _))).2.2.1, (four_cells (ZA.out.below hbv (Nat.le_refl _))).2.2.2.1⟩; have lx := LX.out.below hbv (Nat.le_refl _))
    | (go_at_call 28; refine (eqPacket p _ _ _ _ _ _ _ _ _ _ _ _ _ _ _ _ _ lx.hdr.ints lx.bdy.ints hlu.hdr.ints hlu.bdy.ints).mono ?_; rintro e wz ⟨rfl, hbz⟩; have hbw := hbv.trans (hbz.mono hbv.size); have kC : (wz.cell? ⟨w5.heap.size, 0, none⟩ = some (.int .i64 p.el) ∧ wz.cell? ⟨w5.heap.size, 1, none⟩ = some (.slice AX p.hd.length cx) ∧ wz.cell? ⟨w5.heap.size, 2, none⟩ = some (.int .i64 p.tag) ∧ wz.cell? ⟨w5.heap.size, 3, none⟩ = some (.slice BX p.bd.length dx) ∧ wz.cell? ⟨w.heap.size, 0, none⟩ = some (.int .i64 p.el) ∧ wz.cell? ⟨w.heap.size, 1, none⟩ = some (.slice A p.hd.length c) ∧ wz.cell? ⟨w.heap.size, 2, none⟩ = some (.int .i64 p.tag) ∧ wz.cell? ⟨w.heap.size, 3, none⟩ = some (.slice B p.bd.length d)) := ⟨(four_cells (ZX.out.below hbw (Nat.le_refl _))).1, (four_cells (ZX.out.below hbw (Nat.le_refl _))).2.1, (four_cells (ZX.out.below hbw (Nat.le_refl _))).2.2.1, (four_cells (ZX.out.below hbw (Nat.le_refl _))).2.2.2.1, (four_cells (ZA.out.below hbw (Nat.le_refl _))).1, (four_cells (ZA.out.below hbw (Nat.le_refl _))).2.1, (four_cells (ZA.out.below hbw (Nat.le_refl _))).2.2.1, (four_cells (ZA.out.below hbw (Nat.le_refl _))).2.2.2.1⟩))
  all_goals
    have B9 := Lib.hid (B1.out.trans (hbw.mono B1.out.size))
    clear hbv hbv0 hbw hbz kB kC lx hlu
    go_wp2
    go_ret
    exact ⟨rfl, B9.out.os, B9.out.tape, B9.out.output, B9.out.size, B9.out.block⟩


end Law5x
end Go.Proofs.Ytdejnbbfdbafnaa
