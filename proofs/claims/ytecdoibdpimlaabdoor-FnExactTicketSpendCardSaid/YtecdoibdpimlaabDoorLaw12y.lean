/-
  Exact laws of chapter 31: each returns true and writes nothing that was there.
-/
import Derived.Test.YtecdoibdpimlaabDoorIm12b
import Derived.Test.YtecdoibdpimlaabDoorHt12
import Derived.Test.YtecdoibdpimlaabDoorAu12
import Derived.Test.YtecdoibdpimlaabDoorHlp
import Derived.Test.YtecdoibdpimlaabDoorIla
import Derived.Test.YtecdoibdpimlaabDoorKi
import Derived.Deep.RegionLaw
import Derived.BigQuiet
import Derived.Deep.Cut
import Derived.Deep.RegionHeld3
namespace Go.Proofs.YtecdoibdpimlaabDoor
open Go.RowKit
namespace Law12y
open Il Sl Cm Cs Gm Mm Tk LawB Hlp Sp12 Ht12

set_option maxRecDepth 20000 in
set_option maxHeartbeats 2000000 in
theorem fnExactTicketSpend (a0 a1 a2 : Addr) (A : Option Addr) (n c : Nat) (xs : List Int) (p s g : Int) (w : World) (hx : Ints 0 w.heap.size w A n c xs) (hS : Im12.Snt w a0 a1 a2) :
    Calls Tryd.prog 3 #[.slice A n c, .int .i64 p, .agg #[.int .i64 s, .int .i64 g]] w (TruePost w) := by
  have hxl := hx.len_
  by_cases hn : 1048576 < n
  · go_enter Tryd.func3, Tryd.ntmps3
    go_wp2
    go_ret
    refine ⟨rfl, ?_⟩
    repeat first
      | exact Below.refl _ _
      | refine Below.alloc ?_ (by simp; try omega) _
  have hxn : xs.length ≤ 1048576 := by omega
  have hdl : (spF xs p s g).length ≤ 20 := spF_len
  have e0 : (goB xs p s g != goB xs p s g) = false := by simp
  have hal : Below w.heap.size w (w.alloc (.cells #[.int .i64 s, .int .i64 g] 24)) := (Below.refl _ _).alloc (Nat.le_refl _) _
  have IA := Lib.hid (hx.below hal (Nat.le_refl _))
  have ZT := Lib.hid (blk_new w #[.int .i64 s, .int .i64 g] 24)
  have B := Lib.hid hal
  have HS := Lib.hid hS
  have hzt : w.heap.size < (w.alloc (.cells #[.int .i64 s, .int .i64 g] 24)).heap.size := by simp
  clear hx hal hxl hS
  go_enter Tryd.func3, Tryd.ntmps3
  go_upto_region 1 with (fail)
  generalize w.alloc (.cells #[.int .i64 s, .int .i64 g] 24) = wt at *
  obtain ⟨t0, t1, tf⟩ := two_cells ZT.out
  have hzT : w.heap.size < wt.heap.size := ZT.out.lt
  have HZ : Hid (∀ W', Below wt.heap.size wt W' → (W'.cell? ⟨w.heap.size, 0, none⟩ = some (.int .i64 s) ∧ W'.cell? ⟨w.heap.size, 1, none⟩ = some (.int .i64 g))) := fun W' hb => ⟨(hb.cell (p := ⟨w.heap.size, 0, none⟩) hzT).trans t0, (hb.cell (p := ⟨w.heap.size, 1, none⟩) hzT).trans t1⟩
  have DD : Hid (Below wt.heap.size wt wt.drew) := below_dr (Below.refl _ _) (d := 1)
  have S0 := Lib.hid (HZ.out wt.drew DD.out)
  have I0 : Hid (Ints 0 w.heap.size wt.drew A n c xs) := IA.out
  clear t0 t1 tf
  go_upto_region 3 with (fail)
  go_region_held3 (fun w' => (w'.cell? ⟨w.heap.size, 0, none⟩ = some (.int .i64 s) ∧ w'.cell? ⟨w.heap.size, 1, none⟩ = some (.int .i64 g)))
    (first | with_reducible exact S0.out | with_reducible exact s8 | with_reducible exact s9 | with_reducible exact s10 | fail)
    (first
      | (go_at_call 5; (with_reducible refine (toIntS _ _ _ _ _ xs _ I0.out (by omega)).mono ?_); rintro e wa ⟨AT9, kT9, rfl, ho1, hb1⟩; have hbA := DD.out.trans (hb1.mono DD.out.size); have s8 := HZ.out wa hbA)
      | (go_at_call 6; (with_reducible refine (toTicket s g _).mono ?_); rintro e wb ⟨rfl, hb2⟩; have hbB := hbA.trans (hb2.mono hbA.size); have s9 := HZ.out wb hbB; have ho2 := ho1.ints.below hb2 (Nat.le_refl _))
      | (go_at_call 4; (with_reducible refine (TicketSpend xs p s g _ _ _ _ _ ho2).mono ?_); rintro e wdS ⟨AS, kS, rfl, ho3, hb3⟩; have hbD := hbB.trans (hb3.mono hbB.size); have s10 := HZ.out wdS hbD)
      | fail)
  have zbS := hbB.size
  have zdS := hb3.size
  have OS := Lib.hid ho3
  replace IA := Lib.hid (IA.out.below hbD (Nat.le_refl _))
  replace ZT := Lib.hid (ZT.out.below hbD (Nat.le_refl _))
  replace B := Lib.hid (B.out.trans (hbD.mono B.out.size))
  clear hbA hbB hbD hb1 hb2 hb3 ho1 ho2 ho3 s8 s9 s10 S0 HZ DD I0 hzT
  go_wp2_with fail
  ((with_reducible refine (toIntS _ _ _ _ _ xs _ IA.out (by omega)).mono ?_); rintro e w1 ⟨AX, kX, rfl, ho, hb⟩)
  replace IA := Lib.hid (IA.out.below hb (Nat.le_refl _))
  replace ZT := Lib.hid (ZT.out.below hb (Nat.le_refl _))
  replace OS := Lib.hid (OS.out.below hb (Nat.le_refl _))
  replace B := Lib.hid (B.out.trans (hb.mono B.out.size))
  have z1 := hb.size
  have OX := Lib.hid ho
  clear ho hb
  obtain ⟨t0, t1, tf⟩ := two_cells ZT.out
  go_wp2_with fail
  ((with_reducible refine (toTicket s g _).mono ?_); rintro e w2 ⟨rfl, hb⟩)
  replace IA := Lib.hid (IA.out.below hb (Nat.le_refl _))
  replace ZT := Lib.hid (ZT.out.below hb (Nat.le_refl _))
  replace OS := Lib.hid (OS.out.below hb (Nat.le_refl _))
  replace OX := Lib.hid (OX.out.below hb (Nat.le_refl _))
  replace B := Lib.hid (B.out.trans (hb.mono B.out.size))
  have z2 := hb.size
  clear hb
  clear t0 t1 tf
  go_wp2_with fail
  ((with_reducible refine (Im12.TicketSpend a0 a1 a2 xs p s g _ _ _ _ _ OX.out.ints (HS.out.below B.out (Nat.le_refl _))).mono ?_); rintro e w3 ⟨AG, kG, rfl, ho, hb⟩)
  replace IA := Lib.hid (IA.out.below hb (Nat.le_refl _))
  replace ZT := Lib.hid (ZT.out.below hb (Nat.le_refl _))
  replace OS := Lib.hid (OS.out.below hb (Nat.le_refl _))
  replace OX := Lib.hid (OX.out.below hb (Nat.le_refl _))
  replace B := Lib.hid (B.out.trans (hb.mono B.out.size))
  have z3 := hb.size
  have OG := Lib.hid ho
  clear ho hb
  go_wp2_with fail
  ((with_reducible refine (Hlp.eqIntS _ _ _ _ _ _ _ _ _ _ _ _ _ OG.out.ints OS.out.ints).mono ?_); rintro e w4 ⟨rfl, hd⟩)
  have hb0 := drew_below hd
  clear hd
  replace IA := Lib.hid (IA.out.below hb0 (Nat.le_refl _))
  replace ZT := Lib.hid (ZT.out.below hb0 (Nat.le_refl _))
  replace OS := Lib.hid (OS.out.below hb0 (Nat.le_refl _))
  replace OX := Lib.hid (OX.out.below hb0 (Nat.le_refl _))
  replace OG := Lib.hid (OG.out.below hb0 (Nat.le_refl _))
  replace B := Lib.hid (B.out.trans (hb0.mono B.out.size))
  have z4 := hb0.size
  clear hb0
  rw [decide_eq_true rfl]
  go_wp2_with fail
  ((with_reducible refine (toIntS _ _ _ _ _ xs _ IA.out (by omega)).mono ?_); rintro e w5 ⟨AV, kV, rfl, ho, hb⟩)
  replace IA := Lib.hid (IA.out.below hb (Nat.le_refl _))
  replace ZT := Lib.hid (ZT.out.below hb (Nat.le_refl _))
  replace OS := Lib.hid (OS.out.below hb (Nat.le_refl _))
  replace OX := Lib.hid (OX.out.below hb (Nat.le_refl _))
  replace OG := Lib.hid (OG.out.below hb (Nat.le_refl _))
  replace B := Lib.hid (B.out.trans (hb.mono B.out.size))
  have z5 := hb.size
  have OV := Lib.hid ho
  clear ho hb
  go_wp2_with fail
  ((with_reducible refine (Hlp.eqIntS _ _ _ _ _ _ _ _ _ _ _ _ _ OX.out.ints OV.out.ints).mono ?_); rintro e w6 ⟨rfl, hd⟩)
  have hb0 := drew_below hd
  clear hd
  replace IA := Lib.hid (IA.out.below hb0 (Nat.le_refl _))
  replace ZT := Lib.hid (ZT.out.below hb0 (Nat.le_refl _))
  replace OS := Lib.hid (OS.out.below hb0 (Nat.le_refl _))
  replace OX := Lib.hid (OX.out.below hb0 (Nat.le_refl _))
  replace OG := Lib.hid (OG.out.below hb0 (Nat.le_refl _))
  replace OV := Lib.hid (OV.out.below hb0 (Nat.le_refl _))
  replace B := Lib.hid (B.out.trans (hb0.mono B.out.size))
  have z6 := hb0.size
  clear hb0
  rw [decide_eq_true rfl]
  go_wp2_with fail
  ((with_reducible refine (Hlp.markIntS _ _ _ _ _ _ (1) _ OX.out (by omega) (by omega) (by omega)).mono ?_); rintro e w7 ⟨rfl, hm, hk⟩)
  replace IA := Lib.hid (IA.out.kept hk (by omega))
  replace ZT := Lib.hid (ZT.out.same (hk.block _ (by omega)))
  replace OS := Lib.hid (OS.out.kept hk (by omega))
  replace OG := Lib.hid (OG.out.kept hk (by omega))
  replace OV := Lib.hid (OV.out.kept hk (by omega))
  replace B := Lib.hid (B.out.trans (hk.below (by omega)))
  replace OX := Lib.hid hm
  have z7 := Nat.le_of_eq hk.size.symm
  have y7 := Nat.le_of_eq hk.size
  clear hm hk
  go_wp2_with fail
  ((with_reducible refine (Hlp.eqIntS _ _ _ _ _ _ _ _ _ _ _ _ _ OG.out.ints OS.out.ints).mono ?_); rintro e w8 ⟨rfl, hd⟩)
  have hb0 := drew_below hd
  clear hd
  replace IA := Lib.hid (IA.out.below hb0 (Nat.le_refl _))
  replace ZT := Lib.hid (ZT.out.below hb0 (Nat.le_refl _))
  replace OS := Lib.hid (OS.out.below hb0 (Nat.le_refl _))
  replace OX := Lib.hid (OX.out.below hb0 (Nat.le_refl _))
  replace OG := Lib.hid (OG.out.below hb0 (Nat.le_refl _))
  replace OV := Lib.hid (OV.out.below hb0 (Nat.le_refl _))
  replace B := Lib.hid (B.out.trans (hb0.mono B.out.size))
  have z8 := hb0.size
  clear hb0
  rw [decide_eq_true rfl]
  go_wp2_with fail
  ((with_reducible refine (Hlp.markIntS _ _ _ _ _ _ (1) _ OG.out (by omega) (by omega) (by omega)).mono ?_); rintro e w9 ⟨rfl, hm, hk⟩)
  replace IA := Lib.hid (IA.out.kept hk (by omega))
  replace ZT := Lib.hid (ZT.out.same (hk.block _ (by omega)))
  replace OS := Lib.hid (OS.out.kept hk (by omega))
  replace OX := Lib.hid (OX.out.kept hk (by omega))
  replace OV := Lib.hid (OV.out.kept hk (by omega))
  replace B := Lib.hid (B.out.trans (hk.below (by omega)))
  replace OG := Lib.hid hm
  have z9 := Nat.le_of_eq hk.size.symm
  have y9 := Nat.le_of_eq hk.size
  clear hm hk
  go_wp2_with fail
  ((with_reducible refine (Hlp.heldIntS _ _ _ _ _ 1 _ OG.out.ints (by omega) (by omega) (by omega)).mono ?_); rintro e w' ⟨rfl, rfl⟩)
  obtain ⟨t0, t1, tf⟩ := two_cells ZT.out
  have hzT : w.heap.size < w9.heap.size := ZT.out.lt
  have HZ : Hid (∀ W', Below w9.heap.size w9 W' → (W'.cell? ⟨w.heap.size, 0, none⟩ = some (.int .i64 s) ∧ W'.cell? ⟨w.heap.size, 1, none⟩ = some (.int .i64 g))) := fun W' hb => ⟨(hb.cell (p := ⟨w.heap.size, 0, none⟩) hzT).trans t0, (hb.cell (p := ⟨w.heap.size, 1, none⟩) hzT).trans t1⟩
  have DD : Hid (Below w9.heap.size w9 w9.drew) := below_dr (Below.refl _ _) (d := 1)
  have S0 := Lib.hid (HZ.out w9.drew DD.out)
  have I0 : Hid (Ints 0 w.heap.size w9.drew A n c xs) := IA.out
  clear t0 t1 tf
  go_upto_region 22 with (fail)
  go_region_held3 (fun w' => (w'.cell? ⟨w.heap.size, 0, none⟩ = some (.int .i64 s) ∧ w'.cell? ⟨w.heap.size, 1, none⟩ = some (.int .i64 g)))
    (first | with_reducible exact S0.out | with_reducible exact s8 | with_reducible exact s9 | with_reducible exact s10 | fail)
    (first
      | (go_at_call 5; (with_reducible refine (toIntS _ _ _ _ _ xs _ I0.out (by omega)).mono ?_); rintro e wa ⟨AT9, kT9, rfl, ho1, hb1⟩; have hbA := DD.out.trans (hb1.mono DD.out.size); have s8 := HZ.out wa hbA)
      | (go_at_call 6; (with_reducible refine (toTicket s g _).mono ?_); rintro e wb ⟨rfl, hb2⟩; have hbB := hbA.trans (hb2.mono hbA.size); have s9 := HZ.out wb hbB; have ho2 := ho1.ints.below hb2 (Nat.le_refl _))
      | (go_at_call 7; (with_reducible refine (Im12.TicketSpend a0 a1 a2 xs p s g _ _ _ _ _ ho2 (HS.out.below (B.out.trans (hbB.mono B.out.size)) (Nat.le_refl _))).mono ?_); rintro e wdJ ⟨AJ, kJ, rfl, ho3, hb3⟩; have hbD := hbB.trans (hb3.mono hbB.size); have s10 := HZ.out wdJ hbD)
      | fail)
  have zbJ := hbB.size
  have zdJ := hb3.size
  have OJ := Lib.hid ho3
  replace IA := Lib.hid (IA.out.below hbD (Nat.le_refl _))
  replace ZT := Lib.hid (ZT.out.below hbD (Nat.le_refl _))
  replace OS := Lib.hid (OS.out.below hbD (Nat.le_refl _))
  replace OX := Lib.hid (OX.out.below hbD (Nat.le_refl _))
  replace OG := Lib.hid (OG.out.below hbD (Nat.le_refl _))
  replace OV := Lib.hid (OV.out.below hbD (Nat.le_refl _))
  replace B := Lib.hid (B.out.trans (hbD.mono B.out.size))
  clear hbA hbB hbD hb1 hb2 hb3 ho1 ho2 ho3 s8 s9 s10 S0 HZ DD I0 hzT
  go_wp2_with fail
  ((with_reducible refine (Hlp.eqIntS _ _ _ _ _ _ _ _ _ _ _ _ _ OJ.out.ints OS.out.ints).mono ?_); rintro e w11 ⟨rfl, hd⟩)
  have hb0 := drew_below hd
  clear hd
  replace IA := Lib.hid (IA.out.below hb0 (Nat.le_refl _))
  replace ZT := Lib.hid (ZT.out.below hb0 (Nat.le_refl _))
  replace OS := Lib.hid (OS.out.below hb0 (Nat.le_refl _))
  replace OX := Lib.hid (OX.out.below hb0 (Nat.le_refl _))
  replace OG := Lib.hid (OG.out.below hb0 (Nat.le_refl _))
  replace OV := Lib.hid (OV.out.below hb0 (Nat.le_refl _))
  replace OJ := Lib.hid (OJ.out.below hb0 (Nat.le_refl _))
  replace B := Lib.hid (B.out.trans (hb0.mono B.out.size))
  have z11 := hb0.size
  clear hb0
  rw [decide_eq_true rfl]
  go_wp2_with fail
  ((with_reducible refine (Hlp.heldIntS _ _ _ _ _ 1 _ OG.out.ints (by omega) (by omega) (by omega)).mono ?_); rintro e w' ⟨rfl, rfl⟩)
  go_wp2
  go_ret
  exact ⟨rfl, B.out⟩

end Law12y
end Go.Proofs.YtecdoibdpimlaabDoor
