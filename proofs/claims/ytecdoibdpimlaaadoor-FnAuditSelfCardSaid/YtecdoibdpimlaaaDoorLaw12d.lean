/-
  The laws on tickets: spent.
-/
import Derived.Test.YtecdoibdpimlaaaDoorIm12b
import Derived.Test.YtecdoibdpimlaaaDoorDr12
import Derived.Test.YtecdoibdpimlaaaDoorElt
import Derived.Test.YtecdoibdpimlaaaDoorGrp
import Derived.BigQuiet
import Derived.Deep.RegionLaw
import Derived.Deep.Cut
import Derived.Deep.RegionHeld3
namespace Go.Proofs.YtecdoibdpimlaaaDoor
open Go.RowKit
namespace Law12
open Il Sl Gm Cm Cs Tk Sp12 Rd
theorem codeIs_below {w w' : World} {A : Option Addr} {n c : Nat} (h : CodeIs w A n c) (hb : Below w.heap.size w w') : CodeIs w' A n c := by
  refine ⟨h.1, h.2.1, fun hn => ?_⟩
  obtain ⟨b, off, e, hl, hc⟩ := h.2.2 hn
  refine ⟨b, off, e, Nat.lt_of_lt_of_le hl hb.size, fun j hj => ?_⟩
  obtain ⟨u, hu, hcell⟩ := hc j hj
  exact ⟨u, hu, (hb.cell (p := ⟨b, off + j, none⟩) hl).trans hcell⟩
theorem another_ne (x b : Int) : (0 ≤ (x + 1 + b % 990) % 991 ∧ (x + 1 + b % 990) % 991 ≤ 990) ∧ (x + 1 + b % 990) % 991 ≠ x := by omega
theorem drw_bel {w wr : World} (h : ∃ d, wr = w.drewN d) : Below w.heap.size w wr := by
  obtain ⟨d, rfl⟩ := h
  exact below_dr (Below.refl _ _)
set_option maxRecDepth 20000 in
set_option maxHeartbeats 4000000 in
theorem fnSpend (a0 a1 a2 : Addr) (A : Option Addr) (n c : Nat) (w : World) (h : CodeIs w A n c) (hS : Im12.Snt w a0 a1 a2) : Calls Tryd.prog 3 #[.slice A n c] w (BoolB true w) := by
  by_cases hbign : (1048576 : Int) < (n : Int)
  · go_enter Tryd.func3, Tryd.ntmps3
    go_wp2
    go_ret
    exact ⟨rfl, Below.refl _ _⟩
  go_enter Tryd.func3, Tryd.ntmps3
  go_wp2_with fail
  ((with_reducible refine (Rd.DrawTicketSpend A n c w h).mono ?_); rintro e w1 ⟨A1, c1, xs, p, s, g, rfl, hi1, hb1⟩)
  have HB := Lib.hid hb1
  have IX := Lib.hid hi1
  have HS := Lib.hid (hS.below hb1 (Nat.le_refl _))
  clear hb1 hi1 hS
  have hal : Below w1.heap.size w1 (w1.alloc (.cells #[.int .i64 s, .int .i64 g] 25)) := (Below.refl _ _).alloc (Nat.le_refl _) _
  have ZT := Lib.hid (blk_new w1 #[.int .i64 s, .int .i64 g] 25)
  replace HB := Lib.hid (HB.out.trans (hal.mono HB.out.size))
  replace IX := Lib.hid (IX.out.below hal (Nat.le_refl _))
  replace HS := Lib.hid (HS.out.below hal (Nat.le_refl _))
  clear hal
  go_upto_region 4 with (fail)
  generalize w1.alloc (.cells #[.int .i64 s, .int .i64 g] 25) = w2 at *
  obtain ⟨z0, z1, zf⟩ := two_cells ZT.out
  go_wp2_with fail
  ((with_reducible refine (Im12.TicketSpend a0 a1 a2 xs p s g _ _ _ _ _ IX.out HS.out).mono ?_); rintro e w3 ⟨A3, c3, rfl, ho3, hb3⟩)
  clear z0 z1 zf
  replace HB := Lib.hid (HB.out.trans (hb3.mono HB.out.size))
  replace IX := Lib.hid (IX.out.below hb3 (Nat.le_refl _))
  replace HS := Lib.hid (HS.out.below hb3 (Nat.le_refl _))
  replace ZT := Lib.hid (ZT.out.below hb3 (Nat.le_refl _))
  have IO := Lib.hid ho3.ints
  clear ho3 hb3
  obtain ⟨z0, z1, zf⟩ := two_cells ZT.out
  go_wp2_with fail
  ((with_reducible refine (Sp12.TicketSpend xs p s g _ _ _ _ _ IX.out).mono ?_); rintro e w4 ⟨A4, c4, rfl, ho4, hb4⟩)
  clear z0 z1 zf
  replace HB := Lib.hid (HB.out.trans (hb4.mono HB.out.size))
  replace IX := Lib.hid (IX.out.below hb4 (Nat.le_refl _))
  replace HS := Lib.hid (HS.out.below hb4 (Nat.le_refl _))
  replace ZT := Lib.hid (ZT.out.below hb4 (Nat.le_refl _))
  replace IO := Lib.hid (IO.out.below hb4 (Nat.le_refl _))
  have IW := Lib.hid ho4.ints
  clear ho4 hb4
  obtain ⟨z0, z1, zf⟩ := two_cells ZT.out
  cases hgo : goB xs p s g
  · skip
    go_wp2_with fail
    ((with_reducible refine (Hlp.sameInts _ _ _ _ _ _ _ _ _ _ (spF xs p s g) (spF xs p s g) _ IO.out IW.out).mono ?_); rintro e w5 ⟨rfl, qw5, rfl⟩)
    rw [decide_eq_true rfl]
    clear z0 z1 zf
    have hdr : Below w4.heap.size w4 (w4.drewN qw5) := below_dr (Below.refl _ _)
    replace HB := Lib.hid (HB.out.trans (hdr.mono HB.out.size))
    replace IX := Lib.hid (IX.out.below hdr (Nat.le_refl _))
    replace HS := Lib.hid (HS.out.below hdr (Nat.le_refl _))
    replace ZT := Lib.hid (ZT.out.below hdr (Nat.le_refl _))
    replace IO := Lib.hid (IO.out.below hdr (Nat.le_refl _))
    replace IW := Lib.hid (IW.out.below hdr (Nat.le_refl _))
    clear hdr
    generalize w4.drewN qw5 = w5 at *
    obtain ⟨z0, z1, zf⟩ := two_cells ZT.out
    go_wp2_with fail
    ((with_reducible refine (Hlp.sameInts _ _ _ _ _ _ _ _ _ _ (spF xs p s g) (spF xs p s g) _ IO.out IW.out).mono ?_); rintro e w6 ⟨rfl, qw6, rfl⟩)
    rw [decide_eq_true rfl]
    clear z0 z1 zf
    have hdr : Below w5.heap.size w5 (w5.drewN qw6) := below_dr (Below.refl _ _)
    replace HB := Lib.hid (HB.out.trans (hdr.mono HB.out.size))
    replace IX := Lib.hid (IX.out.below hdr (Nat.le_refl _))
    replace HS := Lib.hid (HS.out.below hdr (Nat.le_refl _))
    replace ZT := Lib.hid (ZT.out.below hdr (Nat.le_refl _))
    replace IO := Lib.hid (IO.out.below hdr (Nat.le_refl _))
    replace IW := Lib.hid (IW.out.below hdr (Nat.le_refl _))
    clear hdr
    generalize w5.drewN qw6 = w6 at *
    obtain ⟨z0, z1, zf⟩ := two_cells ZT.out
    go_wp2
    go_ret
    exact ⟨rfl, HB.out⟩
  have HY := Lib.hid (spF_yes hgo)
  rw [HY.out] at IO IW ⊢
  have HGO := Lib.hid hgo
  clear hgo
  go_wp2_with fail
  ((with_reducible refine (Hlp.sameInts _ _ _ _ _ _ _ _ _ _ (insK xs s) (insK xs s) _ IO.out IW.out).mono ?_); rintro e w5 ⟨rfl, qw5, rfl⟩)
  rw [decide_eq_true rfl]
  clear z0 z1 zf
  have hdr : Below w4.heap.size w4 (w4.drewN qw5) := below_dr (Below.refl _ _)
  replace HB := Lib.hid (HB.out.trans (hdr.mono HB.out.size))
  replace IX := Lib.hid (IX.out.below hdr (Nat.le_refl _))
  replace HS := Lib.hid (HS.out.below hdr (Nat.le_refl _))
  replace ZT := Lib.hid (ZT.out.below hdr (Nat.le_refl _))
  replace IO := Lib.hid (IO.out.below hdr (Nat.le_refl _))
  replace IW := Lib.hid (IW.out.below hdr (Nat.le_refl _))
  clear hdr
  generalize w4.drewN qw5 = w5 at *
  obtain ⟨z0, z1, zf⟩ := two_cells ZT.out
  clear IW
  have hl20 := (goB_iff.1 HGO.out).2.2.2
  have HPW := Lib.hid (pw_of (spB_of (go_ok HGO.out)))
  have HIN : Hid (∀ j, j < xs.length → hasK (insK xs s) (xs.getD j 0) = true) := fun j hj => hasK_iff.2 (mem_insK.2 (.inr (getD_in hj)))
  have HIS : Hid (hasK (insK xs s) s = true) := hasK_iff.2 (mem_insK.2 (.inl rfl))
  have HLN := Lib.hid (insK_len xs s)
  have HLT : Hid (∀ j, j + 1 < (insK xs s).length → (insK xs s).getD j 0 < (insK xs s).getD (j + 1) 0) := fun j hj => getD_lt HPW.out hj
  go_wp2
  go_loop [10] (fun i => ∃ j : Nat, j ≤ xs.length ∧ i = .int .i64 j) (fun i => xs.length - (intOf i).toNat)
  case atStart => exact ⟨0, Nat.zero_le _, rfl⟩
  case round =>
    obtain ⟨j, hj, rfl⟩ := hrel
    by_cases hlt : j < xs.length
    · obtain ⟨b, off, rfl, _, _, cX⟩ := IX.out.at_ hlt
      have hh := HIN.out j hlt
      generalize xs.getD j 0 = x at *
      go_wp2_with fail
      ((with_reducible refine (Sg.hasInt _ _ _ _ _ (insK xs s) x _ IO.out).mono ?_); rintro e w6 ⟨rfl, rfl⟩)
      rw [hh]
      go_wp2
      go_round
      case rel => exact ⟨j + 1, by omega, by go_num⟩
      case measure => simp [intOf]; omega
    · obtain rfl : j = xs.length := by omega
      clear hlt hj
      rw [HLN.out] at IO ⊢
      rw [HLN.out] at HLT
      go_wp2
      have HR0 : Hid (∃ d, w5 = w5.drewN d) := ⟨0, rfl⟩
      go_loopw [11] (fun i wr => ∃ j : Nat, 1 ≤ j ∧ j ≤ xs.length + 1 ∧ i = .int .i64 j ∧ Hid (∃ d, wr = w5.drewN d)) (fun i _ => xs.length + 1 - (intOf i).toNat)
      case atStart => exact ⟨1, Nat.le_refl _, by omega, rfl, HR0.out⟩
      case round =>
        obtain ⟨j, hj1, hj, rfl, hR⟩ := hrel
        have hdb := drw_bel hR.out
        have JO := Lib.hid (IO.out.below hdb (Nat.le_refl _))
        have JH := Lib.hid (HB.out.trans (hdb.mono HB.out.size))
        have JT := Lib.hid (ZT.out.below hdb (Nat.le_refl _))
        clear hdb HR0
        by_cases hlt : j < xs.length + 1
        · obtain ⟨j, rfl⟩ : ∃ i, j = i + 1 := ⟨j - 1, by omega⟩
          obtain ⟨b, off, rfl, _, _, cO⟩ := JO.out.at_ hlt
          obtain ⟨b3, off3, e3, _, _, cP⟩ := JO.out.at_ (k := j) (by omega)
          simp only [Option.some.injEq, Addr.mk.injEq, and_true] at e3
          obtain ⟨rfl, rfl⟩ := e3
          have hlt2 := HLT.out j hlt
          generalize (insK xs s).getD (j + 1) 0 = x at *
          generalize (insK xs s).getD j 0 = y at *
          have hge : decide (x ≤ y) = false := by simp; omega
          go_wp2
          go_quiet (fail)
          go_wp2
          go_roundw
          case rel => exact ⟨j + 1 + 1, by omega, by omega, by go_num, drew_add hR.out _⟩
          case measure => simp [intOf]; omega
        · obtain rfl : j = xs.length + 1 := by omega
          clear hlt
          clear IO HB hR z0 z1 zf
          obtain ⟨z0, z1, zf⟩ := two_cells JT.out
          go_wp2_with fail
          ((with_reducible refine (Sg.hasInt _ _ _ _ _ (insK xs s) s _ JO.out).mono ?_); rintro e w7 ⟨rfl, rfl⟩)
          rw [HIS.out]
          go_wp2
          go_ret
          exact ⟨rfl, JH.out⟩
set_option maxRecDepth 20000 in
set_option maxHeartbeats 4000000 in
theorem fnSpendTwice (a0 a1 a2 : Addr) (A : Option Addr) (n c : Nat) (w : World) (h : CodeIs w A n c) (hS : Im12.Snt w a0 a1 a2) : Calls Tryd.prog 4 #[.slice A n c] w (BoolB true w) := by
  by_cases hbign : (1048576 : Int) < (n : Int)
  · go_enter Tryd.func4, Tryd.ntmps4
    go_wp2
    go_ret
    exact ⟨rfl, Below.refl _ _⟩
  go_enter Tryd.func4, Tryd.ntmps4
  go_wp2_with fail
  ((with_reducible refine (Rd.DrawTicketSpend A n c w h).mono ?_); rintro e w1 ⟨A1, c1, xs, p, s, g, rfl, hi1, hb1⟩)
  have HB := Lib.hid hb1
  have IX := Lib.hid hi1
  have HS := Lib.hid (hS.below hb1 (Nat.le_refl _))
  clear hb1 hi1 hS
  have hal : Below w1.heap.size w1 (w1.alloc (.cells #[.int .i64 s, .int .i64 g] 25)) := (Below.refl _ _).alloc (Nat.le_refl _) _
  have ZT := Lib.hid (blk_new w1 #[.int .i64 s, .int .i64 g] 25)
  replace HB := Lib.hid (HB.out.trans (hal.mono HB.out.size))
  replace IX := Lib.hid (IX.out.below hal (Nat.le_refl _))
  replace HS := Lib.hid (HS.out.below hal (Nat.le_refl _))
  clear hal
  go_upto_region 4 with (fail)
  generalize w1.alloc (.cells #[.int .i64 s, .int .i64 g] 25) = w2 at *
  obtain ⟨z0, z1, zf⟩ := two_cells ZT.out
  go_wp2_with fail
  ((with_reducible refine (Im12.TicketSpend a0 a1 a2 xs p s g _ _ _ _ _ IX.out HS.out).mono ?_); rintro e w3 ⟨A3, c3, rfl, ho3, hb3⟩)
  clear z0 z1 zf
  replace HB := Lib.hid (HB.out.trans (hb3.mono HB.out.size))
  replace IX := Lib.hid (IX.out.below hb3 (Nat.le_refl _))
  replace HS := Lib.hid (HS.out.below hb3 (Nat.le_refl _))
  replace ZT := Lib.hid (ZT.out.below hb3 (Nat.le_refl _))
  have IO := Lib.hid ho3.ints
  clear ho3 hb3
  obtain ⟨z0, z1, zf⟩ := two_cells ZT.out
  go_wp2_with fail
  ((with_reducible refine (Sp12.TicketSpend xs p s g _ _ _ _ _ IX.out).mono ?_); rintro e w4 ⟨A4, c4, rfl, ho4, hb4⟩)
  clear z0 z1 zf
  replace HB := Lib.hid (HB.out.trans (hb4.mono HB.out.size))
  replace IX := Lib.hid (IX.out.below hb4 (Nat.le_refl _))
  replace HS := Lib.hid (HS.out.below hb4 (Nat.le_refl _))
  replace ZT := Lib.hid (ZT.out.below hb4 (Nat.le_refl _))
  replace IO := Lib.hid (IO.out.below hb4 (Nat.le_refl _))
  have IW := Lib.hid ho4.ints
  clear ho4 hb4
  obtain ⟨z0, z1, zf⟩ := two_cells ZT.out
  cases hgo : goB xs p s g
  · skip
    go_wp2_with fail
    ((with_reducible refine (Hlp.sameInts _ _ _ _ _ _ _ _ _ _ (spF xs p s g) (spF xs p s g) _ IO.out IW.out).mono ?_); rintro e w5 ⟨rfl, qw5, rfl⟩)
    rw [decide_eq_true rfl]
    clear z0 z1 zf
    have hdr : Below w4.heap.size w4 (w4.drewN qw5) := below_dr (Below.refl _ _)
    replace HB := Lib.hid (HB.out.trans (hdr.mono HB.out.size))
    replace IX := Lib.hid (IX.out.below hdr (Nat.le_refl _))
    replace HS := Lib.hid (HS.out.below hdr (Nat.le_refl _))
    replace ZT := Lib.hid (ZT.out.below hdr (Nat.le_refl _))
    replace IO := Lib.hid (IO.out.below hdr (Nat.le_refl _))
    replace IW := Lib.hid (IW.out.below hdr (Nat.le_refl _))
    clear hdr
    generalize w4.drewN qw5 = w5 at *
    obtain ⟨z0, z1, zf⟩ := two_cells ZT.out
    go_wp2_with fail
    ((with_reducible refine (Hlp.sameInts _ _ _ _ _ _ _ _ _ _ (spF xs p s g) (spF xs p s g) _ IO.out IW.out).mono ?_); rintro e w6 ⟨rfl, qw6, rfl⟩)
    rw [decide_eq_true rfl]
    clear z0 z1 zf
    have hdr : Below w5.heap.size w5 (w5.drewN qw6) := below_dr (Below.refl _ _)
    replace HB := Lib.hid (HB.out.trans (hdr.mono HB.out.size))
    replace IX := Lib.hid (IX.out.below hdr (Nat.le_refl _))
    replace HS := Lib.hid (HS.out.below hdr (Nat.le_refl _))
    replace ZT := Lib.hid (ZT.out.below hdr (Nat.le_refl _))
    replace IO := Lib.hid (IO.out.below hdr (Nat.le_refl _))
    replace IW := Lib.hid (IW.out.below hdr (Nat.le_refl _))
    clear hdr
    generalize w5.drewN qw6 = w6 at *
    obtain ⟨z0, z1, zf⟩ := two_cells ZT.out
    go_wp2
    go_ret
    exact ⟨rfl, HB.out⟩
  have HY := Lib.hid (spF_yes hgo)
  rw [HY.out] at IO IW ⊢
  have HGO := Lib.hid hgo
  clear hgo
  go_wp2_with fail
  ((with_reducible refine (Hlp.sameInts _ _ _ _ _ _ _ _ _ _ (insK xs s) (insK xs s) _ IO.out IW.out).mono ?_); rintro e w5 ⟨rfl, qw5, rfl⟩)
  rw [decide_eq_true rfl]
  clear z0 z1 zf
  have hdr : Below w4.heap.size w4 (w4.drewN qw5) := below_dr (Below.refl _ _)
  replace HB := Lib.hid (HB.out.trans (hdr.mono HB.out.size))
  replace IX := Lib.hid (IX.out.below hdr (Nat.le_refl _))
  replace HS := Lib.hid (HS.out.below hdr (Nat.le_refl _))
  replace ZT := Lib.hid (ZT.out.below hdr (Nat.le_refl _))
  replace IO := Lib.hid (IO.out.below hdr (Nat.le_refl _))
  replace IW := Lib.hid (IW.out.below hdr (Nat.le_refl _))
  clear hdr
  generalize w4.drewN qw5 = w5 at *
  obtain ⟨z0, z1, zf⟩ := two_cells ZT.out
  clear IW
  have HT := Lib.hid (twice HGO.out)
  go_wp2_with fail
  ((with_reducible refine (Im12.TicketSpend a0 a1 a2 (insK xs s) p s g _ _ _ _ _ IO.out HS.out).mono ?_); rintro e w6 ⟨A6, c6, rfl, ho6, hb6⟩)
  rw [HT.out.1, HT.out.2]
  rw [HT.out.2] at ho6
  clear z0 z1 zf
  replace HB := Lib.hid (HB.out.trans (hb6.mono HB.out.size))
  replace IX := Lib.hid (IX.out.below hb6 (Nat.le_refl _))
  replace HS := Lib.hid (HS.out.below hb6 (Nat.le_refl _))
  replace ZT := Lib.hid (ZT.out.below hb6 (Nat.le_refl _))
  replace IO := Lib.hid (IO.out.below hb6 (Nat.le_refl _))
  have I6 := Lib.hid ho6.ints
  clear ho6 hb6
  obtain ⟨z0, z1, zf⟩ := two_cells ZT.out
  go_wp2_with fail
  ((with_reducible refine (Hlp.sameInts _ _ _ _ _ _ _ _ _ _ (insK xs s) (insK xs s) _ I6.out IO.out).mono ?_); rintro e w7 ⟨rfl, qw7, rfl⟩)
  rw [decide_eq_true rfl]
  clear z0 z1 zf
  have hdr : Below w6.heap.size w6 (w6.drewN qw7) := below_dr (Below.refl _ _)
  replace HB := Lib.hid (HB.out.trans (hdr.mono HB.out.size))
  replace IX := Lib.hid (IX.out.below hdr (Nat.le_refl _))
  replace HS := Lib.hid (HS.out.below hdr (Nat.le_refl _))
  replace ZT := Lib.hid (ZT.out.below hdr (Nat.le_refl _))
  replace IO := Lib.hid (IO.out.below hdr (Nat.le_refl _))
  replace I6 := Lib.hid (I6.out.below hdr (Nat.le_refl _))
  clear hdr
  generalize w6.drewN qw7 = w7 at *
  obtain ⟨z0, z1, zf⟩ := two_cells ZT.out
  go_wp2
  go_ret
  exact ⟨rfl, HB.out⟩
set_option maxRecDepth 20000 in
set_option maxHeartbeats 4000000 in
theorem fnSpendRefused (a0 a1 a2 : Addr) (A : Option Addr) (n c : Nat) (w : World) (h : CodeIs w A n c) (hS : Im12.Snt w a0 a1 a2) : Calls Tryd.prog 5 #[.slice A n c] w (BoolB true w) := by
  by_cases hbign : (1048576 : Int) < (n : Int)
  · go_enter Tryd.func5, Tryd.ntmps5
    go_wp2
    go_ret
    exact ⟨rfl, Below.refl _ _⟩
  go_enter Tryd.func5, Tryd.ntmps5
  go_wp2_with fail
  ((with_reducible refine (Rd.DrawTicketSpend A n c w h).mono ?_); rintro e w1 ⟨A1, c1, xs, p, s, g, rfl, hi1, hb1⟩)
  have HB := Lib.hid hb1
  have IX := Lib.hid hi1
  have HS := Lib.hid (hS.below hb1 (Nat.le_refl _))
  clear hb1 hi1 hS
  have hal : Below w1.heap.size w1 (w1.alloc (.cells #[.int .i64 s, .int .i64 g] 25)) := (Below.refl _ _).alloc (Nat.le_refl _) _
  have ZT := Lib.hid (blk_new w1 #[.int .i64 s, .int .i64 g] 25)
  replace HB := Lib.hid (HB.out.trans (hal.mono HB.out.size))
  replace IX := Lib.hid (IX.out.below hal (Nat.le_refl _))
  replace HS := Lib.hid (HS.out.below hal (Nat.le_refl _))
  clear hal
  go_upto_region 4 with (fail)
  generalize w1.alloc (.cells #[.int .i64 s, .int .i64 g] 25) = w2 at *
  obtain ⟨z0, z1, zf⟩ := two_cells ZT.out
  go_wp2_with fail
  ((with_reducible refine (Im12.TicketSpend a0 a1 a2 xs p s g _ _ _ _ _ IX.out HS.out).mono ?_); rintro e w3 ⟨A3, c3, rfl, ho3, hb3⟩)
  clear z0 z1 zf
  replace HB := Lib.hid (HB.out.trans (hb3.mono HB.out.size))
  replace IX := Lib.hid (IX.out.below hb3 (Nat.le_refl _))
  replace HS := Lib.hid (HS.out.below hb3 (Nat.le_refl _))
  replace ZT := Lib.hid (ZT.out.below hb3 (Nat.le_refl _))
  have IO := Lib.hid ho3.ints
  clear ho3 hb3
  obtain ⟨z0, z1, zf⟩ := two_cells ZT.out
  go_wp2_with fail
  ((with_reducible refine (Sp12.TicketSpend xs p s g _ _ _ _ _ IX.out).mono ?_); rintro e w4 ⟨A4, c4, rfl, ho4, hb4⟩)
  clear z0 z1 zf
  replace HB := Lib.hid (HB.out.trans (hb4.mono HB.out.size))
  replace IX := Lib.hid (IX.out.below hb4 (Nat.le_refl _))
  replace HS := Lib.hid (HS.out.below hb4 (Nat.le_refl _))
  replace ZT := Lib.hid (ZT.out.below hb4 (Nat.le_refl _))
  replace IO := Lib.hid (IO.out.below hb4 (Nat.le_refl _))
  have IW := Lib.hid ho4.ints
  clear ho4 hb4
  obtain ⟨z0, z1, zf⟩ := two_cells ZT.out
  cases hgo : goB xs p s g
  case «true» =>
    go_wp2_with fail
    ((with_reducible refine (Hlp.sameInts _ _ _ _ _ _ _ _ _ _ (spF xs p s g) (spF xs p s g) _ IO.out IW.out).mono ?_); rintro e w5 ⟨rfl, qw5, rfl⟩)
    rw [decide_eq_true rfl]
    clear z0 z1 zf
    have hdr : Below w4.heap.size w4 (w4.drewN qw5) := below_dr (Below.refl _ _)
    replace HB := Lib.hid (HB.out.trans (hdr.mono HB.out.size))
    replace IX := Lib.hid (IX.out.below hdr (Nat.le_refl _))
    replace HS := Lib.hid (HS.out.below hdr (Nat.le_refl _))
    replace ZT := Lib.hid (ZT.out.below hdr (Nat.le_refl _))
    replace IO := Lib.hid (IO.out.below hdr (Nat.le_refl _))
    replace IW := Lib.hid (IW.out.below hdr (Nat.le_refl _))
    clear hdr
    generalize w4.drewN qw5 = w5 at *
    obtain ⟨z0, z1, zf⟩ := two_cells ZT.out
    go_wp2_with fail
    ((with_reducible refine (Hlp.sameInts _ _ _ _ _ _ _ _ _ _ (spF xs p s g) (spF xs p s g) _ IO.out IW.out).mono ?_); rintro e w6 ⟨rfl, qw6, rfl⟩)
    rw [decide_eq_true rfl]
    clear z0 z1 zf
    have hdr : Below w5.heap.size w5 (w5.drewN qw6) := below_dr (Below.refl _ _)
    replace HB := Lib.hid (HB.out.trans (hdr.mono HB.out.size))
    replace IX := Lib.hid (IX.out.below hdr (Nat.le_refl _))
    replace HS := Lib.hid (HS.out.below hdr (Nat.le_refl _))
    replace ZT := Lib.hid (ZT.out.below hdr (Nat.le_refl _))
    replace IO := Lib.hid (IO.out.below hdr (Nat.le_refl _))
    replace IW := Lib.hid (IW.out.below hdr (Nat.le_refl _))
    clear hdr
    generalize w5.drewN qw6 = w6 at *
    obtain ⟨z0, z1, zf⟩ := two_cells ZT.out
    go_wp2
    go_ret
    exact ⟨rfl, HB.out⟩
  cases hok : spOk xs
  · have HE := Lib.hid (spF_bad (p := p) (s := s) (g := g) hok).1
    rw [HE.out] at IO IW ⊢
    rw [List.length_nil] at IO IW ⊢
    go_wp2_with fail
    ((with_reducible refine (Hlp.sameInts _ _ _ _ _ _ _ _ _ _ ([]) ([]) _ IO.out IW.out).mono ?_); rintro e w5 ⟨rfl, qw5, rfl⟩)
    rw [decide_eq_true rfl]
    clear z0 z1 zf
    have hdr : Below w4.heap.size w4 (w4.drewN qw5) := below_dr (Below.refl _ _)
    replace HB := Lib.hid (HB.out.trans (hdr.mono HB.out.size))
    replace IX := Lib.hid (IX.out.below hdr (Nat.le_refl _))
    replace HS := Lib.hid (HS.out.below hdr (Nat.le_refl _))
    replace ZT := Lib.hid (ZT.out.below hdr (Nat.le_refl _))
    replace IO := Lib.hid (IO.out.below hdr (Nat.le_refl _))
    replace IW := Lib.hid (IW.out.below hdr (Nat.le_refl _))
    clear hdr
    generalize w4.drewN qw5 = w5 at *
    obtain ⟨z0, z1, zf⟩ := two_cells ZT.out
    go_wp2_with fail
    ((with_reducible refine (Hlp.sameInts _ _ _ _ _ _ _ _ _ _ ([]) ([]) _ IO.out IW.out).mono ?_); rintro e w6 ⟨rfl, qw6, rfl⟩)
    rw [decide_eq_true rfl]
    clear z0 z1 zf
    have hdr : Below w5.heap.size w5 (w5.drewN qw6) := below_dr (Below.refl _ _)
    replace HB := Lib.hid (HB.out.trans (hdr.mono HB.out.size))
    replace IX := Lib.hid (IX.out.below hdr (Nat.le_refl _))
    replace HS := Lib.hid (HS.out.below hdr (Nat.le_refl _))
    replace ZT := Lib.hid (ZT.out.below hdr (Nat.le_refl _))
    replace IO := Lib.hid (IO.out.below hdr (Nat.le_refl _))
    replace IW := Lib.hid (IW.out.below hdr (Nat.le_refl _))
    clear hdr
    generalize w5.drewN qw6 = w6 at *
    obtain ⟨z0, z1, zf⟩ := two_cells ZT.out
    go_wp2
    go_ret
    exact ⟨rfl, HB.out⟩
  have HE := Lib.hid (spF_no hok hgo)
  rw [HE.out] at IO IW ⊢
  have h20 := sp_len hok
  by_cases h0 : xs.length = 0
  · have h0' : ((xs.length : Int) == 0) = true := beq_iff_eq.2 (by omega)
    clear h0
    go_wp2_with fail
    ((with_reducible refine (Hlp.sameInts _ _ _ _ _ _ _ _ _ _ (xs) (xs) _ IO.out IW.out).mono ?_); rintro e w5 ⟨rfl, qw5, rfl⟩)
    rw [decide_eq_true rfl]
    clear z0 z1 zf
    have hdr : Below w4.heap.size w4 (w4.drewN qw5) := below_dr (Below.refl _ _)
    replace HB := Lib.hid (HB.out.trans (hdr.mono HB.out.size))
    replace IX := Lib.hid (IX.out.below hdr (Nat.le_refl _))
    replace HS := Lib.hid (HS.out.below hdr (Nat.le_refl _))
    replace ZT := Lib.hid (ZT.out.below hdr (Nat.le_refl _))
    replace IO := Lib.hid (IO.out.below hdr (Nat.le_refl _))
    replace IW := Lib.hid (IW.out.below hdr (Nat.le_refl _))
    clear hdr
    generalize w4.drewN qw5 = w5 at *
    obtain ⟨z0, z1, zf⟩ := two_cells ZT.out
    go_wp2_with fail
    ((with_reducible refine (Hlp.sameInts _ _ _ _ _ _ _ _ _ _ (xs) (xs) _ IO.out IW.out).mono ?_); rintro e w6 ⟨rfl, qw6, rfl⟩)
    rw [decide_eq_true rfl]
    clear z0 z1 zf
    have hdr : Below w5.heap.size w5 (w5.drewN qw6) := below_dr (Below.refl _ _)
    replace HB := Lib.hid (HB.out.trans (hdr.mono HB.out.size))
    replace IX := Lib.hid (IX.out.below hdr (Nat.le_refl _))
    replace HS := Lib.hid (HS.out.below hdr (Nat.le_refl _))
    replace ZT := Lib.hid (ZT.out.below hdr (Nat.le_refl _))
    replace IO := Lib.hid (IO.out.below hdr (Nat.le_refl _))
    replace IW := Lib.hid (IW.out.below hdr (Nat.le_refl _))
    clear hdr
    generalize w5.drewN qw6 = w6 at *
    obtain ⟨z0, z1, zf⟩ := two_cells ZT.out
    go_wp2
    go_ret
    exact ⟨rfl, HB.out⟩
  have h0' : ((xs.length : Int) == 0) = false := beq_eq_false_iff_ne.2 (by omega)
  go_wp2_with fail
  ((with_reducible refine (Hlp.sameInts _ _ _ _ _ _ _ _ _ _ (xs) (xs) _ IO.out IW.out).mono ?_); rintro e w5 ⟨rfl, qw5, rfl⟩)
  rw [decide_eq_true rfl]
  clear z0 z1 zf
  have hdr : Below w4.heap.size w4 (w4.drewN qw5) := below_dr (Below.refl _ _)
  replace HB := Lib.hid (HB.out.trans (hdr.mono HB.out.size))
  replace IX := Lib.hid (IX.out.below hdr (Nat.le_refl _))
  replace HS := Lib.hid (HS.out.below hdr (Nat.le_refl _))
  replace ZT := Lib.hid (ZT.out.below hdr (Nat.le_refl _))
  replace IO := Lib.hid (IO.out.below hdr (Nat.le_refl _))
  replace IW := Lib.hid (IW.out.below hdr (Nat.le_refl _))
  clear hdr
  generalize w4.drewN qw5 = w5 at *
  obtain ⟨z0, z1, zf⟩ := two_cells ZT.out
  go_wp2_with fail
  ((with_reducible refine (Hlp.sameInts _ _ _ _ _ _ _ _ _ _ (xs) (xs) _ IO.out IX.out).mono ?_); rintro e w6 ⟨rfl, qw6, rfl⟩)
  rw [decide_eq_true rfl]
  clear z0 z1 zf
  have hdr : Below w5.heap.size w5 (w5.drewN qw6) := below_dr (Below.refl _ _)
  replace HB := Lib.hid (HB.out.trans (hdr.mono HB.out.size))
  replace IX := Lib.hid (IX.out.below hdr (Nat.le_refl _))
  replace HS := Lib.hid (HS.out.below hdr (Nat.le_refl _))
  replace ZT := Lib.hid (ZT.out.below hdr (Nat.le_refl _))
  replace IO := Lib.hid (IO.out.below hdr (Nat.le_refl _))
  replace IW := Lib.hid (IW.out.below hdr (Nat.le_refl _))
  clear hdr
  generalize w5.drewN qw6 = w6 at *
  obtain ⟨z0, z1, zf⟩ := two_cells ZT.out
  go_wp2_with fail
  ((with_reducible refine (Im12.TicketCheck p s g _).mono ?_); rintro e w7 ⟨rfl, hb7⟩)
  clear z0 z1 zf
  replace HB := Lib.hid (HB.out.trans (hb7.mono HB.out.size))
  replace IX := Lib.hid (IX.out.below hb7 (Nat.le_refl _))
  replace HS := Lib.hid (HS.out.below hb7 (Nat.le_refl _))
  replace ZT := Lib.hid (ZT.out.below hb7 (Nat.le_refl _))
  replace IO := Lib.hid (IO.out.below hb7 (Nat.le_refl _))
  replace IW := Lib.hid (IW.out.below hb7 (Nat.le_refl _))
  clear hb7
  obtain ⟨z0, z1, zf⟩ := two_cells ZT.out
  cases hch : chkF p s g
  · skip
    go_wp2
    go_ret
    exact ⟨rfl, HB.out⟩
  go_wp2_with fail
  ((with_reducible refine (Sg.hasInt _ _ _ _ _ xs s _ IX.out).mono ?_); rintro e w8 ⟨rfl, rfl⟩)
  cases hhk : hasK xs s
  case «true» =>
    go_wp2
    go_ret
    exact ⟨rfl, HB.out⟩
  have hl : xs.length = 20 := by
    by_cases h : xs.length < 20
    · rw [goB_iff.2 ⟨hok, hch, hhk, h⟩] at hgo; cases hgo
    · omega
  have hl' : ((xs.length : Int) == 20) = true := by simp; omega
  go_wp2
  go_ret
  exact ⟨rfl, HB.out⟩
set_option maxRecDepth 20000 in
set_option maxHeartbeats 4000000 in
theorem fnSpendOrder (a0 a1 a2 : Addr) (A : Option Addr) (n c : Nat) (A9 : Option Addr) (n9 c9 : Nat) (w : World) (h : CodeIs w A n c) (h9 : CodeIs w A9 n9 c9) (hS : Im12.Snt w a0 a1 a2) : Calls Tryd.prog 6 #[.slice A n c, .slice A9 n9 c9] w (BoolB true w) := by
  by_cases hbign : (1048576 : Int) < (n : Int)
  · go_enter Tryd.func6, Tryd.ntmps6
    go_wp2
    go_ret
    exact ⟨rfl, Below.refl _ _⟩
  by_cases hbign9 : (1048576 : Int) < (n9 : Int)
  · go_enter Tryd.func6, Tryd.ntmps6
    go_wp2
    go_ret
    exact ⟨rfl, Below.refl _ _⟩
  go_enter Tryd.func6, Tryd.ntmps6
  go_wp2_with fail
  ((with_reducible refine (Rd.DrawTicketSpend A n c w h).mono ?_); rintro e w1 ⟨A1, c1, xs, p, s, g, rfl, hi1, hb1⟩)
  have HB := Lib.hid hb1
  have IX := Lib.hid hi1
  have HS := Lib.hid (hS.below hb1 (Nat.le_refl _))
  have HC := Lib.hid (codeIs_below h9 hb1)
  clear hb1 hi1 hS h9
  have hal : Below w1.heap.size w1 (w1.alloc (.cells #[.int .i64 s, .int .i64 g] 25)) := (Below.refl _ _).alloc (Nat.le_refl _) _
  have ZT := Lib.hid (blk_new w1 #[.int .i64 s, .int .i64 g] 25)
  replace HB := Lib.hid (HB.out.trans (hal.mono HB.out.size))
  replace IX := Lib.hid (IX.out.below hal (Nat.le_refl _))
  replace HS := Lib.hid (HS.out.below hal (Nat.le_refl _))
  replace HC := Lib.hid (codeIs_below HC.out hal)
  clear hal
  go_upto_region 4 with (fail)
  generalize w1.alloc (.cells #[.int .i64 s, .int .i64 g] 25) = w2 at *
  obtain ⟨z0, z1, zf⟩ := two_cells ZT.out
  go_wp2_with fail
  ((with_reducible refine (Im12.TicketSpend a0 a1 a2 xs p s g _ _ _ _ _ IX.out HS.out).mono ?_); rintro e w3 ⟨A3, c3, rfl, ho3, hb3⟩)
  clear z0 z1 zf
  replace HB := Lib.hid (HB.out.trans (hb3.mono HB.out.size))
  replace IX := Lib.hid (IX.out.below hb3 (Nat.le_refl _))
  replace HS := Lib.hid (HS.out.below hb3 (Nat.le_refl _))
  replace HC := Lib.hid (codeIs_below HC.out hb3)
  replace ZT := Lib.hid (ZT.out.below hb3 (Nat.le_refl _))
  have IO := Lib.hid ho3.ints
  clear ho3 hb3
  obtain ⟨z0, z1, zf⟩ := two_cells ZT.out
  go_wp2_with fail
  ((with_reducible refine (Sp12.TicketSpend xs p s g _ _ _ _ _ IX.out).mono ?_); rintro e w4 ⟨A4, c4, rfl, ho4, hb4⟩)
  clear z0 z1 zf
  replace HB := Lib.hid (HB.out.trans (hb4.mono HB.out.size))
  replace IX := Lib.hid (IX.out.below hb4 (Nat.le_refl _))
  replace HS := Lib.hid (HS.out.below hb4 (Nat.le_refl _))
  replace HC := Lib.hid (codeIs_below HC.out hb4)
  replace ZT := Lib.hid (ZT.out.below hb4 (Nat.le_refl _))
  replace IO := Lib.hid (IO.out.below hb4 (Nat.le_refl _))
  have IW := Lib.hid ho4.ints
  clear ho4 hb4
  obtain ⟨z0, z1, zf⟩ := two_cells ZT.out
  cases hgo : goB xs p s g
  · skip
    go_wp2_with fail
    ((with_reducible refine (Hlp.sameInts _ _ _ _ _ _ _ _ _ _ (spF xs p s g) (spF xs p s g) _ IO.out IW.out).mono ?_); rintro e w5 ⟨rfl, qw5, rfl⟩)
    rw [decide_eq_true rfl]
    clear z0 z1 zf
    have hdr : Below w4.heap.size w4 (w4.drewN qw5) := below_dr (Below.refl _ _)
    replace HB := Lib.hid (HB.out.trans (hdr.mono HB.out.size))
    replace IX := Lib.hid (IX.out.below hdr (Nat.le_refl _))
    replace HS := Lib.hid (HS.out.below hdr (Nat.le_refl _))
    replace HC := Lib.hid (codeIs_below HC.out hdr)
    replace ZT := Lib.hid (ZT.out.below hdr (Nat.le_refl _))
    replace IO := Lib.hid (IO.out.below hdr (Nat.le_refl _))
    replace IW := Lib.hid (IW.out.below hdr (Nat.le_refl _))
    clear hdr
    generalize w4.drewN qw5 = w5 at *
    obtain ⟨z0, z1, zf⟩ := two_cells ZT.out
    go_wp2_with fail
    ((with_reducible refine (Hlp.sameInts _ _ _ _ _ _ _ _ _ _ (spF xs p s g) (spF xs p s g) _ IO.out IW.out).mono ?_); rintro e w6 ⟨rfl, qw6, rfl⟩)
    rw [decide_eq_true rfl]
    clear z0 z1 zf
    have hdr : Below w5.heap.size w5 (w5.drewN qw6) := below_dr (Below.refl _ _)
    replace HB := Lib.hid (HB.out.trans (hdr.mono HB.out.size))
    replace IX := Lib.hid (IX.out.below hdr (Nat.le_refl _))
    replace HS := Lib.hid (HS.out.below hdr (Nat.le_refl _))
    replace HC := Lib.hid (codeIs_below HC.out hdr)
    replace ZT := Lib.hid (ZT.out.below hdr (Nat.le_refl _))
    replace IO := Lib.hid (IO.out.below hdr (Nat.le_refl _))
    replace IW := Lib.hid (IW.out.below hdr (Nat.le_refl _))
    clear hdr
    generalize w5.drewN qw6 = w6 at *
    obtain ⟨z0, z1, zf⟩ := two_cells ZT.out
    go_wp2
    go_ret
    exact ⟨rfl, HB.out⟩
  have HY := Lib.hid (spF_yes hgo)
  rw [HY.out] at IO IW ⊢
  have HGO := Lib.hid hgo
  clear hgo
  go_wp2_with fail
  ((with_reducible refine (Hlp.sameInts _ _ _ _ _ _ _ _ _ _ (insK xs s) (insK xs s) _ IO.out IW.out).mono ?_); rintro e w5 ⟨rfl, qw5, rfl⟩)
  rw [decide_eq_true rfl]
  clear z0 z1 zf
  have hdr : Below w4.heap.size w4 (w4.drewN qw5) := below_dr (Below.refl _ _)
  replace HB := Lib.hid (HB.out.trans (hdr.mono HB.out.size))
  replace IX := Lib.hid (IX.out.below hdr (Nat.le_refl _))
  replace HS := Lib.hid (HS.out.below hdr (Nat.le_refl _))
  replace HC := Lib.hid (codeIs_below HC.out hdr)
  replace ZT := Lib.hid (ZT.out.below hdr (Nat.le_refl _))
  replace IO := Lib.hid (IO.out.below hdr (Nat.le_refl _))
  replace IW := Lib.hid (IW.out.below hdr (Nat.le_refl _))
  clear hdr
  generalize w4.drewN qw5 = w5 at *
  obtain ⟨z0, z1, zf⟩ := two_cells ZT.out
  clear IW
  go_wp2_with fail
  ((with_reducible refine (Rd.DrawTicketSpend A9 n9 c9 _ HC.out).mono ?_); rintro e w6 ⟨A6, c6, xs6, p2, t, k, rfl, -, hb6⟩)
  clear z0 z1 zf
  replace HB := Lib.hid (HB.out.trans (hb6.mono HB.out.size))
  replace IX := Lib.hid (IX.out.below hb6 (Nat.le_refl _))
  replace HS := Lib.hid (HS.out.below hb6 (Nat.le_refl _))
  replace HC := Lib.hid (codeIs_below HC.out hb6)
  replace ZT := Lib.hid (ZT.out.below hb6 (Nat.le_refl _))
  replace IO := Lib.hid (IO.out.below hb6 (Nat.le_refl _))
  clear hb6 HC
  have hal : Below w6.heap.size w6 (w6.alloc (.cells #[.int .i64 t, .int .i64 k] 25)) := (Below.refl _ _).alloc (Nat.le_refl _) _
  have ZU := Lib.hid (blk_new w6 #[.int .i64 t, .int .i64 k] 25)
  replace HB := Lib.hid (HB.out.trans (hal.mono HB.out.size))
  replace IX := Lib.hid (IX.out.below hal (Nat.le_refl _))
  replace HS := Lib.hid (HS.out.below hal (Nat.le_refl _))
  replace ZT := Lib.hid (ZT.out.below hal (Nat.le_refl _))
  replace IO := Lib.hid (IO.out.below hal (Nat.le_refl _))
  clear hal
  go_upto_region 9 with (fail)
  generalize w6.alloc (.cells #[.int .i64 t, .int .i64 k] 25) = w7 at *
  obtain ⟨y0, y1, yf⟩ := two_cells ZU.out
  go_wp2_with fail
  ((with_reducible refine (Im12.TicketSpend a0 a1 a2 (insK xs s) p2 t k _ _ _ _ _ IO.out HS.out).mono ?_); rintro e w8 ⟨A8, c8, rfl, ho8, hb8⟩)
  clear y0 y1 yf
  replace HB := Lib.hid (HB.out.trans (hb8.mono HB.out.size))
  replace IX := Lib.hid (IX.out.below hb8 (Nat.le_refl _))
  replace HS := Lib.hid (HS.out.below hb8 (Nat.le_refl _))
  replace ZT := Lib.hid (ZT.out.below hb8 (Nat.le_refl _))
  replace IO := Lib.hid (IO.out.below hb8 (Nat.le_refl _))
  replace ZU := Lib.hid (ZU.out.below hb8 (Nat.le_refl _))
  have I8 := Lib.hid ho8.ints
  clear ho8 hb8
  obtain ⟨y0, y1, yf⟩ := two_cells ZU.out
  go_wp2_with fail
  ((with_reducible refine (Im12.TicketSpend a0 a1 a2 xs p2 t k _ _ _ _ _ IX.out HS.out).mono ?_); rintro e w9 ⟨A9b, c9b, rfl, ho9, hb9⟩)
  clear y0 y1 yf
  replace HB := Lib.hid (HB.out.trans (hb9.mono HB.out.size))
  replace IX := Lib.hid (IX.out.below hb9 (Nat.le_refl _))
  replace HS := Lib.hid (HS.out.below hb9 (Nat.le_refl _))
  replace ZT := Lib.hid (ZT.out.below hb9 (Nat.le_refl _))
  replace IO := Lib.hid (IO.out.below hb9 (Nat.le_refl _))
  replace ZU := Lib.hid (ZU.out.below hb9 (Nat.le_refl _))
  replace I8 := Lib.hid (I8.out.below hb9 (Nat.le_refl _))
  have I9 := Lib.hid ho9.ints
  clear ho9 hb9
  cases h1 : goB (insK xs s) p2 t k
  · skip
    go_wp2
    go_ret
    exact ⟨rfl, HB.out⟩
  cases h2 : goB xs p2 t k
  · skip
    go_wp2
    go_ret
    exact ⟨rfl, HB.out⟩
  have E1 := Lib.hid (spF_yes h1)
  have E2 := Lib.hid (spF_yes h2)
  have HOR := Lib.hid (order HGO.out h1 h2)
  have E3 := Lib.hid (spF_yes HOR.out.1)
  rw [E1.out] at I8 ⊢
  rw [E2.out] at I9 ⊢
  clear h1 h2
  obtain ⟨z0, z1, zf⟩ := two_cells ZT.out
  go_wp2_with fail
  ((with_reducible refine (Im12.TicketSpend a0 a1 a2 (insK xs t) p s g _ _ _ _ _ I9.out HS.out).mono ?_); rintro e w10 ⟨A10, c10, rfl, ho10, hb10⟩)
  rw [E3.out, HOR.out.2] at ho10
  rw [E3.out, HOR.out.2, HOR.out.1]
  clear z0 z1 zf
  replace HB := Lib.hid (HB.out.trans (hb10.mono HB.out.size))
  replace IX := Lib.hid (IX.out.below hb10 (Nat.le_refl _))
  replace HS := Lib.hid (HS.out.below hb10 (Nat.le_refl _))
  replace ZT := Lib.hid (ZT.out.below hb10 (Nat.le_refl _))
  replace IO := Lib.hid (IO.out.below hb10 (Nat.le_refl _))
  replace ZU := Lib.hid (ZU.out.below hb10 (Nat.le_refl _))
  replace I8 := Lib.hid (I8.out.below hb10 (Nat.le_refl _))
  replace I9 := Lib.hid (I9.out.below hb10 (Nat.le_refl _))
  have I10 := Lib.hid ho10.ints
  clear ho10 hb10
  obtain ⟨z0, z1, zf⟩ := two_cells ZT.out
  go_wp2_with fail
  ((with_reducible refine (Hlp.sameInts _ _ _ _ _ _ _ _ _ _ (insK (insK xs s) t) (insK (insK xs s) t) _ I10.out I8.out).mono ?_); rintro e w11 ⟨rfl, qw11, rfl⟩)
  rw [decide_eq_true rfl]
  clear z0 z1 zf
  have hdr : Below w10.heap.size w10 (w10.drewN qw11) := below_dr (Below.refl _ _)
  replace HB := Lib.hid (HB.out.trans (hdr.mono HB.out.size))
  replace IX := Lib.hid (IX.out.below hdr (Nat.le_refl _))
  replace HS := Lib.hid (HS.out.below hdr (Nat.le_refl _))
  replace ZT := Lib.hid (ZT.out.below hdr (Nat.le_refl _))
  replace IO := Lib.hid (IO.out.below hdr (Nat.le_refl _))
  replace ZU := Lib.hid (ZU.out.below hdr (Nat.le_refl _))
  replace I8 := Lib.hid (I8.out.below hdr (Nat.le_refl _))
  replace I9 := Lib.hid (I9.out.below hdr (Nat.le_refl _))
  replace I10 := Lib.hid (I10.out.below hdr (Nat.le_refl _))
  clear hdr
  generalize w10.drewN qw11 = w11 at *
  obtain ⟨z0, z1, zf⟩ := two_cells ZT.out
  go_wp2
  go_ret
  exact ⟨rfl, HB.out⟩
theorem one_ok {s : Int} (h : serB s = true) : spOk [s] = true := by
  refine spOk_iff.2 ⟨by simp, fun i hi => ?_⟩
  obtain rfl : i = 0 := by simpa using hi
  exact spAt_iff.2 ⟨h, fun h => absurd h (by omega)⟩
theorem spend_nil (a0 a1 a2 : Addr) (p s g : Int) (A : Option Addr) (c : Nat) (w : World) (hx : Ints 0 0 w A 0 c []) (hs : Im12.Snt w a0 a1 a2) :
    Calls Tryd.prog 10 #[.slice A 0 c, .int .i64 p, .agg #[.int .i64 s, .int .i64 g]] w (LstB (spF [] p s g) (goB [] p s g) w) := Im12.TicketSpend a0 a1 a2 [] p s g A c 0 0 w hx hs
set_option maxRecDepth 20000 in
set_option maxHeartbeats 4000000 in
theorem fnAuditSpend (a0 a1 a2 : Addr) (A : Option Addr) (n c : Nat) (A9 : Option Addr) (n9 c9 : Nat) (w : World) (h : CodeIs w A n c) (hS : Im12.Snt w a0 a1 a2) : Calls Tryd.prog 7 #[.slice A n c, .slice A9 n9 c9] w (BoolB true w) := by
  by_cases hbign : (1048576 : Int) < (n : Int)
  · go_enter Tryd.func7, Tryd.ntmps7
    go_wp2
    go_ret
    exact ⟨rfl, Below.refl _ _⟩
  by_cases hbign9 : (1048576 : Int) < (n9 : Int)
  · go_enter Tryd.func7, Tryd.ntmps7
    go_wp2
    go_ret
    exact ⟨rfl, Below.refl _ _⟩
  go_enter Tryd.func7, Tryd.ntmps7
  go_wp2_with fail
  ((with_reducible refine (Rd.DrawTicketSpend A n c w h).mono ?_); rintro e w1 ⟨A1, c1, xs, p, s, g, rfl, hi1, hb1⟩)
  have HB := Lib.hid hb1
  have IX := Lib.hid hi1
  have HS := Lib.hid (hS.below hb1 (Nat.le_refl _))
  clear hb1 hi1 hS
  have hal : Below w1.heap.size w1 (w1.alloc (.cells #[.int .i64 s, .int .i64 g] 25)) := (Below.refl _ _).alloc (Nat.le_refl _) _
  have ZT := Lib.hid (blk_new w1 #[.int .i64 s, .int .i64 g] 25)
  replace HB := Lib.hid (HB.out.trans (hal.mono HB.out.size))
  replace IX := Lib.hid (IX.out.below hal (Nat.le_refl _))
  replace HS := Lib.hid (HS.out.below hal (Nat.le_refl _))
  clear hal
  go_upto_region 4 with (fail)
  generalize w1.alloc (.cells #[.int .i64 s, .int .i64 g] 25) = w2 at *
  obtain ⟨z0, z1, zf⟩ := two_cells ZT.out
  go_wp2_with fail
  ((with_reducible refine (Im12.TicketSpend a0 a1 a2 xs p s g _ _ _ _ _ IX.out HS.out).mono ?_); rintro e w3 ⟨A3, c3, rfl, ho3, hb3⟩)
  clear z0 z1 zf
  replace HB := Lib.hid (HB.out.trans (hb3.mono HB.out.size))
  replace IX := Lib.hid (IX.out.below hb3 (Nat.le_refl _))
  replace HS := Lib.hid (HS.out.below hb3 (Nat.le_refl _))
  replace ZT := Lib.hid (ZT.out.below hb3 (Nat.le_refl _))
  have IO := Lib.hid ho3.ints
  clear ho3 hb3
  obtain ⟨z0, z1, zf⟩ := two_cells ZT.out
  go_wp2_with fail
  ((with_reducible refine (Sp12.TicketSpend xs p s g _ _ _ _ _ IX.out).mono ?_); rintro e w4 ⟨A4, c4, rfl, ho4, hb4⟩)
  clear z0 z1 zf
  replace HB := Lib.hid (HB.out.trans (hb4.mono HB.out.size))
  replace IX := Lib.hid (IX.out.below hb4 (Nat.le_refl _))
  replace HS := Lib.hid (HS.out.below hb4 (Nat.le_refl _))
  replace ZT := Lib.hid (ZT.out.below hb4 (Nat.le_refl _))
  replace IO := Lib.hid (IO.out.below hb4 (Nat.le_refl _))
  have IW := Lib.hid ho4.ints
  clear ho4 hb4
  obtain ⟨z0, z1, zf⟩ := two_cells ZT.out
  cases hgo : goB xs p s g
  · skip
    go_wp2_with fail
    ((with_reducible refine (Hlp.sameInts _ _ _ _ _ _ _ _ _ _ (spF xs p s g) (spF xs p s g) _ IO.out IW.out).mono ?_); rintro e w5 ⟨rfl, qw5, rfl⟩)
    rw [decide_eq_true rfl]
    clear z0 z1 zf
    have hdr : Below w4.heap.size w4 (w4.drewN qw5) := below_dr (Below.refl _ _)
    replace HB := Lib.hid (HB.out.trans (hdr.mono HB.out.size))
    replace IX := Lib.hid (IX.out.below hdr (Nat.le_refl _))
    replace HS := Lib.hid (HS.out.below hdr (Nat.le_refl _))
    replace ZT := Lib.hid (ZT.out.below hdr (Nat.le_refl _))
    replace IO := Lib.hid (IO.out.below hdr (Nat.le_refl _))
    replace IW := Lib.hid (IW.out.below hdr (Nat.le_refl _))
    clear hdr
    generalize w4.drewN qw5 = w5 at *
    obtain ⟨z0, z1, zf⟩ := two_cells ZT.out
    go_wp2_with fail
    ((with_reducible refine (Hlp.sameInts _ _ _ _ _ _ _ _ _ _ (spF xs p s g) (spF xs p s g) _ IO.out IW.out).mono ?_); rintro e w6 ⟨rfl, qw6, rfl⟩)
    rw [decide_eq_true rfl]
    clear z0 z1 zf
    have hdr : Below w5.heap.size w5 (w5.drewN qw6) := below_dr (Below.refl _ _)
    replace HB := Lib.hid (HB.out.trans (hdr.mono HB.out.size))
    replace IX := Lib.hid (IX.out.below hdr (Nat.le_refl _))
    replace HS := Lib.hid (HS.out.below hdr (Nat.le_refl _))
    replace ZT := Lib.hid (ZT.out.below hdr (Nat.le_refl _))
    replace IO := Lib.hid (IO.out.below hdr (Nat.le_refl _))
    replace IW := Lib.hid (IW.out.below hdr (Nat.le_refl _))
    clear hdr
    generalize w5.drewN qw6 = w6 at *
    obtain ⟨z0, z1, zf⟩ := two_cells ZT.out
    go_wp2
    go_ret
    exact ⟨rfl, HB.out⟩
  have HY := Lib.hid (spF_yes hgo)
  rw [HY.out] at IO IW ⊢
  have HGO := Lib.hid hgo
  clear hgo
  go_wp2_with fail
  ((with_reducible refine (Hlp.sameInts _ _ _ _ _ _ _ _ _ _ (insK xs s) (insK xs s) _ IO.out IW.out).mono ?_); rintro e w5 ⟨rfl, qw5, rfl⟩)
  rw [decide_eq_true rfl]
  clear z0 z1 zf
  have hdr : Below w4.heap.size w4 (w4.drewN qw5) := below_dr (Below.refl _ _)
  replace HB := Lib.hid (HB.out.trans (hdr.mono HB.out.size))
  replace IX := Lib.hid (IX.out.below hdr (Nat.le_refl _))
  replace HS := Lib.hid (HS.out.below hdr (Nat.le_refl _))
  replace ZT := Lib.hid (ZT.out.below hdr (Nat.le_refl _))
  replace IO := Lib.hid (IO.out.below hdr (Nat.le_refl _))
  replace IW := Lib.hid (IW.out.below hdr (Nat.le_refl _))
  clear hdr
  generalize w4.drewN qw5 = w5 at *
  obtain ⟨z0, z1, zf⟩ := two_cells ZT.out
  clear IW
  have hal : Below w5.heap.size w5 (w5.alloc (.cells #[] 3)) := (Below.refl _ _).alloc (Nat.le_refl _) _
  have HE : Hid (Ints 0 0 (w5.alloc (.cells #[] 3)) (some ⟨w5.heap.size, 0, none⟩) 0 0 []) := ⟨rfl, Nat.le_refl _, by unfold maxLen; omega, fun h => absurd h (by omega)⟩
  have HAL := Lib.hid (alone HGO.out)
  clear z0 z1 zf
  replace HB := Lib.hid (HB.out.trans (hal.mono HB.out.size))
  replace IX := Lib.hid (IX.out.below hal (Nat.le_refl _))
  replace HS := Lib.hid (HS.out.below hal (Nat.le_refl _))
  replace ZT := Lib.hid (ZT.out.below hal (Nat.le_refl _))
  replace IO := Lib.hid (IO.out.below hal (Nat.le_refl _))
  clear hal
  obtain ⟨z0, z1, zf⟩ := two_cells ZT.out
  go_wp2_with fail
  ((with_reducible refine (spend_nil a0 a1 a2 p s g _ _ _ HE.out HS.out).mono ?_); rintro e w6 ⟨A6, c6, rfl, ho6, hb6⟩)
  rw [HAL.out.1, HAL.out.2]
  rw [HAL.out.2] at ho6
  clear z0 z1 zf
  replace HB := Lib.hid (HB.out.trans (hb6.mono HB.out.size))
  replace IX := Lib.hid (IX.out.below hb6 (Nat.le_refl _))
  replace HS := Lib.hid (HS.out.below hb6 (Nat.le_refl _))
  replace ZT := Lib.hid (ZT.out.below hb6 (Nat.le_refl _))
  replace IO := Lib.hid (IO.out.below hb6 (Nat.le_refl _))
  have I6 := Lib.hid ho6.ints
  clear ho6 hb6
  have HHK : Hid (hasK (audF (insK xs s) [s]) s = true) := by
    have hg := goB_iff.1 HGO.out
    have hs1 := one_ok (chkF_iff.1 hg.2.1).1
    show hasK _ _ = true
    rw [aud_yes (go_ok HGO.out) hs1, hasK_iff, List.mem_filter]
    exact ⟨mem_insK.2 (.inl rfl), hasK_iff.2 (by simp)⟩
  have hn9 : decide (0 ≤ (n9 : Int)) = true := by simp
  obtain ⟨z0, z1, zf⟩ := two_cells ZT.out
  go_upto_region 9 with (fail)
  have S0 : Hid (w6.drew.cell? ⟨w1.heap.size, 0, none⟩ = some (.int .i64 s)) := z0
  have J6 : Hid (Ints _ _ w6.drew A6 1 c6 [s]) := I6.out
  have JO : Hid (Ints _ _ w6.drew A3 (insK xs s).length c3 (insK xs s)) := IO.out
  have HZL : Hid (w1.heap.size < w6.heap.size) := ZT.out.lt
  go_region_held3 (fun w' => w'.cell? ⟨w1.heap.size, 0, none⟩ = some (.int .i64 s))
    (first | with_reducible exact S0.out | with_reducible exact s8 | fail)
    (first
    | (go_at_call 15; (with_reducible refine (Im12.TicketAudit _ _ _ _ _ _ _ _ _ _ (insK xs s) [s] _ JO.out J6.out).mono ?_); rintro e w8 ⟨A8, c8, rfl, ho8, hb8⟩; have hb8' : Below w6.heap.size w6 w8 := Im12.below_drw hb8; have s8 := (hb8'.cell (p := ⟨w1.heap.size, 0, none⟩) HZL.out).trans S0.out; have I8 := ho8.ints)
    | (go_at_call 13; (with_reducible refine (Sg.hasInt _ _ _ _ _ (audF (insK xs s) [s]) s _ I8).mono ?_); rintro e w9 ⟨rfl, rfl⟩; rw [HHK.out])
    | fail)
  all_goals
    have HB8 := Lib.hid (HB.out.trans (hb8'.mono HB.out.size))
    clear ho8 hb8 hb8' s8 I8
    go_wp2
    go_ret
    exact ⟨rfl, HB8.out⟩
set_option maxRecDepth 20000 in
set_option maxHeartbeats 4000000 in
theorem fnAuditSelf (a0 a1 a2 : Addr) (A : Option Addr) (n c : Nat) (w : World) (h : CodeIs w A n c) (hS : Im12.Snt w a0 a1 a2) : Calls Tryd.prog 8 #[.slice A n c] w (BoolB true w) := by
  by_cases hbign : (1048576 : Int) < (n : Int)
  · go_enter Tryd.func8, Tryd.ntmps8
    go_wp2
    go_ret
    exact ⟨rfl, Below.refl _ _⟩
  go_enter Tryd.func8, Tryd.ntmps8
  go_wp2_with fail
  ((with_reducible refine (Rd.DrawTicketSpend A n c w h).mono ?_); rintro e w1 ⟨A1, c1, xs, p, s, g, rfl, hi1, hb1⟩)
  have HB := Lib.hid hb1
  have IX := Lib.hid hi1
  have HS := Lib.hid (hS.below hb1 (Nat.le_refl _))
  clear hb1 hi1 hS
  have hal : Below w1.heap.size w1 (w1.alloc (.cells #[.int .i64 s, .int .i64 g] 25)) := (Below.refl _ _).alloc (Nat.le_refl _) _
  have ZT := Lib.hid (blk_new w1 #[.int .i64 s, .int .i64 g] 25)
  replace HB := Lib.hid (HB.out.trans (hal.mono HB.out.size))
  replace IX := Lib.hid (IX.out.below hal (Nat.le_refl _))
  replace HS := Lib.hid (HS.out.below hal (Nat.le_refl _))
  clear hal
  go_upto_region 4 with (fail)
  generalize w1.alloc (.cells #[.int .i64 s, .int .i64 g] 25) = w2 at *
  obtain ⟨z0, z1, zf⟩ := two_cells ZT.out
  go_wp2_with fail
  ((with_reducible refine (Im12.TicketSpend a0 a1 a2 xs p s g _ _ _ _ _ IX.out HS.out).mono ?_); rintro e w3 ⟨A3, c3, rfl, ho3, hb3⟩)
  clear z0 z1 zf
  replace HB := Lib.hid (HB.out.trans (hb3.mono HB.out.size))
  replace IX := Lib.hid (IX.out.below hb3 (Nat.le_refl _))
  replace HS := Lib.hid (HS.out.below hb3 (Nat.le_refl _))
  replace ZT := Lib.hid (ZT.out.below hb3 (Nat.le_refl _))
  have IO := Lib.hid ho3.ints
  clear ho3 hb3
  obtain ⟨z0, z1, zf⟩ := two_cells ZT.out
  go_wp2_with fail
  ((with_reducible refine (Sp12.TicketSpend xs p s g _ _ _ _ _ IX.out).mono ?_); rintro e w4 ⟨A4, c4, rfl, ho4, hb4⟩)
  clear z0 z1 zf
  replace HB := Lib.hid (HB.out.trans (hb4.mono HB.out.size))
  replace IX := Lib.hid (IX.out.below hb4 (Nat.le_refl _))
  replace HS := Lib.hid (HS.out.below hb4 (Nat.le_refl _))
  replace ZT := Lib.hid (ZT.out.below hb4 (Nat.le_refl _))
  replace IO := Lib.hid (IO.out.below hb4 (Nat.le_refl _))
  have IW := Lib.hid ho4.ints
  clear ho4 hb4
  obtain ⟨z0, z1, zf⟩ := two_cells ZT.out
  cases hgo : goB xs p s g
  · skip
    go_wp2_with fail
    ((with_reducible refine (Hlp.sameInts _ _ _ _ _ _ _ _ _ _ (spF xs p s g) (spF xs p s g) _ IO.out IW.out).mono ?_); rintro e w5 ⟨rfl, qw5, rfl⟩)
    rw [decide_eq_true rfl]
    clear z0 z1 zf
    have hdr : Below w4.heap.size w4 (w4.drewN qw5) := below_dr (Below.refl _ _)
    replace HB := Lib.hid (HB.out.trans (hdr.mono HB.out.size))
    replace IX := Lib.hid (IX.out.below hdr (Nat.le_refl _))
    replace HS := Lib.hid (HS.out.below hdr (Nat.le_refl _))
    replace ZT := Lib.hid (ZT.out.below hdr (Nat.le_refl _))
    replace IO := Lib.hid (IO.out.below hdr (Nat.le_refl _))
    replace IW := Lib.hid (IW.out.below hdr (Nat.le_refl _))
    clear hdr
    generalize w4.drewN qw5 = w5 at *
    obtain ⟨z0, z1, zf⟩ := two_cells ZT.out
    go_wp2_with fail
    ((with_reducible refine (Hlp.sameInts _ _ _ _ _ _ _ _ _ _ (spF xs p s g) (spF xs p s g) _ IO.out IW.out).mono ?_); rintro e w6 ⟨rfl, qw6, rfl⟩)
    rw [decide_eq_true rfl]
    clear z0 z1 zf
    have hdr : Below w5.heap.size w5 (w5.drewN qw6) := below_dr (Below.refl _ _)
    replace HB := Lib.hid (HB.out.trans (hdr.mono HB.out.size))
    replace IX := Lib.hid (IX.out.below hdr (Nat.le_refl _))
    replace HS := Lib.hid (HS.out.below hdr (Nat.le_refl _))
    replace ZT := Lib.hid (ZT.out.below hdr (Nat.le_refl _))
    replace IO := Lib.hid (IO.out.below hdr (Nat.le_refl _))
    replace IW := Lib.hid (IW.out.below hdr (Nat.le_refl _))
    clear hdr
    generalize w5.drewN qw6 = w6 at *
    obtain ⟨z0, z1, zf⟩ := two_cells ZT.out
    go_wp2
    go_ret
    exact ⟨rfl, HB.out⟩
  have HY := Lib.hid (spF_yes hgo)
  rw [HY.out] at IO IW ⊢
  have HGO := Lib.hid hgo
  clear hgo
  go_wp2_with fail
  ((with_reducible refine (Hlp.sameInts _ _ _ _ _ _ _ _ _ _ (insK xs s) (insK xs s) _ IO.out IW.out).mono ?_); rintro e w5 ⟨rfl, qw5, rfl⟩)
  rw [decide_eq_true rfl]
  clear z0 z1 zf
  have hdr : Below w4.heap.size w4 (w4.drewN qw5) := below_dr (Below.refl _ _)
  replace HB := Lib.hid (HB.out.trans (hdr.mono HB.out.size))
  replace IX := Lib.hid (IX.out.below hdr (Nat.le_refl _))
  replace HS := Lib.hid (HS.out.below hdr (Nat.le_refl _))
  replace ZT := Lib.hid (ZT.out.below hdr (Nat.le_refl _))
  replace IO := Lib.hid (IO.out.below hdr (Nat.le_refl _))
  replace IW := Lib.hid (IW.out.below hdr (Nat.le_refl _))
  clear hdr
  generalize w4.drewN qw5 = w5 at *
  obtain ⟨z0, z1, zf⟩ := two_cells ZT.out
  clear IW
  have HSF := Lib.hid (aud_self (go_ok HGO.out))
  have HNL := Lib.hid (aud_nil (insK xs s))
  go_wp2_with fail
  ((with_reducible refine (Im12.TicketAudit _ _ _ _ _ _ _ _ _ _ (insK xs s) (insK xs s) _ IO.out IO.out).mono ?_); rintro e w6 ⟨A6, c6, rfl, ho6, hb6⟩)
  rw [HSF.out] at ho6 ⊢
  clear z0 z1 zf
  replace HB := Lib.hid (HB.out.trans (hb6.mono HB.out.size))
  replace IX := Lib.hid (IX.out.below hb6 (Nat.le_refl _))
  replace HS := Lib.hid (HS.out.below hb6 (Nat.le_refl _))
  replace ZT := Lib.hid (ZT.out.below hb6 (Nat.le_refl _))
  replace IO := Lib.hid (IO.out.below hb6 (Nat.le_refl _))
  have I6 := Lib.hid ho6.ints
  clear ho6 hb6
  obtain ⟨z0, z1, zf⟩ := two_cells ZT.out
  go_wp2_with fail
  ((with_reducible refine (Hlp.sameInts _ _ _ _ _ _ _ _ _ _ (insK xs s) (insK xs s) _ I6.out IO.out).mono ?_); rintro e w7 ⟨rfl, qw7, rfl⟩)
  rw [decide_eq_true rfl]
  clear z0 z1 zf
  have hdr : Below w6.heap.size w6 (w6.drewN qw7) := below_dr (Below.refl _ _)
  replace HB := Lib.hid (HB.out.trans (hdr.mono HB.out.size))
  replace IX := Lib.hid (IX.out.below hdr (Nat.le_refl _))
  replace HS := Lib.hid (HS.out.below hdr (Nat.le_refl _))
  replace ZT := Lib.hid (ZT.out.below hdr (Nat.le_refl _))
  replace IO := Lib.hid (IO.out.below hdr (Nat.le_refl _))
  replace I6 := Lib.hid (I6.out.below hdr (Nat.le_refl _))
  clear hdr
  generalize w6.drewN qw7 = w7 at *
  obtain ⟨z0, z1, zf⟩ := two_cells ZT.out
  have hal : Below w7.heap.size w7 (w7.alloc (.cells #[] 3)) := (Below.refl _ _).alloc (Nat.le_refl _) _
  have HE : Hid (Ints 0 0 (w7.alloc (.cells #[] 3)) (some ⟨w7.heap.size, 0, none⟩) 0 0 []) := ⟨rfl, Nat.le_refl _, by unfold maxLen; omega, fun h => absurd h (by omega)⟩
  have HIO := Lib.hid (IO.out.below hal (Nat.le_refl _))
  have HBA := Lib.hid (HB.out.trans (hal.mono HB.out.size))
  clear hal
  go_wp2_with fail
  ((with_reducible refine (Im12.TicketAudit _ _ _ _ _ _ _ _ _ _ (insK xs s) [] _ HIO.out HE.out).mono ?_); rintro e w8 ⟨A8, c8, rfl, ho8, hb8⟩)
  rw [HNL.out]
  have HB8 := Lib.hid (HBA.out.trans (hb8.mono HBA.out.size))
  clear ho8 hb8
  go_wp2
  go_ret
  exact ⟨rfl, HB8.out⟩
end Law12
end Go.Proofs.YtecdoibdpimlaaaDoor
