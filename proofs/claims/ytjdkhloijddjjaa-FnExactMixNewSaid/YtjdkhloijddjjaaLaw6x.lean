/-
  The exact laws of chapter 11, by the contracts of the functions that they call: each returns true and writes nothing that was there.
-/
import Derived.Test.YtjdkhloijddjjaaSp6a
import Derived.Test.YtjdkhloijddjjaaIm6a
import Derived.Test.YtjdkhloijddjjaaHlp8
import Derived.Deep.RegionLaw
import Derived.Deep.RegionHeld3
namespace Go.Proofs.Ytjdkhloijddjjaa
open Go.RowKit
namespace Law6x
open Gm Mm Tm Lm Pm Po Pq Il Hlp5 Hlp6 Hlp7 Hlp8 LawB Sl Mm6 Sp6

theorem new_len (s : Int) : totalX (newM s) = 0 := by unfold newM; cases inG s <;> rfl
theorem mixNew_x (s : Int) (x : Mx) (ok : Bool) (w : World) (h : newM s = x ∧ inG s = ok) : Calls Try.prog 20 #[.int .i64 s] w (Im6.MixP x (.bool ok) w) := by
  obtain ⟨rfl, rfl⟩ := h
  exact Im6.MixNewP s w
set_option maxRecDepth 20000 in
set_option maxHeartbeats 1000000 in
theorem fnExactMixNew (s : Int) (w : World) :
    Calls Try.prog 5 #[.int .i64 s] w (TruePost w) := by
  have B : Hid (Below w.heap.size w w) := Below.refl _ _
  go_enter Try.func5, Try.ntmps5
  go_wp2_with fail
  ((with_reducible refine (Sp6.MixNew s _).mono ?_); rintro e w1 ⟨AS, cs, BS, ds, rfl, hr, hb⟩)
  replace B := Lib.hid (B.out.trans (hb.mono B.out.size))
  have z1 := hb.size
  have RS := Lib.hid hr
  clear hr hb
  have hnl := new_len s
  generalize hnx : newM s = x at *
  generalize hok : inG s = ok at *
  have HNX := Lib.hid (And.intro hnx hok)
  clear hnx hok
  have e0 : (ok != ok) = false := by cases ok <;> rfl
  have hal : Below w1.heap.size w1 (w1.alloc (.cells #[.int .i64 x.sec, .slice AS x.seen.length cs, .slice BS x.pool.length ds] 44)) := (Below.refl _ _).alloc (Nat.le_refl _) _
  have hzz : Blk (w1.alloc (.cells #[.int .i64 x.sec, .slice AS x.seen.length cs, .slice BS x.pool.length ds] 44)) w1.heap.size #[.int .i64 x.sec, .slice AS x.seen.length cs, .slice BS x.pool.length ds] 44 := heap_alloc_new _ _
  replace RS := Lib.hid (RS.out.below hal (Nat.le_refl _))
  replace B := Lib.hid (B.out.trans (hal.mono B.out.size))
  have ZS := Lib.hid hzz
  clear hzz
  clear hal
  have hzS : w1.heap.size < (w1.alloc (.cells #[.int .i64 x.sec, .slice AS x.seen.length cs, .slice BS x.pool.length ds] 44)).heap.size := by simp
  go_wp2_with fail
  ((with_reducible refine (mixNew_x s x ok _ HNX.out).mono ?_); rintro e w3 ⟨AG, cg, BG, dg, G, rfl, ho, hw, hb⟩)
  replace RS := Lib.hid (RS.out.below hb (Nat.le_refl _))
  replace ZS := Lib.hid (ZS.out.below hb (Nat.le_refl _))
  replace B := Lib.hid (B.out.trans (hb.mono B.out.size))
  have z3 := hb.size
  have MG := Lib.hid ho
  have HMG := Lib.hid hw
  clear ho hw hb
  have hal : Below w3.heap.size w3 (w3.alloc (.cells #[.int .i64 x.sec, .slice AG x.seen.length cg, .slice BG x.pool.length dg] 44)) := (Below.refl _ _).alloc (Nat.le_refl _) _
  have hzz : Blk (w3.alloc (.cells #[.int .i64 x.sec, .slice AG x.seen.length cg, .slice BG x.pool.length dg] 44)) w3.heap.size #[.int .i64 x.sec, .slice AG x.seen.length cg, .slice BG x.pool.length dg] 44 := heap_alloc_new _ _
  replace RS := Lib.hid (RS.out.below hal (Nat.le_refl _))
  replace ZS := Lib.hid (ZS.out.below hal (Nat.le_refl _))
  replace MG := Lib.hid (MG.out.below hal (Nat.le_refl _))
  replace B := Lib.hid (B.out.trans (hal.mono B.out.size))
  have ZG := Lib.hid hzz
  clear hzz
  clear hal
  have hzG : w3.heap.size < (w3.alloc (.cells #[.int .i64 x.sec, .slice AG x.seen.length cg, .slice BG x.pool.length dg] 44)).heap.size := by simp
  obtain ⟨m0, m1, m2, mf⟩ := Sp6.three_cells ZG.out
  obtain ⟨s0, s1, s2, sf⟩ := Sp6.three_cells ZS.out
  go_wp2_with fail
  ((with_reducible refine (eqMix x _ _ _ _ _ _ _ _ _ _ _ _ _ _ _ (MG.out.mix HMG.out) RS.out).mono ?_); rintro e w5 ⟨rfl, hb⟩)
  replace RS := Lib.hid (RS.out.below hb (Nat.le_refl _))
  replace ZS := Lib.hid (ZS.out.below hb (Nat.le_refl _))
  replace MG := Lib.hid (MG.out.below hb (Nat.le_refl _))
  replace ZG := Lib.hid (ZG.out.below hb (Nat.le_refl _))
  replace B := Lib.hid (B.out.trans (hb.mono B.out.size))
  have z5 := hb.size
  clear hb
  clear m0 m1 m2 mf s0 s1 s2 sf
  obtain ⟨m0, m1, m2, mf⟩ := Sp6.three_cells ZG.out
  go_wp2_with fail
  ((with_reducible refine (Hlp8.markMix _ _ _ _ x _ 1 _ MG.out (by omega) (by omega) (by omega)).mono ?_); rintro e w6 ⟨rfl, hm, hk⟩)
  clear m0 m1 m2 mf
  replace RS := Lib.hid (RS.out.keptG hk HMG.out (by omega))
  replace ZS := Lib.hid (blk_keptG ZS.out hk HMG.out (by omega))
  replace ZG := Lib.hid (blk_keptG ZG.out hk HMG.out (by omega))
  have hBs := B.out.size
  replace B := Lib.hid (below_keptG B.out hk HMG.out hBs (by omega))
  have z6 := hk.size
  clear hBs
  replace MG := Lib.hid hm
  clear hm hk
  obtain ⟨m0, m1, m2, mf⟩ := Sp6.three_cells ZG.out
  go_wp2_with fail
  ((with_reducible refine (heldMix _ _ _ _ _ _ x 1 _ (MG.out.mix HMG.out) (by omega) (by omega) (by omega)).mono ?_); rintro e w7 ⟨rfl, hb⟩)
  replace RS := Lib.hid (RS.out.below hb (Nat.le_refl _))
  replace ZS := Lib.hid (ZS.out.below hb (Nat.le_refl _))
  replace MG := Lib.hid (MG.out.below hb (Nat.le_refl _))
  replace ZG := Lib.hid (ZG.out.below hb (Nat.le_refl _))
  replace B := Lib.hid (B.out.trans (hb.mono B.out.size))
  have z7 := hb.size
  clear hb
  clear m0 m1 m2 mf
  go_wp2_with fail
  ((with_reducible refine (mixNew_x s x ok _ HNX.out).mono ?_); rintro e w8 ⟨AJ, cj, BJ, dj, GJ, rfl, ho, hw, hb⟩)
  replace RS := Lib.hid (RS.out.below hb (Nat.le_refl _))
  replace ZS := Lib.hid (ZS.out.below hb (Nat.le_refl _))
  replace MG := Lib.hid (MG.out.below hb (Nat.le_refl _))
  replace ZG := Lib.hid (ZG.out.below hb (Nat.le_refl _))
  replace B := Lib.hid (B.out.trans (hb.mono B.out.size))
  have z8 := hb.size
  have MJ := Lib.hid ho
  have HMJ := Lib.hid hw
  clear ho hw hb
  have hal : Below w8.heap.size w8 (w8.alloc (.cells #[.int .i64 x.sec, .slice AJ x.seen.length cj, .slice BJ x.pool.length dj] 44)) := (Below.refl _ _).alloc (Nat.le_refl _) _
  have hzz : Blk (w8.alloc (.cells #[.int .i64 x.sec, .slice AJ x.seen.length cj, .slice BJ x.pool.length dj] 44)) w8.heap.size #[.int .i64 x.sec, .slice AJ x.seen.length cj, .slice BJ x.pool.length dj] 44 := heap_alloc_new _ _
  replace RS := Lib.hid (RS.out.below hal (Nat.le_refl _))
  replace ZS := Lib.hid (ZS.out.below hal (Nat.le_refl _))
  replace MG := Lib.hid (MG.out.below hal (Nat.le_refl _))
  replace ZG := Lib.hid (ZG.out.below hal (Nat.le_refl _))
  replace MJ := Lib.hid (MJ.out.below hal (Nat.le_refl _))
  replace B := Lib.hid (B.out.trans (hal.mono B.out.size))
  have ZJ := Lib.hid hzz
  clear hzz
  clear hal
  have hzJ : w8.heap.size < (w8.alloc (.cells #[.int .i64 x.sec, .slice AJ x.seen.length cj, .slice BJ x.pool.length dj] 44)).heap.size := by simp
  obtain ⟨m0, m1, m2, mf⟩ := Sp6.three_cells ZJ.out
  obtain ⟨s0, s1, s2, sf⟩ := Sp6.three_cells ZS.out
  go_wp2_with fail
  ((with_reducible refine (eqMix x _ _ _ _ _ _ _ _ _ _ _ _ _ _ _ (MJ.out.mix HMJ.out) RS.out).mono ?_); rintro e w10 ⟨rfl, hb⟩)
  replace RS := Lib.hid (RS.out.below hb (Nat.le_refl _))
  replace ZS := Lib.hid (ZS.out.below hb (Nat.le_refl _))
  replace MG := Lib.hid (MG.out.below hb (Nat.le_refl _))
  replace ZG := Lib.hid (ZG.out.below hb (Nat.le_refl _))
  replace MJ := Lib.hid (MJ.out.below hb (Nat.le_refl _))
  replace ZJ := Lib.hid (ZJ.out.below hb (Nat.le_refl _))
  replace B := Lib.hid (B.out.trans (hb.mono B.out.size))
  have z10 := hb.size
  clear hb
  clear m0 m1 m2 mf s0 s1 s2 sf
  obtain ⟨m0, m1, m2, mf⟩ := Sp6.three_cells ZG.out
  go_wp2_with fail
  ((with_reducible refine (heldMix _ _ _ _ _ _ x 1 _ (MG.out.mix HMG.out) (by omega) (by omega) (by omega)).mono ?_); rintro e w11 ⟨rfl, hb⟩)
  replace RS := Lib.hid (RS.out.below hb (Nat.le_refl _))
  replace ZS := Lib.hid (ZS.out.below hb (Nat.le_refl _))
  replace MG := Lib.hid (MG.out.below hb (Nat.le_refl _))
  replace ZG := Lib.hid (ZG.out.below hb (Nat.le_refl _))
  replace MJ := Lib.hid (MJ.out.below hb (Nat.le_refl _))
  replace ZJ := Lib.hid (ZJ.out.below hb (Nat.le_refl _))
  replace B := Lib.hid (B.out.trans (hb.mono B.out.size))
  have z11 := hb.size
  clear hb
  clear m0 m1 m2 mf
  go_wp2
  go_ret
  exact ⟨rfl, B.out⟩

end Law6x
end Go.Proofs.Ytjdkhloijddjjaa
