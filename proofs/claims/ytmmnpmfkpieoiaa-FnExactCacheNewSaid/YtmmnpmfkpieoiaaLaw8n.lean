/-
  The exact law of CacheNew: it returns true and writes nothing that was there.
-/
import Derived.Test.YtmmnpmfkpieoiaaSp8c
import Derived.Test.YtmmnpmfkpieoiaaIm8
import Derived.Test.YtmmnpmfkpieoiaaH8
import Derived.Test.YtmmnpmfkpieoiaaIla
namespace Go.Proofs.Ytmmnpmfkpieoiaa
open Go.RowKit
namespace Law8
open Il Sl Fo Cm Cs Sg Gm H8 LawB

theorem newF_tot (e : Int) : tot (newF e).sl = 0 := by
  unfold newF
  cases epOk e <;> rfl
theorem cacheNew_s (e : Int) (c : Ch) (ok : Bool) (w : World) (h : newF e = c ∧ epOk e = ok) : Calls Try.prog 19 #[.int .i64 e] w (CacheP c (.bool ok) w) := by
  obtain ⟨rfl, rfl⟩ := h
  exact Sp8.CacheNew e w
theorem cacheNew_g (e : Int) (c : Ch) (ok : Bool) (w : World) (h : newF e = c ∧ epOk e = ok) : Calls Try.prog 18 #[.int .i64 e] w (CacheP c (.bool ok) w) := by
  obtain ⟨rfl, rfl⟩ := h
  exact Im8.CacheNew e w
set_option maxRecDepth 20000 in
set_option maxHeartbeats 1000000 in
theorem fnExactCacheNew (e : Int) (w : World) :
    Calls Try.prog 12 #[.int .i64 e] w (TruePost w) := by
  have B : Hid (Below w.heap.size w w) := Below.refl _ _
  go_enter Try.func12, Try.ntmps12
  generalize hnx : newF e = c at *
  generalize hok : epOk e = ok at *
  have HNX := Lib.hid (And.intro hnx hok)
  have HTT : Hid (tot c.sl = 0) := by show _ = _; rw [← hnx]; exact newF_tot e
  clear hnx hok
  have e0 : (ok != ok) = false := by cases ok <;> rfl
  go_wp2_with fail
  ((with_reducible refine (cacheNew_s e c ok _ HNX.out).mono ?_); rintro e w1 ⟨AS, kS, GS, rfl, ho, hw, hb⟩)
  replace B := Lib.hid (B.out.trans (hb.mono B.out.size))
  have z1 := hb.size
  have MS := Lib.hid ho
  have HMS := Lib.hid hw
  clear ho hw hb
  have hal : Below w1.heap.size w1 (w1.alloc (.cells #[.int .i64 c.ep, .slice AS c.sl.length kS] 26)) := (Below.refl _ _).alloc (Nat.le_refl _) _
  have hzz : Blk (w1.alloc (.cells #[.int .i64 c.ep, .slice AS c.sl.length kS] 26)) w1.heap.size #[.int .i64 c.ep, .slice AS c.sl.length kS] 26 := heap_alloc_new _ _
  replace MS := Lib.hid (MS.out.below hal (Nat.le_refl _))
  replace B := Lib.hid (B.out.trans (hal.mono B.out.size))
  have ZS := Lib.hid hzz
  clear hzz
  clear hal
  have hzS : w1.heap.size < (w1.alloc (.cells #[.int .i64 c.ep, .slice AS c.sl.length kS] 26)).heap.size := by simp
  go_wp2_with fail
  ((with_reducible refine (cacheNew_g e c ok _ HNX.out).mono ?_); rintro e w3 ⟨AG, kG, GG, rfl, ho, hw, hb⟩)
  replace MS := Lib.hid (MS.out.below hb (Nat.le_refl _))
  replace ZS := Lib.hid (ZS.out.below hb (Nat.le_refl _))
  replace B := Lib.hid (B.out.trans (hb.mono B.out.size))
  have z3 := hb.size
  have MG := Lib.hid ho
  have HMG := Lib.hid hw
  clear ho hw hb
  have hal : Below w3.heap.size w3 (w3.alloc (.cells #[.int .i64 c.ep, .slice AG c.sl.length kG] 26)) := (Below.refl _ _).alloc (Nat.le_refl _) _
  have hzz : Blk (w3.alloc (.cells #[.int .i64 c.ep, .slice AG c.sl.length kG] 26)) w3.heap.size #[.int .i64 c.ep, .slice AG c.sl.length kG] 26 := heap_alloc_new _ _
  replace MS := Lib.hid (MS.out.below hal (Nat.le_refl _))
  replace ZS := Lib.hid (ZS.out.below hal (Nat.le_refl _))
  replace MG := Lib.hid (MG.out.below hal (Nat.le_refl _))
  replace B := Lib.hid (B.out.trans (hal.mono B.out.size))
  have ZG := Lib.hid hzz
  clear hzz
  clear hal
  have hzG : w3.heap.size < (w3.alloc (.cells #[.int .i64 c.ep, .slice AG c.sl.length kG] 26)).heap.size := by simp
  obtain ⟨m0, m1, mf⟩ := two_cells ZG.out
  obtain ⟨s0, s1, sf⟩ := two_cells ZS.out
  go_wp2_with fail
  ((with_reducible refine (eqCache c _ _ _ _ _ _ _ _ _ _ (MG.out.sts HMG.out) (MS.out.sts HMS.out)).mono ?_); rintro e w5 ⟨rfl, hb⟩)
  replace MS := Lib.hid (MS.out.below hb (Nat.le_refl _))
  replace ZS := Lib.hid (ZS.out.below hb (Nat.le_refl _))
  replace MG := Lib.hid (MG.out.below hb (Nat.le_refl _))
  replace ZG := Lib.hid (ZG.out.below hb (Nat.le_refl _))
  replace B := Lib.hid (B.out.trans (hb.mono B.out.size))
  have z5 := hb.size
  clear hb
  clear m0 m1 mf s0 s1 sf
  have HT := HTT.out
  obtain ⟨m0, m1, mf⟩ := two_cells ZG.out
  go_wp2_with fail
  ((with_reducible refine (markCache _ _ _ _ c.sl _ _ MG.out (by omega)).mono ?_); rintro e w6 ⟨rfl, hm, hk⟩)
  clear m0 m1 mf
  replace MS := Lib.hid (MS.out.keptG hk HMG.out HMS.out (by omega))
  replace ZS := Lib.hid (blk_keptG ZS.out hk HMG.out (by omega))
  replace ZG := Lib.hid (blk_keptG ZG.out hk HMG.out (by omega))
  have hBs := B.out.size
  replace B := Lib.hid (below_keptG B.out hk HMG.out hBs (by omega))
  have z6 := hk.size
  clear hBs
  replace MG := Lib.hid hm
  clear hm hk
  rw [HT]
  have hT1 : (1 : Int) + ((0 : Nat) : Int) = 1 := by omega
  obtain ⟨m0, m1, mf⟩ := two_cells ZG.out
  go_wp2_with fail
  ((with_reducible refine (heldCache _ _ _ _ _ _ c.sl _ (MG.out.sts HMG.out) (by omega)).mono ?_); rintro e w7 ⟨rfl, hb⟩)
  replace MS := Lib.hid (MS.out.below hb (Nat.le_refl _))
  replace ZS := Lib.hid (ZS.out.below hb (Nat.le_refl _))
  replace MG := Lib.hid (MG.out.below hb (Nat.le_refl _))
  replace ZG := Lib.hid (ZG.out.below hb (Nat.le_refl _))
  replace B := Lib.hid (B.out.trans (hb.mono B.out.size))
  have z7 := hb.size
  clear hb
  clear m0 m1 mf
  rw [HT]
  go_wp2_with fail
  ((with_reducible refine (cacheNew_g e c ok _ HNX.out).mono ?_); rintro e w8 ⟨AJ, kJ, GJ, rfl, ho, hw, hb⟩)
  replace MS := Lib.hid (MS.out.below hb (Nat.le_refl _))
  replace ZS := Lib.hid (ZS.out.below hb (Nat.le_refl _))
  replace MG := Lib.hid (MG.out.below hb (Nat.le_refl _))
  replace ZG := Lib.hid (ZG.out.below hb (Nat.le_refl _))
  replace B := Lib.hid (B.out.trans (hb.mono B.out.size))
  have z8 := hb.size
  have MJ := Lib.hid ho
  have HMJ := Lib.hid hw
  clear ho hw hb
  have hal : Below w8.heap.size w8 (w8.alloc (.cells #[.int .i64 c.ep, .slice AJ c.sl.length kJ] 26)) := (Below.refl _ _).alloc (Nat.le_refl _) _
  have hzz : Blk (w8.alloc (.cells #[.int .i64 c.ep, .slice AJ c.sl.length kJ] 26)) w8.heap.size #[.int .i64 c.ep, .slice AJ c.sl.length kJ] 26 := heap_alloc_new _ _
  replace MS := Lib.hid (MS.out.below hal (Nat.le_refl _))
  replace ZS := Lib.hid (ZS.out.below hal (Nat.le_refl _))
  replace MG := Lib.hid (MG.out.below hal (Nat.le_refl _))
  replace ZG := Lib.hid (ZG.out.below hal (Nat.le_refl _))
  replace MJ := Lib.hid (MJ.out.below hal (Nat.le_refl _))
  replace B := Lib.hid (B.out.trans (hal.mono B.out.size))
  have ZJ := Lib.hid hzz
  clear hzz
  clear hal
  have hzJ : w8.heap.size < (w8.alloc (.cells #[.int .i64 c.ep, .slice AJ c.sl.length kJ] 26)).heap.size := by simp
  obtain ⟨m0, m1, mf⟩ := two_cells ZJ.out
  obtain ⟨s0, s1, sf⟩ := two_cells ZS.out
  go_wp2_with fail
  ((with_reducible refine (eqCache c _ _ _ _ _ _ _ _ _ _ (MJ.out.sts HMJ.out) (MS.out.sts HMS.out)).mono ?_); rintro e w10 ⟨rfl, hb⟩)
  replace MS := Lib.hid (MS.out.below hb (Nat.le_refl _))
  replace ZS := Lib.hid (ZS.out.below hb (Nat.le_refl _))
  replace MG := Lib.hid (MG.out.below hb (Nat.le_refl _))
  replace ZG := Lib.hid (ZG.out.below hb (Nat.le_refl _))
  replace MJ := Lib.hid (MJ.out.below hb (Nat.le_refl _))
  replace ZJ := Lib.hid (ZJ.out.below hb (Nat.le_refl _))
  replace B := Lib.hid (B.out.trans (hb.mono B.out.size))
  have z10 := hb.size
  clear hb
  clear m0 m1 mf s0 s1 sf
  obtain ⟨m0, m1, mf⟩ := two_cells ZG.out
  go_wp2_with fail
  ((with_reducible refine (heldCache _ _ _ _ _ _ c.sl _ (MG.out.sts HMG.out) (by omega)).mono ?_); rintro e w11 ⟨rfl, hb⟩)
  replace MS := Lib.hid (MS.out.below hb (Nat.le_refl _))
  replace ZS := Lib.hid (ZS.out.below hb (Nat.le_refl _))
  replace MG := Lib.hid (MG.out.below hb (Nat.le_refl _))
  replace ZG := Lib.hid (ZG.out.below hb (Nat.le_refl _))
  replace MJ := Lib.hid (MJ.out.below hb (Nat.le_refl _))
  replace ZJ := Lib.hid (ZJ.out.below hb (Nat.le_refl _))
  replace B := Lib.hid (B.out.trans (hb.mono B.out.size))
  have z11 := hb.size
  clear hb
  clear m0 m1 mf
  rw [HT]
  go_wp2
  go_ret
  exact ⟨rfl, B.out⟩

end Law8
end Go.Proofs.Ytmmnpmfkpieoiaa
