/-
  The laws of chapter 11 on mixes, by the contracts of the functions that they call: each returns true and writes nothing that was there.
-/
import Derived.Test.YtnjcpbkpcmemeaaSp6a
import Derived.Test.YtnjcpbkpcmemeaaIm6a
import Derived.Test.YtnjcpbkpcmemeaaHlp7
import Derived.Test.YtnjcpbkpcmemeaaDr6n
namespace Go.Proofs.Ytnjcpbkpcmemeaa
open Go.RowKit
namespace Law6n
open Gm Mm Tm Lm Pm Po Pq Il Rd Hlp5 Hlp6 Hlp7 LawB Sl Mm6 Sp6

theorem new_ok (s : Int) : inG s = true → mixOk (newM s) = true ∧ (newM s).seen = [] ∧ (newM s).pool = [] := fun h => by
  have e : newM s = ⟨s, [], []⟩ := by unfold newM; rw [h]; rfl
  rw [e]
  refine ⟨?_, rfl, rfl⟩
  rw [mixOk_iff]
  exact ⟨h, rfl, by simp, rfl, by simp⟩
theorem mixNew_s (s : Int) (x : Mx) (ok : Bool) (w : World) (h : newM s = x ∧ inG s = ok) : Calls Try.prog 11 #[.int .i64 s] w (MixB x (.bool ok) w) := by
  obtain ⟨rfl, rfl⟩ := h
  exact Sp6.MixNew s w
set_option maxRecDepth 20000 in
set_option maxHeartbeats 1000000 in
theorem fnMixNew (A : Option Addr) (n c : Nat) (w : World) (h : CodeIs w A n c) :
    Calls Try.prog 3 #[.slice A n c] w (TruePost w) := by
  have HC := Lib.hid h
  clear h
  by_cases hn : 1048576 < n
  · go_enter Try.func3, Try.ntmps3
    go_wp2
    go_ret
    exact ⟨rfl, Below.refl _ _⟩
  have B : Hid (Below w.heap.size w w) := Below.refl _ _
  go_enter Try.func3, Try.ntmps3
  have hq : n ≤ 1048576 := by omega
  go_wp2_with fail
  ((with_reducible refine (DrawMixNew _ _ _ _ HC.out).mono ?_); rintro e w1 ⟨s, rfl, hs0, hs1, hb⟩)
  replace B := Lib.hid (B.out.trans (hb.mono B.out.size))
  have z1 := hb.size
  clear hb
  go_wp2_with fail
  ((with_reducible refine (Im6.MixNew s _).mono ?_); rintro e w2 ⟨AM, cm, BM, dm, rfl, hr, hb⟩)
  replace B := Lib.hid (B.out.trans (hb.mono B.out.size))
  have z2 := hb.size
  have RM := Lib.hid hr
  clear hr hb
  have hnv := new_ok s
  generalize hnx : newM s = x at *
  generalize hok : inG s = ok at *
  have HNX := Lib.hid (And.intro hnx hok)
  have HNV := Lib.hid hnv
  clear hnx hok hnv
  have e0 : (ok != ok) = false := by cases ok <;> rfl
  have e1 : (ok == ok) = true := by cases ok <;> rfl
  have hal : Below w2.heap.size w2 (w2.alloc (.cells #[.int .i64 x.sec, .slice AM x.seen.length cm, .slice BM x.pool.length dm] 27)) := (Below.refl _ _).alloc (Nat.le_refl _) _
  have hzz : Blk (w2.alloc (.cells #[.int .i64 x.sec, .slice AM x.seen.length cm, .slice BM x.pool.length dm] 27)) w2.heap.size #[.int .i64 x.sec, .slice AM x.seen.length cm, .slice BM x.pool.length dm] 27 := heap_alloc_new _ _
  replace RM := Lib.hid (RM.out.below hal (Nat.le_refl _))
  replace B := Lib.hid (B.out.trans (hal.mono B.out.size))
  have ZM := Lib.hid hzz
  clear hzz
  clear hal
  have hzM : w2.heap.size < (w2.alloc (.cells #[.int .i64 x.sec, .slice AM x.seen.length cm, .slice BM x.pool.length dm] 27)).heap.size := by simp
  go_wp2_with fail
  ((with_reducible refine (mixNew_s s x ok _ HNX.out).mono ?_); rintro e w4 ⟨AS, cs, BS, ds, rfl, hr, hb⟩)
  replace RM := Lib.hid (RM.out.below hb (Nat.le_refl _))
  replace ZM := Lib.hid (ZM.out.below hb (Nat.le_refl _))
  replace B := Lib.hid (B.out.trans (hb.mono B.out.size))
  have z4 := hb.size
  have RS := Lib.hid hr
  clear hr hb
  have hal : Below w4.heap.size w4 (w4.alloc (.cells #[.int .i64 x.sec, .slice AS x.seen.length cs, .slice BS x.pool.length ds] 27)) := (Below.refl _ _).alloc (Nat.le_refl _) _
  have hzz : Blk (w4.alloc (.cells #[.int .i64 x.sec, .slice AS x.seen.length cs, .slice BS x.pool.length ds] 27)) w4.heap.size #[.int .i64 x.sec, .slice AS x.seen.length cs, .slice BS x.pool.length ds] 27 := heap_alloc_new _ _
  replace RM := Lib.hid (RM.out.below hal (Nat.le_refl _))
  replace ZM := Lib.hid (ZM.out.below hal (Nat.le_refl _))
  replace RS := Lib.hid (RS.out.below hal (Nat.le_refl _))
  replace B := Lib.hid (B.out.trans (hal.mono B.out.size))
  have ZS := Lib.hid hzz
  clear hzz
  clear hal
  have hzS : w4.heap.size < (w4.alloc (.cells #[.int .i64 x.sec, .slice AS x.seen.length cs, .slice BS x.pool.length ds] 27)).heap.size := by simp
  cases ok
  · obtain ⟨m0, m1, m2, mf⟩ := Sp6.three_cells ZM.out
    obtain ⟨s0, s1, s2, sf⟩ := Sp6.three_cells ZS.out
    go_wp2_with fail
    ((with_reducible refine (sameMix x _ _ _ _ _ _ _ _ _ _ _ _ _ _ _ RM.out RS.out).mono ?_); rintro e w6 ⟨rfl, hb⟩)
    replace RM := Lib.hid (RM.out.below hb (Nat.le_refl _))
    replace ZM := Lib.hid (ZM.out.below hb (Nat.le_refl _))
    replace RS := Lib.hid (RS.out.below hb (Nat.le_refl _))
    replace ZS := Lib.hid (ZS.out.below hb (Nat.le_refl _))
    replace B := Lib.hid (B.out.trans (hb.mono B.out.size))
    have z6 := hb.size
    clear hb
    clear m0 m1 m2 mf s0 s1 s2 sf
    obtain ⟨m0, m1, m2, mf⟩ := Sp6.three_cells ZM.out
    obtain ⟨s0, s1, s2, sf⟩ := Sp6.three_cells ZS.out
    go_wp2_with fail
    ((with_reducible refine (sameMix x _ _ _ _ _ _ _ _ _ _ _ _ _ _ _ RM.out RS.out).mono ?_); rintro e w7 ⟨rfl, hb⟩)
    replace RM := Lib.hid (RM.out.below hb (Nat.le_refl _))
    replace ZM := Lib.hid (ZM.out.below hb (Nat.le_refl _))
    replace RS := Lib.hid (RS.out.below hb (Nat.le_refl _))
    replace ZS := Lib.hid (ZS.out.below hb (Nat.le_refl _))
    replace B := Lib.hid (B.out.trans (hb.mono B.out.size))
    have z7 := hb.size
    clear hb
    clear m0 m1 m2 mf s0 s1 s2 sf
    go_wp2
    go_ret
    exact ⟨rfl, B.out⟩
  obtain ⟨m0, m1, m2, mf⟩ := Sp6.three_cells ZM.out
  obtain ⟨s0, s1, s2, sf⟩ := Sp6.three_cells ZS.out
  go_wp2_with fail
  ((with_reducible refine (sameMix x _ _ _ _ _ _ _ _ _ _ _ _ _ _ _ RM.out RS.out).mono ?_); rintro e w6 ⟨rfl, hb⟩)
  replace RM := Lib.hid (RM.out.below hb (Nat.le_refl _))
  replace ZM := Lib.hid (ZM.out.below hb (Nat.le_refl _))
  replace RS := Lib.hid (RS.out.below hb (Nat.le_refl _))
  replace ZS := Lib.hid (ZS.out.below hb (Nat.le_refl _))
  replace B := Lib.hid (B.out.trans (hb.mono B.out.size))
  have z6 := hb.size
  clear hb
  clear m0 m1 m2 mf s0 s1 s2 sf
  obtain ⟨hv1, hv2, hv3⟩ := HNV.out (by first | rfl | trivial)
  have HV1 := Lib.hid hv1
  have HV2 := Lib.hid hv2
  have HV3 := Lib.hid hv3
  clear hv1 hv2 hv3
  obtain ⟨m0, m1, m2, mf⟩ := Sp6.three_cells ZM.out
  go_wp2_with fail
  ((with_reducible refine (Im6.MixValid x _ _ _ _ _ _ _ _ _ RM.out).mono ?_); rintro e w7 ⟨rfl, hb⟩)
  replace RM := Lib.hid (RM.out.below hb (Nat.le_refl _))
  replace ZM := Lib.hid (ZM.out.below hb (Nat.le_refl _))
  replace RS := Lib.hid (RS.out.below hb (Nat.le_refl _))
  replace ZS := Lib.hid (ZS.out.below hb (Nat.le_refl _))
  replace B := Lib.hid (B.out.trans (hb.mono B.out.size))
  have z7 := hb.size
  clear hb
  rw [HV1.out]
  clear m0 m1 m2 mf
  obtain ⟨m0, m1, m2, mf⟩ := Sp6.three_cells ZM.out
  have l1 : ((x.seen.length : Int) == 0) = true := by rw [HV2.out]; rfl
  have l2 : ((x.pool.length : Int) == 0) = true := by rw [HV3.out]; rfl
  go_wp2
  go_ret
  exact ⟨rfl, B.out⟩

end Law6n
end Go.Proofs.Ytnjcpbkpcmemeaa
