/-
  The exact laws of chapter 11 on mixes that come in, by the contracts of the functions that they call: each returns true and writes nothing that was there.
-/
import Derived.Test.YtbdjclfkajlmdaaSp6c
import Derived.Test.YtbdjclfkajlmdaaIm6c
import Derived.Test.YtbdjclfkajlmdaaHlpA
import Derived.Deep.RegionLaw
import Derived.Deep.RegionHeld3
import Derived.Deep.Cut
namespace Go.Proofs.Ytbdjclfkajlmdaa
open Go.RowKit
namespace Law6y
open Gm Mm Tm Lm Pm Po Pq Il Hlp5 Hlp6 Hlp7 Hlp8 Hlp9 HlpA LawB Sl Mm6 Sp6

theorem total_mem {ps : List Pld} {p : Pld} (h : p ∈ ps) : p.pk.hd.length + p.pk.bd.length + 4 * ps.length ≤ total ps := by
  induction ps with
  | nil => simp at h
  | cons q ps ih =>
    have e : total (q :: ps) = weight q + total ps := by simp [total]
    rw [e, List.length_cons]
    have hg := total_ge ps
    rcases List.mem_cons.1 h with rfl | h
    · unfold weight; omega
    · have := ih h
      unfold weight; omega
theorem fits_b {x : Mx} (h : Fits x 1048576) : x.seen.length ≤ 1048576 ∧ x.pool.length ≤ 1048576 ∧ (∀ p ∈ x.pool, p.pk.hd.length ≤ 1048576 ∧ p.pk.bd.length ≤ 1048576) ∧ totalX x ≤ 4500000 := by
  unfold Fits at h
  have hg := total_ge x.pool
  refine ⟨by omega, by omega, fun p hp => ?_, by unfold totalX; omega⟩
  have := total_mem hp
  omega

set_option maxRecDepth 20000 in
set_option maxHeartbeats 2000000 in
theorem fnExactMixValid (x : Mx) (A B : Option Addr) (c d lo hi : Nat) (w : World) (hx : MixR lo hi w A x.seen.length c B x.pool.length d x) :
    Calls Try.prog 5 #[.agg #[.int .i64 x.sec, .slice A x.seen.length c, .slice B x.pool.length d]] w (TruePost w) := by
  have hal : Below w.heap.size w (w.alloc (.cells #[.int .i64 x.sec, .slice A x.seen.length c, .slice B x.pool.length d] 44)) := (Below.refl _ _).alloc (Nat.le_refl _) _
  have BB : Hid (Below w.heap.size w (w.alloc (.cells #[.int .i64 x.sec, .slice A x.seen.length c, .slice B x.pool.length d] 44))) := hal
  have RX := Lib.hid ((hx.top (lo2 := 0) (Nat.zero_le _)).below hal (Nat.le_refl _))
  have Z0 : Hid (Blk (w.alloc (.cells #[.int .i64 x.sec, .slice A x.seen.length c, .slice B x.pool.length d] 44)) w.heap.size #[.int .i64 x.sec, .slice A x.seen.length c, .slice B x.pool.length d] 44) := heap_alloc_new _ _
  clear hx hal
  go_enter Try.func5, Try.ntmps5
  go_upto_region 2 with (fail)
  generalize hw0 : (w.alloc (.cells #[.int .i64 x.sec, .slice A x.seen.length c, .slice B x.pool.length d] 44)) = w0 at *
  have hw0s : w.heap.size < w0.heap.size := by rw [← hw0]; simp
  clear hw0
  obtain ⟨m0, m1, m2, mf⟩ := Sp6.three_cells Z0.out
  go_wp2_with fail
  ((with_reducible refine (szMix x _ _ _ _ _ _ 1048576 _ RX.out (by omega) (by omega)).mono ?_); rintro e w1 ⟨v, rfl, hv, hb⟩)
  replace RX := Lib.hid (RX.out.below hb (Nat.le_refl _))
  replace Z0 := Lib.hid (Z0.out.below hb (Nat.le_refl _))
  replace BB := Lib.hid (BB.out.trans (hb.mono BB.out.size))
  have z1 := hb.size
  clear hb
  clear m0 m1 m2 mf
  by_cases hneg : v < 0
  · clear hv
    go_wp2
    go_ret
    exact ⟨rfl, BB.out⟩
  obtain ⟨hn, hm, hh, ht⟩ := fits_b (x := x) (by rcases hv with hv | hv; exact absurd hv hneg; exact hv.1)
  have HN := Lib.hid hn
  have HM := Lib.hid hm
  have HH := Lib.hid hh
  have HT := Lib.hid ht
  have hv0 : 0 ≤ v := by omega
  clear hv hneg hn hm hh ht
  obtain ⟨m0, m1, m2, mf⟩ := Sp6.three_cells Z0.out
  go_wp2_with fail
  ((with_reducible refine (toMix x _ _ _ _ _ _ _ RX.out HN.out HM.out HH.out).mono ?_); rintro e w2 ⟨A1, c1, B1, d1, G1, rfl, ho, hw, hb⟩)
  replace RX := Lib.hid (RX.out.below hb (Nat.le_refl _))
  replace Z0 := Lib.hid (Z0.out.below hb (Nat.le_refl _))
  replace BB := Lib.hid (BB.out.trans (hb.mono BB.out.size))
  have z2 := hb.size
  have M1 := Lib.hid ho
  have HM1 := Lib.hid hw
  clear ho hw hb
  clear m0 m1 m2 mf
  go_wp2_with fail
  ((with_reducible refine (Sp6.MixValid x _ _ _ _ _ _ _ _ _ (M1.out.mix HM1.out)).mono ?_); rintro e w3 ⟨rfl, hb⟩)
  replace RX := Lib.hid (RX.out.below hb (Nat.le_refl _))
  replace Z0 := Lib.hid (Z0.out.below hb (Nat.le_refl _))
  replace M1 := Lib.hid (M1.out.below hb (Nat.le_refl _))
  replace BB := Lib.hid (BB.out.trans (hb.mono BB.out.size))
  have z3 := hb.size
  clear hb
  obtain ⟨m0, m1, m2, mf⟩ := Sp6.three_cells Z0.out
  go_wp2_with fail
  ((with_reducible refine (toMix x _ _ _ _ _ _ _ RX.out HN.out HM.out HH.out).mono ?_); rintro e w4 ⟨A2, c2, B2, d2, G2, rfl, ho, hw, hb⟩)
  replace RX := Lib.hid (RX.out.below hb (Nat.le_refl _))
  replace Z0 := Lib.hid (Z0.out.below hb (Nat.le_refl _))
  replace M1 := Lib.hid (M1.out.below hb (Nat.le_refl _))
  replace BB := Lib.hid (BB.out.trans (hb.mono BB.out.size))
  have z4 := hb.size
  have M2 := Lib.hid ho
  have HM2 := Lib.hid hw
  clear ho hw hb
  clear m0 m1 m2 mf
  have hal : Below w4.heap.size w4 (w4.alloc (.cells #[.int .i64 x.sec, .slice A2 x.seen.length c2, .slice B2 x.pool.length d2] 49)) := (Below.refl _ _).alloc (Nat.le_refl _) _
  have hzz : Blk (w4.alloc (.cells #[.int .i64 x.sec, .slice A2 x.seen.length c2, .slice B2 x.pool.length d2] 49)) w4.heap.size #[.int .i64 x.sec, .slice A2 x.seen.length c2, .slice B2 x.pool.length d2] 49 := heap_alloc_new _ _
  replace RX := Lib.hid (RX.out.below hal (Nat.le_refl _))
  replace Z0 := Lib.hid (Z0.out.below hal (Nat.le_refl _))
  replace M1 := Lib.hid (M1.out.below hal (Nat.le_refl _))
  replace M2 := Lib.hid (M2.out.below hal (Nat.le_refl _))
  replace BB := Lib.hid (BB.out.trans (hal.mono BB.out.size))
  have Z2 := Lib.hid hzz
  clear hzz
  clear hal
  have hz2 : w4.heap.size < (w4.alloc (.cells #[.int .i64 x.sec, .slice A2 x.seen.length c2, .slice B2 x.pool.length d2] 49)).heap.size := by simp
  obtain ⟨m0, m1, m2, mf⟩ := Sp6.three_cells Z2.out
  go_wp2_with fail
  ((with_reducible refine (Im6.MixValid x _ _ _ _ _ _ _ _ _ (M2.out.mix HM2.out)).mono ?_); rintro e w6 ⟨rfl, hb⟩)
  replace RX := Lib.hid (RX.out.below hb (Nat.le_refl _))
  replace Z0 := Lib.hid (Z0.out.below hb (Nat.le_refl _))
  replace M1 := Lib.hid (M1.out.below hb (Nat.le_refl _))
  replace M2 := Lib.hid (M2.out.below hb (Nat.le_refl _))
  replace Z2 := Lib.hid (Z2.out.below hb (Nat.le_refl _))
  replace BB := Lib.hid (BB.out.trans (hb.mono BB.out.size))
  have z6 := hb.size
  clear hb
  clear m0 m1 m2 mf
  have e0 : (mixOk x != mixOk x) = false := by cases mixOk x <;> rfl
  generalize mixOk x = ok at *
  obtain ⟨m0, m1, m2, mf⟩ := Sp6.three_cells Z2.out
  obtain ⟨n0, n1, n2, nf⟩ := Sp6.three_cells Z0.out
  go_upto_region 10 with (fail)
  have KX : Hid (MixR 0 w.heap.size w6.drew A x.seen.length c B x.pool.length d x) := RX.out
  go_wp2_with fail
  go_region_law (first | (go_simp; go_at_call 20; refine (toMix x _ _ _ _ _ _ _ KX.out HN.out HM.out HH.out).mono ?_; rintro e v1 ⟨A3, c3, B3, d3, G3, rfl, ho3, hw3, hb3⟩; have hv1 : Below w6.heap.size w6 v1 := below_drew hb3; have r3 := Lib.hid (ho3.mix hw3); have r2 := Lib.hid ((M2.out.mix HM2.out).below hv1 (Nat.le_refl _)); obtain ⟨s0, s1, s2, sf⟩ := Sp6.three_cells (Z2.out.below hv1 (Nat.le_refl _))) | (go_simp; go_at_call 22; refine (eqMix x _ _ _ _ _ _ _ _ _ _ _ _ _ _ _ r2.out r3.out).mono ?_; rintro e v2 ⟨rfl, hb4⟩; have hv2 : Below w6.heap.size w6 v2 := hv1.trans (hb4.mono hv1.size)) | fail)
  all_goals
    have B9 := Lib.hid (BB.out.trans (hv2.mono BB.out.size))
    clear hb3 hb4 hv1 hv2 ho3 hw3 s0 s1 s2 sf m0 m1 m2 mf n0 n1 n2 nf
    go_wp2
    go_ret
    exact ⟨rfl, B9.out⟩

end Law6y
end Go.Proofs.Ytbdjclfkajlmdaa
