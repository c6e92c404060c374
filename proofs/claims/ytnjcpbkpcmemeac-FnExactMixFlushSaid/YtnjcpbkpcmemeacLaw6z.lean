/-
  The exact laws of chapter 11 on flushing a mix that came in, by the contracts of the functions that they call: each returns true and writes nothing that was there.
-/
import Derived.Test.YtnjcpbkpcmemeacSp6z
import Derived.Test.YtnjcpbkpcmemeacIm6f
import Derived.Test.YtnjcpbkpcmemeacHlpA
import Derived.Deep.RegionLaw
import Derived.Deep.RegionHeld3
import Derived.Deep.Cut
namespace Go.Proofs.Ytnjcpbkpcmemeac
open Go.RowKit
namespace Law6z
open Gm Mm Tm Lm Pm Po Pq Il Hlp5 Hlp6 Hlp7 Hlp8 Hlp9 HlpA LawB Sl Mm6 Sp6

theorem blk_ltY {w : World} {b : Nat} {cs : Array Value} {t : TypeId} (h : Blk w b cs t) : b < w.heap.size := (Array.getElem?_eq_some_iff.1 h).1
theorem drew_blY {K : Nat} {w w' : World} (h : Below K w w') : Below K w w'.drew := ⟨h.os, h.tape, h.output, h.size, h.block⟩
theorem total_mem {ps : List Pld} {p : Pld} (h : p ∈ ps) : p.pk.hd.length + p.pk.bd.length + 4 * ps.length ≤ total ps := by
  induction ps with
  | nil => simp at h
  | cons q ps ih =>
    have e : total (q :: ps) = weight q + total ps := by simp [total]
    rw [e, List.length_cons]
    have hg := total_ge ps
    rcases List.mem_cons.1 h with rfl | h
    · unfold weight; omega
    · have := ih h
      unfold weight; omega
theorem fits_b {x : Mx} (h : Fits x 1048576) : x.seen.length ≤ 1048576 ∧ x.pool.length ≤ 1048576 ∧ (∀ p ∈ x.pool, p.pk.hd.length ≤ 1048576 ∧ p.pk.bd.length ≤ 1048576) ∧ totalX x ≤ 4500000 := by
  unfold Fits at h
  have hg := total_ge x.pool
  refine ⟨by omega, by omega, fun p hp => ?_, by unfold totalX; omega⟩
  have := total_mem hp
  omega

theorem insP_permZ (x : Pld) (l : List Pld) : (insP x l).Perm (x :: l) := by
  unfold insP
  have h : l.take (cutAt x l) ++ l.drop (cutAt x l) = l := List.take_append_drop _ _
  exact List.perm_middle.trans (by rw [h])
theorem sortP_permZ (l : List Pld) : (sortP l).Perm l := by
  unfold sortP
  suffices h : ∀ (l out : List Pld), (l.foldl (fun out x => insP x out) out).Perm (l ++ out) by simpa using h l []
  intro l
  induction l with
  | nil => intro out; exact .refl _
  | cons x l ih =>
    intro out
    rw [List.foldl_cons]
    refine (ih _).trans ?_
    refine (List.Perm.append_left l (insP_permZ x out)).trans ?_
    exact List.perm_middle
theorem total_perm {a b : List Pld} (h : a.Perm b) : total a = total b := by
  unfold total
  exact (h.map weight).sum_nat
theorem flush_len (x : Mx) (all : Bool) : totalX (flushM x all) ≤ totalX x ∧ total (flushL x all) ≤ totalX x := by
  unfold flushM flushL
  have h := total_perm (sortP_permZ x.pool)
  cases mixOk x <;> cases (decide (x.pool.length < 2) && !all) <;> simp [totalX, Mx.zero, total] at * <;> omega
theorem flush_x (x y : Mx) (l : List Pld) (all : Bool) (A D : Option Addr) (c d lo hi : Nat) (w : World) (h : flushM x all = y ∧ flushL x all = l) (hx : MixR lo hi w A x.seen.length c D x.pool.length d x) :
    Calls Try.prog 10 #[.agg #[.int .i64 x.sec, .slice A x.seen.length c, .slice D x.pool.length d], .bool all] w (Im6.FlushP y l w) := by
  obtain ⟨rfl, rfl⟩ := h
  exact Im6.MixFlushP x all A D c d lo hi w hx
set_option maxRecDepth 20000 in
set_option maxHeartbeats 2000000 in
theorem fnExactMixFlush (x : Mx) (A B : Option Addr) (c d lo hi : Nat) (all : Bool) (w : World) (hx : MixR lo hi w A x.seen.length c B x.pool.length d x) :
    Calls Try.prog 7 #[.agg #[.int .i64 x.sec, .slice A x.seen.length c, .slice B x.pool.length d], .bool all] w (TruePost w) := by
  have hal : Below w.heap.size w (w.alloc (.cells #[.int .i64 x.sec, .slice A x.seen.length c, .slice B x.pool.length d] 42)) := (Below.refl _ _).alloc (Nat.le_refl _) _
  have BB : Hid (Below w.heap.size w (w.alloc (.cells #[.int .i64 x.sec, .slice A x.seen.length c, .slice B x.pool.length d] 42))) := hal
  have RX := Lib.hid ((hx.top (lo2 := 0) (Nat.zero_le _)).below hal (Nat.le_refl _))
  have Z0 : Hid (Blk (w.alloc (.cells #[.int .i64 x.sec, .slice A x.seen.length c, .slice B x.pool.length d] 42)) w.heap.size #[.int .i64 x.sec, .slice A x.seen.length c, .slice B x.pool.length d] 42) := heap_alloc_new _ _
  clear hx hal
  go_enter Try.func7, Try.ntmps7
  go_upto_region 2 with (fail)
  generalize hw0 : (w.alloc (.cells #[.int .i64 x.sec, .slice A x.seen.length c, .slice B x.pool.length d] 42)) = w0 at *
  have hw0s : w.heap.size < w0.heap.size := by rw [← hw0]; simp
  clear hw0
  obtain ⟨m0, m1, m2, mf⟩ := Sp6.three_cells Z0.out
  go_wp2_with fail
  ((with_reducible refine (szMix x _ _ _ _ _ _ 1048576 _ RX.out (by omega) (by omega)).mono ?_); rintro e w1 ⟨v, rfl, hv, hb⟩)
  replace RX := Lib.hid (RX.out.below hb (Nat.le_refl _))
  replace Z0 := Lib.hid (Z0.out.below hb (Nat.le_refl _))
  replace BB := Lib.hid (BB.out.trans (hb.mono BB.out.size))
  have z1 := hb.size
  clear hb
  clear m0 m1 m2 mf
  by_cases hneg : v < 0
  · clear hv
    go_wp2
    go_ret
    exact ⟨rfl, BB.out⟩
  obtain ⟨hn, hm, hh, ht⟩ := fits_b (x := x) (by rcases hv with hv | hv; exact absurd hv hneg; exact hv.1)
  have HN := Lib.hid hn
  have HM := Lib.hid hm
  have HH := Lib.hid hh
  have HT := Lib.hid ht
  have hv0 : 0 ≤ v := by omega
  clear hv hneg hn hm hh ht
  have ht := HT.out
  obtain ⟨m0, m1, m2, mf⟩ := Sp6.three_cells Z0.out
  go_wp2_with fail
  ((with_reducible refine (toMix x _ _ _ _ _ _ _ RX.out HN.out HM.out HH.out).mono ?_); rintro e w2 ⟨A1, c1, B1, d1, G1, rfl, ho, hw, hb⟩)
  replace RX := Lib.hid (RX.out.below hb (Nat.le_refl _))
  replace Z0 := Lib.hid (Z0.out.below hb (Nat.le_refl _))
  replace BB := Lib.hid (BB.out.trans (hb.mono BB.out.size))
  have z2 := hb.size
  have M1 := Lib.hid ho
  have HM1 := Lib.hid hw
  clear ho hw hb
  clear m0 m1 m2 mf
  have hfl := flush_len x all
  go_wp2_with fail
  ((with_reducible refine (Sp6.MixFlush x all _ _ _ _ _ _ _ (M1.out.mix HM1.out)).mono ?_); rintro e w3 ⟨AS, cs, BS, ds, CS, qs, rfl, hr, hp, hb⟩)
  replace RX := Lib.hid (RX.out.below hb (Nat.le_refl _))
  replace Z0 := Lib.hid (Z0.out.below hb (Nat.le_refl _))
  replace M1 := Lib.hid (M1.out.below hb (Nat.le_refl _))
  replace BB := Lib.hid (BB.out.trans (hb.mono BB.out.size))
  have z3 := hb.size
  have RS := Lib.hid hr
  have QS := Lib.hid hp
  clear hr hp hb
  generalize hny : flushM x all = y at *
  generalize hnl : flushL x all = l at *
  have HNX := Lib.hid (And.intro hny hnl)
  clear hny hnl
  obtain ⟨hty, htl⟩ := hfl
  have hal : Below w3.heap.size w3 (w3.alloc (.cells #[.int .i64 y.sec, .slice AS y.seen.length cs, .slice BS y.pool.length ds] 26)) := (Below.refl _ _).alloc (Nat.le_refl _) _
  have hzz : Blk (w3.alloc (.cells #[.int .i64 y.sec, .slice AS y.seen.length cs, .slice BS y.pool.length ds] 26)) w3.heap.size #[.int .i64 y.sec, .slice AS y.seen.length cs, .slice BS y.pool.length ds] 26 := heap_alloc_new _ _
  replace RX := Lib.hid (RX.out.below hal (Nat.le_refl _))
  replace Z0 := Lib.hid (Z0.out.below hal (Nat.le_refl _))
  replace M1 := Lib.hid (M1.out.below hal (Nat.le_refl _))
  replace RS := Lib.hid (RS.out.below hal (Nat.le_refl _))
  replace QS := Lib.hid (QS.out.below hal (Nat.le_refl _))
  replace BB := Lib.hid (BB.out.trans (hal.mono BB.out.size))
  have ZS := Lib.hid hzz
  clear hzz
  clear hal
  have hzS : w3.heap.size < (w3.alloc (.cells #[.int .i64 y.sec, .slice AS y.seen.length cs, .slice BS y.pool.length ds] 26)).heap.size := by simp
  obtain ⟨m0, m1, m2, mf⟩ := Sp6.three_cells Z0.out
  go_wp2_with fail
  ((with_reducible refine (toMix x _ _ _ _ _ _ _ RX.out HN.out HM.out HH.out).mono ?_); rintro e w5 ⟨A2, c2, B2, d2, G2, rfl, ho, hw, hb⟩)
  replace RX := Lib.hid (RX.out.below hb (Nat.le_refl _))
  replace Z0 := Lib.hid (Z0.out.below hb (Nat.le_refl _))
  replace M1 := Lib.hid (M1.out.below hb (Nat.le_refl _))
  replace RS := Lib.hid (RS.out.below hb (Nat.le_refl _))
  replace QS := Lib.hid (QS.out.below hb (Nat.le_refl _))
  replace ZS := Lib.hid (ZS.out.below hb (Nat.le_refl _))
  replace BB := Lib.hid (BB.out.trans (hb.mono BB.out.size))
  have z5 := hb.size
  have M2 := Lib.hid ho
  have HM2 := Lib.hid hw
  clear ho hw hb
  clear m0 m1 m2 mf
  have hal : Below w5.heap.size w5 (w5.alloc (.cells #[.int .i64 x.sec, .slice A2 x.seen.length c2, .slice B2 x.pool.length d2] 26)) := (Below.refl _ _).alloc (Nat.le_refl _) _
  have hzz : Blk (w5.alloc (.cells #[.int .i64 x.sec, .slice A2 x.seen.length c2, .slice B2 x.pool.length d2] 26)) w5.heap.size #[.int .i64 x.sec, .slice A2 x.seen.length c2, .slice B2 x.pool.length d2] 26 := heap_alloc_new _ _
  replace RX := Lib.hid (RX.out.below hal (Nat.le_refl _))
  replace Z0 := Lib.hid (Z0.out.below hal (Nat.le_refl _))
  replace M1 := Lib.hid (M1.out.below hal (Nat.le_refl _))
  replace RS := Lib.hid (RS.out.below hal (Nat.le_refl _))
  replace QS := Lib.hid (QS.out.below hal (Nat.le_refl _))
  replace ZS := Lib.hid (ZS.out.below hal (Nat.le_refl _))
  replace M2 := Lib.hid (M2.out.below hal (Nat.le_refl _))
  replace BB := Lib.hid (BB.out.trans (hal.mono BB.out.size))
  have Z2 := Lib.hid hzz
  clear hzz
  clear hal
  have hz2 : w5.heap.size < (w5.alloc (.cells #[.int .i64 x.sec, .slice A2 x.seen.length c2, .slice B2 x.pool.length d2] 26)).heap.size := by simp
  obtain ⟨m0, m1, m2, mf⟩ := Sp6.three_cells Z2.out
  go_wp2_with fail
  ((with_reducible refine (flush_x x y l all _ _ _ _ _ _ _ HNX.out (M2.out.mix HM2.out)).mono ?_); rintro e w7 ⟨AG, cG, BG, dG, GG, CG, qG, HG, midG, rfl, ho, hp, hw, hw2, hy1G, hy2G, hb⟩)
  replace RX := Lib.hid (RX.out.below hb (Nat.le_refl _))
  replace Z0 := Lib.hid (Z0.out.below hb (Nat.le_refl _))
  replace M1 := Lib.hid (M1.out.below hb (Nat.le_refl _))
  replace RS := Lib.hid (RS.out.below hb (Nat.le_refl _))
  replace QS := Lib.hid (QS.out.below hb (Nat.le_refl _))
  replace ZS := Lib.hid (ZS.out.below hb (Nat.le_refl _))
  replace M2 := Lib.hid (M2.out.below hb (Nat.le_refl _))
  replace Z2 := Lib.hid (Z2.out.below hb (Nat.le_refl _))
  replace BB := Lib.hid (BB.out.trans (hb.mono BB.out.size))
  have z7 := hb.size
  have MG := Lib.hid ho
  have NG := Lib.hid hp
  have HMG := Lib.hid hw
  have HNG := Lib.hid hw2
  clear ho hp hw hw2 hb
  clear m0 m1 m2 mf
  have hal : Below w7.heap.size w7 (w7.alloc (.cells #[.int .i64 y.sec, .slice AG y.seen.length cG, .slice BG y.pool.length dG] 26)) := (Below.refl _ _).alloc (Nat.le_refl _) _
  have hzz : Blk (w7.alloc (.cells #[.int .i64 y.sec, .slice AG y.seen.length cG, .slice BG y.pool.length dG] 26)) w7.heap.size #[.int .i64 y.sec, .slice AG y.seen.length cG, .slice BG y.pool.length dG] 26 := heap_alloc_new _ _
  replace RX := Lib.hid (RX.out.below hal (Nat.le_refl _))
  replace Z0 := Lib.hid (Z0.out.below hal (Nat.le_refl _))
  replace M1 := Lib.hid (M1.out.below hal (Nat.le_refl _))
  replace RS := Lib.hid (RS.out.below hal (Nat.le_refl _))
  replace QS := Lib.hid (QS.out.below hal (Nat.le_refl _))
  replace ZS := Lib.hid (ZS.out.below hal (Nat.le_refl _))
  replace M2 := Lib.hid (M2.out.below hal (Nat.le_refl _))
  replace Z2 := Lib.hid (Z2.out.below hal (Nat.le_refl _))
  replace MG := Lib.hid (MG.out.below hal (Nat.le_refl _))
  replace NG := Lib.hid (NG.out.below hal (Nat.le_refl _))
  replace BB := Lib.hid (BB.out.trans (hal.mono BB.out.size))
  have ZG := Lib.hid hzz
  clear hzz
  clear hal
  have hzG : w7.heap.size < (w7.alloc (.cells #[.int .i64 y.sec, .slice AG y.seen.length cG, .slice BG y.pool.length dG] 26)).heap.size := by simp
  obtain ⟨m0, m1, m2, mf⟩ := Sp6.three_cells ZG.out
  obtain ⟨s0, s1, s2, sf⟩ := Sp6.three_cells ZS.out
  go_wp2_with fail
  ((with_reducible refine (eqMix y _ _ _ _ _ _ _ _ _ _ _ _ _ _ _ (MG.out.mix HMG.out) RS.out).mono ?_); rintro e w9 ⟨rfl, hb⟩)
  replace RX := Lib.hid (RX.out.below hb (Nat.le_refl _))
  replace Z0 := Lib.hid (Z0.out.below hb (Nat.le_refl _))
  replace M1 := Lib.hid (M1.out.below hb (Nat.le_refl _))
  replace RS := Lib.hid (RS.out.below hb (Nat.le_refl _))
  replace QS := Lib.hid (QS.out.below hb (Nat.le_refl _))
  replace ZS := Lib.hid (ZS.out.below hb (Nat.le_refl _))
  replace M2 := Lib.hid (M2.out.below hb (Nat.le_refl _))
  replace Z2 := Lib.hid (Z2.out.below hb (Nat.le_refl _))
  replace MG := Lib.hid (MG.out.below hb (Nat.le_refl _))
  replace NG := Lib.hid (NG.out.below hb (Nat.le_refl _))
  replace ZG := Lib.hid (ZG.out.below hb (Nat.le_refl _))
  replace BB := Lib.hid (BB.out.trans (hb.mono BB.out.size))
  have z9 := hb.size
  clear hb
  clear m0 m1 m2 mf s0 s1 s2 sf
  go_wp2_with fail
  ((with_reducible refine (eqPeeledS _ _ _ _ _ _ _ _ _ l _ (NG.out.pool HNG.out) QS.out).mono ?_); rintro e w10 ⟨rfl, hb⟩)
  replace RX := Lib.hid (RX.out.below hb (Nat.le_refl _))
  replace Z0 := Lib.hid (Z0.out.below hb (Nat.le_refl _))
  replace M1 := Lib.hid (M1.out.below hb (Nat.le_refl _))
  replace RS := Lib.hid (RS.out.below hb (Nat.le_refl _))
  replace QS := Lib.hid (QS.out.below hb (Nat.le_refl _))
  replace ZS := Lib.hid (ZS.out.below hb (Nat.le_refl _))
  replace M2 := Lib.hid (M2.out.below hb (Nat.le_refl _))
  replace Z2 := Lib.hid (Z2.out.below hb (Nat.le_refl _))
  replace MG := Lib.hid (MG.out.below hb (Nat.le_refl _))
  replace NG := Lib.hid (NG.out.below hb (Nat.le_refl _))
  replace ZG := Lib.hid (ZG.out.below hb (Nat.le_refl _))
  replace BB := Lib.hid (BB.out.trans (hb.mono BB.out.size))
  have z10 := hb.size
  clear hb
  obtain ⟨m0, m1, m2, mf⟩ := Sp6.three_cells Z2.out
  obtain ⟨n0, n1, n2, nf⟩ := Sp6.three_cells Z0.out
  have hzX : w5.heap.size < w10.heap.size := blk_ltY Z2.out
  have hzA : w.heap.size < w10.heap.size := blk_ltY Z0.out
  have HS : Hid (∀ W', Below w10.heap.size w10 W' → (W'.cell? ⟨w5.heap.size, 0, none⟩ = some (.int .i64 x.sec) ∧ W'.cell? ⟨w5.heap.size, 1, none⟩ = some (.slice A2 x.seen.length c2) ∧ W'.cell? ⟨w5.heap.size, 2, none⟩ = some (.slice B2 x.pool.length d2) ∧ W'.cell? ⟨w.heap.size, 0, none⟩ = some (.int .i64 x.sec) ∧ W'.cell? ⟨w.heap.size, 1, none⟩ = some (.slice A x.seen.length c) ∧ W'.cell? ⟨w.heap.size, 2, none⟩ = some (.slice B x.pool.length d))) := fun W' hb => ⟨(hb.cell (p := ⟨w5.heap.size, 0, none⟩) hzX).trans m0, (hb.cell (p := ⟨w5.heap.size, 1, none⟩) hzX).trans m1, (hb.cell (p := ⟨w5.heap.size, 2, none⟩) hzX).trans m2, (hb.cell (p := ⟨w.heap.size, 0, none⟩) hzA).trans n0, (hb.cell (p := ⟨w.heap.size, 1, none⟩) hzA).trans n1, (hb.cell (p := ⟨w.heap.size, 2, none⟩) hzA).trans n2⟩
  have S0 := Lib.hid (HS.out w10.drew (drew_blY (Below.refl _ _)))
  have KX : Hid (MixR 0 w.heap.size w10.drew A x.seen.length c B x.pool.length d x) := RX.out
  have DD : Hid (Below w10.heap.size w10 w10.drew) := drew_blY (Below.refl _ _)
  clear m0 m1 m2 mf n0 n1 n2 nf
  go_upto_region 10 with (fail)
  go_region_held3 (fun w' => (w'.cell? ⟨w5.heap.size, 0, none⟩ = some (.int .i64 x.sec) ∧ w'.cell? ⟨w5.heap.size, 1, none⟩ = some (.slice A2 x.seen.length c2) ∧ w'.cell? ⟨w5.heap.size, 2, none⟩ = some (.slice B2 x.pool.length d2) ∧ w'.cell? ⟨w.heap.size, 0, none⟩ = some (.int .i64 x.sec) ∧ w'.cell? ⟨w.heap.size, 1, none⟩ = some (.slice A x.seen.length c) ∧ w'.cell? ⟨w.heap.size, 2, none⟩ = some (.slice B x.pool.length d)))
    (first | with_reducible exact S0.out | with_reducible exact s8 | with_reducible exact s9 | fail)
    (first
      | (go_at_call 19; refine (eqMix x _ _ _ _ _ _ _ _ _ _ _ _ _ _ _ (MX8.out.mix HM2.out) (M9.out.mix HM9.out)).mono ?_; rintro e wq9 ⟨rfl, hb9⟩; have s9 := HS.out wq9 ((DD.out.trans (hb8.mono DD.out.size)).trans (hb9.mono (Nat.le_trans DD.out.size hb8.size))))
      | (go_at_call 17; refine (toMix x _ _ _ _ _ _ _ KX.out HN.out HM.out HH.out).mono ?_; rintro e wq8 ⟨A9, c9, B9, d9, G9, rfl, ho9, hw9, hb8⟩; have s8 := HS.out wq8 (DD.out.trans (hb8.mono DD.out.size)); have M9 := Lib.hid ho9; have HM9 := Lib.hid hw9; have MX8 := Lib.hid (M2.out.below (DD.out.trans (hb8.mono DD.out.size)) (Nat.le_refl _)))
      | fail)
  have hbq : Below w10.heap.size w10 wq9 := (DD.out.trans (hb8.mono DD.out.size)).trans (hb9.mono (Nat.le_trans DD.out.size hb8.size))
  replace RX := Lib.hid (RX.out.below hbq (Nat.le_refl _))
  replace Z0 := Lib.hid (Z0.out.below hbq (Nat.le_refl _))
  replace M1 := Lib.hid (M1.out.below hbq (Nat.le_refl _))
  replace RS := Lib.hid (RS.out.below hbq (Nat.le_refl _))
  replace QS := Lib.hid (QS.out.below hbq (Nat.le_refl _))
  replace ZS := Lib.hid (ZS.out.below hbq (Nat.le_refl _))
  replace M2 := Lib.hid (M2.out.below hbq (Nat.le_refl _))
  replace Z2 := Lib.hid (Z2.out.below hbq (Nat.le_refl _))
  replace MG := Lib.hid (MG.out.below hbq (Nat.le_refl _))
  replace NG := Lib.hid (NG.out.below hbq (Nat.le_refl _))
  replace ZG := Lib.hid (ZG.out.below hbq (Nat.le_refl _))
  replace BB := Lib.hid (BB.out.trans (hbq.mono BB.out.size))
  have zq := hbq.size
  clear hbq hb8 hb9 s8 s9 S0 HS KX DD MX8 M9 HM9 ho9 hw9 hzX hzA
  obtain ⟨m0, m1, m2, mf⟩ := Sp6.three_cells Z2.out
  go_wp2_with fail
  ((with_reducible refine (Hlp8.markMix _ _ _ _ x _ 1 _ M2.out (by omega) (by omega) (by omega)).mono ?_); rintro e w11 ⟨rfl, hm, hk⟩)
  clear m0 m1 m2 mf
  replace RX := Lib.hid (RX.out.keptG hk HM2.out (by omega))
  replace Z0 := Lib.hid (blk_keptG Z0.out hk HM2.out (by omega))
  replace M1 := Lib.hid (M1.out.keptG hk HM2.out HM1.out (by omega))
  replace RS := Lib.hid (RS.out.keptG hk HM2.out (by omega))
  replace QS := Lib.hid (QS.out.keptG hk HM2.out (by omega))
  replace ZS := Lib.hid (blk_keptG ZS.out hk HM2.out (by omega))
  replace Z2 := Lib.hid (blk_keptG Z2.out hk HM2.out (by omega))
  replace MG := Lib.hid (MG.out.keptG hk HM2.out HMG.out (by omega))
  replace NG := Lib.hid (NG.out.keptG hk HM2.out HNG.out (by omega))
  replace ZG := Lib.hid (blk_keptG ZG.out hk HM2.out (by omega))
  have hBs := BB.out.size
  replace BB := Lib.hid (below_keptG BB.out hk HM2.out hBs (by omega))
  have z11 := hk.size
  clear hBs
  replace M2 := Lib.hid hm
  clear hm hk
  obtain ⟨m0, m1, m2, mf⟩ := Sp6.three_cells ZG.out
  obtain ⟨s0, s1, s2, sf⟩ := Sp6.three_cells ZS.out
  go_wp2_with fail
  ((with_reducible refine (eqMix y _ _ _ _ _ _ _ _ _ _ _ _ _ _ _ (MG.out.mix HMG.out) RS.out).mono ?_); rintro e w12 ⟨rfl, hb⟩)
  replace RX := Lib.hid (RX.out.below hb (Nat.le_refl _))
  replace Z0 := Lib.hid (Z0.out.below hb (Nat.le_refl _))
  replace M1 := Lib.hid (M1.out.below hb (Nat.le_refl _))
  replace RS := Lib.hid (RS.out.below hb (Nat.le_refl _))
  replace QS := Lib.hid (QS.out.below hb (Nat.le_refl _))
  replace ZS := Lib.hid (ZS.out.below hb (Nat.le_refl _))
  replace M2 := Lib.hid (M2.out.below hb (Nat.le_refl _))
  replace Z2 := Lib.hid (Z2.out.below hb (Nat.le_refl _))
  replace MG := Lib.hid (MG.out.below hb (Nat.le_refl _))
  replace NG := Lib.hid (NG.out.below hb (Nat.le_refl _))
  replace ZG := Lib.hid (ZG.out.below hb (Nat.le_refl _))
  replace BB := Lib.hid (BB.out.trans (hb.mono BB.out.size))
  have z12 := hb.size
  clear hb
  clear m0 m1 m2 mf s0 s1 s2 sf
  go_wp2_with fail
  ((with_reducible refine (eqPeeledS _ _ _ _ _ _ _ _ _ l _ (NG.out.pool HNG.out) QS.out).mono ?_); rintro e w13 ⟨rfl, hb⟩)
  replace RX := Lib.hid (RX.out.below hb (Nat.le_refl _))
  replace Z0 := Lib.hid (Z0.out.below hb (Nat.le_refl _))
  replace M1 := Lib.hid (M1.out.below hb (Nat.le_refl _))
  replace RS := Lib.hid (RS.out.below hb (Nat.le_refl _))
  replace QS := Lib.hid (QS.out.below hb (Nat.le_refl _))
  replace ZS := Lib.hid (ZS.out.below hb (Nat.le_refl _))
  replace M2 := Lib.hid (M2.out.below hb (Nat.le_refl _))
  replace Z2 := Lib.hid (Z2.out.below hb (Nat.le_refl _))
  replace MG := Lib.hid (MG.out.below hb (Nat.le_refl _))
  replace NG := Lib.hid (NG.out.below hb (Nat.le_refl _))
  replace ZG := Lib.hid (ZG.out.below hb (Nat.le_refl _))
  replace BB := Lib.hid (BB.out.trans (hb.mono BB.out.size))
  have z13 := hb.size
  clear hb
  obtain ⟨m0, m1, m2, mf⟩ := Sp6.three_cells ZG.out
  go_wp2_with fail
  ((with_reducible refine (Hlp8.markMix _ _ _ _ y _ 1 _ MG.out (by omega) (by omega) (by omega)).mono ?_); rintro e w14 ⟨rfl, hm, hk⟩)
  clear m0 m1 m2 mf
  replace RX := Lib.hid (RX.out.keptG hk HMG.out (by omega))
  replace Z0 := Lib.hid (blk_keptG Z0.out hk HMG.out (by omega))
  replace M1 := Lib.hid (M1.out.keptG hk HMG.out HM1.out (by omega))
  replace RS := Lib.hid (RS.out.keptG hk HMG.out (by omega))
  replace QS := Lib.hid (QS.out.keptG hk HMG.out (by omega))
  replace ZS := Lib.hid (blk_keptG ZS.out hk HMG.out (by omega))
  replace M2 := Lib.hid (M2.out.keptG hk HMG.out HM2.out (by omega))
  replace Z2 := Lib.hid (blk_keptG Z2.out hk HMG.out (by omega))
  replace NG := Lib.hid (NG.out.keptG hk HMG.out HNG.out (by omega))
  replace ZG := Lib.hid (blk_keptG ZG.out hk HMG.out (by omega))
  have hBs := BB.out.size
  replace BB := Lib.hid (below_keptG BB.out hk HMG.out hBs (by omega))
  have z14 := hk.size
  clear hBs
  replace MG := Lib.hid hm
  clear hm hk
  go_wp2_with fail
  ((with_reducible refine (Hlp8.markPeeledS _ _ _ l _ (1 + totalX y) _ NG.out (by omega) (by omega) (by omega)).mono ?_); rintro e w15 ⟨rfl, hm, hk⟩)
  replace RX := Lib.hid (RX.out.keptG hk HNG.out (by omega))
  replace Z0 := Lib.hid (blk_keptG Z0.out hk HNG.out (by omega))
  replace M1 := Lib.hid (M1.out.keptG hk HNG.out HM1.out (by omega))
  replace RS := Lib.hid (RS.out.keptG hk HNG.out (by omega))
  replace QS := Lib.hid (QS.out.keptG hk HNG.out (by omega))
  replace ZS := Lib.hid (blk_keptG ZS.out hk HNG.out (by omega))
  replace M2 := Lib.hid (M2.out.keptG hk HNG.out HM2.out (by omega))
  replace Z2 := Lib.hid (blk_keptG Z2.out hk HNG.out (by omega))
  replace MG := Lib.hid (MG.out.keptG hk HNG.out HMG.out (by omega))
  replace ZG := Lib.hid (blk_keptG ZG.out hk HNG.out (by omega))
  have hBs := BB.out.size
  replace BB := Lib.hid (below_keptG BB.out hk HNG.out hBs (by omega))
  have z15 := hk.size
  clear hBs
  replace NG := Lib.hid hm
  clear hm hk
  obtain ⟨m0, m1, m2, mf⟩ := Sp6.three_cells ZG.out
  go_wp2_with fail
  ((with_reducible refine (heldMix _ _ _ _ _ _ y 1 _ (MG.out.mix HMG.out) (by omega) (by omega) (by omega)).mono ?_); rintro e w16 ⟨rfl, hb⟩)
  replace RX := Lib.hid (RX.out.below hb (Nat.le_refl _))
  replace Z0 := Lib.hid (Z0.out.below hb (Nat.le_refl _))
  replace M1 := Lib.hid (M1.out.below hb (Nat.le_refl _))
  replace RS := Lib.hid (RS.out.below hb (Nat.le_refl _))
  replace QS := Lib.hid (QS.out.below hb (Nat.le_refl _))
  replace ZS := Lib.hid (ZS.out.below hb (Nat.le_refl _))
  replace M2 := Lib.hid (M2.out.below hb (Nat.le_refl _))
  replace Z2 := Lib.hid (Z2.out.below hb (Nat.le_refl _))
  replace MG := Lib.hid (MG.out.below hb (Nat.le_refl _))
  replace NG := Lib.hid (NG.out.below hb (Nat.le_refl _))
  replace ZG := Lib.hid (ZG.out.below hb (Nat.le_refl _))
  replace BB := Lib.hid (BB.out.trans (hb.mono BB.out.size))
  have z16 := hb.size
  clear hb
  clear m0 m1 m2 mf
  go_wp2_with fail
  ((with_reducible refine (heldPeeledS _ _ _ _ _ l (1 + totalX y) _ (NG.out.pool HNG.out) (by omega) (by omega) (by omega)).mono ?_); rintro e w' ⟨rfl, rfl⟩)
  obtain ⟨m0, m1, m2, mf⟩ := Sp6.three_cells Z0.out
  go_wp2_with fail
  ((with_reducible refine (toMix x _ _ _ _ _ _ _ RX.out HN.out HM.out HH.out).mono ?_); rintro e w18 ⟨A4, c4, B4, d4, G4, rfl, ho, hw, hb⟩)
  replace RX := Lib.hid (RX.out.below hb (Nat.le_refl _))
  replace Z0 := Lib.hid (Z0.out.below hb (Nat.le_refl _))
  replace M1 := Lib.hid (M1.out.below hb (Nat.le_refl _))
  replace RS := Lib.hid (RS.out.below hb (Nat.le_refl _))
  replace QS := Lib.hid (QS.out.below hb (Nat.le_refl _))
  replace ZS := Lib.hid (ZS.out.below hb (Nat.le_refl _))
  replace M2 := Lib.hid (M2.out.below hb (Nat.le_refl _))
  replace Z2 := Lib.hid (Z2.out.below hb (Nat.le_refl _))
  replace MG := Lib.hid (MG.out.below hb (Nat.le_refl _))
  replace NG := Lib.hid (NG.out.below hb (Nat.le_refl _))
  replace ZG := Lib.hid (ZG.out.below hb (Nat.le_refl _))
  replace BB := Lib.hid (BB.out.trans (hb.mono BB.out.size))
  have z18 := hb.size
  have M4 := Lib.hid ho
  have HM4 := Lib.hid hw
  clear ho hw hb
  clear m0 m1 m2 mf
  go_wp2_with fail
  ((with_reducible refine (flush_x x y l all _ _ _ _ _ _ _ HNX.out (M4.out.mix HM4.out)).mono ?_); rintro e w19 ⟨AJ, cJ, BJ, dJ, GJ, CJ, qJ, HJ, midJ, rfl, ho, hp, hw, hw2, hy1J, hy2J, hb⟩)
  replace RX := Lib.hid (RX.out.below hb (Nat.le_refl _))
  replace Z0 := Lib.hid (Z0.out.below hb (Nat.le_refl _))
  replace M1 := Lib.hid (M1.out.below hb (Nat.le_refl _))
  replace RS := Lib.hid (RS.out.below hb (Nat.le_refl _))
  replace QS := Lib.hid (QS.out.below hb (Nat.le_refl _))
  replace ZS := Lib.hid (ZS.out.below hb (Nat.le_refl _))
  replace M2 := Lib.hid (M2.out.below hb (Nat.le_refl _))
  replace Z2 := Lib.hid (Z2.out.below hb (Nat.le_refl _))
  replace MG := Lib.hid (MG.out.below hb (Nat.le_refl _))
  replace NG := Lib.hid (NG.out.below hb (Nat.le_refl _))
  replace ZG := Lib.hid (ZG.out.below hb (Nat.le_refl _))
  replace M4 := Lib.hid (M4.out.below hb (Nat.le_refl _))
  replace BB := Lib.hid (BB.out.trans (hb.mono BB.out.size))
  have z19 := hb.size
  have MJ := Lib.hid ho
  have NJ := Lib.hid hp
  have HMJ := Lib.hid hw
  have HNJ := Lib.hid hw2
  clear ho hp hw hw2 hb
  have hal : Below w19.heap.size w19 (w19.alloc (.cells #[.int .i64 y.sec, .slice AJ y.seen.length cJ, .slice BJ y.pool.length dJ] 26)) := (Below.refl _ _).alloc (Nat.le_refl _) _
  have hzz : Blk (w19.alloc (.cells #[.int .i64 y.sec, .slice AJ y.seen.length cJ, .slice BJ y.pool.length dJ] 26)) w19.heap.size #[.int .i64 y.sec, .slice AJ y.seen.length cJ, .slice BJ y.pool.length dJ] 26 := heap_alloc_new _ _
  replace RX := Lib.hid (RX.out.below hal (Nat.le_refl _))
  replace Z0 := Lib.hid (Z0.out.below hal (Nat.le_refl _))
  replace M1 := Lib.hid (M1.out.below hal (Nat.le_refl _))
  replace RS := Lib.hid (RS.out.below hal (Nat.le_refl _))
  replace QS := Lib.hid (QS.out.below hal (Nat.le_refl _))
  replace ZS := Lib.hid (ZS.out.below hal (Nat.le_refl _))
  replace M2 := Lib.hid (M2.out.below hal (Nat.le_refl _))
  replace Z2 := Lib.hid (Z2.out.below hal (Nat.le_refl _))
  replace MG := Lib.hid (MG.out.below hal (Nat.le_refl _))
  replace NG := Lib.hid (NG.out.below hal (Nat.le_refl _))
  replace ZG := Lib.hid (ZG.out.below hal (Nat.le_refl _))
  replace M4 := Lib.hid (M4.out.below hal (Nat.le_refl _))
  replace MJ := Lib.hid (MJ.out.below hal (Nat.le_refl _))
  replace NJ := Lib.hid (NJ.out.below hal (Nat.le_refl _))
  replace BB := Lib.hid (BB.out.trans (hal.mono BB.out.size))
  have ZJ := Lib.hid hzz
  clear hzz
  clear hal
  have hzJ : w19.heap.size < (w19.alloc (.cells #[.int .i64 y.sec, .slice AJ y.seen.length cJ, .slice BJ y.pool.length dJ] 26)).heap.size := by simp
  obtain ⟨m0, m1, m2, mf⟩ := Sp6.three_cells ZJ.out
  obtain ⟨s0, s1, s2, sf⟩ := Sp6.three_cells ZS.out
  go_wp2_with fail
  ((with_reducible refine (eqMix y _ _ _ _ _ _ _ _ _ _ _ _ _ _ _ (MJ.out.mix HMJ.out) RS.out).mono ?_); rintro e w21 ⟨rfl, hb⟩)
  replace RX := Lib.hid (RX.out.below hb (Nat.le_refl _))
  replace Z0 := Lib.hid (Z0.out.below hb (Nat.le_refl _))
  replace M1 := Lib.hid (M1.out.below hb (Nat.le_refl _))
  replace RS := Lib.hid (RS.out.below hb (Nat.le_refl _))
  replace QS := Lib.hid (QS.out.below hb (Nat.le_refl _))
  replace ZS := Lib.hid (ZS.out.below hb (Nat.le_refl _))
  replace M2 := Lib.hid (M2.out.below hb (Nat.le_refl _))
  replace Z2 := Lib.hid (Z2.out.below hb (Nat.le_refl _))
  replace MG := Lib.hid (MG.out.below hb (Nat.le_refl _))
  replace NG := Lib.hid (NG.out.below hb (Nat.le_refl _))
  replace ZG := Lib.hid (ZG.out.below hb (Nat.le_refl _))
  replace M4 := Lib.hid (M4.out.below hb (Nat.le_refl _))
  replace MJ := Lib.hid (MJ.out.below hb (Nat.le_refl _))
  replace NJ := Lib.hid (NJ.out.below hb (Nat.le_refl _))
  replace ZJ := Lib.hid (ZJ.out.below hb (Nat.le_refl _))
  replace BB := Lib.hid (BB.out.trans (hb.mono BB.out.size))
  have z21 := hb.size
  clear hb
  clear m0 m1 m2 mf s0 s1 s2 sf
  go_wp2_with fail
  ((with_reducible refine (eqPeeledS _ _ _ _ _ _ _ _ _ l _ (NJ.out.pool HNJ.out) QS.out).mono ?_); rintro e w22 ⟨rfl, hb⟩)
  replace RX := Lib.hid (RX.out.below hb (Nat.le_refl _))
  replace Z0 := Lib.hid (Z0.out.below hb (Nat.le_refl _))
  replace M1 := Lib.hid (M1.out.below hb (Nat.le_refl _))
  replace RS := Lib.hid (RS.out.below hb (Nat.le_refl _))
  replace QS := Lib.hid (QS.out.below hb (Nat.le_refl _))
  replace ZS := Lib.hid (ZS.out.below hb (Nat.le_refl _))
  replace M2 := Lib.hid (M2.out.below hb (Nat.le_refl _))
  replace Z2 := Lib.hid (Z2.out.below hb (Nat.le_refl _))
  replace MG := Lib.hid (MG.out.below hb (Nat.le_refl _))
  replace NG := Lib.hid (NG.out.below hb (Nat.le_refl _))
  replace ZG := Lib.hid (ZG.out.below hb (Nat.le_refl _))
  replace M4 := Lib.hid (M4.out.below hb (Nat.le_refl _))
  replace MJ := Lib.hid (MJ.out.below hb (Nat.le_refl _))
  replace NJ := Lib.hid (NJ.out.below hb (Nat.le_refl _))
  replace ZJ := Lib.hid (ZJ.out.below hb (Nat.le_refl _))
  replace BB := Lib.hid (BB.out.trans (hb.mono BB.out.size))
  have z22 := hb.size
  clear hb
  obtain ⟨m0, m1, m2, mf⟩ := Sp6.three_cells ZG.out
  go_wp2_with fail
  ((with_reducible refine (heldMix _ _ _ _ _ _ y 1 _ (MG.out.mix HMG.out) (by omega) (by omega) (by omega)).mono ?_); rintro e w23 ⟨rfl, hb⟩)
  replace RX := Lib.hid (RX.out.below hb (Nat.le_refl _))
  replace Z0 := Lib.hid (Z0.out.below hb (Nat.le_refl _))
  replace M1 := Lib.hid (M1.out.below hb (Nat.le_refl _))
  replace RS := Lib.hid (RS.out.below hb (Nat.le_refl _))
  replace QS := Lib.hid (QS.out.below hb (Nat.le_refl _))
  replace ZS := Lib.hid (ZS.out.below hb (Nat.le_refl _))
  replace M2 := Lib.hid (M2.out.below hb (Nat.le_refl _))
  replace Z2 := Lib.hid (Z2.out.below hb (Nat.le_refl _))
  replace MG := Lib.hid (MG.out.below hb (Nat.le_refl _))
  replace NG := Lib.hid (NG.out.below hb (Nat.le_refl _))
  replace ZG := Lib.hid (ZG.out.below hb (Nat.le_refl _))
  replace M4 := Lib.hid (M4.out.below hb (Nat.le_refl _))
  replace MJ := Lib.hid (MJ.out.below hb (Nat.le_refl _))
  replace NJ := Lib.hid (NJ.out.below hb (Nat.le_refl _))
  replace ZJ := Lib.hid (ZJ.out.below hb (Nat.le_refl _))
  replace BB := Lib.hid (BB.out.trans (hb.mono BB.out.size))
  have z23 := hb.size
  clear hb
  clear m0 m1 m2 mf
  go_wp2_with fail
  ((with_reducible refine (heldPeeledS _ _ _ _ _ l (1 + totalX y) _ (NG.out.pool HNG.out) (by omega) (by omega) (by omega)).mono ?_); rintro e w' ⟨rfl, rfl⟩)
  go_wp2
  go_ret
  exact ⟨rfl, BB.out⟩

end Law6z
end Go.Proofs.Ytnjcpbkpcmemeac
