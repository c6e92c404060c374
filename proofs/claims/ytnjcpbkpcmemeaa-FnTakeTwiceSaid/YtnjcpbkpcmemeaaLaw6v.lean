/-
  The law of chapter 11 on replayed packets, by the contracts of the functions that it calls: it returns true and writes nothing that was there.
-/
import Derived.Test.YtnjcpbkpcmemeaaLaw6t
import Derived.Test.YtnjcpbkpcmemeaaLaw6f
namespace Go.Proofs.Ytnjcpbkpcmemeaa
open Go.RowKit
namespace Law6v
open Gm Mm Tm Lm Pm Po Pq Il Rd Hlp5 Hlp6 Hlp7 LawB Sl Mm6 Sp6
open Law6t (take_zero take_four sptake_s blk_at)
open Law6f (flushX flush_all flushed_ok)

theorem replayed {m : Mx} {p : Pkt} (h : mixOk m = true) (hp : pktOk p = true) (hk : peelOk m.sec p = true) (hs : has m.seen (mulG m.sec p.el) = true) : mtakeM m p = m ∧ mtakeC m p = 1 := by
  obtain ⟨e1, e2⟩ := mtake_yes h hp
  have hc := takeC_replay hk hs
  exact ⟨by rw [e2, takeM_no (by rw [hc]; decide)], by rw [e1, hc]⟩
theorem take_again {x : Mx} {p : Pkt} (h : mtakeC x p = 0) : (mtakeM (mtakeM x p) p = mtakeM x p ∧ mtakeC (mtakeM x p) p = 1) ∧ mixOk (mtakeM x p) = true ∧ (mtakeM ⟨(mtakeM x p).sec, (mtakeM x p).seen, []⟩ p = ⟨(mtakeM x p).sec, (mtakeM x p).seen, []⟩ ∧ mtakeC ⟨(mtakeM x p).sec, (mtakeM x p).seen, []⟩ p = 1) := by
  obtain ⟨h1, h2, h3, h4, h5⟩ := take_zero h
  have hk : peelOk (mtakeM x p).sec p = true := by rw [h4]; exact h3
  have hs : has (mtakeM x p).seen (mulG (mtakeM x p).sec p.el) = true := by rw [h4, has_iff]; simp
  exact ⟨replayed h5 h2 hk hs, h5, replayed (m := ⟨(mtakeM x p).sec, (mtakeM x p).seen, []⟩) (flushed_ok h5) h2 hk hs⟩
theorem takeX (x y : Mx) (p : Pkt) (cd : Int) (A B A2 B2 : Option Addr) (c d c2 d2 lo hi l1 h1 l2 h2 : Nat) (w : World) (hx : MixR lo hi w A x.seen.length c B x.pool.length d x) (i1 : Ints l1 h1 w A2 p.hd.length c2 p.hd) (i2 : Ints l2 h2 w B2 p.bd.length d2 p.bd) (h : mtakeM x p = y ∧ mtakeC x p = cd) :
    Calls Try.prog 15 #[.agg #[.int .i64 x.sec, .slice A x.seen.length c, .slice B x.pool.length d], .agg #[.int .i64 p.el, .slice A2 p.hd.length c2, .int .i64 p.tag, .slice B2 p.bd.length d2]] w (MixB y (.int .i64 cd) w) := by
  obtain ⟨rfl, rfl⟩ := h
  exact Im6.MixTake x p A B A2 B2 c d c2 d2 lo hi l1 h1 l2 h2 w hx i1 i2
set_option maxRecDepth 20000 in
set_option maxHeartbeats 2000000 in
theorem fnTakeTwice (A : Option Addr) (n c : Nat) (w : World) (h : CodeIs w A n c) :
    Calls Try.prog 5 #[.slice A n c] w (TruePost w) := by
  have HC := Lib.hid h
  clear h
  by_cases hn : 1048576 < n
  · go_enter Try.func5, Try.ntmps5
    go_wp2
    go_ret
    exact ⟨rfl, Below.refl _ _⟩
  have B : Hid (Below w.heap.size w w) := Below.refl _ _
  go_enter Try.func5, Try.ntmps5
  have hq : n ≤ 1048576 := by omega
  go_wp2_with fail
  ((with_reducible refine (DrawMixTake _ _ _ _ HC.out).mono ?_); rintro e w1 ⟨x, AX, cx, BX, dx, p, AP, cp, BP, dp, rfl, hr, i1, i2, ⟨hsec, hsn, hpn, hpl, hn, hm⟩, hb⟩)
  replace B := Lib.hid (B.out.trans (hb.mono B.out.size))
  have z1 := hb.size
  have RX := Lib.hid hr
  have IH := Lib.hid i1
  have IB := Lib.hid i2
  clear hr i1 i2 hb
  have HSN := Lib.hid hsn
  have HPN := Lib.hid hpn
  clear hsec hsn hpn hpl
  have hal : Below w1.heap.size w1 (w1.alloc (.cells #[.int .i64 x.sec, .slice AX x.seen.length cx, .slice BX x.pool.length dx] 27)) := (Below.refl _ _).alloc (Nat.le_refl _) _
  have hzz : Blk (w1.alloc (.cells #[.int .i64 x.sec, .slice AX x.seen.length cx, .slice BX x.pool.length dx] 27)) w1.heap.size #[.int .i64 x.sec, .slice AX x.seen.length cx, .slice BX x.pool.length dx] 27 := heap_alloc_new _ _
  replace IH := Lib.hid (IH.out.below hal (Nat.le_refl _))
  replace IB := Lib.hid (IB.out.below hal (Nat.le_refl _))
  replace RX := Lib.hid (RX.out.below hal (Nat.le_refl _))
  replace B := Lib.hid (B.out.trans (hal.mono B.out.size))
  have ZX := Lib.hid hzz
  clear hzz
  clear hal
  have hzX : w1.heap.size < (w1.alloc (.cells #[.int .i64 x.sec, .slice AX x.seen.length cx, .slice BX x.pool.length dx] 27)).heap.size := by simp
  have hal : Below (w1.alloc (.cells #[.int .i64 x.sec, .slice AX x.seen.length cx, .slice BX x.pool.length dx] 27)).heap.size (w1.alloc (.cells #[.int .i64 x.sec, .slice AX x.seen.length cx, .slice BX x.pool.length dx] 27)) ((w1.alloc (.cells #[.int .i64 x.sec, .slice AX x.seen.length cx, .slice BX x.pool.length dx] 27)).alloc (.cells #[.int .i64 p.el, .slice AP p.hd.length cp, .int .i64 p.tag, .slice BP p.bd.length dp] 34)) := (Below.refl _ _).alloc (Nat.le_refl _) _
  have hzz : Blk ((w1.alloc (.cells #[.int .i64 x.sec, .slice AX x.seen.length cx, .slice BX x.pool.length dx] 27)).alloc (.cells #[.int .i64 p.el, .slice AP p.hd.length cp, .int .i64 p.tag, .slice BP p.bd.length dp] 34)) (w1.alloc (.cells #[.int .i64 x.sec, .slice AX x.seen.length cx, .slice BX x.pool.length dx] 27)).heap.size #[.int .i64 p.el, .slice AP p.hd.length cp, .int .i64 p.tag, .slice BP p.bd.length dp] 34 := heap_alloc_new _ _
  replace IH := Lib.hid (IH.out.below hal (Nat.le_refl _))
  replace IB := Lib.hid (IB.out.below hal (Nat.le_refl _))
  replace RX := Lib.hid (RX.out.below hal (Nat.le_refl _))
  replace ZX := Lib.hid (ZX.out.below hal (Nat.le_refl _))
  replace B := Lib.hid (B.out.trans (hal.mono B.out.size))
  have ZP := Lib.hid hzz
  clear hzz
  clear hal
  have hzP : (w1.alloc (.cells #[.int .i64 x.sec, .slice AX x.seen.length cx, .slice BX x.pool.length dx] 27)).heap.size < ((w1.alloc (.cells #[.int .i64 x.sec, .slice AX x.seen.length cx, .slice BX x.pool.length dx] 27)).alloc (.cells #[.int .i64 p.el, .slice AP p.hd.length cp, .int .i64 p.tag, .slice BP p.bd.length dp] 34)).heap.size := by simp
  have ZP1 := Lib.hid (blk_at ZP.out (show (w1.alloc (.cells #[.int .i64 x.sec, .slice AX x.seen.length cx, .slice BX x.pool.length dx] 27)).heap.size = w1.heap.size + 1 by simp))
  clear ZP
  have ZP := ZP1
  clear ZP1
  obtain ⟨m0, m1, m2, mf⟩ := Sp6.three_cells ZX.out
  obtain ⟨k0, k1, k2, k3, kf⟩ := four_cells ZP.out
  go_wp2_with fail
  ((with_reducible refine (Im6.MixTake x p _ _ _ _ _ _ _ _ _ _ _ _ _ _ _ RX.out IH.out IB.out).mono ?_); rintro e w4 ⟨AM, cm, BM, dm, rfl, hr, hb⟩)
  replace IH := Lib.hid (IH.out.below hb (Nat.le_refl _))
  replace IB := Lib.hid (IB.out.below hb (Nat.le_refl _))
  replace RX := Lib.hid (RX.out.below hb (Nat.le_refl _))
  replace ZX := Lib.hid (ZX.out.below hb (Nat.le_refl _))
  replace ZP := Lib.hid (ZP.out.below hb (Nat.le_refl _))
  replace B := Lib.hid (B.out.trans (hb.mono B.out.size))
  have z4 := hb.size
  have RM := Lib.hid hr
  clear hr hb
  clear m0 m1 m2 mf k0 k1 k2 k3 kf
  have hev := @take_zero x p
  have hfv := @take_four x p
  generalize hey : mtakeM x p = y at *
  generalize hok : mtakeC x p = cd at *
  have HEY := Lib.hid (And.intro hey hok)
  have HEV := Lib.hid hev
  have HFV := Lib.hid hfv
  clear hey hok hev hfv
  have e0 : (cd != cd) = false := by simp
  have e1 : (cd == cd) = true := by simp
  have hal : Below w4.heap.size w4 (w4.alloc (.cells #[.int .i64 y.sec, .slice AM y.seen.length cm, .slice BM y.pool.length dm] 27)) := (Below.refl _ _).alloc (Nat.le_refl _) _
  have hzz : Blk (w4.alloc (.cells #[.int .i64 y.sec, .slice AM y.seen.length cm, .slice BM y.pool.length dm] 27)) w4.heap.size #[.int .i64 y.sec, .slice AM y.seen.length cm, .slice BM y.pool.length dm] 27 := heap_alloc_new _ _
  replace IH := Lib.hid (IH.out.below hal (Nat.le_refl _))
  replace IB := Lib.hid (IB.out.below hal (Nat.le_refl _))
  replace RX := Lib.hid (RX.out.below hal (Nat.le_refl _))
  replace ZX := Lib.hid (ZX.out.below hal (Nat.le_refl _))
  replace ZP := Lib.hid (ZP.out.below hal (Nat.le_refl _))
  replace RM := Lib.hid (RM.out.below hal (Nat.le_refl _))
  replace B := Lib.hid (B.out.trans (hal.mono B.out.size))
  have ZM := Lib.hid hzz
  clear hzz
  clear hal
  have hzM : w4.heap.size < (w4.alloc (.cells #[.int .i64 y.sec, .slice AM y.seen.length cm, .slice BM y.pool.length dm] 27)).heap.size := by simp
  obtain ⟨m0, m1, m2, mf⟩ := Sp6.three_cells ZX.out
  obtain ⟨k0, k1, k2, k3, kf⟩ := four_cells ZP.out
  go_wp2_with fail
  ((with_reducible refine (sptake_s x y p cd _ _ _ _ _ _ _ _ _ _ _ _ _ _ _ RX.out IH.out IB.out HEY.out).mono ?_); rintro e w6 ⟨AS, cs, BS, ds, rfl, hr, hb⟩)
  replace IH := Lib.hid (IH.out.below hb (Nat.le_refl _))
  replace IB := Lib.hid (IB.out.below hb (Nat.le_refl _))
  replace RX := Lib.hid (RX.out.below hb (Nat.le_refl _))
  replace ZX := Lib.hid (ZX.out.below hb (Nat.le_refl _))
  replace ZP := Lib.hid (ZP.out.below hb (Nat.le_refl _))
  replace RM := Lib.hid (RM.out.below hb (Nat.le_refl _))
  replace ZM := Lib.hid (ZM.out.below hb (Nat.le_refl _))
  replace B := Lib.hid (B.out.trans (hb.mono B.out.size))
  have z6 := hb.size
  have RS := Lib.hid hr
  clear hr hb
  clear m0 m1 m2 mf k0 k1 k2 k3 kf
  have hal : Below w6.heap.size w6 (w6.alloc (.cells #[.int .i64 y.sec, .slice AS y.seen.length cs, .slice BS y.pool.length ds] 27)) := (Below.refl _ _).alloc (Nat.le_refl _) _
  have hzz : Blk (w6.alloc (.cells #[.int .i64 y.sec, .slice AS y.seen.length cs, .slice BS y.pool.length ds] 27)) w6.heap.size #[.int .i64 y.sec, .slice AS y.seen.length cs, .slice BS y.pool.length ds] 27 := heap_alloc_new _ _
  replace IH := Lib.hid (IH.out.below hal (Nat.le_refl _))
  replace IB := Lib.hid (IB.out.below hal (Nat.le_refl _))
  replace RX := Lib.hid (RX.out.below hal (Nat.le_refl _))
  replace ZX := Lib.hid (ZX.out.below hal (Nat.le_refl _))
  replace ZP := Lib.hid (ZP.out.below hal (Nat.le_refl _))
  replace RM := Lib.hid (RM.out.below hal (Nat.le_refl _))
  replace ZM := Lib.hid (ZM.out.below hal (Nat.le_refl _))
  replace RS := Lib.hid (RS.out.below hal (Nat.le_refl _))
  replace B := Lib.hid (B.out.trans (hal.mono B.out.size))
  have ZS := Lib.hid hzz
  clear hzz
  clear hal
  have hzS : w6.heap.size < (w6.alloc (.cells #[.int .i64 y.sec, .slice AS y.seen.length cs, .slice BS y.pool.length ds] 27)).heap.size := by simp
  by_cases hc0 : ¬ cd = 0
  · have e2 : (cd != 0) = true := by simpa using hc0
    obtain ⟨m0, m1, m2, mf⟩ := Sp6.three_cells ZM.out
    obtain ⟨s0, s1, s2, sf⟩ := Sp6.three_cells ZS.out
    go_wp2_with fail
    ((with_reducible refine (sameMix y _ _ _ _ _ _ _ _ _ _ _ _ _ _ _ RM.out RS.out).mono ?_); rintro e w8 ⟨rfl, hb⟩)
    replace IH := Lib.hid (IH.out.below hb (Nat.le_refl _))
    replace IB := Lib.hid (IB.out.below hb (Nat.le_refl _))
    replace RX := Lib.hid (RX.out.below hb (Nat.le_refl _))
    replace ZX := Lib.hid (ZX.out.below hb (Nat.le_refl _))
    replace ZP := Lib.hid (ZP.out.below hb (Nat.le_refl _))
    replace RM := Lib.hid (RM.out.below hb (Nat.le_refl _))
    replace ZM := Lib.hid (ZM.out.below hb (Nat.le_refl _))
    replace RS := Lib.hid (RS.out.below hb (Nat.le_refl _))
    replace ZS := Lib.hid (ZS.out.below hb (Nat.le_refl _))
    replace B := Lib.hid (B.out.trans (hb.mono B.out.size))
    have z8 := hb.size
    clear hb
    clear m0 m1 m2 mf s0 s1 s2 sf
    obtain ⟨m0, m1, m2, mf⟩ := Sp6.three_cells ZM.out
    obtain ⟨s0, s1, s2, sf⟩ := Sp6.three_cells ZS.out
    go_wp2_with fail
    ((with_reducible refine (sameMix y _ _ _ _ _ _ _ _ _ _ _ _ _ _ _ RM.out RS.out).mono ?_); rintro e w9 ⟨rfl, hb⟩)
    replace IH := Lib.hid (IH.out.below hb (Nat.le_refl _))
    replace IB := Lib.hid (IB.out.below hb (Nat.le_refl _))
    replace RX := Lib.hid (RX.out.below hb (Nat.le_refl _))
    replace ZX := Lib.hid (ZX.out.below hb (Nat.le_refl _))
    replace ZP := Lib.hid (ZP.out.below hb (Nat.le_refl _))
    replace RM := Lib.hid (RM.out.below hb (Nat.le_refl _))
    replace ZM := Lib.hid (ZM.out.below hb (Nat.le_refl _))
    replace RS := Lib.hid (RS.out.below hb (Nat.le_refl _))
    replace ZS := Lib.hid (ZS.out.below hb (Nat.le_refl _))
    replace B := Lib.hid (B.out.trans (hb.mono B.out.size))
    have z9 := hb.size
    clear hb
    clear m0 m1 m2 mf s0 s1 s2 sf
    go_wp2
    go_ret
    exact ⟨rfl, B.out⟩
  have hc1 : cd = 0 := by omega
  have e2 : (cd != 0) = false := by simp [hc1]
  obtain ⟨m0, m1, m2, mf⟩ := Sp6.three_cells ZM.out
  obtain ⟨s0, s1, s2, sf⟩ := Sp6.three_cells ZS.out
  go_wp2_with fail
  ((with_reducible refine (sameMix y _ _ _ _ _ _ _ _ _ _ _ _ _ _ _ RM.out RS.out).mono ?_); rintro e w8 ⟨rfl, hb⟩)
  replace IH := Lib.hid (IH.out.below hb (Nat.le_refl _))
  replace IB := Lib.hid (IB.out.below hb (Nat.le_refl _))
  replace RX := Lib.hid (RX.out.below hb (Nat.le_refl _))
  replace ZX := Lib.hid (ZX.out.below hb (Nat.le_refl _))
  replace ZP := Lib.hid (ZP.out.below hb (Nat.le_refl _))
  replace RM := Lib.hid (RM.out.below hb (Nat.le_refl _))
  replace ZM := Lib.hid (ZM.out.below hb (Nat.le_refl _))
  replace RS := Lib.hid (RS.out.below hb (Nat.le_refl _))
  replace ZS := Lib.hid (ZS.out.below hb (Nat.le_refl _))
  replace B := Lib.hid (B.out.trans (hb.mono B.out.size))
  have z8 := hb.size
  clear hb
  clear m0 m1 m2 mf s0 s1 s2 sf
  have ht := @take_again x p
  rw [HEY.out.1, HEY.out.2] at ht
  obtain ⟨t1, t2, t3⟩ := ht hc1
  have T1 := Lib.hid t1
  obtain ⟨z, hz⟩ : ∃ z : Mx, z = ⟨y.sec, y.seen, []⟩ := ⟨_, rfl⟩
  rw [← hz] at t3
  have T3 := Lib.hid t3
  obtain ⟨l2, HF2⟩ : ∃ l2 : List Pld, Hid (flushM y true = z ∧ flushL y true = l2) := ⟨_, by rw [hz]; exact (flush_all t2).1, rfl⟩
  clear t1 t2 t3 hz ht HEV HFV HEY
  obtain ⟨m0, m1, m2, mf⟩ := Sp6.three_cells ZM.out
  obtain ⟨k0, k1, k2, k3, kf⟩ := four_cells ZP.out
  go_wp2_with fail
  ((with_reducible refine (takeX y y p 1 _ _ _ _ _ _ _ _ _ _ _ _ _ _ _ RM.out IH.out IB.out T1.out).mono ?_); rintro e w9 ⟨AU, cu, BU, du, rfl, hr, hb⟩)
  replace IH := Lib.hid (IH.out.below hb (Nat.le_refl _))
  replace IB := Lib.hid (IB.out.below hb (Nat.le_refl _))
  replace RX := Lib.hid (RX.out.below hb (Nat.le_refl _))
  replace ZX := Lib.hid (ZX.out.below hb (Nat.le_refl _))
  replace ZP := Lib.hid (ZP.out.below hb (Nat.le_refl _))
  replace RM := Lib.hid (RM.out.below hb (Nat.le_refl _))
  replace ZM := Lib.hid (ZM.out.below hb (Nat.le_refl _))
  replace RS := Lib.hid (RS.out.below hb (Nat.le_refl _))
  replace ZS := Lib.hid (ZS.out.below hb (Nat.le_refl _))
  replace B := Lib.hid (B.out.trans (hb.mono B.out.size))
  have z9 := hb.size
  have RU := Lib.hid hr
  clear hr hb
  clear m0 m1 m2 mf k0 k1 k2 k3 kf
  have hal : Below w9.heap.size w9 (w9.alloc (.cells #[.int .i64 y.sec, .slice AU y.seen.length cu, .slice BU y.pool.length du] 27)) := (Below.refl _ _).alloc (Nat.le_refl _) _
  have hzz : Blk (w9.alloc (.cells #[.int .i64 y.sec, .slice AU y.seen.length cu, .slice BU y.pool.length du] 27)) w9.heap.size #[.int .i64 y.sec, .slice AU y.seen.length cu, .slice BU y.pool.length du] 27 := heap_alloc_new _ _
  replace IH := Lib.hid (IH.out.below hal (Nat.le_refl _))
  replace IB := Lib.hid (IB.out.below hal (Nat.le_refl _))
  replace RX := Lib.hid (RX.out.below hal (Nat.le_refl _))
  replace ZX := Lib.hid (ZX.out.below hal (Nat.le_refl _))
  replace ZP := Lib.hid (ZP.out.below hal (Nat.le_refl _))
  replace RM := Lib.hid (RM.out.below hal (Nat.le_refl _))
  replace ZM := Lib.hid (ZM.out.below hal (Nat.le_refl _))
  replace RS := Lib.hid (RS.out.below hal (Nat.le_refl _))
  replace ZS := Lib.hid (ZS.out.below hal (Nat.le_refl _))
  replace RU := Lib.hid (RU.out.below hal (Nat.le_refl _))
  replace B := Lib.hid (B.out.trans (hal.mono B.out.size))
  have ZU := Lib.hid hzz
  clear hzz
  clear hal
  have hzU : w9.heap.size < (w9.alloc (.cells #[.int .i64 y.sec, .slice AU y.seen.length cu, .slice BU y.pool.length du] 27)).heap.size := by simp
  obtain ⟨m0, m1, m2, mf⟩ := Sp6.three_cells ZM.out
  go_wp2_with fail
  ((with_reducible refine (flushX y z true l2 _ _ _ _ _ _ _ RM.out HF2.out).mono ?_); rintro e w11 ⟨AV, cv, BV, dv, CV, qv, rfl, hr, hl, hb⟩)
  replace IH := Lib.hid (IH.out.below hb (Nat.le_refl _))
  replace IB := Lib.hid (IB.out.below hb (Nat.le_refl _))
  replace RX := Lib.hid (RX.out.below hb (Nat.le_refl _))
  replace ZX := Lib.hid (ZX.out.below hb (Nat.le_refl _))
  replace ZP := Lib.hid (ZP.out.below hb (Nat.le_refl _))
  replace RM := Lib.hid (RM.out.below hb (Nat.le_refl _))
  replace ZM := Lib.hid (ZM.out.below hb (Nat.le_refl _))
  replace RS := Lib.hid (RS.out.below hb (Nat.le_refl _))
  replace ZS := Lib.hid (ZS.out.below hb (Nat.le_refl _))
  replace RU := Lib.hid (RU.out.below hb (Nat.le_refl _))
  replace ZU := Lib.hid (ZU.out.below hb (Nat.le_refl _))
  replace B := Lib.hid (B.out.trans (hb.mono B.out.size))
  have z11 := hb.size
  have RV := Lib.hid hr
  clear hr hb
  clear m0 m1 m2 mf
  clear hl
  have hal : Below w11.heap.size w11 (w11.alloc (.cells #[.int .i64 z.sec, .slice AV z.seen.length cv, .slice BV z.pool.length dv] 27)) := (Below.refl _ _).alloc (Nat.le_refl _) _
  have hzz : Blk (w11.alloc (.cells #[.int .i64 z.sec, .slice AV z.seen.length cv, .slice BV z.pool.length dv] 27)) w11.heap.size #[.int .i64 z.sec, .slice AV z.seen.length cv, .slice BV z.pool.length dv] 27 := heap_alloc_new _ _
  replace IH := Lib.hid (IH.out.below hal (Nat.le_refl _))
  replace IB := Lib.hid (IB.out.below hal (Nat.le_refl _))
  replace RX := Lib.hid (RX.out.below hal (Nat.le_refl _))
  replace ZX := Lib.hid (ZX.out.below hal (Nat.le_refl _))
  replace ZP := Lib.hid (ZP.out.below hal (Nat.le_refl _))
  replace RM := Lib.hid (RM.out.below hal (Nat.le_refl _))
  replace ZM := Lib.hid (ZM.out.below hal (Nat.le_refl _))
  replace RS := Lib.hid (RS.out.below hal (Nat.le_refl _))
  replace ZS := Lib.hid (ZS.out.below hal (Nat.le_refl _))
  replace RU := Lib.hid (RU.out.below hal (Nat.le_refl _))
  replace ZU := Lib.hid (ZU.out.below hal (Nat.le_refl _))
  replace RV := Lib.hid (RV.out.below hal (Nat.le_refl _))
  replace B := Lib.hid (B.out.trans (hal.mono B.out.size))
  have ZV := Lib.hid hzz
  clear hzz
  clear hal
  have hzV : w11.heap.size < (w11.alloc (.cells #[.int .i64 z.sec, .slice AV z.seen.length cv, .slice BV z.pool.length dv] 27)).heap.size := by simp
  obtain ⟨m0, m1, m2, mf⟩ := Sp6.three_cells ZV.out
  obtain ⟨k0, k1, k2, k3, kf⟩ := four_cells ZP.out
  go_wp2_with fail
  ((with_reducible refine (takeX z z p 1 _ _ _ _ _ _ _ _ _ _ _ _ _ _ _ RV.out IH.out IB.out T3.out).mono ?_); rintro e w13 ⟨AT, ct, BT, dt, rfl, hr, hb⟩)
  replace IH := Lib.hid (IH.out.below hb (Nat.le_refl _))
  replace IB := Lib.hid (IB.out.below hb (Nat.le_refl _))
  replace RX := Lib.hid (RX.out.below hb (Nat.le_refl _))
  replace ZX := Lib.hid (ZX.out.below hb (Nat.le_refl _))
  replace ZP := Lib.hid (ZP.out.below hb (Nat.le_refl _))
  replace RM := Lib.hid (RM.out.below hb (Nat.le_refl _))
  replace ZM := Lib.hid (ZM.out.below hb (Nat.le_refl _))
  replace RS := Lib.hid (RS.out.below hb (Nat.le_refl _))
  replace ZS := Lib.hid (ZS.out.below hb (Nat.le_refl _))
  replace RU := Lib.hid (RU.out.below hb (Nat.le_refl _))
  replace ZU := Lib.hid (ZU.out.below hb (Nat.le_refl _))
  replace RV := Lib.hid (RV.out.below hb (Nat.le_refl _))
  replace ZV := Lib.hid (ZV.out.below hb (Nat.le_refl _))
  replace B := Lib.hid (B.out.trans (hb.mono B.out.size))
  have z13 := hb.size
  have RT := Lib.hid hr
  clear hr hb
  clear m0 m1 m2 mf k0 k1 k2 k3 kf
  have hal : Below w13.heap.size w13 (w13.alloc (.cells #[.int .i64 z.sec, .slice AT z.seen.length ct, .slice BT z.pool.length dt] 27)) := (Below.refl _ _).alloc (Nat.le_refl _) _
  have hzz : Blk (w13.alloc (.cells #[.int .i64 z.sec, .slice AT z.seen.length ct, .slice BT z.pool.length dt] 27)) w13.heap.size #[.int .i64 z.sec, .slice AT z.seen.length ct, .slice BT z.pool.length dt] 27 := heap_alloc_new _ _
  replace IH := Lib.hid (IH.out.below hal (Nat.le_refl _))
  replace IB := Lib.hid (IB.out.below hal (Nat.le_refl _))
  replace RX := Lib.hid (RX.out.below hal (Nat.le_refl _))
  replace ZX := Lib.hid (ZX.out.below hal (Nat.le_refl _))
  replace ZP := Lib.hid (ZP.out.below hal (Nat.le_refl _))
  replace RM := Lib.hid (RM.out.below hal (Nat.le_refl _))
  replace ZM := Lib.hid (ZM.out.below hal (Nat.le_refl _))
  replace RS := Lib.hid (RS.out.below hal (Nat.le_refl _))
  replace ZS := Lib.hid (ZS.out.below hal (Nat.le_refl _))
  replace RU := Lib.hid (RU.out.below hal (Nat.le_refl _))
  replace ZU := Lib.hid (ZU.out.below hal (Nat.le_refl _))
  replace RV := Lib.hid (RV.out.below hal (Nat.le_refl _))
  replace ZV := Lib.hid (ZV.out.below hal (Nat.le_refl _))
  replace RT := Lib.hid (RT.out.below hal (Nat.le_refl _))
  replace B := Lib.hid (B.out.trans (hal.mono B.out.size))
  have ZT := Lib.hid hzz
  clear hzz
  clear hal
  have hzT : w13.heap.size < (w13.alloc (.cells #[.int .i64 z.sec, .slice AT z.seen.length ct, .slice BT z.pool.length dt] 27)).heap.size := by simp
  obtain ⟨m0, m1, m2, mf⟩ := Sp6.three_cells ZU.out
  obtain ⟨s0, s1, s2, sf⟩ := Sp6.three_cells ZM.out
  go_wp2_with fail
  ((with_reducible refine (sameMix y _ _ _ _ _ _ _ _ _ _ _ _ _ _ _ RU.out RM.out).mono ?_); rintro e w15 ⟨rfl, hb⟩)
  replace IH := Lib.hid (IH.out.below hb (Nat.le_refl _))
  replace IB := Lib.hid (IB.out.below hb (Nat.le_refl _))
  replace RX := Lib.hid (RX.out.below hb (Nat.le_refl _))
  replace ZX := Lib.hid (ZX.out.below hb (Nat.le_refl _))
  replace ZP := Lib.hid (ZP.out.below hb (Nat.le_refl _))
  replace RM := Lib.hid (RM.out.below hb (Nat.le_refl _))
  replace ZM := Lib.hid (ZM.out.below hb (Nat.le_refl _))
  replace RS := Lib.hid (RS.out.below hb (Nat.le_refl _))
  replace ZS := Lib.hid (ZS.out.below hb (Nat.le_refl _))
  replace RU := Lib.hid (RU.out.below hb (Nat.le_refl _))
  replace ZU := Lib.hid (ZU.out.below hb (Nat.le_refl _))
  replace RV := Lib.hid (RV.out.below hb (Nat.le_refl _))
  replace ZV := Lib.hid (ZV.out.below hb (Nat.le_refl _))
  replace RT := Lib.hid (RT.out.below hb (Nat.le_refl _))
  replace ZT := Lib.hid (ZT.out.below hb (Nat.le_refl _))
  replace B := Lib.hid (B.out.trans (hb.mono B.out.size))
  have z15 := hb.size
  clear hb
  clear m0 m1 m2 mf s0 s1 s2 sf
  obtain ⟨m0, m1, m2, mf⟩ := Sp6.three_cells ZT.out
  obtain ⟨s0, s1, s2, sf⟩ := Sp6.three_cells ZV.out
  go_wp2_with fail
  ((with_reducible refine (sameMix z _ _ _ _ _ _ _ _ _ _ _ _ _ _ _ RT.out RV.out).mono ?_); rintro e w16 ⟨rfl, hb⟩)
  replace IH := Lib.hid (IH.out.below hb (Nat.le_refl _))
  replace IB := Lib.hid (IB.out.below hb (Nat.le_refl _))
  replace RX := Lib.hid (RX.out.below hb (Nat.le_refl _))
  replace ZX := Lib.hid (ZX.out.below hb (Nat.le_refl _))
  replace ZP := Lib.hid (ZP.out.below hb (Nat.le_refl _))
  replace RM := Lib.hid (RM.out.below hb (Nat.le_refl _))
  replace ZM := Lib.hid (ZM.out.below hb (Nat.le_refl _))
  replace RS := Lib.hid (RS.out.below hb (Nat.le_refl _))
  replace ZS := Lib.hid (ZS.out.below hb (Nat.le_refl _))
  replace RU := Lib.hid (RU.out.below hb (Nat.le_refl _))
  replace ZU := Lib.hid (ZU.out.below hb (Nat.le_refl _))
  replace RV := Lib.hid (RV.out.below hb (Nat.le_refl _))
  replace ZV := Lib.hid (ZV.out.below hb (Nat.le_refl _))
  replace RT := Lib.hid (RT.out.below hb (Nat.le_refl _))
  replace ZT := Lib.hid (ZT.out.below hb (Nat.le_refl _))
  replace B := Lib.hid (B.out.trans (hb.mono B.out.size))
  have z16 := hb.size
  clear hb
  clear m0 m1 m2 mf s0 s1 s2 sf
  go_wp2
  go_ret
  exact ⟨rfl, B.out⟩

end Law6v
end Go.Proofs.Ytnjcpbkpcmemeaa
