/-
  The laws of chapter 11 on taking packets, by the contracts of the functions that they call: each returns true and writes nothing that was there.
-/
import Derived.Test.YtnjcpbkpcmemeaaSp6c
import Derived.Test.YtnjcpbkpcmemeaaIm6c
import Derived.Test.YtnjcpbkpcmemeaaHlp7
import Derived.Test.YtnjcpbkpcmemeaaDr6z
import Derived.Test.YtnjcpbkpcmemeaaElt
import Derived.Deep.RegionLaw
import Derived.Deep.RegionHeld3
import Derived.Deep.Cut
import Derived.Deep.QuietTactic
import Derived.BigQuiet
namespace Go.Proofs.Ytnjcpbkpcmemeaa
open Go.RowKit
namespace Law6t
open Gm Mm Tm Lm Pm Po Pq Il Rd Hlp5 Hlp6 Hlp7 LawB Sl Mm6 Sp6

theorem blk_at {w : World} {b b2 : Nat} {cs : Array Value} {t : TypeId} (h : Blk w b cs t) (e : b = b2) : Blk w b2 cs t := e ▸ h
theorem take_zero {x : Mx} {p : Pkt} (h : mtakeC x p = 0) : mixOk x = true ∧ pktOk p = true ∧ peelOk x.sec p = true ∧ mtakeM x p = ⟨x.sec, x.seen ++ [mulG x.sec p.el], x.pool ++ [peelF x.sec p]⟩ ∧ mixOk (mtakeM x p) = true := by
  cases h1 : mixOk x && pktOk p
  · rw [mtakeC, h1] at h; simp at h
  · rw [Bool.and_eq_true] at h1
    obtain ⟨e1, e2⟩ := mtake_yes h1.1 h1.2
    rw [e1] at h
    obtain ⟨q1, _, _, _⟩ := takeC_zero h
    refine ⟨h1.1, h1.2, q1, ?_, ?_⟩
    · rw [e2, takeM_yes h]
    · rw [e2]; exact take_ok h1.1 h1.2
theorem take_four {x : Mx} {p : Pkt} (h : ¬ mtakeC x p = 4) : mixOk x = true ∧ pktOk p = true ∧ mtakeC x p = takeC x p ∧ mtakeM x p = takeM x p := by
  cases h1 : mixOk x && pktOk p
  · rw [mtakeC, h1] at h; simp at h
  · rw [Bool.and_eq_true] at h1
    obtain ⟨e1, e2⟩ := mtake_yes h1.1 h1.2
    exact ⟨h1.1, h1.2, e1, e2⟩
theorem taken {x y : Mx} {s : Int} {q : Pld} (h : y = ⟨x.sec, x.seen ++ [s], x.pool ++ [q]⟩) : y.pool.length = x.pool.length + 1 ∧ y.seen.length = x.seen.length + 1 ∧ pldAt y.pool x.pool.length = q ∧ y.pool.take x.pool.length = x.pool ∧ y.seen.getD x.seen.length 0 = s := by
  subst h
  refine ⟨by simp, by simp, ?_, by simp, by simp⟩
  simp [pldAt]
theorem peel_p (lo hi lo2 hi2 : Nat) (A B : Option Addr) (c d : Nat) (x : Int) (p : Pkt) (w : World) (hh : Ints lo hi w A p.hd.length c p.hd) (hb : Ints lo2 hi2 w B p.bd.length d p.bd) :
    Calls Try.prog 17 #[.int .i64 x, .agg #[.int .i64 p.el, .slice A p.hd.length c, .int .i64 p.tag, .slice B p.bd.length d]] w (PldPost (peelF x p) (peelOk x p) w) :=
  Im5.PacketPeel lo hi lo2 hi2 A B _ c _ d x p.el p.tag p.hd p.bd w hh hb
theorem takeE (x : Mx) (el tag : Int) (hd bd : List Int) (A B A2 B2 : Option Addr) (n m c d c2 d2 lo hi l1 h1 l2 h2 : Nat) (w : World) (hx : MixR lo hi w A x.seen.length c B x.pool.length d x) (i1 : Ints l1 h1 w A2 n c2 hd) (i2 : Ints l2 h2 w B2 m d2 bd) :
    Calls Try.prog 15 #[.agg #[.int .i64 x.sec, .slice A x.seen.length c, .slice B x.pool.length d], .agg #[.int .i64 el, .slice A2 n c2, .int .i64 tag, .slice B2 m d2]] w (MixB (mtakeM x ⟨el, hd, tag, bd⟩) (.int .i64 (mtakeC x ⟨el, hd, tag, bd⟩)) w) := by
  obtain rfl : hd.length = n := i1.1
  obtain rfl : bd.length = m := i2.1
  exact Im6.MixTake x ⟨el, hd, tag, bd⟩ A B A2 B2 c d c2 d2 lo hi l1 h1 l2 h2 w hx i1 i2
theorem take_hd {x : Mx} {p : Pkt} {k : Nat} {v : Int} (h : mtakeC x p = 0) (hk : k < p.hd.length) (hv : 0 ≤ v ∧ v ≤ 990) (hne : v ≠ p.hd.getD k 0) : mtakeC x ⟨p.el, p.hd.set k v, p.tag, p.bd⟩ = 2 ∧ mtakeM x ⟨p.el, p.hd.set k v, p.tag, p.bd⟩ = x := by
  obtain ⟨h1, h2, h3, _, _⟩ := take_zero h
  obtain ⟨u1, u2, u3, u4, u5, u6⟩ := pktOk_iff.1 h2
  have hp : pktOk ⟨p.el, p.hd.set k v, p.tag, p.bd⟩ = true := pktOk_iff.2 ⟨u1, set_ok u2 hv, by rw [List.length_set]; exact u3, u4, u5, u6⟩
  obtain ⟨e1, e2⟩ := mtake_yes h1 hp
  have hc : takeC x ⟨p.el, p.hd.set k v, p.tag, p.bd⟩ = 2 := takeC_wrong (peel_hd h3 hk hv hne)
  exact ⟨e1.trans hc, by rw [e2, takeM_no (by rw [hc]; decide)]⟩
theorem take_bd {x : Mx} {p : Pkt} {k : Nat} {v : Int} (h : mtakeC x p = 0) (hv : 0 ≤ v ∧ v ≤ 990) : mtakeC (mtakeM x p) ⟨p.el, p.hd, p.tag, p.bd.set k v⟩ = 1 := by
  obtain ⟨h1, h2, h3, h4, h5⟩ := take_zero h
  obtain ⟨hq, _⟩ := peel_bd (k := k) h3 hv
  obtain ⟨_, hp, _, _, _⟩ := peelOk_iff.1 hq
  obtain ⟨e1, _⟩ := mtake_yes h5 hp
  rw [e1]
  refine takeC_replay ?_ ?_
  · rw [h4]; exact hq
  · rw [h4, has_iff]; simp
theorem mixR_keep {lo hi n c m d : Nat} {A B : Option Addr} {w w' : World} {x : Mx} (h : MixR lo hi w A n c B m d x) (hs : w.heap.size ≤ w'.heap.size) (hk : ∀ b, lo ≤ b → b < hi → b < w.heap.size → w'.heap[b]? = w.heap[b]?) : MixR lo hi w' A n c B m d x := ⟨h.1.keep hs hk, h.2.keep hs hk⟩
theorem blk_keep {b : Nat} {w w' : World} {cs : Array Value} {t : TypeId} (h : Blk w b cs t) (hk : w'.heap[b]? = w.heap[b]?) : Blk w' b cs t := hk.trans h
theorem below_keep {K : Nat} {w0 w w' : World} (h : Below K w0 w) (e1 : w'.os = w.os) (e2 : w'.tape = w.tape) (e3 : w'.output = w.output) (hs : w'.heap.size = w.heap.size) (hk : ∀ b, b < K → w'.heap[b]? = w.heap[b]?) : Below K w0 w' :=
  ⟨e1.trans h.os, e2.trans h.tape, e3.trans h.output, by rw [hs]; exact h.size, fun b hb => (hk b hb).trans (h.block b hb)⟩
theorem sptake_s (x y : Mx) (p : Pkt) (cd : Int) (A B A2 B2 : Option Addr) (c d c2 d2 lo hi l1 h1 l2 h2 : Nat) (w : World) (hx : MixR lo hi w A x.seen.length c B x.pool.length d x) (i1 : Ints l1 h1 w A2 p.hd.length c2 p.hd) (i2 : Ints l2 h2 w B2 p.bd.length d2 p.bd) (h : mtakeM x p = y ∧ mtakeC x p = cd) :
    Calls Try.prog 16 #[.agg #[.int .i64 x.sec, .slice A x.seen.length c, .slice B x.pool.length d], .agg #[.int .i64 p.el, .slice A2 p.hd.length c2, .int .i64 p.tag, .slice B2 p.bd.length d2]] w (MixB y (.int .i64 cd) w) := by
  obtain ⟨rfl, rfl⟩ := h
  exact Sp6.MixTake x p A B A2 B2 c d c2 d2 lo hi l1 h1 l2 h2 w hx i1 i2
theorem same2 {x y : Mx} {l1 h1 l2 h2 n n2 c m m2 d c2 d2 : Nat} {A B A2 B2 : Option Addr} {w : World} (i1 : MixR l1 h1 w A n c B m d y) (i2 : MixR l2 h2 w A2 n2 c2 B2 m2 d2 x) (e : y = x) :
    Calls Try.prog 12 #[.agg #[.int .i64 y.sec, .slice A n c, .slice B m d], .agg #[.int .i64 x.sec, .slice A2 n2 c2, .slice B2 m2 d2]] w (BoolB true w) := by
  subst e
  have e1 := i1.1.1.symm.trans i2.1.1
  have e2 := i1.2.len_.symm.trans i2.2.len_
  subst e1 e2
  exact sameMix y A B A2 B2 _ c _ d c2 d2 l1 h1 l2 h2 w i1 i2

set_option maxRecDepth 20000 in
set_option maxHeartbeats 4000000 in
theorem fnTake (A : Option Addr) (n c : Nat) (w : World) (h : CodeIs w A n c) :
    Calls Try.prog 4 #[.slice A n c] w (TruePost w) := by
  have HC := Lib.hid h
  clear h
  by_cases hn : 1048576 < n
  · go_enter Try.func4, Try.ntmps4
    go_wp2
    go_ret
    exact ⟨rfl, Below.refl _ _⟩
  have B : Hid (Below w.heap.size w w) := Below.refl _ _
  go_enter Try.func4, Try.ntmps4
  have hq : n ≤ 1048576 := by omega
  go_wp2_with fail
  ((with_reducible refine (DrawMixTake _ _ _ _ HC.out).mono ?_); rintro e w1 ⟨x, AX, cx, BX, dx, p, AP, cp, BP, dp, rfl, hr, i1, i2, ⟨hsec, hsn, hpn, hpl, hn, hm⟩, hb⟩)
  replace B := Lib.hid (B.out.trans (hb.mono B.out.size))
  have z1 := hb.size
  have RX := Lib.hid hr
  have IH := Lib.hid i1
  have IB := Lib.hid i2
  clear hr i1 i2 hb
  have HSN := Lib.hid hsn
  have HPN := Lib.hid hpn
  clear hsec hsn hpn hpl
  have hal : Below w1.heap.size w1 (w1.alloc (.cells #[.int .i64 x.sec, .slice AX x.seen.length cx, .slice BX x.pool.length dx] 27)) := (Below.refl _ _).alloc (Nat.le_refl _) _
  have hzz : Blk (w1.alloc (.cells #[.int .i64 x.sec, .slice AX x.seen.length cx, .slice BX x.pool.length dx] 27)) w1.heap.size #[.int .i64 x.sec, .slice AX x.seen.length cx, .slice BX x.pool.length dx] 27 := heap_alloc_new _ _
  replace IH := Lib.hid (IH.out.below hal (Nat.le_refl _))
  replace IB := Lib.hid (IB.out.below hal (Nat.le_refl _))
  replace RX := Lib.hid (RX.out.below hal (Nat.le_refl _))
  replace B := Lib.hid (B.out.trans (hal.mono B.out.size))
  have ZX := Lib.hid hzz
  clear hzz
  clear hal
  have hzX : w1.heap.size < (w1.alloc (.cells #[.int .i64 x.sec, .slice AX x.seen.length cx, .slice BX x.pool.length dx] 27)).heap.size := by simp
  have hal : Below (w1.alloc (.cells #[.int .i64 x.sec, .slice AX x.seen.length cx, .slice BX x.pool.length dx] 27)).heap.size (w1.alloc (.cells #[.int .i64 x.sec, .slice AX x.seen.length cx, .slice BX x.pool.length dx] 27)) ((w1.alloc (.cells #[.int .i64 x.sec, .slice AX x.seen.length cx, .slice BX x.pool.length dx] 27)).alloc (.cells #[.int .i64 p.el, .slice AP p.hd.length cp, .int .i64 p.tag, .slice BP p.bd.length dp] 34)) := (Below.refl _ _).alloc (Nat.le_refl _) _
  have hzz : Blk ((w1.alloc (.cells #[.int .i64 x.sec, .slice AX x.seen.length cx, .slice BX x.pool.length dx] 27)).alloc (.cells #[.int .i64 p.el, .slice AP p.hd.length cp, .int .i64 p.tag, .slice BP p.bd.length dp] 34)) (w1.alloc (.cells #[.int .i64 x.sec, .slice AX x.seen.length cx, .slice BX x.pool.length dx] 27)).heap.size #[.int .i64 p.el, .slice AP p.hd.length cp, .int .i64 p.tag, .slice BP p.bd.length dp] 34 := heap_alloc_new _ _
  replace IH := Lib.hid (IH.out.below hal (Nat.le_refl _))
  replace IB := Lib.hid (IB.out.below hal (Nat.le_refl _))
  replace RX := Lib.hid (RX.out.below hal (Nat.le_refl _))
  replace ZX := Lib.hid (ZX.out.below hal (Nat.le_refl _))
  replace B := Lib.hid (B.out.trans (hal.mono B.out.size))
  have ZP := Lib.hid hzz
  clear hzz
  clear hal
  have hzP : (w1.alloc (.cells #[.int .i64 x.sec, .slice AX x.seen.length cx, .slice BX x.pool.length dx] 27)).heap.size < ((w1.alloc (.cells #[.int .i64 x.sec, .slice AX x.seen.length cx, .slice BX x.pool.length dx] 27)).alloc (.cells #[.int .i64 p.el, .slice AP p.hd.length cp, .int .i64 p.tag, .slice BP p.bd.length dp] 34)).heap.size := by simp
  have ZP1 := Lib.hid (blk_at ZP.out (show (w1.alloc (.cells #[.int .i64 x.sec, .slice AX x.seen.length cx, .slice BX x.pool.length dx] 27)).heap.size = w1.heap.size + 1 by simp))
  clear ZP
  have ZP := ZP1
  clear ZP1
  obtain ⟨m0, m1, m2, mf⟩ := Sp6.three_cells ZX.out
  obtain ⟨k0, k1, k2, k3, kf⟩ := four_cells ZP.out
  go_wp2_with fail
  ((with_reducible refine (Im6.MixTake x p _ _ _ _ _ _ _ _ _ _ _ _ _ _ _ RX.out IH.out IB.out).mono ?_); rintro e w4 ⟨AM, cm, BM, dm, rfl, hr, hb⟩)
  replace IH := Lib.hid (IH.out.below hb (Nat.le_refl _))
  replace IB := Lib.hid (IB.out.below hb (Nat.le_refl _))
  replace RX := Lib.hid (RX.out.below hb (Nat.le_refl _))
  replace ZX := Lib.hid (ZX.out.below hb (Nat.le_refl _))
  replace ZP := Lib.hid (ZP.out.below hb (Nat.le_refl _))
  replace B := Lib.hid (B.out.trans (hb.mono B.out.size))
  have z4 := hb.size
  have RM := Lib.hid hr
  clear hr hb
  clear m0 m1 m2 mf k0 k1 k2 k3 kf
  have hev := @take_zero x p
  have hfv := @take_four x p
  generalize hey : mtakeM x p = y at *
  generalize hok : mtakeC x p = cd at *
  have HEY := Lib.hid (And.intro hey hok)
  have HEV := Lib.hid hev
  have HFV := Lib.hid hfv
  clear hey hok hev hfv
  have e0 : (cd != cd) = false := by simp
  have e1 : (cd == cd) = true := by simp
  have hal : Below w4.heap.size w4 (w4.alloc (.cells #[.int .i64 y.sec, .slice AM y.seen.length cm, .slice BM y.pool.length dm] 27)) := (Below.refl _ _).alloc (Nat.le_refl _) _
  have hzz : Blk (w4.alloc (.cells #[.int .i64 y.sec, .slice AM y.seen.length cm, .slice BM y.pool.length dm] 27)) w4.heap.size #[.int .i64 y.sec, .slice AM y.seen.length cm, .slice BM y.pool.length dm] 27 := heap_alloc_new _ _
  replace IH := Lib.hid (IH.out.below hal (Nat.le_refl _))
  replace IB := Lib.hid (IB.out.below hal (Nat.le_refl _))
  replace RX := Lib.hid (RX.out.below hal (Nat.le_refl _))
  replace ZX := Lib.hid (ZX.out.below hal (Nat.le_refl _))
  replace ZP := Lib.hid (ZP.out.below hal (Nat.le_refl _))
  replace RM := Lib.hid (RM.out.below hal (Nat.le_refl _))
  replace B := Lib.hid (B.out.trans (hal.mono B.out.size))
  have ZM := Lib.hid hzz
  clear hzz
  clear hal
  have hzM : w4.heap.size < (w4.alloc (.cells #[.int .i64 y.sec, .slice AM y.seen.length cm, .slice BM y.pool.length dm] 27)).heap.size := by simp
  obtain ⟨m0, m1, m2, mf⟩ := Sp6.three_cells ZX.out
  obtain ⟨k0, k1, k2, k3, kf⟩ := four_cells ZP.out
  go_wp2_with fail
  ((with_reducible refine (sptake_s x y p cd _ _ _ _ _ _ _ _ _ _ _ _ _ _ _ RX.out IH.out IB.out HEY.out).mono ?_); rintro e w6 ⟨AS, cs, BS, ds, rfl, hr, hb⟩)
  replace IH := Lib.hid (IH.out.below hb (Nat.le_refl _))
  replace IB := Lib.hid (IB.out.below hb (Nat.le_refl _))
  replace RX := Lib.hid (RX.out.below hb (Nat.le_refl _))
  replace ZX := Lib.hid (ZX.out.below hb (Nat.le_refl _))
  replace ZP := Lib.hid (ZP.out.below hb (Nat.le_refl _))
  replace RM := Lib.hid (RM.out.below hb (Nat.le_refl _))
  replace ZM := Lib.hid (ZM.out.below hb (Nat.le_refl _))
  replace B := Lib.hid (B.out.trans (hb.mono B.out.size))
  have z6 := hb.size
  have RS := Lib.hid hr
  clear hr hb
  clear m0 m1 m2 mf k0 k1 k2 k3 kf
  have hal : Below w6.heap.size w6 (w6.alloc (.cells #[.int .i64 y.sec, .slice AS y.seen.length cs, .slice BS y.pool.length ds] 27)) := (Below.refl _ _).alloc (Nat.le_refl _) _
  have hzz : Blk (w6.alloc (.cells #[.int .i64 y.sec, .slice AS y.seen.length cs, .slice BS y.pool.length ds] 27)) w6.heap.size #[.int .i64 y.sec, .slice AS y.seen.length cs, .slice BS y.pool.length ds] 27 := heap_alloc_new _ _
  replace IH := Lib.hid (IH.out.below hal (Nat.le_refl _))
  replace IB := Lib.hid (IB.out.below hal (Nat.le_refl _))
  replace RX := Lib.hid (RX.out.below hal (Nat.le_refl _))
  replace ZX := Lib.hid (ZX.out.below hal (Nat.le_refl _))
  replace ZP := Lib.hid (ZP.out.below hal (Nat.le_refl _))
  replace RM := Lib.hid (RM.out.below hal (Nat.le_refl _))
  replace ZM := Lib.hid (ZM.out.below hal (Nat.le_refl _))
  replace RS := Lib.hid (RS.out.below hal (Nat.le_refl _))
  replace B := Lib.hid (B.out.trans (hal.mono B.out.size))
  have ZS := Lib.hid hzz
  clear hzz
  clear hal
  have hzS : w6.heap.size < (w6.alloc (.cells #[.int .i64 y.sec, .slice AS y.seen.length cs, .slice BS y.pool.length ds] 27)).heap.size := by simp
  by_cases hc0 : ¬ cd = 0
  · have e2 : (cd != 0) = true := by simpa using hc0
    obtain ⟨m0, m1, m2, mf⟩ := Sp6.three_cells ZM.out
    obtain ⟨s0, s1, s2, sf⟩ := Sp6.three_cells ZS.out
    go_wp2_with fail
    ((with_reducible refine (sameMix y _ _ _ _ _ _ _ _ _ _ _ _ _ _ _ RM.out RS.out).mono ?_); rintro e w8 ⟨rfl, hb⟩)
    replace IH := Lib.hid (IH.out.below hb (Nat.le_refl _))
    replace IB := Lib.hid (IB.out.below hb (Nat.le_refl _))
    replace RX := Lib.hid (RX.out.below hb (Nat.le_refl _))
    replace ZX := Lib.hid (ZX.out.below hb (Nat.le_refl _))
    replace ZP := Lib.hid (ZP.out.below hb (Nat.le_refl _))
    replace RM := Lib.hid (RM.out.below hb (Nat.le_refl _))
    replace ZM := Lib.hid (ZM.out.below hb (Nat.le_refl _))
    replace RS := Lib.hid (RS.out.below hb (Nat.le_refl _))
    replace ZS := Lib.hid (ZS.out.below hb (Nat.le_refl _))
    replace B := Lib.hid (B.out.trans (hb.mono B.out.size))
    have z8 := hb.size
    clear hb
    clear m0 m1 m2 mf s0 s1 s2 sf
    obtain ⟨m0, m1, m2, mf⟩ := Sp6.three_cells ZM.out
    obtain ⟨s0, s1, s2, sf⟩ := Sp6.three_cells ZS.out
    go_wp2_with fail
    ((with_reducible refine (sameMix y _ _ _ _ _ _ _ _ _ _ _ _ _ _ _ RM.out RS.out).mono ?_); rintro e w9 ⟨rfl, hb⟩)
    replace IH := Lib.hid (IH.out.below hb (Nat.le_refl _))
    replace IB := Lib.hid (IB.out.below hb (Nat.le_refl _))
    replace RX := Lib.hid (RX.out.below hb (Nat.le_refl _))
    replace ZX := Lib.hid (ZX.out.below hb (Nat.le_refl _))
    replace ZP := Lib.hid (ZP.out.below hb (Nat.le_refl _))
    replace RM := Lib.hid (RM.out.below hb (Nat.le_refl _))
    replace ZM := Lib.hid (ZM.out.below hb (Nat.le_refl _))
    replace RS := Lib.hid (RS.out.below hb (Nat.le_refl _))
    replace ZS := Lib.hid (ZS.out.below hb (Nat.le_refl _))
    replace B := Lib.hid (B.out.trans (hb.mono B.out.size))
    have z9 := hb.size
    clear hb
    clear m0 m1 m2 mf s0 s1 s2 sf
    go_wp2
    go_ret
    exact ⟨rfl, B.out⟩
  have hc1 : cd = 0 := by omega
  have e2 : (cd != 0) = false := by simp [hc1]
  obtain ⟨m0, m1, m2, mf⟩ := Sp6.three_cells ZM.out
  obtain ⟨s0, s1, s2, sf⟩ := Sp6.three_cells ZS.out
  go_wp2_with fail
  ((with_reducible refine (sameMix y _ _ _ _ _ _ _ _ _ _ _ _ _ _ _ RM.out RS.out).mono ?_); rintro e w8 ⟨rfl, hb⟩)
  replace IH := Lib.hid (IH.out.below hb (Nat.le_refl _))
  replace IB := Lib.hid (IB.out.below hb (Nat.le_refl _))
  replace RX := Lib.hid (RX.out.below hb (Nat.le_refl _))
  replace ZX := Lib.hid (ZX.out.below hb (Nat.le_refl _))
  replace ZP := Lib.hid (ZP.out.below hb (Nat.le_refl _))
  replace RM := Lib.hid (RM.out.below hb (Nat.le_refl _))
  replace ZM := Lib.hid (ZM.out.below hb (Nat.le_refl _))
  replace RS := Lib.hid (RS.out.below hb (Nat.le_refl _))
  replace ZS := Lib.hid (ZS.out.below hb (Nat.le_refl _))
  replace B := Lib.hid (B.out.trans (hb.mono B.out.size))
  have z8 := hb.size
  clear hb
  clear m0 m1 m2 mf s0 s1 s2 sf
  obtain ⟨hv1, hv2, hv3, hv4, hv5⟩ := HEV.out hc1
  obtain ⟨t1, t2, t3, t4, t5⟩ := taken hv4
  have HV3 := Lib.hid hv3
  have HV5 := Lib.hid hv5
  clear hv1 hv2 hv3 hv4 hv5 HEV HFV HEY
  obtain ⟨m0, m1, m2, mf⟩ := Sp6.three_cells ZX.out
  obtain ⟨k0, k1, k2, k3, kf⟩ := four_cells ZP.out
  go_wp2_with fail
  ((with_reducible refine (peel_p _ _ _ _ _ _ _ _ x.sec p _ IH.out IB.out).mono ?_); rintro e w9 ⟨AQ, cq, BQ, dq, g1, g2, rfl, hlie, hg1, hg2, hb⟩)
  replace IH := Lib.hid (IH.out.below hb (Nat.le_refl _))
  replace IB := Lib.hid (IB.out.below hb (Nat.le_refl _))
  replace RX := Lib.hid (RX.out.below hb (Nat.le_refl _))
  replace ZX := Lib.hid (ZX.out.below hb (Nat.le_refl _))
  replace ZP := Lib.hid (ZP.out.below hb (Nat.le_refl _))
  replace RM := Lib.hid (RM.out.below hb (Nat.le_refl _))
  replace ZM := Lib.hid (ZM.out.below hb (Nat.le_refl _))
  replace RS := Lib.hid (RS.out.below hb (Nat.le_refl _))
  replace ZS := Lib.hid (ZS.out.below hb (Nat.le_refl _))
  replace B := Lib.hid (B.out.trans (hb.mono B.out.size))
  have z9 := hb.size
  have LQ := Lib.hid hlie
  clear hlie hb
  clear m0 m1 m2 mf k0 k1 k2 k3 kf
  generalize peelF x.sec p = q at *
  rw [HV3.out]
  have hal : Below w9.heap.size w9 (w9.alloc (.cells #[.int .i64 q.kind, .int .i64 q.next, .int .i64 q.pk.el, .slice AQ q.pk.hd.length cq, .int .i64 q.pk.tag, .slice BQ q.pk.bd.length dq] 40)) := (Below.refl _ _).alloc (Nat.le_refl _) _
  have hzz : Blk (w9.alloc (.cells #[.int .i64 q.kind, .int .i64 q.next, .int .i64 q.pk.el, .slice AQ q.pk.hd.length cq, .int .i64 q.pk.tag, .slice BQ q.pk.bd.length dq] 40)) w9.heap.size #[.int .i64 q.kind, .int .i64 q.next, .int .i64 q.pk.el, .slice AQ q.pk.hd.length cq, .int .i64 q.pk.tag, .slice BQ q.pk.bd.length dq] 40 := heap_alloc_new _ _
  replace IH := Lib.hid (IH.out.below hal (Nat.le_refl _))
  replace IB := Lib.hid (IB.out.below hal (Nat.le_refl _))
  replace RX := Lib.hid (RX.out.below hal (Nat.le_refl _))
  replace ZX := Lib.hid (ZX.out.below hal (Nat.le_refl _))
  replace ZP := Lib.hid (ZP.out.below hal (Nat.le_refl _))
  replace RM := Lib.hid (RM.out.below hal (Nat.le_refl _))
  replace ZM := Lib.hid (ZM.out.below hal (Nat.le_refl _))
  replace RS := Lib.hid (RS.out.below hal (Nat.le_refl _))
  replace ZS := Lib.hid (ZS.out.below hal (Nat.le_refl _))
  replace LQ := Lib.hid (LQ.out.below hal (Nat.le_refl _))
  replace B := Lib.hid (B.out.trans (hal.mono B.out.size))
  have ZQ := Lib.hid hzz
  clear hzz
  clear hal
  have hzQ : w9.heap.size < (w9.alloc (.cells #[.int .i64 q.kind, .int .i64 q.next, .int .i64 q.pk.el, .slice AQ q.pk.hd.length cq, .int .i64 q.pk.tag, .slice BQ q.pk.bd.length dq] 40)).heap.size := by simp
  generalize hj : x.pool.length = j at *
  generalize hi : x.seen.length = i at *
  rw [t1, t2] at ZM RM
  have T3 := Lib.hid t3
  have T4 := Lib.hid t4
  have T5 := Lib.hid t5
  clear t1 t2 t3 t4 t5
  obtain ⟨bp, op, H, hc, G, gc, rfl, _, hp2, p0, p1, p2, p3, p4, p5, PH, PG⟩ := RM.out.2.at_ (k := j) (by omega)
  rw [T3.out] at p0 p1 p2 p3 p4 p5 PH PG
  have PT := Lib.hid (RM.out.2.take (k := j) (by omega))
  rw [T4.out] at PT
  obtain ⟨bs, os, rfl, _, hs2, s0⟩ := RM.out.1.at_ (k := i) (by omega)
  rw [T5.out] at s0
  have JH := Lib.hid PH
  have JG := Lib.hid PG
  clear PH PG
  obtain ⟨n0, n1, n2, nf⟩ := Sp6.three_cells ZM.out
  go_upto_region 10 with (fail)
  clear n0 n1 n2 nf
  have lX := blk_lt ZX.out
  have lP := blk_lt ZP.out
  have lM := blk_lt ZM.out
  have lQ := blk_lt ZQ.out
  try generalize (Value.agg #[.int .i64 x.sec, .slice AX i cx, .slice BX j dx]) = dd0
  try generalize (Value.agg #[.int .i64 p.el, .slice AP p.hd.length cp, .int .i64 p.tag, .slice BP p.bd.length dp]) = dd1
  try generalize (Value.agg #[.int .i64 y.sec, .slice (some ⟨bs, os, none⟩) (i + 1) cm, .slice (some ⟨bp, op, none⟩) (j + 1) dm]) = dd2
  try generalize (Value.agg #[.int .i64 y.sec, .slice AS (i + 1) cs, .slice BS (j + 1) ds]) = dd3
  try generalize (Value.agg #[.int .i64 q.kind, .int .i64 q.next, .int .i64 q.pk.el, .slice AQ q.pk.hd.length cq, .int .i64 q.pk.tag, .slice BQ q.pk.bd.length dq]) = dd4
  try generalize (Value.tuple #[dd0, dd1]) = dd5
  try generalize (Value.tuple #[dd2, .int .i64 0]) = dd6
  try generalize (Value.tuple #[dd3, .int .i64 0]) = dd7
  try generalize (Value.tuple #[dd4, .bool true]) = dd8
  have hw4 : w4.heap.size ≤ (w9.alloc (.cells #[.int .i64 q.kind, .int .i64 q.next, .int .i64 q.pk.el, .slice AQ q.pk.hd.length cq, .int .i64 q.pk.tag, .slice BQ q.pk.bd.length dq] 40)).heap.size := by omega
  generalize (w9.alloc (.cells #[.int .i64 q.kind, .int .i64 q.next, .int .i64 q.pk.el, .slice AQ q.pk.hd.length cq, .int .i64 q.pk.tag, .slice BQ q.pk.bd.length dq] 40)) = wc at *
  have lp : bp < wc.heap.size := by omega
  have ls : bs < wc.heap.size := by omega
  obtain ⟨x0, x1, x2, xf⟩ := Sp6.three_cells ZX.out
  obtain ⟨y0, y1, y2, y3, yf⟩ := four_cells ZP.out
  obtain ⟨m0, m1, m2, mf⟩ := Sp6.three_cells ZM.out
  obtain ⟨q0, q1, q2, q3, q4, q5, qf⟩ := six_cells ZQ.out
  have hsk : ∀ v, Below wc.heap.size wc v → (v.cell? ⟨w1.heap.size, 0, none⟩ = some (.int .i64 x.sec) ∧ v.cell? ⟨w1.heap.size, 2, none⟩ = some (.slice BX j dx) ∧ v.cell? ⟨(w1.heap.size + 1), 0, none⟩ = some (.int .i64 p.el) ∧ v.cell? ⟨w4.heap.size, 0, none⟩ = some (.int .i64 y.sec) ∧ v.cell? ⟨w4.heap.size, 1, none⟩ = some (.slice (some ⟨bs, os, none⟩) (i + 1) cm) ∧ v.cell? ⟨w4.heap.size, 2, none⟩ = some (.slice (some ⟨bp, op, none⟩) (j + 1) dm) ∧ v.cell? ⟨w9.heap.size, 0, none⟩ = some (.int .i64 q.kind) ∧ v.cell? ⟨w9.heap.size, 1, none⟩ = some (.int .i64 q.next) ∧ v.cell? ⟨w9.heap.size, 2, none⟩ = some (.int .i64 q.pk.el) ∧ v.cell? ⟨w9.heap.size, 3, none⟩ = some (.slice AQ q.pk.hd.length cq) ∧ v.cell? ⟨w9.heap.size, 4, none⟩ = some (.int .i64 q.pk.tag) ∧ v.cell? ⟨w9.heap.size, 5, none⟩ = some (.slice BQ q.pk.bd.length dq) ∧ v.cell? ⟨bp, op + j * 6, none⟩ = some (.int .i64 q.kind) ∧ v.cell? ⟨bp, op + j * 6 + 1, none⟩ = some (.int .i64 q.next) ∧ v.cell? ⟨bp, op + j * 6 + 2, none⟩ = some (.int .i64 q.pk.el) ∧ v.cell? ⟨bp, op + j * 6 + 3, none⟩ = some (.slice H q.pk.hd.length hc) ∧ v.cell? ⟨bp, op + j * 6 + 4, none⟩ = some (.int .i64 q.pk.tag) ∧ v.cell? ⟨bp, op + j * 6 + 5, none⟩ = some (.slice G q.pk.bd.length gc) ∧ v.cell? ⟨bs, os + i, none⟩ = some (.int .i64 (mulG x.sec p.el))) := fun v hv => ⟨(hv.cell (p := ⟨w1.heap.size, 0, none⟩) lX).trans x0, (hv.cell (p := ⟨w1.heap.size, 2, none⟩) lX).trans x2, (hv.cell (p := ⟨(w1.heap.size + 1), 0, none⟩) lP).trans y0, (hv.cell (p := ⟨w4.heap.size, 0, none⟩) lM).trans m0, (hv.cell (p := ⟨w4.heap.size, 1, none⟩) lM).trans m1, (hv.cell (p := ⟨w4.heap.size, 2, none⟩) lM).trans m2, (hv.cell (p := ⟨w9.heap.size, 0, none⟩) lQ).trans q0, (hv.cell (p := ⟨w9.heap.size, 1, none⟩) lQ).trans q1, (hv.cell (p := ⟨w9.heap.size, 2, none⟩) lQ).trans q2, (hv.cell (p := ⟨w9.heap.size, 3, none⟩) lQ).trans q3, (hv.cell (p := ⟨w9.heap.size, 4, none⟩) lQ).trans q4, (hv.cell (p := ⟨w9.heap.size, 5, none⟩) lQ).trans q5, (hv.cell (p := ⟨bp, op + j * 6, none⟩) lp).trans p0, (hv.cell (p := ⟨bp, op + j * 6 + 1, none⟩) lp).trans p1, (hv.cell (p := ⟨bp, op + j * 6 + 2, none⟩) lp).trans p2, (hv.cell (p := ⟨bp, op + j * 6 + 3, none⟩) lp).trans p3, (hv.cell (p := ⟨bp, op + j * 6 + 4, none⟩) lp).trans p4, (hv.cell (p := ⟨bp, op + j * 6 + 5, none⟩) lp).trans p5, (hv.cell (p := ⟨bs, os + i, none⟩) ls).trans s0⟩
  have SA : Hid (wc.drew.cell? ⟨w1.heap.size, 0, none⟩ = some (.int .i64 x.sec) ∧ wc.drew.cell? ⟨w1.heap.size, 2, none⟩ = some (.slice BX j dx) ∧ wc.drew.cell? ⟨(w1.heap.size + 1), 0, none⟩ = some (.int .i64 p.el) ∧ wc.drew.cell? ⟨w4.heap.size, 0, none⟩ = some (.int .i64 y.sec) ∧ wc.drew.cell? ⟨w4.heap.size, 1, none⟩ = some (.slice (some ⟨bs, os, none⟩) (i + 1) cm) ∧ wc.drew.cell? ⟨w4.heap.size, 2, none⟩ = some (.slice (some ⟨bp, op, none⟩) (j + 1) dm) ∧ wc.drew.cell? ⟨w9.heap.size, 0, none⟩ = some (.int .i64 q.kind) ∧ wc.drew.cell? ⟨w9.heap.size, 1, none⟩ = some (.int .i64 q.next) ∧ wc.drew.cell? ⟨w9.heap.size, 2, none⟩ = some (.int .i64 q.pk.el) ∧ wc.drew.cell? ⟨w9.heap.size, 3, none⟩ = some (.slice AQ q.pk.hd.length cq) ∧ wc.drew.cell? ⟨w9.heap.size, 4, none⟩ = some (.int .i64 q.pk.tag) ∧ wc.drew.cell? ⟨w9.heap.size, 5, none⟩ = some (.slice BQ q.pk.bd.length dq) ∧ wc.drew.cell? ⟨bp, op + j * 6, none⟩ = some (.int .i64 q.kind) ∧ wc.drew.cell? ⟨bp, op + j * 6 + 1, none⟩ = some (.int .i64 q.next) ∧ wc.drew.cell? ⟨bp, op + j * 6 + 2, none⟩ = some (.int .i64 q.pk.el) ∧ wc.drew.cell? ⟨bp, op + j * 6 + 3, none⟩ = some (.slice H q.pk.hd.length hc) ∧ wc.drew.cell? ⟨bp, op + j * 6 + 4, none⟩ = some (.int .i64 q.pk.tag) ∧ wc.drew.cell? ⟨bp, op + j * 6 + 5, none⟩ = some (.slice G q.pk.bd.length gc) ∧ wc.drew.cell? ⟨bs, os + i, none⟩ = some (.int .i64 (mulG x.sec p.el))) := ⟨x0, x2, y0, m0, m1, m2, q0, q1, q2, q3, q4, q5, p0, p1, p2, p3, p4, p5, s0⟩
  have HSK := Lib.hid hsk
  clear hsk x0 x1 x2 xf y0 y1 y2 y3 yf m0 m1 m2 mf q0 q1 q2 q3 q4 q5 qf p0 p1 p2 p3 p4 p5 s0
  have hi5 := HSN.out
  have hj5 := HPN.out
  rw [IntWalk.wrap64_in (j : Int) (by omega)]
  have hw2 : IntKind.i64.wrap (i : Int) = (i : Int) := IntWalk.i64_in _ (by omega)
  have hw1 : wrap64 (i : Int) = (i : Int) := IntWalk.wrap64_in _ (by omega)
  have hcp := RM.out.2.cap_
  have g1a : (0 : Int) ≤ (j : Int) := by omega
  have g1b : (j : Int) < (j : Int) + 1 := by omega
  have g1c : (j : Int) ≤ (dm : Int) := by omega
  have g1d : (i : Int) < (i : Int) + 1 := by omega
  have K1 : Hid (Ints _ _ wc.drew H _ hc q.pk.hd) := JH.out
  have K2 : Hid (Ints _ _ wc.drew G _ gc q.pk.bd) := JG.out
  have K3 : Hid (Ints _ _ wc.drew AQ _ cq q.pk.hd) := LQ.out.hdr.ints
  have K4 : Hid (Ints _ _ wc.drew BQ _ dq q.pk.bd) := LQ.out.bdy.ints
  clear hcp hi5 hj5 lX lP lM lQ hp2 hs2 hw4
  go_region_held3 (fun w' => (w'.cell? ⟨w1.heap.size, 0, none⟩ = some (.int .i64 x.sec) ∧ w'.cell? ⟨w1.heap.size, 2, none⟩ = some (.slice BX j dx) ∧ w'.cell? ⟨(w1.heap.size + 1), 0, none⟩ = some (.int .i64 p.el) ∧ w'.cell? ⟨w4.heap.size, 0, none⟩ = some (.int .i64 y.sec) ∧ w'.cell? ⟨w4.heap.size, 1, none⟩ = some (.slice (some ⟨bs, os, none⟩) (i + 1) cm) ∧ w'.cell? ⟨w4.heap.size, 2, none⟩ = some (.slice (some ⟨bp, op, none⟩) (j + 1) dm) ∧ w'.cell? ⟨w9.heap.size, 0, none⟩ = some (.int .i64 q.kind) ∧ w'.cell? ⟨w9.heap.size, 1, none⟩ = some (.int .i64 q.next) ∧ w'.cell? ⟨w9.heap.size, 2, none⟩ = some (.int .i64 q.pk.el) ∧ w'.cell? ⟨w9.heap.size, 3, none⟩ = some (.slice AQ q.pk.hd.length cq) ∧ w'.cell? ⟨w9.heap.size, 4, none⟩ = some (.int .i64 q.pk.tag) ∧ w'.cell? ⟨w9.heap.size, 5, none⟩ = some (.slice BQ q.pk.bd.length dq) ∧ w'.cell? ⟨bp, op + j * 6, none⟩ = some (.int .i64 q.kind) ∧ w'.cell? ⟨bp, op + j * 6 + 1, none⟩ = some (.int .i64 q.next) ∧ w'.cell? ⟨bp, op + j * 6 + 2, none⟩ = some (.int .i64 q.pk.el) ∧ w'.cell? ⟨bp, op + j * 6 + 3, none⟩ = some (.slice H q.pk.hd.length hc) ∧ w'.cell? ⟨bp, op + j * 6 + 4, none⟩ = some (.int .i64 q.pk.tag) ∧ w'.cell? ⟨bp, op + j * 6 + 5, none⟩ = some (.slice G q.pk.bd.length gc) ∧ w'.cell? ⟨bs, os + i, none⟩ = some (.int .i64 (mulG x.sec p.el))))
    (first | with_reducible exact SA.out | with_reducible exact kB | with_reducible exact kC | with_reducible exact kD | fail)
    (first
    | (go_at_call 18; refine (samePeeled q _ _ _ _ _ _ _ _ _ _ _ _ _ _ _ _ _ K1.out K2.out K3.out K4.out).mono ?_; rintro e v1 ⟨rfl, hb1⟩; have hv1 : Below wc.heap.size wc v1 := below_drew hb1; have kB := HSK.out v1 hv1; have P1 := Lib.hid (PT.out.below hv1 (Nat.le_refl _)); have P2 := Lib.hid (RX.out.2.below hv1 (Nat.le_refl _)))
    | (go_at_call 19; refine (samePool _ _ j _ _ _ _ _ _ x.pool _ P1.out P2.out).mono ?_; rintro e v2 ⟨rfl, hb2⟩; have hv2 : Below wc.heap.size wc v2 := hv1.trans (hb2.mono hv1.size); have kC := HSK.out v2 hv2; have R2 := Lib.hid (RM.out.below hv2 (Nat.le_refl _)))
    | (go_at_call 20; refine (Grp.iShared x.sec p.el _).mono ?_; rintro e v3 ⟨rfl, rfl⟩)
    | (go_at_call 13; refine (Im6.MixValid y _ _ _ _ _ _ _ _ _ R2.out).mono ?_; rintro e v4 ⟨rfl, hb4⟩; rw [HV5.out]; have hv4 : Below wc.heap.size wc v4 := hv2.trans (hb4.mono hv2.size); have kD := HSK.out v4 hv4)
    | fail)
  all_goals
    have B9 := Lib.hid (B.out.trans (hv4.mono B.out.size))
    clear hb1 hb2 hb4 hv1 hv2 hv4 kB kC kD
    go_wp2
    go_ret
    exact ⟨rfl, B9.out⟩

theorem hasInt (lo hi : Nat) (A : Option Addr) (n c : Nat) (xs : List Int) (x : Int) (w : World) (hx : Ints lo hi w A n c xs) :
    Calls Try.prog 23 #[.slice A n c, .int .i64 x] w fun e w' => e = .returned (.bool (has xs x)) ∧ w = w' := by
  have hc1 := hx.2.2.1
  have hc2 := hx.2.1
  have HL := Lib.hid hx.1
  unfold maxLen at hc1
  have HX := Lib.hid hx
  clear hx
  go_enter Try.func23, Try.ntmps23
  go_wp2
  go_loop [5] (fun i => ∃ k : Nat, k ≤ n ∧ i = .int .i64 k ∧ Hid (lacksTo xs x k)) (fun i => n - (intOf i).toNat)
  case atStart => exact ⟨0, Nat.zero_le _, rfl, fun i hi => absurd hi (by omega)⟩
  case round =>
    obtain ⟨k, hk, rfl, hT⟩ := hrel
    by_cases hlt : k < n
    · obtain ⟨b, off, rfl, _, _, hcx⟩ := HX.out.at_ hlt
      by_cases he : xs.getD k 0 = x
      · have HF := Lib.hid (has_at (by rw [HL.out]; exact hlt) he)
        have e0 : (xs.getD k 0 == x) = true := by simpa using he
        clear he
        generalize xs.getD k 0 = y at *
        go_wp2
        go_ret
        rw [HF.out]
        exact ⟨rfl, rfl⟩
      · have HN := Lib.hid (lacks_succ hT.out he)
        have e0 : (xs.getD k 0 == x) = false := by simpa using he
        clear he hT
        generalize xs.getD k 0 = y at *
        go_wp2
        go_round
        case rel => exact ⟨k + 1, by omega, by go_num, HN.out⟩
        case measure => simp [intOf]; omega
    · obtain rfl : k = n := by omega
      have HF := Lib.hid (lacks_all HL.out hT.out)
      clear hT
      go_wp2
      go_ret
      rw [HF.out]
      exact ⟨rfl, rfl⟩
set_option maxRecDepth 20000 in
set_option maxHeartbeats 1000000 in
theorem fnTakeCodes (A : Option Addr) (n c : Nat) (w : World) (h : CodeIs w A n c) :
    Calls Try.prog 8 #[.slice A n c] w (TruePost w) := by
  have HC := Lib.hid h
  clear h
  by_cases hn : 1048576 < n
  · go_enter Try.func8, Try.ntmps8
    go_wp2
    go_ret
    exact ⟨rfl, Below.refl _ _⟩
  have B : Hid (Below w.heap.size w w) := Below.refl _ _
  go_enter Try.func8, Try.ntmps8
  have hq : n ≤ 1048576 := by omega
  go_wp2_with fail
  ((with_reducible refine (DrawMixTake _ _ _ _ HC.out).mono ?_); rintro e w1 ⟨x, AX, cx, BX, dx, p, AP, cp, BP, dp, rfl, hr, i1, i2, ⟨hsec, hsn, hpn, hpl, hn, hm⟩, hb⟩)
  replace B := Lib.hid (B.out.trans (hb.mono B.out.size))
  have z1 := hb.size
  have RX := Lib.hid hr
  have IH := Lib.hid i1
  have IB := Lib.hid i2
  clear hr i1 i2 hb
  have HSN := Lib.hid hsn
  have HPN := Lib.hid hpn
  clear hsec hsn hpn hpl
  have hal : Below w1.heap.size w1 (w1.alloc (.cells #[.int .i64 x.sec, .slice AX x.seen.length cx, .slice BX x.pool.length dx] 27)) := (Below.refl _ _).alloc (Nat.le_refl _) _
  have hzz : Blk (w1.alloc (.cells #[.int .i64 x.sec, .slice AX x.seen.length cx, .slice BX x.pool.length dx] 27)) w1.heap.size #[.int .i64 x.sec, .slice AX x.seen.length cx, .slice BX x.pool.length dx] 27 := heap_alloc_new _ _
  replace IH := Lib.hid (IH.out.below hal (Nat.le_refl _))
  replace IB := Lib.hid (IB.out.below hal (Nat.le_refl _))
  replace RX := Lib.hid (RX.out.below hal (Nat.le_refl _))
  replace B := Lib.hid (B.out.trans (hal.mono B.out.size))
  have ZX := Lib.hid hzz
  clear hzz
  clear hal
  have hzX : w1.heap.size < (w1.alloc (.cells #[.int .i64 x.sec, .slice AX x.seen.length cx, .slice BX x.pool.length dx] 27)).heap.size := by simp
  have hal : Below (w1.alloc (.cells #[.int .i64 x.sec, .slice AX x.seen.length cx, .slice BX x.pool.length dx] 27)).heap.size (w1.alloc (.cells #[.int .i64 x.sec, .slice AX x.seen.length cx, .slice BX x.pool.length dx] 27)) ((w1.alloc (.cells #[.int .i64 x.sec, .slice AX x.seen.length cx, .slice BX x.pool.length dx] 27)).alloc (.cells #[.int .i64 p.el, .slice AP p.hd.length cp, .int .i64 p.tag, .slice BP p.bd.length dp] 34)) := (Below.refl _ _).alloc (Nat.le_refl _) _
  have hzz : Blk ((w1.alloc (.cells #[.int .i64 x.sec, .slice AX x.seen.length cx, .slice BX x.pool.length dx] 27)).alloc (.cells #[.int .i64 p.el, .slice AP p.hd.length cp, .int .i64 p.tag, .slice BP p.bd.length dp] 34)) (w1.alloc (.cells #[.int .i64 x.sec, .slice AX x.seen.length cx, .slice BX x.pool.length dx] 27)).heap.size #[.int .i64 p.el, .slice AP p.hd.length cp, .int .i64 p.tag, .slice BP p.bd.length dp] 34 := heap_alloc_new _ _
  replace IH := Lib.hid (IH.out.below hal (Nat.le_refl _))
  replace IB := Lib.hid (IB.out.below hal (Nat.le_refl _))
  replace RX := Lib.hid (RX.out.below hal (Nat.le_refl _))
  replace ZX := Lib.hid (ZX.out.below hal (Nat.le_refl _))
  replace B := Lib.hid (B.out.trans (hal.mono B.out.size))
  have ZP := Lib.hid hzz
  clear hzz
  clear hal
  have hzP : (w1.alloc (.cells #[.int .i64 x.sec, .slice AX x.seen.length cx, .slice BX x.pool.length dx] 27)).heap.size < ((w1.alloc (.cells #[.int .i64 x.sec, .slice AX x.seen.length cx, .slice BX x.pool.length dx] 27)).alloc (.cells #[.int .i64 p.el, .slice AP p.hd.length cp, .int .i64 p.tag, .slice BP p.bd.length dp] 34)).heap.size := by simp
  have ZP1 := Lib.hid (blk_at ZP.out (show (w1.alloc (.cells #[.int .i64 x.sec, .slice AX x.seen.length cx, .slice BX x.pool.length dx] 27)).heap.size = w1.heap.size + 1 by simp))
  clear ZP
  have ZP := ZP1
  clear ZP1
  obtain ⟨m0, m1, m2, mf⟩ := Sp6.three_cells ZX.out
  obtain ⟨k0, k1, k2, k3, kf⟩ := four_cells ZP.out
  go_wp2_with fail
  ((with_reducible refine (Im6.MixTake x p _ _ _ _ _ _ _ _ _ _ _ _ _ _ _ RX.out IH.out IB.out).mono ?_); rintro e w4 ⟨AM, cm, BM, dm, rfl, hr, hb⟩)
  replace IH := Lib.hid (IH.out.below hb (Nat.le_refl _))
  replace IB := Lib.hid (IB.out.below hb (Nat.le_refl _))
  replace RX := Lib.hid (RX.out.below hb (Nat.le_refl _))
  replace ZX := Lib.hid (ZX.out.below hb (Nat.le_refl _))
  replace ZP := Lib.hid (ZP.out.below hb (Nat.le_refl _))
  replace B := Lib.hid (B.out.trans (hb.mono B.out.size))
  have z4 := hb.size
  have RM := Lib.hid hr
  clear hr hb
  clear m0 m1 m2 mf k0 k1 k2 k3 kf
  have hev := @take_zero x p
  have hfv := @take_four x p
  generalize hey : mtakeM x p = y at *
  generalize hok : mtakeC x p = cd at *
  have HEY := Lib.hid (And.intro hey hok)
  have HEV := Lib.hid hev
  have HFV := Lib.hid hfv
  clear hey hok hev hfv
  have e0 : (cd != cd) = false := by simp
  have e1 : (cd == cd) = true := by simp
  have hal : Below w4.heap.size w4 (w4.alloc (.cells #[.int .i64 y.sec, .slice AM y.seen.length cm, .slice BM y.pool.length dm] 27)) := (Below.refl _ _).alloc (Nat.le_refl _) _
  have hzz : Blk (w4.alloc (.cells #[.int .i64 y.sec, .slice AM y.seen.length cm, .slice BM y.pool.length dm] 27)) w4.heap.size #[.int .i64 y.sec, .slice AM y.seen.length cm, .slice BM y.pool.length dm] 27 := heap_alloc_new _ _
  replace IH := Lib.hid (IH.out.below hal (Nat.le_refl _))
  replace IB := Lib.hid (IB.out.below hal (Nat.le_refl _))
  replace RX := Lib.hid (RX.out.below hal (Nat.le_refl _))
  replace ZX := Lib.hid (ZX.out.below hal (Nat.le_refl _))
  replace ZP := Lib.hid (ZP.out.below hal (Nat.le_refl _))
  replace RM := Lib.hid (RM.out.below hal (Nat.le_refl _))
  replace B := Lib.hid (B.out.trans (hal.mono B.out.size))
  have ZM := Lib.hid hzz
  clear hzz
  clear hal
  have hzM : w4.heap.size < (w4.alloc (.cells #[.int .i64 y.sec, .slice AM y.seen.length cm, .slice BM y.pool.length dm] 27)).heap.size := by simp
  obtain ⟨m0, m1, m2, mf⟩ := Sp6.three_cells ZX.out
  obtain ⟨k0, k1, k2, k3, kf⟩ := four_cells ZP.out
  go_wp2_with fail
  ((with_reducible refine (sptake_s x y p cd _ _ _ _ _ _ _ _ _ _ _ _ _ _ _ RX.out IH.out IB.out HEY.out).mono ?_); rintro e w6 ⟨AS, cs, BS, ds, rfl, hr, hb⟩)
  replace IH := Lib.hid (IH.out.below hb (Nat.le_refl _))
  replace IB := Lib.hid (IB.out.below hb (Nat.le_refl _))
  replace RX := Lib.hid (RX.out.below hb (Nat.le_refl _))
  replace ZX := Lib.hid (ZX.out.below hb (Nat.le_refl _))
  replace ZP := Lib.hid (ZP.out.below hb (Nat.le_refl _))
  replace RM := Lib.hid (RM.out.below hb (Nat.le_refl _))
  replace ZM := Lib.hid (ZM.out.below hb (Nat.le_refl _))
  replace B := Lib.hid (B.out.trans (hb.mono B.out.size))
  have z6 := hb.size
  have RS := Lib.hid hr
  clear hr hb
  clear m0 m1 m2 mf k0 k1 k2 k3 kf
  have hal : Below w6.heap.size w6 (w6.alloc (.cells #[.int .i64 y.sec, .slice AS y.seen.length cs, .slice BS y.pool.length ds] 27)) := (Below.refl _ _).alloc (Nat.le_refl _) _
  have hzz : Blk (w6.alloc (.cells #[.int .i64 y.sec, .slice AS y.seen.length cs, .slice BS y.pool.length ds] 27)) w6.heap.size #[.int .i64 y.sec, .slice AS y.seen.length cs, .slice BS y.pool.length ds] 27 := heap_alloc_new _ _
  replace IH := Lib.hid (IH.out.below hal (Nat.le_refl _))
  replace IB := Lib.hid (IB.out.below hal (Nat.le_refl _))
  replace RX := Lib.hid (RX.out.below hal (Nat.le_refl _))
  replace ZX := Lib.hid (ZX.out.below hal (Nat.le_refl _))
  replace ZP := Lib.hid (ZP.out.below hal (Nat.le_refl _))
  replace RM := Lib.hid (RM.out.below hal (Nat.le_refl _))
  replace ZM := Lib.hid (ZM.out.below hal (Nat.le_refl _))
  replace RS := Lib.hid (RS.out.below hal (Nat.le_refl _))
  replace B := Lib.hid (B.out.trans (hal.mono B.out.size))
  have ZS := Lib.hid hzz
  clear hzz
  clear hal
  have hzS : w6.heap.size < (w6.alloc (.cells #[.int .i64 y.sec, .slice AS y.seen.length cs, .slice BS y.pool.length ds] 27)).heap.size := by simp
  by_cases hc0 : cd = 4
  · have e2 : (cd == 4) = true := by simpa using hc0
    obtain ⟨m0, m1, m2, mf⟩ := Sp6.three_cells ZM.out
    obtain ⟨s0, s1, s2, sf⟩ := Sp6.three_cells ZS.out
    go_wp2_with fail
    ((with_reducible refine (sameMix y _ _ _ _ _ _ _ _ _ _ _ _ _ _ _ RM.out RS.out).mono ?_); rintro e w8 ⟨rfl, hb⟩)
    replace IH := Lib.hid (IH.out.below hb (Nat.le_refl _))
    replace IB := Lib.hid (IB.out.below hb (Nat.le_refl _))
    replace RX := Lib.hid (RX.out.below hb (Nat.le_refl _))
    replace ZX := Lib.hid (ZX.out.below hb (Nat.le_refl _))
    replace ZP := Lib.hid (ZP.out.below hb (Nat.le_refl _))
    replace RM := Lib.hid (RM.out.below hb (Nat.le_refl _))
    replace ZM := Lib.hid (ZM.out.below hb (Nat.le_refl _))
    replace RS := Lib.hid (RS.out.below hb (Nat.le_refl _))
    replace ZS := Lib.hid (ZS.out.below hb (Nat.le_refl _))
    replace B := Lib.hid (B.out.trans (hb.mono B.out.size))
    have z8 := hb.size
    clear hb
    clear m0 m1 m2 mf s0 s1 s2 sf
    obtain ⟨m0, m1, m2, mf⟩ := Sp6.three_cells ZM.out
    obtain ⟨s0, s1, s2, sf⟩ := Sp6.three_cells ZS.out
    go_wp2_with fail
    ((with_reducible refine (sameMix y _ _ _ _ _ _ _ _ _ _ _ _ _ _ _ RM.out RS.out).mono ?_); rintro e w9 ⟨rfl, hb⟩)
    replace IH := Lib.hid (IH.out.below hb (Nat.le_refl _))
    replace IB := Lib.hid (IB.out.below hb (Nat.le_refl _))
    replace RX := Lib.hid (RX.out.below hb (Nat.le_refl _))
    replace ZX := Lib.hid (ZX.out.below hb (Nat.le_refl _))
    replace ZP := Lib.hid (ZP.out.below hb (Nat.le_refl _))
    replace RM := Lib.hid (RM.out.below hb (Nat.le_refl _))
    replace ZM := Lib.hid (ZM.out.below hb (Nat.le_refl _))
    replace RS := Lib.hid (RS.out.below hb (Nat.le_refl _))
    replace ZS := Lib.hid (ZS.out.below hb (Nat.le_refl _))
    replace B := Lib.hid (B.out.trans (hb.mono B.out.size))
    have z9 := hb.size
    clear hb
    clear m0 m1 m2 mf s0 s1 s2 sf
    go_wp2
    go_ret
    exact ⟨rfl, B.out⟩
  have e2 : (cd == 4) = false := by simpa using hc0
  obtain ⟨m0, m1, m2, mf⟩ := Sp6.three_cells ZM.out
  obtain ⟨s0, s1, s2, sf⟩ := Sp6.three_cells ZS.out
  go_wp2_with fail
  ((with_reducible refine (sameMix y _ _ _ _ _ _ _ _ _ _ _ _ _ _ _ RM.out RS.out).mono ?_); rintro e w8 ⟨rfl, hb⟩)
  replace IH := Lib.hid (IH.out.below hb (Nat.le_refl _))
  replace IB := Lib.hid (IB.out.below hb (Nat.le_refl _))
  replace RX := Lib.hid (RX.out.below hb (Nat.le_refl _))
  replace ZX := Lib.hid (ZX.out.below hb (Nat.le_refl _))
  replace ZP := Lib.hid (ZP.out.below hb (Nat.le_refl _))
  replace RM := Lib.hid (RM.out.below hb (Nat.le_refl _))
  replace ZM := Lib.hid (ZM.out.below hb (Nat.le_refl _))
  replace RS := Lib.hid (RS.out.below hb (Nat.le_refl _))
  replace ZS := Lib.hid (ZS.out.below hb (Nat.le_refl _))
  replace B := Lib.hid (B.out.trans (hb.mono B.out.size))
  have z8 := hb.size
  clear hb
  clear m0 m1 m2 mf s0 s1 s2 sf
  obtain ⟨hv1, hv2, hv3, hv4⟩ := HFV.out hc0
  obtain ⟨m1, m2, m3, m4, m5⟩ := mixOk_iff.1 hv1
  clear m1 m2 m4
  have HV3 := Lib.hid hv3
  have HV4 := Lib.hid hv4
  clear hv1 hv2 hv3 hv4
  obtain ⟨m0, m1, m2, mf⟩ := Sp6.three_cells ZX.out
  obtain ⟨k0, k1, k2, k3, kf⟩ := four_cells ZP.out
  go_wp2_with fail
  ((with_reducible refine (peel_p _ _ _ _ _ _ _ _ x.sec p _ IH.out IB.out).mono ?_); rintro e w9 ⟨AQ, cq, BQ, dq, g1, g2, rfl, hlie, hg1, hg2, hb⟩)
  replace IH := Lib.hid (IH.out.below hb (Nat.le_refl _))
  replace IB := Lib.hid (IB.out.below hb (Nat.le_refl _))
  replace RX := Lib.hid (RX.out.below hb (Nat.le_refl _))
  replace ZX := Lib.hid (ZX.out.below hb (Nat.le_refl _))
  replace ZP := Lib.hid (ZP.out.below hb (Nat.le_refl _))
  replace RM := Lib.hid (RM.out.below hb (Nat.le_refl _))
  replace ZM := Lib.hid (ZM.out.below hb (Nat.le_refl _))
  replace RS := Lib.hid (RS.out.below hb (Nat.le_refl _))
  replace ZS := Lib.hid (ZS.out.below hb (Nat.le_refl _))
  replace B := Lib.hid (B.out.trans (hb.mono B.out.size))
  have z9 := hb.size
  have LQ := Lib.hid hlie
  clear hlie hb
  clear m0 m1 m2 mf k0 k1 k2 k3 kf
  generalize peelF x.sec p = q at *
  have HQ := Lib.hid (rfl : peelOk x.sec p = peelOk x.sec p)
  generalize hpo : peelOk x.sec p = po at *
  have hal : Below w9.heap.size w9 (w9.alloc (.cells #[.int .i64 q.kind, .int .i64 q.next, .int .i64 q.pk.el, .slice AQ q.pk.hd.length cq, .int .i64 q.pk.tag, .slice BQ q.pk.bd.length dq] 40)) := (Below.refl _ _).alloc (Nat.le_refl _) _
  have hzz : Blk (w9.alloc (.cells #[.int .i64 q.kind, .int .i64 q.next, .int .i64 q.pk.el, .slice AQ q.pk.hd.length cq, .int .i64 q.pk.tag, .slice BQ q.pk.bd.length dq] 40)) w9.heap.size #[.int .i64 q.kind, .int .i64 q.next, .int .i64 q.pk.el, .slice AQ q.pk.hd.length cq, .int .i64 q.pk.tag, .slice BQ q.pk.bd.length dq] 40 := heap_alloc_new _ _
  replace IH := Lib.hid (IH.out.below hal (Nat.le_refl _))
  replace IB := Lib.hid (IB.out.below hal (Nat.le_refl _))
  replace RX := Lib.hid (RX.out.below hal (Nat.le_refl _))
  replace ZX := Lib.hid (ZX.out.below hal (Nat.le_refl _))
  replace ZP := Lib.hid (ZP.out.below hal (Nat.le_refl _))
  replace RM := Lib.hid (RM.out.below hal (Nat.le_refl _))
  replace ZM := Lib.hid (ZM.out.below hal (Nat.le_refl _))
  replace RS := Lib.hid (RS.out.below hal (Nat.le_refl _))
  replace ZS := Lib.hid (ZS.out.below hal (Nat.le_refl _))
  replace LQ := Lib.hid (LQ.out.below hal (Nat.le_refl _))
  replace B := Lib.hid (B.out.trans (hal.mono B.out.size))
  have ZQ := Lib.hid hzz
  clear hzz
  clear hal
  have hzQ : w9.heap.size < (w9.alloc (.cells #[.int .i64 q.kind, .int .i64 q.next, .int .i64 q.pk.el, .slice AQ q.pk.hd.length cq, .int .i64 q.pk.tag, .slice BQ q.pk.bd.length dq] 40)).heap.size := by simp
  have M3 := Lib.hid m3
  have M5 := Lib.hid m5
  clear m3 m5
  cases po
  · have HPO := Lib.hid hpo
    clear hpo HQ
    have hcd : cd = 2 := by rw [HV3.out]; exact takeC_wrong HPO.out
    have hyx : y = x := by rw [HV4.out, takeM_no (by rw [← HV3.out]; omega)]
    have e3 : (cd == 2) = true := by simp [hcd]
    have HYX := Lib.hid hyx
    clear hyx hcd
    obtain ⟨m0, m1, m2, mf⟩ := Sp6.three_cells ZM.out
    obtain ⟨s0, s1, s2, sf⟩ := Sp6.three_cells ZX.out
    go_wp2_with fail
    ((with_reducible refine (same2 RM.out RX.out HYX.out).mono ?_); rintro e w11 ⟨rfl, hb⟩)
    replace IH := Lib.hid (IH.out.below hb (Nat.le_refl _))
    replace IB := Lib.hid (IB.out.below hb (Nat.le_refl _))
    replace RX := Lib.hid (RX.out.below hb (Nat.le_refl _))
    replace ZX := Lib.hid (ZX.out.below hb (Nat.le_refl _))
    replace ZP := Lib.hid (ZP.out.below hb (Nat.le_refl _))
    replace RM := Lib.hid (RM.out.below hb (Nat.le_refl _))
    replace ZM := Lib.hid (ZM.out.below hb (Nat.le_refl _))
    replace RS := Lib.hid (RS.out.below hb (Nat.le_refl _))
    replace ZS := Lib.hid (ZS.out.below hb (Nat.le_refl _))
    replace LQ := Lib.hid (LQ.out.below hb (Nat.le_refl _))
    replace ZQ := Lib.hid (ZQ.out.below hb (Nat.le_refl _))
    replace B := Lib.hid (B.out.trans (hb.mono B.out.size))
    have z11 := hb.size
    clear hb
    clear m0 m1 m2 mf s0 s1 s2 sf
    go_wp2
    go_ret
    exact ⟨rfl, B.out⟩
  have HPO := Lib.hid hpo
  clear hpo HQ
  go_upto_region 11 with (fail)
  generalize (w9.alloc (.cells #[.int .i64 q.kind, .int .i64 q.next, .int .i64 q.pk.el, .slice AQ q.pk.hd.length cq, .int .i64 q.pk.tag, .slice BQ q.pk.bd.length dq] 40)) = wc at *
  obtain ⟨m0, m1, m2, mf⟩ := Sp6.three_cells ZX.out
  obtain ⟨k0, k1, k2, k3, kf⟩ := four_cells ZP.out
  have KX : Hid (Ints _ _ wc.drew AX x.seen.length cx x.seen) := RX.out.1
  go_wp2_with fail
  go_region_law (first | (go_simp; go_at_call 20; refine (Grp.iShared x.sec p.el _).mono ?_; rintro e w2 ⟨rfl, rfl⟩) | (go_simp; go_at_call 23; refine (hasInt _ _ _ _ _ x.seen (mulG x.sec p.el) _ KX.out).mono ?_; rintro e w3 ⟨rfl, rfl⟩) | fail)
  all_goals
    clear m0 m1 m2 mf k0 k1 k2 k3 kf KX
    have hbd : Below wc.heap.size wc wc.drew := ⟨rfl, rfl, rfl, Nat.le_refl _, fun _ _ => rfl⟩
    replace IH := Lib.hid (IH.out.below hbd (Nat.le_refl _))
    replace IB := Lib.hid (IB.out.below hbd (Nat.le_refl _))
    replace RX := Lib.hid (RX.out.below hbd (Nat.le_refl _))
    replace ZX := Lib.hid (ZX.out.below hbd (Nat.le_refl _))
    replace ZP := Lib.hid (ZP.out.below hbd (Nat.le_refl _))
    replace RM := Lib.hid (RM.out.below hbd (Nat.le_refl _))
    replace ZM := Lib.hid (ZM.out.below hbd (Nat.le_refl _))
    replace RS := Lib.hid (RS.out.below hbd (Nat.le_refl _))
    replace ZS := Lib.hid (ZS.out.below hbd (Nat.le_refl _))
    replace LQ := Lib.hid (LQ.out.below hbd (Nat.le_refl _))
    replace ZQ := Lib.hid (ZQ.out.below hbd (Nat.le_refl _))
    replace B := Lib.hid (B.out.trans (hbd.mono B.out.size))
    clear hbd
    generalize wc.drew = wd at *
    generalize hhs : has x.seen (mulG x.sec p.el) = hs at *
    cases hs
    case true =>
      have HH := Lib.hid hhs
      clear hhs
      have hcd : cd = 1 := by rw [HV3.out]; exact takeC_replay HPO.out HH.out
      have hyx : y = x := by rw [HV4.out, takeM_no (by rw [← HV3.out]; omega)]
      have e3 : (cd == 1) = true := by simp [hcd]
      have HYX := Lib.hid hyx
      clear hyx hcd
      obtain ⟨m0, m1, m2, mf⟩ := Sp6.three_cells ZM.out
      obtain ⟨s0, s1, s2, sf⟩ := Sp6.three_cells ZX.out
      go_wp2_with fail
      ((with_reducible refine (same2 RM.out RX.out HYX.out).mono ?_); rintro e w11 ⟨rfl, hb⟩)
      replace IH := Lib.hid (IH.out.below hb (Nat.le_refl _))
      replace IB := Lib.hid (IB.out.below hb (Nat.le_refl _))
      replace RX := Lib.hid (RX.out.below hb (Nat.le_refl _))
      replace ZX := Lib.hid (ZX.out.below hb (Nat.le_refl _))
      replace ZP := Lib.hid (ZP.out.below hb (Nat.le_refl _))
      replace RM := Lib.hid (RM.out.below hb (Nat.le_refl _))
      replace ZM := Lib.hid (ZM.out.below hb (Nat.le_refl _))
      replace RS := Lib.hid (RS.out.below hb (Nat.le_refl _))
      replace ZS := Lib.hid (ZS.out.below hb (Nat.le_refl _))
      replace LQ := Lib.hid (LQ.out.below hb (Nat.le_refl _))
      replace ZQ := Lib.hid (ZQ.out.below hb (Nat.le_refl _))
      replace B := Lib.hid (B.out.trans (hb.mono B.out.size))
      have z11 := hb.size
      clear hb
      clear m0 m1 m2 mf s0 s1 s2 sf
      go_wp2
      go_ret
      exact ⟨rfl, B.out⟩
    have HH := Lib.hid hhs
    clear hhs
    by_cases h12 : x.seen.length = 12
    · have e4 : ((x.seen.length : Int) == 12) = true := by rw [h12]; rfl
      have H12 := Lib.hid h12
      clear h12
      obtain ⟨q0, q1, q2, qf⟩ := Sp6.three_cells ZX.out
      go_upto_region 14 with (fail)
      clear q0 q1 q2 qf
      have hcd : cd = 3 := by rw [HV3.out]; exact takeC_full HPO.out HH.out (.inl (by have := H12.out; omega))
      have hyx : y = x := by rw [HV4.out, takeM_no (by rw [← HV3.out]; omega)]
      have e3 : (cd == 3) = true := by simp [hcd]
      have HYX := Lib.hid hyx
      clear hyx hcd
      obtain ⟨m0, m1, m2, mf⟩ := Sp6.three_cells ZM.out
      obtain ⟨s0, s1, s2, sf⟩ := Sp6.three_cells ZX.out
      go_wp2_with fail
      ((with_reducible refine (same2 RM.out RX.out HYX.out).mono ?_); rintro e w11 ⟨rfl, hb⟩)
      replace IH := Lib.hid (IH.out.below hb (Nat.le_refl _))
      replace IB := Lib.hid (IB.out.below hb (Nat.le_refl _))
      replace RX := Lib.hid (RX.out.below hb (Nat.le_refl _))
      replace ZX := Lib.hid (ZX.out.below hb (Nat.le_refl _))
      replace ZP := Lib.hid (ZP.out.below hb (Nat.le_refl _))
      replace RM := Lib.hid (RM.out.below hb (Nat.le_refl _))
      replace ZM := Lib.hid (ZM.out.below hb (Nat.le_refl _))
      replace RS := Lib.hid (RS.out.below hb (Nat.le_refl _))
      replace ZS := Lib.hid (ZS.out.below hb (Nat.le_refl _))
      replace LQ := Lib.hid (LQ.out.below hb (Nat.le_refl _))
      replace ZQ := Lib.hid (ZQ.out.below hb (Nat.le_refl _))
      replace B := Lib.hid (B.out.trans (hb.mono B.out.size))
      have z11 := hb.size
      clear hb
      clear m0 m1 m2 mf s0 s1 s2 sf
      go_wp2
      go_ret
      exact ⟨rfl, B.out⟩
    have e4 : ((x.seen.length : Int) == 12) = false := by simp; omega
    have H12 := Lib.hid h12
    clear h12
    by_cases h5 : x.pool.length = 5
    · have e5 : ((x.pool.length : Int) == 5) = true := by rw [h5]; rfl
      have H5 := Lib.hid h5
      clear h5
      obtain ⟨q0, q1, q2, qf⟩ := Sp6.three_cells ZX.out
      go_upto_region 14 with (fail)
      clear q0 q1 q2 qf
      have hcd : cd = 3 := by rw [HV3.out]; exact takeC_full HPO.out HH.out (.inr (by have := H5.out; omega))
      have hyx : y = x := by rw [HV4.out, takeM_no (by rw [← HV3.out]; omega)]
      have e3 : (cd == 3) = true := by simp [hcd]
      have HYX := Lib.hid hyx
      clear hyx hcd
      obtain ⟨m0, m1, m2, mf⟩ := Sp6.three_cells ZM.out
      obtain ⟨s0, s1, s2, sf⟩ := Sp6.three_cells ZX.out
      go_wp2_with fail
      ((with_reducible refine (same2 RM.out RX.out HYX.out).mono ?_); rintro e w11 ⟨rfl, hb⟩)
      replace IH := Lib.hid (IH.out.below hb (Nat.le_refl _))
      replace IB := Lib.hid (IB.out.below hb (Nat.le_refl _))
      replace RX := Lib.hid (RX.out.below hb (Nat.le_refl _))
      replace ZX := Lib.hid (ZX.out.below hb (Nat.le_refl _))
      replace ZP := Lib.hid (ZP.out.below hb (Nat.le_refl _))
      replace RM := Lib.hid (RM.out.below hb (Nat.le_refl _))
      replace ZM := Lib.hid (ZM.out.below hb (Nat.le_refl _))
      replace RS := Lib.hid (RS.out.below hb (Nat.le_refl _))
      replace ZS := Lib.hid (ZS.out.below hb (Nat.le_refl _))
      replace LQ := Lib.hid (LQ.out.below hb (Nat.le_refl _))
      replace ZQ := Lib.hid (ZQ.out.below hb (Nat.le_refl _))
      replace B := Lib.hid (B.out.trans (hb.mono B.out.size))
      have z11 := hb.size
      clear hb
      clear m0 m1 m2 mf s0 s1 s2 sf
      go_wp2
      go_ret
      exact ⟨rfl, B.out⟩
    have e5 : ((x.pool.length : Int) == 5) = false := by simp; omega
    have H5 := Lib.hid h5
    clear h5
    have hcd : cd = 0 := by rw [HV3.out]; exact takeC_done HPO.out HH.out (by have := M3.out; have := M5.out; have := H12.out; have := H5.out; omega)
    have e3 : (cd == 0) = true := by simp [hcd]
    clear hcd
    obtain ⟨q0, q1, q2, qf⟩ := Sp6.three_cells ZX.out
    go_wp2
    go_ret
    exact ⟨rfl, B.out⟩

set_option maxRecDepth 20000 in
set_option maxHeartbeats 2000000 in
theorem fnTakeChanged (A : Option Addr) (n c : Nat) (A1 : Option Addr) (n1 c1 : Nat) (w : World) (h : CodeIs w A n c) :
    Calls Try.prog 7 #[.slice A n c, .slice A1 n1 c1] w (TruePost w) := by
  have HC := Lib.hid h
  clear h
  by_cases hn : 1048576 < n
  · go_enter Try.func7, Try.ntmps7
    go_wp2
    go_ret
    exact ⟨rfl, Below.refl _ _⟩
  by_cases hn1 : 1048576 < n1
  · go_enter Try.func7, Try.ntmps7
    go_wp2
    go_ret
    exact ⟨rfl, Below.refl _ _⟩
  have B : Hid (Below w.heap.size w w) := Below.refl _ _
  go_enter Try.func7, Try.ntmps7
  have hq : n ≤ 1048576 := by omega
  go_wp2_with fail
  ((with_reducible refine (DrawMixTake _ _ _ _ HC.out).mono ?_); rintro e w1 ⟨x, AX, cx, BX, dx, p, AP, cp, BP, dp, rfl, hr, i1, i2, ⟨hsec, hsn, hpn, hpl, hn, hm⟩, hb⟩)
  replace B := Lib.hid (B.out.trans (hb.mono B.out.size))
  have z1 := hb.size
  have RX := Lib.hid hr
  have IH := Lib.hid i1
  have IB := Lib.hid i2
  clear hr i1 i2 hb
  have HSN := Lib.hid hsn
  have HPN := Lib.hid hpn
  clear hsec hsn hpn hpl
  have hal : Below w1.heap.size w1 (w1.alloc (.cells #[.int .i64 x.sec, .slice AX x.seen.length cx, .slice BX x.pool.length dx] 27)) := (Below.refl _ _).alloc (Nat.le_refl _) _
  have hzz : Blk (w1.alloc (.cells #[.int .i64 x.sec, .slice AX x.seen.length cx, .slice BX x.pool.length dx] 27)) w1.heap.size #[.int .i64 x.sec, .slice AX x.seen.length cx, .slice BX x.pool.length dx] 27 := heap_alloc_new _ _
  replace IH := Lib.hid (IH.out.below hal (Nat.le_refl _))
  replace IB := Lib.hid (IB.out.below hal (Nat.le_refl _))
  replace RX := Lib.hid (RX.out.below hal (Nat.le_refl _))
  replace B := Lib.hid (B.out.trans (hal.mono B.out.size))
  have ZX := Lib.hid hzz
  clear hzz
  clear hal
  have hzX : w1.heap.size < (w1.alloc (.cells #[.int .i64 x.sec, .slice AX x.seen.length cx, .slice BX x.pool.length dx] 27)).heap.size := by simp
  have hal : Below (w1.alloc (.cells #[.int .i64 x.sec, .slice AX x.seen.length cx, .slice BX x.pool.length dx] 27)).heap.size (w1.alloc (.cells #[.int .i64 x.sec, .slice AX x.seen.length cx, .slice BX x.pool.length dx] 27)) ((w1.alloc (.cells #[.int .i64 x.sec, .slice AX x.seen.length cx, .slice BX x.pool.length dx] 27)).alloc (.cells #[.int .i64 p.el, .slice AP p.hd.length cp, .int .i64 p.tag, .slice BP p.bd.length dp] 34)) := (Below.refl _ _).alloc (Nat.le_refl _) _
  have hzz : Blk ((w1.alloc (.cells #[.int .i64 x.sec, .slice AX x.seen.length cx, .slice BX x.pool.length dx] 27)).alloc (.cells #[.int .i64 p.el, .slice AP p.hd.length cp, .int .i64 p.tag, .slice BP p.bd.length dp] 34)) (w1.alloc (.cells #[.int .i64 x.sec, .slice AX x.seen.length cx, .slice BX x.pool.length dx] 27)).heap.size #[.int .i64 p.el, .slice AP p.hd.length cp, .int .i64 p.tag, .slice BP p.bd.length dp] 34 := heap_alloc_new _ _
  replace IH := Lib.hid (IH.out.below hal (Nat.le_refl _))
  replace IB := Lib.hid (IB.out.below hal (Nat.le_refl _))
  replace RX := Lib.hid (RX.out.below hal (Nat.le_refl _))
  replace ZX := Lib.hid (ZX.out.below hal (Nat.le_refl _))
  replace B := Lib.hid (B.out.trans (hal.mono B.out.size))
  have ZP := Lib.hid hzz
  clear hzz
  clear hal
  have hzP : (w1.alloc (.cells #[.int .i64 x.sec, .slice AX x.seen.length cx, .slice BX x.pool.length dx] 27)).heap.size < ((w1.alloc (.cells #[.int .i64 x.sec, .slice AX x.seen.length cx, .slice BX x.pool.length dx] 27)).alloc (.cells #[.int .i64 p.el, .slice AP p.hd.length cp, .int .i64 p.tag, .slice BP p.bd.length dp] 34)).heap.size := by simp
  have ZP1 := Lib.hid (blk_at ZP.out (show (w1.alloc (.cells #[.int .i64 x.sec, .slice AX x.seen.length cx, .slice BX x.pool.length dx] 27)).heap.size = w1.heap.size + 1 by simp))
  clear ZP
  have ZP := ZP1
  clear ZP1
  obtain ⟨m0, m1, m2, mf⟩ := Sp6.three_cells ZX.out
  obtain ⟨k0, k1, k2, k3, kf⟩ := four_cells ZP.out
  go_wp2_with fail
  ((with_reducible refine (Im6.MixTake x p _ _ _ _ _ _ _ _ _ _ _ _ _ _ _ RX.out IH.out IB.out).mono ?_); rintro e w4 ⟨AM, cm, BM, dm, rfl, hr, hb⟩)
  replace IH := Lib.hid (IH.out.below hb (Nat.le_refl _))
  replace IB := Lib.hid (IB.out.below hb (Nat.le_refl _))
  replace RX := Lib.hid (RX.out.below hb (Nat.le_refl _))
  replace ZX := Lib.hid (ZX.out.below hb (Nat.le_refl _))
  replace ZP := Lib.hid (ZP.out.below hb (Nat.le_refl _))
  replace B := Lib.hid (B.out.trans (hb.mono B.out.size))
  have z4 := hb.size
  have RM := Lib.hid hr
  clear hr hb
  clear m0 m1 m2 mf k0 k1 k2 k3 kf
  have hev := @take_zero x p
  have hfv := @take_four x p
  generalize hey : mtakeM x p = y at *
  generalize hok : mtakeC x p = cd at *
  have HEY := Lib.hid (And.intro hey hok)
  have HEV := Lib.hid hev
  have HFV := Lib.hid hfv
  clear hey hok hev hfv
  have e0 : (cd != cd) = false := by simp
  have e1 : (cd == cd) = true := by simp
  have hal : Below w4.heap.size w4 (w4.alloc (.cells #[.int .i64 y.sec, .slice AM y.seen.length cm, .slice BM y.pool.length dm] 27)) := (Below.refl _ _).alloc (Nat.le_refl _) _
  have hzz : Blk (w4.alloc (.cells #[.int .i64 y.sec, .slice AM y.seen.length cm, .slice BM y.pool.length dm] 27)) w4.heap.size #[.int .i64 y.sec, .slice AM y.seen.length cm, .slice BM y.pool.length dm] 27 := heap_alloc_new _ _
  replace IH := Lib.hid (IH.out.below hal (Nat.le_refl _))
  replace IB := Lib.hid (IB.out.below hal (Nat.le_refl _))
  replace RX := Lib.hid (RX.out.below hal (Nat.le_refl _))
  replace ZX := Lib.hid (ZX.out.below hal (Nat.le_refl _))
  replace ZP := Lib.hid (ZP.out.below hal (Nat.le_refl _))
  replace RM := Lib.hid (RM.out.below hal (Nat.le_refl _))
  replace B := Lib.hid (B.out.trans (hal.mono B.out.size))
  have ZM := Lib.hid hzz
  clear hzz
  clear hal
  have hzM : w4.heap.size < (w4.alloc (.cells #[.int .i64 y.sec, .slice AM y.seen.length cm, .slice BM y.pool.length dm] 27)).heap.size := by simp
  obtain ⟨m0, m1, m2, mf⟩ := Sp6.three_cells ZX.out
  obtain ⟨k0, k1, k2, k3, kf⟩ := four_cells ZP.out
  go_wp2_with fail
  ((with_reducible refine (sptake_s x y p cd _ _ _ _ _ _ _ _ _ _ _ _ _ _ _ RX.out IH.out IB.out HEY.out).mono ?_); rintro e w6 ⟨AS, cs, BS, ds, rfl, hr, hb⟩)
  replace IH := Lib.hid (IH.out.below hb (Nat.le_refl _))
  replace IB := Lib.hid (IB.out.below hb (Nat.le_refl _))
  replace RX := Lib.hid (RX.out.below hb (Nat.le_refl _))
  replace ZX := Lib.hid (ZX.out.below hb (Nat.le_refl _))
  replace ZP := Lib.hid (ZP.out.below hb (Nat.le_refl _))
  replace RM := Lib.hid (RM.out.below hb (Nat.le_refl _))
  replace ZM := Lib.hid (ZM.out.below hb (Nat.le_refl _))
  replace B := Lib.hid (B.out.trans (hb.mono B.out.size))
  have z6 := hb.size
  have RS := Lib.hid hr
  clear hr hb
  clear m0 m1 m2 mf k0 k1 k2 k3 kf
  have hal : Below w6.heap.size w6 (w6.alloc (.cells #[.int .i64 y.sec, .slice AS y.seen.length cs, .slice BS y.pool.length ds] 27)) := (Below.refl _ _).alloc (Nat.le_refl _) _
  have hzz : Blk (w6.alloc (.cells #[.int .i64 y.sec, .slice AS y.seen.length cs, .slice BS y.pool.length ds] 27)) w6.heap.size #[.int .i64 y.sec, .slice AS y.seen.length cs, .slice BS y.pool.length ds] 27 := heap_alloc_new _ _
  replace IH := Lib.hid (IH.out.below hal (Nat.le_refl _))
  replace IB := Lib.hid (IB.out.below hal (Nat.le_refl _))
  replace RX := Lib.hid (RX.out.below hal (Nat.le_refl _))
  replace ZX := Lib.hid (ZX.out.below hal (Nat.le_refl _))
  replace ZP := Lib.hid (ZP.out.below hal (Nat.le_refl _))
  replace RM := Lib.hid (RM.out.below hal (Nat.le_refl _))
  replace ZM := Lib.hid (ZM.out.below hal (Nat.le_refl _))
  replace RS := Lib.hid (RS.out.below hal (Nat.le_refl _))
  replace B := Lib.hid (B.out.trans (hal.mono B.out.size))
  have ZS := Lib.hid hzz
  clear hzz
  clear hal
  have hzS : w6.heap.size < (w6.alloc (.cells #[.int .i64 y.sec, .slice AS y.seen.length cs, .slice BS y.pool.length ds] 27)).heap.size := by simp
  by_cases hc0 : ¬ cd = 0
  · have e2 : (cd != 0) = true := by simpa using hc0
    obtain ⟨m0, m1, m2, mf⟩ := Sp6.three_cells ZM.out
    obtain ⟨s0, s1, s2, sf⟩ := Sp6.three_cells ZS.out
    go_wp2_with fail
    ((with_reducible refine (sameMix y _ _ _ _ _ _ _ _ _ _ _ _ _ _ _ RM.out RS.out).mono ?_); rintro e w8 ⟨rfl, hb⟩)
    replace IH := Lib.hid (IH.out.below hb (Nat.le_refl _))
    replace IB := Lib.hid (IB.out.below hb (Nat.le_refl _))
    replace RX := Lib.hid (RX.out.below hb (Nat.le_refl _))
    replace ZX := Lib.hid (ZX.out.below hb (Nat.le_refl _))
    replace ZP := Lib.hid (ZP.out.below hb (Nat.le_refl _))
    replace RM := Lib.hid (RM.out.below hb (Nat.le_refl _))
    replace ZM := Lib.hid (ZM.out.below hb (Nat.le_refl _))
    replace RS := Lib.hid (RS.out.below hb (Nat.le_refl _))
    replace ZS := Lib.hid (ZS.out.below hb (Nat.le_refl _))
    replace B := Lib.hid (B.out.trans (hb.mono B.out.size))
    have z8 := hb.size
    clear hb
    clear m0 m1 m2 mf s0 s1 s2 sf
    obtain ⟨m0, m1, m2, mf⟩ := Sp6.three_cells ZM.out
    obtain ⟨s0, s1, s2, sf⟩ := Sp6.three_cells ZS.out
    go_wp2_with fail
    ((with_reducible refine (sameMix y _ _ _ _ _ _ _ _ _ _ _ _ _ _ _ RM.out RS.out).mono ?_); rintro e w9 ⟨rfl, hb⟩)
    replace IH := Lib.hid (IH.out.below hb (Nat.le_refl _))
    replace IB := Lib.hid (IB.out.below hb (Nat.le_refl _))
    replace RX := Lib.hid (RX.out.below hb (Nat.le_refl _))
    replace ZX := Lib.hid (ZX.out.below hb (Nat.le_refl _))
    replace ZP := Lib.hid (ZP.out.below hb (Nat.le_refl _))
    replace RM := Lib.hid (RM.out.below hb (Nat.le_refl _))
    replace ZM := Lib.hid (ZM.out.below hb (Nat.le_refl _))
    replace RS := Lib.hid (RS.out.below hb (Nat.le_refl _))
    replace ZS := Lib.hid (ZS.out.below hb (Nat.le_refl _))
    replace B := Lib.hid (B.out.trans (hb.mono B.out.size))
    have z9 := hb.size
    clear hb
    clear m0 m1 m2 mf s0 s1 s2 sf
    go_wp2
    go_ret
    exact ⟨rfl, B.out⟩
  have hc1 : cd = 0 := by omega
  have e2 : (cd != 0) = false := by simp [hc1]
  obtain ⟨m0, m1, m2, mf⟩ := Sp6.three_cells ZM.out
  obtain ⟨s0, s1, s2, sf⟩ := Sp6.three_cells ZS.out
  go_wp2_with fail
  ((with_reducible refine (sameMix y _ _ _ _ _ _ _ _ _ _ _ _ _ _ _ RM.out RS.out).mono ?_); rintro e w8 ⟨rfl, hb⟩)
  replace IH := Lib.hid (IH.out.below hb (Nat.le_refl _))
  replace IB := Lib.hid (IB.out.below hb (Nat.le_refl _))
  replace RX := Lib.hid (RX.out.below hb (Nat.le_refl _))
  replace ZX := Lib.hid (ZX.out.below hb (Nat.le_refl _))
  replace ZP := Lib.hid (ZP.out.below hb (Nat.le_refl _))
  replace RM := Lib.hid (RM.out.below hb (Nat.le_refl _))
  replace ZM := Lib.hid (ZM.out.below hb (Nat.le_refl _))
  replace RS := Lib.hid (RS.out.below hb (Nat.le_refl _))
  replace ZS := Lib.hid (ZS.out.below hb (Nat.le_refl _))
  replace B := Lib.hid (B.out.trans (hb.mono B.out.size))
  have z8 := hb.size
  clear hb
  clear m0 m1 m2 mf s0 s1 s2 sf
  obtain ⟨hv1, hv2, hv3, hv4, hv5⟩ := HEV.out hc1
  obtain ⟨u1, u2, u3, u4, u5, u6⟩ := pktOk_iff.1 hv2
  have HO := Lib.hid u2
  have hl1 : 0 < p.hd.length := by rw [u3]; omega
  have hl2 : p.hd.length ≤ 9 := by rw [u3]; omega
  have HZ : Hid (mtakeM x p = y ∧ mtakeC x p = 0) := ⟨HEY.out.1, by rw [HEY.out.2]; exact hc1⟩
  clear hv1 hv2 hv3 hv4 hv5 u1 u2 u3 u4 u5 u6 HEV HFV HEY
  have hnl : ¬ p.hd.length = 0 := by omega
  obtain ⟨k, hkx, hkm⟩ : ∃ k : Nat, k < p.hd.length ∧ (n1 : Int) % (p.hd.length : Int) = (k : Int) := ⟨n1 % p.hd.length, Nat.mod_lt n1 (by omega), rfl⟩
  obtain ⟨bl, ol, rfl, _, _, _⟩ := IH.out.at_ hl1
  have hPW := blk_lt ZP.out
  obtain ⟨j0, j1, j2, j3, jf⟩ := four_cells ZP.out
  have hal : Below w8.heap.size w8 (w8.alloc (.cells #[.int .i64 p.el, .slice (some ⟨bl, ol, none⟩) p.hd.length cp, .int .i64 p.tag, .slice BP p.bd.length dp] 34)) := (Below.refl _ _).alloc (Nat.le_refl _) _
  have hzz : Blk (w8.alloc (.cells #[.int .i64 p.el, .slice (some ⟨bl, ol, none⟩) p.hd.length cp, .int .i64 p.tag, .slice BP p.bd.length dp] 34)) w8.heap.size #[.int .i64 p.el, .slice (some ⟨bl, ol, none⟩) p.hd.length cp, .int .i64 p.tag, .slice BP p.bd.length dp] 34 := heap_alloc_new _ _
  replace IH := Lib.hid (IH.out.below hal (Nat.le_refl _))
  replace IB := Lib.hid (IB.out.below hal (Nat.le_refl _))
  replace RX := Lib.hid (RX.out.below hal (Nat.le_refl _))
  replace ZX := Lib.hid (ZX.out.below hal (Nat.le_refl _))
  replace ZP := Lib.hid (ZP.out.below hal (Nat.le_refl _))
  replace RM := Lib.hid (RM.out.below hal (Nat.le_refl _))
  replace ZM := Lib.hid (ZM.out.below hal (Nat.le_refl _))
  replace RS := Lib.hid (RS.out.below hal (Nat.le_refl _))
  replace ZS := Lib.hid (ZS.out.below hal (Nat.le_refl _))
  replace B := Lib.hid (B.out.trans (hal.mono B.out.size))
  have ZW := Lib.hid hzz
  clear hzz
  clear hal
  have hzW : w8.heap.size < (w8.alloc (.cells #[.int .i64 p.el, .slice (some ⟨bl, ol, none⟩) p.hd.length cp, .int .i64 p.tag, .slice BP p.bd.length dp] 34)).heap.size := by simp
  have hWs : w8.heap.size < (w8.alloc (.cells #[.int .i64 p.el, .slice (some ⟨bl, ol, none⟩) p.hd.length cp, .int .i64 p.tag, .slice BP p.bd.length dp] 34)).heap.size := blk_lt ZW.out
  go_upto_region 9 with (fail)
  clear j0 j1 j2 j3 jf
  generalize (w8.alloc (.cells #[.int .i64 p.el, .slice (some ⟨bl, ol, none⟩) p.hd.length cp, .int .i64 p.tag, .slice BP p.bd.length dp] 34)) = wu at *
  have hal : Below wu.heap.size wu (wu.alloc (.cells #[] 3)) := (Below.refl _ _).alloc (Nat.le_refl _) _
  have L1 := Lib.hid (IH.out.below hal (Nat.le_refl _))
  have HA := Lib.hid (acc_new wu)
  obtain ⟨k0, k1, k2, k3, kf⟩ := four_cells (ZP.out.below hal (Nat.le_refl _))
  clear hal
  go_wp2_with (at_builtin; refine wpList_appL _ _ _ _ HA.out _ _ _ _ _ _ L1.out (by omega) (by simp; omega) _ _ rfl rfl rfl rfl ?_; intro vx wx hAcc _; rw [List.nil_append] at hAcc; obtain ⟨bx, fx, cx2, rfl, OX, lx, hx, cxq, fxq, HBX⟩ := acc_open hAcc hkx; clear hAcc k0 k1 k2 k3 kf; have hbx := HBX.out; obtain ⟨k0, k1, k2, k3, kf⟩ := four_cells (ZP.out.below hbx (Nat.le_refl _)); obtain ⟨x0, x1, x2, x3, xf⟩ := four_cells (ZW.out.below hbx (Nat.le_refl _)))
  replace IH := Lib.hid (IH.out.below hbx (Nat.le_refl _))
  replace IB := Lib.hid (IB.out.below hbx (Nat.le_refl _))
  replace RX := Lib.hid (RX.out.below hbx (Nat.le_refl _))
  replace ZX := Lib.hid (ZX.out.below hbx (Nat.le_refl _))
  replace ZP := Lib.hid (ZP.out.below hbx (Nat.le_refl _))
  replace RM := Lib.hid (RM.out.below hbx (Nat.le_refl _))
  replace ZM := Lib.hid (ZM.out.below hbx (Nat.le_refl _))
  replace RS := Lib.hid (RS.out.below hbx (Nat.le_refl _))
  replace ZS := Lib.hid (ZS.out.below hbx (Nat.le_refl _))
  replace ZW := Lib.hid (ZW.out.below hbx (Nat.le_refl _))
  replace B := Lib.hid (B.out.trans (hbx.mono B.out.size))
  have hsx := hbx.size
  clear hbx HBX L1 HA k0 k1 k2 k3 kf x0 x1 x2 x3 xf
  have OY := Lib.hid (own_far OX.out (q := ⟨w8.heap.size, 1, none⟩) (.inl (by show w8.heap.size < wu.heap.size; omega)) (Value.slice (some ⟨bx, fx, none⟩) p.hd.length cx2))
  have ZY := Lib.hid (Hlp5.blk_set1 (v := (Value.slice (some ⟨bx, fx, none⟩) p.hd.length cx2)) ZW.out)
  have hfy : ∀ i, i ≠ w8.heap.size → (wx.setCell ⟨w8.heap.size, 1, none⟩ (Value.slice (some ⟨bx, fx, none⟩) p.hd.length cx2)).heap[i]? = wx.heap[i]? := fun i hi => Below.heap_setCell _ _ _ _ hi
  have hsy : (wx.setCell ⟨w8.heap.size, 1, none⟩ (Value.slice (some ⟨bx, fx, none⟩) p.hd.length cx2)).heap.size = wx.heap.size := by simp [World.setCell]
  have cy : (wx.setCell ⟨w8.heap.size, 1, none⟩ (Value.slice (some ⟨bx, fx, none⟩) p.hd.length cx2)).cell? ⟨bx, fx + k, none⟩ = some (.int .i64 (p.hd.getD k 0)) := (World.cell?_of_block (Below.heap_setCell _ _ _ _ (show bx ≠ w8.heap.size by omega))).trans cxq
  have fy : (wx.setCell ⟨w8.heap.size, 1, none⟩ (Value.slice (some ⟨bx, fx, none⟩) p.hd.length cx2)).frozen? ⟨bx, fx + k, none⟩ = false := by have := OY.out.2 bx fx (by omega) rfl k hkx; exact this
  have ey : (wx.setCell ⟨w8.heap.size, 1, none⟩ (Value.slice (some ⟨bx, fx, none⟩) p.hd.length cx2)).os = wx.os ∧ (wx.setCell ⟨w8.heap.size, 1, none⟩ (Value.slice (some ⟨bx, fx, none⟩) p.hd.length cx2)).tape = wx.tape ∧ (wx.setCell ⟨w8.heap.size, 1, none⟩ (Value.slice (some ⟨bx, fx, none⟩) p.hd.length cx2)).output = wx.output := ⟨rfl, rfl, rfl⟩
  clear cxq fxq OX
  generalize (wx.setCell ⟨w8.heap.size, 1, none⟩ (Value.slice (some ⟨bx, fx, none⟩) p.hd.length cx2)) = wy at *
  have HFY := Lib.hid hfy
  have HSY := Lib.hid hsy
  have HEYY := Lib.hid ey
  have hlt : bx < wy.heap.size := by omega
  clear hfy hsy ey
  have hxq := okL_at HO.out hkx
  generalize hxe : p.hd.getD k 0 = xk at *
  have HXE := Lib.hid hxe
  clear hxe
  obtain ⟨jb, hjb, hjm⟩ : ∃ j : Nat, j < 989 ∧ (n : Int).tmod 989 = (j : Int) := ⟨n % 989, Nat.mod_lt _ (by omega), rfl⟩
  obtain ⟨hy, hyn⟩ := another_ne xk (jb : Int)
  obtain ⟨x0, x1, x2, x3, xf⟩ := four_cells ZY.out
  go_region_law (go_simp; go_at_call 22; with_reducible refine (Elt.another xk (jb : Int) _ (by omega) (by omega) (by omega) (by omega)).mono ?_; rintro e w9 ⟨rfl, rfl⟩)
  all_goals
    generalize (xk + 1 + (jb : Int) % 990) % 991 = v at *
    have OZ : Hid (Il.Own _ _ (wy.setCell ⟨bx, fx + k, none⟩ (.int .i64 v)).drew _ _ _ _) := Lib.hid (Own.set_ OY.out hkx v)
    have ZZ : Hid (Blk (wy.setCell ⟨bx, fx + k, none⟩ (.int .i64 v)).drew _ _ _) := Lib.hid (blk_far ZY.out (q := ⟨bx, fx + k, none⟩) (show w8.heap.size ≠ bx by omega) (.int .i64 v))
    have hfz : ∀ i, i ≠ w8.heap.size → i ≠ bx → (wy.setCell ⟨bx, fx + k, none⟩ (.int .i64 v)).drew.heap[i]? = wx.heap[i]? := fun i h1 h2 => (Below.heap_setCell _ _ _ _ h2).trans (HFY.out i h1)
    have hsz : (wy.setCell ⟨bx, fx + k, none⟩ (.int .i64 v)).drew.heap.size = wx.heap.size := by rw [← HSY.out]; simp [World.setCell]
    have ez : (wy.setCell ⟨bx, fx + k, none⟩ (.int .i64 v)).drew.os = wx.os ∧ (wy.setCell ⟨bx, fx + k, none⟩ (.int .i64 v)).drew.tape = wx.tape ∧ (wy.setCell ⟨bx, fx + k, none⟩ (.int .i64 v)).drew.output = wx.output := HEYY.out
    clear x0 x1 x2 x3 xf cy fy OY ZY HFY HSY HEYY ZW
    generalize (wy.setCell ⟨bx, fx + k, none⟩ (.int .i64 v)).drew = wz at *
    have hsz2 := Nat.le_of_eq hsz.symm
    replace IH := Lib.hid (IH.out.keep hsz2 fun i h1 h2 h3 => hfz i (by omega) (by omega))
    replace IB := Lib.hid (IB.out.keep hsz2 fun i h1 h2 h3 => hfz i (by omega) (by omega))
    replace RX := Lib.hid (mixR_keep RX.out hsz2 fun i h1 h2 h3 => hfz i (by omega) (by omega))
    have ltZX := blk_lt ZX.out
    replace ZX := Lib.hid (blk_keep ZX.out (hfz _ (by omega) (by omega)))
    clear ltZX
    have ltZP := blk_lt ZP.out
    replace ZP := Lib.hid (blk_keep ZP.out (hfz _ (by omega) (by omega)))
    clear ltZP
    replace RM := Lib.hid (mixR_keep RM.out hsz2 fun i h1 h2 h3 => hfz i (by omega) (by omega))
    have ltZM := blk_lt ZM.out
    replace ZM := Lib.hid (blk_keep ZM.out (hfz _ (by omega) (by omega)))
    clear ltZM
    replace RS := Lib.hid (mixR_keep RS.out hsz2 fun i h1 h2 h3 => hfz i (by omega) (by omega))
    have ltZS := blk_lt ZS.out
    replace ZS := Lib.hid (blk_keep ZS.out (hfz _ (by omega) (by omega)))
    clear ltZS
    have hBs := B.out.size
    replace B := Lib.hid (below_keep B.out ez.1 ez.2.1 ez.2.2 hsz fun i hi => hfz i (by omega) (by omega))
    have ZW := Lib.hid ZZ.out
    clear ZZ ez hfz hsz2 hBs
    have hne : v ≠ p.hd.getD k 0 := by rw [HXE.out]; exact hyn
    obtain ⟨t1, t2⟩ := take_hd HZ.out.2 hkx hy hne
    have T1 := Lib.hid t1
    have T2 := Lib.hid t2
    clear t1 t2 hne
    obtain ⟨m0, m1, m2, mf⟩ := Sp6.three_cells ZX.out
    obtain ⟨k0, k1, k2, k3, kf⟩ := four_cells ZW.out
    go_wp2_with fail
    ((with_reducible refine (takeE x p.el p.tag (p.hd.set k v) p.bd _ _ _ _ _ _ _ _ _ _ _ _ _ _ _ _ _ RX.out OZ.out.ints IB.out).mono ?_); rintro e w10 ⟨AY, cy, BY, dy, rfl, hr, hb⟩)
    replace IH := Lib.hid (IH.out.below hb (Nat.le_refl _))
    replace IB := Lib.hid (IB.out.below hb (Nat.le_refl _))
    replace RX := Lib.hid (RX.out.below hb (Nat.le_refl _))
    replace ZX := Lib.hid (ZX.out.below hb (Nat.le_refl _))
    replace ZP := Lib.hid (ZP.out.below hb (Nat.le_refl _))
    replace RM := Lib.hid (RM.out.below hb (Nat.le_refl _))
    replace ZM := Lib.hid (ZM.out.below hb (Nat.le_refl _))
    replace RS := Lib.hid (RS.out.below hb (Nat.le_refl _))
    replace ZS := Lib.hid (ZS.out.below hb (Nat.le_refl _))
    replace ZW := Lib.hid (ZW.out.below hb (Nat.le_refl _))
    replace OZ := Lib.hid (OZ.out.below hb (Nat.le_refl _))
    replace B := Lib.hid (B.out.trans (hb.mono B.out.size))
    have z10 := hb.size
    have RY := Lib.hid hr
    clear hr hb
    clear m0 m1 m2 mf k0 k1 k2 k3 kf
    rw [T1.out, T2.out] at *
    have hal : Below w10.heap.size w10 (w10.alloc (.cells #[.int .i64 x.sec, .slice AY x.seen.length cy, .slice BY x.pool.length dy] 27)) := (Below.refl _ _).alloc (Nat.le_refl _) _
    have hzz : Blk (w10.alloc (.cells #[.int .i64 x.sec, .slice AY x.seen.length cy, .slice BY x.pool.length dy] 27)) w10.heap.size #[.int .i64 x.sec, .slice AY x.seen.length cy, .slice BY x.pool.length dy] 27 := heap_alloc_new _ _
    replace IH := Lib.hid (IH.out.below hal (Nat.le_refl _))
    replace IB := Lib.hid (IB.out.below hal (Nat.le_refl _))
    replace RX := Lib.hid (RX.out.below hal (Nat.le_refl _))
    replace ZX := Lib.hid (ZX.out.below hal (Nat.le_refl _))
    replace ZP := Lib.hid (ZP.out.below hal (Nat.le_refl _))
    replace RM := Lib.hid (RM.out.below hal (Nat.le_refl _))
    replace ZM := Lib.hid (ZM.out.below hal (Nat.le_refl _))
    replace RS := Lib.hid (RS.out.below hal (Nat.le_refl _))
    replace ZS := Lib.hid (ZS.out.below hal (Nat.le_refl _))
    replace ZW := Lib.hid (ZW.out.below hal (Nat.le_refl _))
    replace OZ := Lib.hid (OZ.out.below hal (Nat.le_refl _))
    replace RY := Lib.hid (RY.out.below hal (Nat.le_refl _))
    replace B := Lib.hid (B.out.trans (hal.mono B.out.size))
    have ZY := Lib.hid hzz
    clear hzz
    clear hal
    have hzY : w10.heap.size < (w10.alloc (.cells #[.int .i64 x.sec, .slice AY x.seen.length cy, .slice BY x.pool.length dy] 27)).heap.size := by simp
    obtain ⟨m0, m1, m2, mf⟩ := Sp6.three_cells ZY.out
    obtain ⟨s0, s1, s2, sf⟩ := Sp6.three_cells ZX.out
    go_wp2_with fail
    ((with_reducible refine (sameMix x _ _ _ _ _ _ _ _ _ _ _ _ _ _ _ RY.out RX.out).mono ?_); rintro e w12 ⟨rfl, hb⟩)
    replace IH := Lib.hid (IH.out.below hb (Nat.le_refl _))
    replace IB := Lib.hid (IB.out.below hb (Nat.le_refl _))
    replace RX := Lib.hid (RX.out.below hb (Nat.le_refl _))
    replace ZX := Lib.hid (ZX.out.below hb (Nat.le_refl _))
    replace ZP := Lib.hid (ZP.out.below hb (Nat.le_refl _))
    replace RM := Lib.hid (RM.out.below hb (Nat.le_refl _))
    replace ZM := Lib.hid (ZM.out.below hb (Nat.le_refl _))
    replace RS := Lib.hid (RS.out.below hb (Nat.le_refl _))
    replace ZS := Lib.hid (ZS.out.below hb (Nat.le_refl _))
    replace ZW := Lib.hid (ZW.out.below hb (Nat.le_refl _))
    replace OZ := Lib.hid (OZ.out.below hb (Nat.le_refl _))
    replace RY := Lib.hid (RY.out.below hb (Nat.le_refl _))
    replace ZY := Lib.hid (ZY.out.below hb (Nat.le_refl _))
    replace B := Lib.hid (B.out.trans (hb.mono B.out.size))
    have z12 := hb.size
    clear hb
    clear m0 m1 m2 mf s0 s1 s2 sf
    go_wp2
    go_ret
    exact ⟨rfl, B.out⟩

set_option maxRecDepth 20000 in
set_option maxHeartbeats 2000000 in
theorem fnTakeBody (A : Option Addr) (n c : Nat) (A1 : Option Addr) (n1 c1 : Nat) (w : World) (h : CodeIs w A n c) :
    Calls Try.prog 6 #[.slice A n c, .slice A1 n1 c1] w (TruePost w) := by
  have HC := Lib.hid h
  clear h
  by_cases hn : 1048576 < n
  · go_enter Try.func6, Try.ntmps6
    go_wp2
    go_ret
    exact ⟨rfl, Below.refl _ _⟩
  by_cases hn1 : 1048576 < n1
  · go_enter Try.func6, Try.ntmps6
    go_wp2
    go_ret
    exact ⟨rfl, Below.refl _ _⟩
  have B : Hid (Below w.heap.size w w) := Below.refl _ _
  go_enter Try.func6, Try.ntmps6
  have hq : n ≤ 1048576 := by omega
  go_wp2_with fail
  ((with_reducible refine (DrawMixTake _ _ _ _ HC.out).mono ?_); rintro e w1 ⟨x, AX, cx, BX, dx, p, AP, cp, BP, dp, rfl, hr, i1, i2, ⟨hsec, hsn, hpn, hpl, hn, hm⟩, hb⟩)
  replace B := Lib.hid (B.out.trans (hb.mono B.out.size))
  have z1 := hb.size
  have RX := Lib.hid hr
  have IH := Lib.hid i1
  have IB := Lib.hid i2
  clear hr i1 i2 hb
  have HSN := Lib.hid hsn
  have HPN := Lib.hid hpn
  clear hsec hsn hpn hpl
  have hal : Below w1.heap.size w1 (w1.alloc (.cells #[.int .i64 x.sec, .slice AX x.seen.length cx, .slice BX x.pool.length dx] 27)) := (Below.refl _ _).alloc (Nat.le_refl _) _
  have hzz : Blk (w1.alloc (.cells #[.int .i64 x.sec, .slice AX x.seen.length cx, .slice BX x.pool.length dx] 27)) w1.heap.size #[.int .i64 x.sec, .slice AX x.seen.length cx, .slice BX x.pool.length dx] 27 := heap_alloc_new _ _
  replace IH := Lib.hid (IH.out.below hal (Nat.le_refl _))
  replace IB := Lib.hid (IB.out.below hal (Nat.le_refl _))
  replace RX := Lib.hid (RX.out.below hal (Nat.le_refl _))
  replace B := Lib.hid (B.out.trans (hal.mono B.out.size))
  have ZX := Lib.hid hzz
  clear hzz
  clear hal
  have hzX : w1.heap.size < (w1.alloc (.cells #[.int .i64 x.sec, .slice AX x.seen.length cx, .slice BX x.pool.length dx] 27)).heap.size := by simp
  have hal : Below (w1.alloc (.cells #[.int .i64 x.sec, .slice AX x.seen.length cx, .slice BX x.pool.length dx] 27)).heap.size (w1.alloc (.cells #[.int .i64 x.sec, .slice AX x.seen.length cx, .slice BX x.pool.length dx] 27)) ((w1.alloc (.cells #[.int .i64 x.sec, .slice AX x.seen.length cx, .slice BX x.pool.length dx] 27)).alloc (.cells #[.int .i64 p.el, .slice AP p.hd.length cp, .int .i64 p.tag, .slice BP p.bd.length dp] 34)) := (Below.refl _ _).alloc (Nat.le_refl _) _
  have hzz : Blk ((w1.alloc (.cells #[.int .i64 x.sec, .slice AX x.seen.length cx, .slice BX x.pool.length dx] 27)).alloc (.cells #[.int .i64 p.el, .slice AP p.hd.length cp, .int .i64 p.tag, .slice BP p.bd.length dp] 34)) (w1.alloc (.cells #[.int .i64 x.sec, .slice AX x.seen.length cx, .slice BX x.pool.length dx] 27)).heap.size #[.int .i64 p.el, .slice AP p.hd.length cp, .int .i64 p.tag, .slice BP p.bd.length dp] 34 := heap_alloc_new _ _
  replace IH := Lib.hid (IH.out.below hal (Nat.le_refl _))
  replace IB := Lib.hid (IB.out.below hal (Nat.le_refl _))
  replace RX := Lib.hid (RX.out.below hal (Nat.le_refl _))
  replace ZX := Lib.hid (ZX.out.below hal (Nat.le_refl _))
  replace B := Lib.hid (B.out.trans (hal.mono B.out.size))
  have ZP := Lib.hid hzz
  clear hzz
  clear hal
  have hzP : (w1.alloc (.cells #[.int .i64 x.sec, .slice AX x.seen.length cx, .slice BX x.pool.length dx] 27)).heap.size < ((w1.alloc (.cells #[.int .i64 x.sec, .slice AX x.seen.length cx, .slice BX x.pool.length dx] 27)).alloc (.cells #[.int .i64 p.el, .slice AP p.hd.length cp, .int .i64 p.tag, .slice BP p.bd.length dp] 34)).heap.size := by simp
  have ZP1 := Lib.hid (blk_at ZP.out (show (w1.alloc (.cells #[.int .i64 x.sec, .slice AX x.seen.length cx, .slice BX x.pool.length dx] 27)).heap.size = w1.heap.size + 1 by simp))
  clear ZP
  have ZP := ZP1
  clear ZP1
  obtain ⟨m0, m1, m2, mf⟩ := Sp6.three_cells ZX.out
  obtain ⟨k0, k1, k2, k3, kf⟩ := four_cells ZP.out
  go_wp2_with fail
  ((with_reducible refine (Im6.MixTake x p _ _ _ _ _ _ _ _ _ _ _ _ _ _ _ RX.out IH.out IB.out).mono ?_); rintro e w4 ⟨AM, cm, BM, dm, rfl, hr, hb⟩)
  replace IH := Lib.hid (IH.out.below hb (Nat.le_refl _))
  replace IB := Lib.hid (IB.out.below hb (Nat.le_refl _))
  replace RX := Lib.hid (RX.out.below hb (Nat.le_refl _))
  replace ZX := Lib.hid (ZX.out.below hb (Nat.le_refl _))
  replace ZP := Lib.hid (ZP.out.below hb (Nat.le_refl _))
  replace B := Lib.hid (B.out.trans (hb.mono B.out.size))
  have z4 := hb.size
  have RM := Lib.hid hr
  clear hr hb
  clear m0 m1 m2 mf k0 k1 k2 k3 kf
  have hev := @take_zero x p
  have hfv := @take_four x p
  generalize hey : mtakeM x p = y at *
  generalize hok : mtakeC x p = cd at *
  have HEY := Lib.hid (And.intro hey hok)
  have HEV := Lib.hid hev
  have HFV := Lib.hid hfv
  clear hey hok hev hfv
  have e0 : (cd != cd) = false := by simp
  have e1 : (cd == cd) = true := by simp
  have hal : Below w4.heap.size w4 (w4.alloc (.cells #[.int .i64 y.sec, .slice AM y.seen.length cm, .slice BM y.pool.length dm] 27)) := (Below.refl _ _).alloc (Nat.le_refl _) _
  have hzz : Blk (w4.alloc (.cells #[.int .i64 y.sec, .slice AM y.seen.length cm, .slice BM y.pool.length dm] 27)) w4.heap.size #[.int .i64 y.sec, .slice AM y.seen.length cm, .slice BM y.pool.length dm] 27 := heap_alloc_new _ _
  replace IH := Lib.hid (IH.out.below hal (Nat.le_refl _))
  replace IB := Lib.hid (IB.out.below hal (Nat.le_refl _))
  replace RX := Lib.hid (RX.out.below hal (Nat.le_refl _))
  replace ZX := Lib.hid (ZX.out.below hal (Nat.le_refl _))
  replace ZP := Lib.hid (ZP.out.below hal (Nat.le_refl _))
  replace RM := Lib.hid (RM.out.below hal (Nat.le_refl _))
  replace B := Lib.hid (B.out.trans (hal.mono B.out.size))
  have ZM := Lib.hid hzz
  clear hzz
  clear hal
  have hzM : w4.heap.size < (w4.alloc (.cells #[.int .i64 y.sec, .slice AM y.seen.length cm, .slice BM y.pool.length dm] 27)).heap.size := by simp
  obtain ⟨m0, m1, m2, mf⟩ := Sp6.three_cells ZX.out
  obtain ⟨k0, k1, k2, k3, kf⟩ := four_cells ZP.out
  go_wp2_with fail
  ((with_reducible refine (sptake_s x y p cd _ _ _ _ _ _ _ _ _ _ _ _ _ _ _ RX.out IH.out IB.out HEY.out).mono ?_); rintro e w6 ⟨AS, cs, BS, ds, rfl, hr, hb⟩)
  replace IH := Lib.hid (IH.out.below hb (Nat.le_refl _))
  replace IB := Lib.hid (IB.out.below hb (Nat.le_refl _))
  replace RX := Lib.hid (RX.out.below hb (Nat.le_refl _))
  replace ZX := Lib.hid (ZX.out.below hb (Nat.le_refl _))
  replace ZP := Lib.hid (ZP.out.below hb (Nat.le_refl _))
  replace RM := Lib.hid (RM.out.below hb (Nat.le_refl _))
  replace ZM := Lib.hid (ZM.out.below hb (Nat.le_refl _))
  replace B := Lib.hid (B.out.trans (hb.mono B.out.size))
  have z6 := hb.size
  have RS := Lib.hid hr
  clear hr hb
  clear m0 m1 m2 mf k0 k1 k2 k3 kf
  have hal : Below w6.heap.size w6 (w6.alloc (.cells #[.int .i64 y.sec, .slice AS y.seen.length cs, .slice BS y.pool.length ds] 27)) := (Below.refl _ _).alloc (Nat.le_refl _) _
  have hzz : Blk (w6.alloc (.cells #[.int .i64 y.sec, .slice AS y.seen.length cs, .slice BS y.pool.length ds] 27)) w6.heap.size #[.int .i64 y.sec, .slice AS y.seen.length cs, .slice BS y.pool.length ds] 27 := heap_alloc_new _ _
  replace IH := Lib.hid (IH.out.below hal (Nat.le_refl _))
  replace IB := Lib.hid (IB.out.below hal (Nat.le_refl _))
  replace RX := Lib.hid (RX.out.below hal (Nat.le_refl _))
  replace ZX := Lib.hid (ZX.out.below hal (Nat.le_refl _))
  replace ZP := Lib.hid (ZP.out.below hal (Nat.le_refl _))
  replace RM := Lib.hid (RM.out.below hal (Nat.le_refl _))
  replace ZM := Lib.hid (ZM.out.below hal (Nat.le_refl _))
  replace RS := Lib.hid (RS.out.below hal (Nat.le_refl _))
  replace B := Lib.hid (B.out.trans (hal.mono B.out.size))
  have ZS := Lib.hid hzz
  clear hzz
  clear hal
  have hzS : w6.heap.size < (w6.alloc (.cells #[.int .i64 y.sec, .slice AS y.seen.length cs, .slice BS y.pool.length ds] 27)).heap.size := by simp
  by_cases hc0 : ¬ cd = 0
  · have e2 : (cd != 0) = true := by simpa using hc0
    obtain ⟨m0, m1, m2, mf⟩ := Sp6.three_cells ZM.out
    obtain ⟨s0, s1, s2, sf⟩ := Sp6.three_cells ZS.out
    go_wp2_with fail
    ((with_reducible refine (sameMix y _ _ _ _ _ _ _ _ _ _ _ _ _ _ _ RM.out RS.out).mono ?_); rintro e w8 ⟨rfl, hb⟩)
    replace IH := Lib.hid (IH.out.below hb (Nat.le_refl _))
    replace IB := Lib.hid (IB.out.below hb (Nat.le_refl _))
    replace RX := Lib.hid (RX.out.below hb (Nat.le_refl _))
    replace ZX := Lib.hid (ZX.out.below hb (Nat.le_refl _))
    replace ZP := Lib.hid (ZP.out.below hb (Nat.le_refl _))
    replace RM := Lib.hid (RM.out.below hb (Nat.le_refl _))
    replace ZM := Lib.hid (ZM.out.below hb (Nat.le_refl _))
    replace RS := Lib.hid (RS.out.below hb (Nat.le_refl _))
    replace ZS := Lib.hid (ZS.out.below hb (Nat.le_refl _))
    replace B := Lib.hid (B.out.trans (hb.mono B.out.size))
    have z8 := hb.size
    clear hb
    clear m0 m1 m2 mf s0 s1 s2 sf
    obtain ⟨m0, m1, m2, mf⟩ := Sp6.three_cells ZM.out
    obtain ⟨s0, s1, s2, sf⟩ := Sp6.three_cells ZS.out
    go_wp2_with fail
    ((with_reducible refine (sameMix y _ _ _ _ _ _ _ _ _ _ _ _ _ _ _ RM.out RS.out).mono ?_); rintro e w9 ⟨rfl, hb⟩)
    replace IH := Lib.hid (IH.out.below hb (Nat.le_refl _))
    replace IB := Lib.hid (IB.out.below hb (Nat.le_refl _))
    replace RX := Lib.hid (RX.out.below hb (Nat.le_refl _))
    replace ZX := Lib.hid (ZX.out.below hb (Nat.le_refl _))
    replace ZP := Lib.hid (ZP.out.below hb (Nat.le_refl _))
    replace RM := Lib.hid (RM.out.below hb (Nat.le_refl _))
    replace ZM := Lib.hid (ZM.out.below hb (Nat.le_refl _))
    replace RS := Lib.hid (RS.out.below hb (Nat.le_refl _))
    replace ZS := Lib.hid (ZS.out.below hb (Nat.le_refl _))
    replace B := Lib.hid (B.out.trans (hb.mono B.out.size))
    have z9 := hb.size
    clear hb
    clear m0 m1 m2 mf s0 s1 s2 sf
    go_wp2
    go_ret
    exact ⟨rfl, B.out⟩
  have hc1 : cd = 0 := by omega
  have e2 : (cd != 0) = false := by simp [hc1]
  obtain ⟨m0, m1, m2, mf⟩ := Sp6.three_cells ZM.out
  obtain ⟨s0, s1, s2, sf⟩ := Sp6.three_cells ZS.out
  go_wp2_with fail
  ((with_reducible refine (sameMix y _ _ _ _ _ _ _ _ _ _ _ _ _ _ _ RM.out RS.out).mono ?_); rintro e w8 ⟨rfl, hb⟩)
  replace IH := Lib.hid (IH.out.below hb (Nat.le_refl _))
  replace IB := Lib.hid (IB.out.below hb (Nat.le_refl _))
  replace RX := Lib.hid (RX.out.below hb (Nat.le_refl _))
  replace ZX := Lib.hid (ZX.out.below hb (Nat.le_refl _))
  replace ZP := Lib.hid (ZP.out.below hb (Nat.le_refl _))
  replace RM := Lib.hid (RM.out.below hb (Nat.le_refl _))
  replace ZM := Lib.hid (ZM.out.below hb (Nat.le_refl _))
  replace RS := Lib.hid (RS.out.below hb (Nat.le_refl _))
  replace ZS := Lib.hid (ZS.out.below hb (Nat.le_refl _))
  replace B := Lib.hid (B.out.trans (hb.mono B.out.size))
  have z8 := hb.size
  clear hb
  clear m0 m1 m2 mf s0 s1 s2 sf
  obtain ⟨hv1, hv2, hv3, hv4, hv5⟩ := HEV.out hc1
  obtain ⟨u1, u2, u3, u4, u5, u6⟩ := pktOk_iff.1 hv2
  have HO := Lib.hid u5
  have hl1 : 0 < p.bd.length := by rw [u6]; omega
  have hl2 : p.bd.length ≤ 9 := by rw [u6]; omega
  have HZ : Hid (mtakeM x p = y ∧ mtakeC x p = 0) := ⟨HEY.out.1, by rw [HEY.out.2]; exact hc1⟩
  clear hv1 hv2 hv3 hv4 hv5 u1 u2 u3 u4 u5 u6 HEV HFV HEY
  have hnl : ¬ p.bd.length = 0 := by omega
  obtain ⟨k, hkx, hkm⟩ : ∃ k : Nat, k < p.bd.length ∧ (n1 : Int) % (p.bd.length : Int) = (k : Int) := ⟨n1 % p.bd.length, Nat.mod_lt n1 (by omega), rfl⟩
  obtain ⟨bl, ol, rfl, _, _, _⟩ := IB.out.at_ hl1
  have hPW := blk_lt ZP.out
  obtain ⟨j0, j1, j2, j3, jf⟩ := four_cells ZP.out
  have hal : Below w8.heap.size w8 (w8.alloc (.cells #[.int .i64 p.el, .slice AP p.hd.length cp, .int .i64 p.tag, .slice (some ⟨bl, ol, none⟩) p.bd.length dp] 34)) := (Below.refl _ _).alloc (Nat.le_refl _) _
  have hzz : Blk (w8.alloc (.cells #[.int .i64 p.el, .slice AP p.hd.length cp, .int .i64 p.tag, .slice (some ⟨bl, ol, none⟩) p.bd.length dp] 34)) w8.heap.size #[.int .i64 p.el, .slice AP p.hd.length cp, .int .i64 p.tag, .slice (some ⟨bl, ol, none⟩) p.bd.length dp] 34 := heap_alloc_new _ _
  replace IH := Lib.hid (IH.out.below hal (Nat.le_refl _))
  replace IB := Lib.hid (IB.out.below hal (Nat.le_refl _))
  replace RX := Lib.hid (RX.out.below hal (Nat.le_refl _))
  replace ZX := Lib.hid (ZX.out.below hal (Nat.le_refl _))
  replace ZP := Lib.hid (ZP.out.below hal (Nat.le_refl _))
  replace RM := Lib.hid (RM.out.below hal (Nat.le_refl _))
  replace ZM := Lib.hid (ZM.out.below hal (Nat.le_refl _))
  replace RS := Lib.hid (RS.out.below hal (Nat.le_refl _))
  replace ZS := Lib.hid (ZS.out.below hal (Nat.le_refl _))
  replace B := Lib.hid (B.out.trans (hal.mono B.out.size))
  have ZW := Lib.hid hzz
  clear hzz
  clear hal
  have hzW : w8.heap.size < (w8.alloc (.cells #[.int .i64 p.el, .slice AP p.hd.length cp, .int .i64 p.tag, .slice (some ⟨bl, ol, none⟩) p.bd.length dp] 34)).heap.size := by simp
  have hWs : w8.heap.size < (w8.alloc (.cells #[.int .i64 p.el, .slice AP p.hd.length cp, .int .i64 p.tag, .slice (some ⟨bl, ol, none⟩) p.bd.length dp] 34)).heap.size := blk_lt ZW.out
  go_upto_region 9 with (fail)
  clear j0 j1 j2 j3 jf
  generalize (w8.alloc (.cells #[.int .i64 p.el, .slice AP p.hd.length cp, .int .i64 p.tag, .slice (some ⟨bl, ol, none⟩) p.bd.length dp] 34)) = wu at *
  have hal : Below wu.heap.size wu (wu.alloc (.cells #[] 3)) := (Below.refl _ _).alloc (Nat.le_refl _) _
  have L1 := Lib.hid (IB.out.below hal (Nat.le_refl _))
  have HA := Lib.hid (acc_new wu)
  obtain ⟨k0, k1, k2, k3, kf⟩ := four_cells (ZP.out.below hal (Nat.le_refl _))
  clear hal
  go_wp2_with (at_builtin; refine wpList_appL _ _ _ _ HA.out _ _ _ _ _ _ L1.out (by omega) (by simp; omega) _ _ rfl rfl rfl rfl ?_; intro vx wx hAcc _; rw [List.nil_append] at hAcc; obtain ⟨bx, fx, cx2, rfl, OX, lx, hx, cxq, fxq, HBX⟩ := acc_open hAcc hkx; clear hAcc k0 k1 k2 k3 kf; have hbx := HBX.out; obtain ⟨k0, k1, k2, k3, kf⟩ := four_cells (ZP.out.below hbx (Nat.le_refl _)); obtain ⟨x0, x1, x2, x3, xf⟩ := four_cells (ZW.out.below hbx (Nat.le_refl _)))
  replace IH := Lib.hid (IH.out.below hbx (Nat.le_refl _))
  replace IB := Lib.hid (IB.out.below hbx (Nat.le_refl _))
  replace RX := Lib.hid (RX.out.below hbx (Nat.le_refl _))
  replace ZX := Lib.hid (ZX.out.below hbx (Nat.le_refl _))
  replace ZP := Lib.hid (ZP.out.below hbx (Nat.le_refl _))
  replace RM := Lib.hid (RM.out.below hbx (Nat.le_refl _))
  replace ZM := Lib.hid (ZM.out.below hbx (Nat.le_refl _))
  replace RS := Lib.hid (RS.out.below hbx (Nat.le_refl _))
  replace ZS := Lib.hid (ZS.out.below hbx (Nat.le_refl _))
  replace ZW := Lib.hid (ZW.out.below hbx (Nat.le_refl _))
  replace B := Lib.hid (B.out.trans (hbx.mono B.out.size))
  have hsx := hbx.size
  clear hbx HBX L1 HA k0 k1 k2 k3 kf x0 x1 x2 x3 xf
  have OY := Lib.hid (own_far OX.out (q := ⟨w8.heap.size, 3, none⟩) (.inl (by show w8.heap.size < wu.heap.size; omega)) (Value.slice (some ⟨bx, fx, none⟩) p.bd.length cx2))
  have ZY := Lib.hid (Hlp5.blk_set3 (v := (Value.slice (some ⟨bx, fx, none⟩) p.bd.length cx2)) ZW.out)
  have hfy : ∀ i, i ≠ w8.heap.size → (wx.setCell ⟨w8.heap.size, 3, none⟩ (Value.slice (some ⟨bx, fx, none⟩) p.bd.length cx2)).heap[i]? = wx.heap[i]? := fun i hi => Below.heap_setCell _ _ _ _ hi
  have hsy : (wx.setCell ⟨w8.heap.size, 3, none⟩ (Value.slice (some ⟨bx, fx, none⟩) p.bd.length cx2)).heap.size = wx.heap.size := by simp [World.setCell]
  have cy : (wx.setCell ⟨w8.heap.size, 3, none⟩ (Value.slice (some ⟨bx, fx, none⟩) p.bd.length cx2)).cell? ⟨bx, fx + k, none⟩ = some (.int .i64 (p.bd.getD k 0)) := (World.cell?_of_block (Below.heap_setCell _ _ _ _ (show bx ≠ w8.heap.size by omega))).trans cxq
  have fy : (wx.setCell ⟨w8.heap.size, 3, none⟩ (Value.slice (some ⟨bx, fx, none⟩) p.bd.length cx2)).frozen? ⟨bx, fx + k, none⟩ = false := by have := OY.out.2 bx fx (by omega) rfl k hkx; exact this
  have ey : (wx.setCell ⟨w8.heap.size, 3, none⟩ (Value.slice (some ⟨bx, fx, none⟩) p.bd.length cx2)).os = wx.os ∧ (wx.setCell ⟨w8.heap.size, 3, none⟩ (Value.slice (some ⟨bx, fx, none⟩) p.bd.length cx2)).tape = wx.tape ∧ (wx.setCell ⟨w8.heap.size, 3, none⟩ (Value.slice (some ⟨bx, fx, none⟩) p.bd.length cx2)).output = wx.output := ⟨rfl, rfl, rfl⟩
  clear cxq fxq OX
  generalize (wx.setCell ⟨w8.heap.size, 3, none⟩ (Value.slice (some ⟨bx, fx, none⟩) p.bd.length cx2)) = wy at *
  have HFY := Lib.hid hfy
  have HSY := Lib.hid hsy
  have HEYY := Lib.hid ey
  have hlt : bx < wy.heap.size := by omega
  clear hfy hsy ey
  have hxq := okL_at HO.out hkx
  generalize hxe : p.bd.getD k 0 = xk at *
  have HXE := Lib.hid hxe
  clear hxe
  obtain ⟨jb, hjb, hjm⟩ : ∃ j : Nat, j < 989 ∧ (n : Int).tmod 989 = (j : Int) := ⟨n % 989, Nat.mod_lt _ (by omega), rfl⟩
  obtain ⟨hy, hyn⟩ := another_ne xk (jb : Int)
  obtain ⟨x0, x1, x2, x3, xf⟩ := four_cells ZY.out
  go_region_law (go_simp; go_at_call 22; with_reducible refine (Elt.another xk (jb : Int) _ (by omega) (by omega) (by omega) (by omega)).mono ?_; rintro e w9 ⟨rfl, rfl⟩)
  all_goals
    generalize (xk + 1 + (jb : Int) % 990) % 991 = v at *
    have OZ : Hid (Il.Own _ _ (wy.setCell ⟨bx, fx + k, none⟩ (.int .i64 v)).drew _ _ _ _) := Lib.hid (Own.set_ OY.out hkx v)
    have ZZ : Hid (Blk (wy.setCell ⟨bx, fx + k, none⟩ (.int .i64 v)).drew _ _ _) := Lib.hid (blk_far ZY.out (q := ⟨bx, fx + k, none⟩) (show w8.heap.size ≠ bx by omega) (.int .i64 v))
    have hfz : ∀ i, i ≠ w8.heap.size → i ≠ bx → (wy.setCell ⟨bx, fx + k, none⟩ (.int .i64 v)).drew.heap[i]? = wx.heap[i]? := fun i h1 h2 => (Below.heap_setCell _ _ _ _ h2).trans (HFY.out i h1)
    have hsz : (wy.setCell ⟨bx, fx + k, none⟩ (.int .i64 v)).drew.heap.size = wx.heap.size := by rw [← HSY.out]; simp [World.setCell]
    have ez : (wy.setCell ⟨bx, fx + k, none⟩ (.int .i64 v)).drew.os = wx.os ∧ (wy.setCell ⟨bx, fx + k, none⟩ (.int .i64 v)).drew.tape = wx.tape ∧ (wy.setCell ⟨bx, fx + k, none⟩ (.int .i64 v)).drew.output = wx.output := HEYY.out
    clear x0 x1 x2 x3 xf cy fy OY ZY HFY HSY HEYY ZW
    generalize (wy.setCell ⟨bx, fx + k, none⟩ (.int .i64 v)).drew = wz at *
    have hsz2 := Nat.le_of_eq hsz.symm
    replace IH := Lib.hid (IH.out.keep hsz2 fun i h1 h2 h3 => hfz i (by omega) (by omega))
    replace IB := Lib.hid (IB.out.keep hsz2 fun i h1 h2 h3 => hfz i (by omega) (by omega))
    replace RX := Lib.hid (mixR_keep RX.out hsz2 fun i h1 h2 h3 => hfz i (by omega) (by omega))
    have ltZX := blk_lt ZX.out
    replace ZX := Lib.hid (blk_keep ZX.out (hfz _ (by omega) (by omega)))
    clear ltZX
    have ltZP := blk_lt ZP.out
    replace ZP := Lib.hid (blk_keep ZP.out (hfz _ (by omega) (by omega)))
    clear ltZP
    replace RM := Lib.hid (mixR_keep RM.out hsz2 fun i h1 h2 h3 => hfz i (by omega) (by omega))
    have ltZM := blk_lt ZM.out
    replace ZM := Lib.hid (blk_keep ZM.out (hfz _ (by omega) (by omega)))
    clear ltZM
    replace RS := Lib.hid (mixR_keep RS.out hsz2 fun i h1 h2 h3 => hfz i (by omega) (by omega))
    have ltZS := blk_lt ZS.out
    replace ZS := Lib.hid (blk_keep ZS.out (hfz _ (by omega) (by omega)))
    clear ltZS
    have hBs := B.out.size
    replace B := Lib.hid (below_keep B.out ez.1 ez.2.1 ez.2.2 hsz fun i hi => hfz i (by omega) (by omega))
    have ZW := Lib.hid ZZ.out
    clear ZZ ez hfz hsz2 hBs
    have t1 := take_bd (k := k) HZ.out.2 hy
    rw [HZ.out.1] at t1
    have T1 := Lib.hid t1
    clear t1
    obtain ⟨m0, m1, m2, mf⟩ := Sp6.three_cells ZM.out
    obtain ⟨k0, k1, k2, k3, kf⟩ := four_cells ZW.out
    go_wp2_with fail
    ((with_reducible refine (takeE y p.el p.tag p.hd (p.bd.set k v) _ _ _ _ _ _ _ _ _ _ _ _ _ _ _ _ _ RM.out IH.out OZ.out.ints).mono ?_); rintro e w10 ⟨AY, cy, BY, dy, rfl, hr, hb⟩)
    replace IH := Lib.hid (IH.out.below hb (Nat.le_refl _))
    replace IB := Lib.hid (IB.out.below hb (Nat.le_refl _))
    replace RX := Lib.hid (RX.out.below hb (Nat.le_refl _))
    replace ZX := Lib.hid (ZX.out.below hb (Nat.le_refl _))
    replace ZP := Lib.hid (ZP.out.below hb (Nat.le_refl _))
    replace RM := Lib.hid (RM.out.below hb (Nat.le_refl _))
    replace ZM := Lib.hid (ZM.out.below hb (Nat.le_refl _))
    replace RS := Lib.hid (RS.out.below hb (Nat.le_refl _))
    replace ZS := Lib.hid (ZS.out.below hb (Nat.le_refl _))
    replace ZW := Lib.hid (ZW.out.below hb (Nat.le_refl _))
    replace OZ := Lib.hid (OZ.out.below hb (Nat.le_refl _))
    replace B := Lib.hid (B.out.trans (hb.mono B.out.size))
    have z10 := hb.size
    clear hb
    clear m0 m1 m2 mf k0 k1 k2 k3 kf
    rw [T1.out]
    clear hr
    go_wp2
    go_ret
    exact ⟨rfl, B.out.alloc B.out.size _⟩

end Law6t
end Go.Proofs.Ytnjcpbkpcmemeaa
