/-
  The laws of chapter 11 on passing on, by the contracts of the functions that they call: each returns true and writes nothing that was there.
-/
import Derived.Test.YtnjcpbkpcmemeacIm6f
import Derived.Test.YtnjcpbkpcmemeacHlp7
import Derived.Test.YtnjcpbkpcmemeacDr6z
import Derived.Deep.RegionLaw
import Derived.Deep.RegionHeld3
import Derived.Deep.Cut
import Derived.Deep.QuietTactic
import Derived.BigQuiet
namespace Go.Proofs.Ytnjcpbkpcmemeac
open Go.RowKit
namespace Law6f
open Gm Mm Tm Lm Pm Po Pq Il Rd Hlp5 Hlp6 Hlp7 LawB Sl Mm6 Sp6

theorem flushX (x y : Mx) (all : Bool) (l : List Pld) (A B : Option Addr) (c d lo hi : Nat) (w : World) (hx : MixR lo hi w A x.seen.length c B x.pool.length d x) (h : flushM x all = y ∧ flushL x all = l) :
    Calls Try.prog 10 #[.agg #[.int .i64 x.sec, .slice A x.seen.length c, .slice B x.pool.length d], .bool all] w (FlushB y l w) := by
  obtain ⟨rfl, rfl⟩ := h
  exact (Im6.MixFlushP x all A B c d lo hi w hx).mono fun _ _ h => h.b
theorem flushS (x y : Mx) (all : Bool) (l : List Pld) (A B : Option Addr) (c d lo hi : Nat) (w : World) (hx : MixR lo hi w A x.seen.length c B x.pool.length d x) (h : flushM x all = y ∧ flushL x all = l) :
    Calls Try.prog 11 #[.agg #[.int .i64 x.sec, .slice A x.seen.length c, .slice B x.pool.length d], .bool all] w (FlushB y l w) := by
  obtain ⟨rfl, rfl⟩ := h
  exact Sp6.MixFlush x all A B c d lo hi w hx
theorem same2 {x y : Mx} {l1 h1 l2 h2 n n2 c m m2 d c2 d2 : Nat} {A B A2 B2 : Option Addr} {w : World} (i1 : MixR l1 h1 w A n c B m d y) (i2 : MixR l2 h2 w A2 n2 c2 B2 m2 d2 x) (e : y = x) :
    Calls Try.prog 12 #[.agg #[.int .i64 y.sec, .slice A n c, .slice B m d], .agg #[.int .i64 x.sec, .slice A2 n2 c2, .slice B2 m2 d2]] w (BoolB true w) := by
  subst e
  have e1 := i1.1.1.symm.trans i2.1.1
  have e2 := i1.2.len_.symm.trans i2.2.len_
  subst e1 e2
  exact sameMix y A B A2 B2 _ c _ d c2 d2 l1 h1 l2 h2 w i1 i2
theorem flushed_ok {x : Mx} (h : mixOk x = true) : mixOk ⟨x.sec, x.seen, []⟩ = true := by
  obtain ⟨m1, m2, m3, m4, m5⟩ := mixOk_iff.1 h
  exact mixOk_iff.2 ⟨m1, m2, m3, rfl, by simp⟩
theorem flush_all {x : Mx} (h : mixOk x = true) : flushM x true = ⟨x.sec, x.seen, []⟩ ∧ flushL x true = sortP x.pool := flush_yes h (.inr rfl)
theorem flush_again {x : Mx} (h : mixOk x = true) : flushM ⟨x.sec, x.seen, []⟩ true = ⟨x.sec, x.seen, []⟩ ∧ flushL ⟨x.sec, x.seen, []⟩ true = [] := flush_all (flushed_ok h)
theorem samePoolL {ps : List Pld} {l1 h1 l2 h2 n c d : Nat} {A B : Option Addr} {w : World} (i1 : Pool l1 h1 w A n c ps) (i2 : Pool l2 h2 w B n d ps) : Calls Try.prog 13 #[.slice A n c, .slice B n d] w (BoolB true w) := samePool A B n c d l1 h1 l2 h2 ps w i1 i2


set_option maxRecDepth 20000 in
set_option maxHeartbeats 2000000 in
theorem fnFlushTwice (A : Option Addr) (n c : Nat) (w : World) (h : CodeIs w A n c) :
    Calls Try.prog 3 #[.slice A n c] w (TruePost w) := by
  have HC := Lib.hid h
  clear h
  by_cases hn : 1048576 < n
  · go_enter Try.func3, Try.ntmps3
    go_wp2
    go_ret
    exact ⟨rfl, Below.refl _ _⟩
  have B : Hid (Below w.heap.size w w) := Below.refl _ _
  go_enter Try.func3, Try.ntmps3
  have hq : n ≤ 1048576 := by omega
  go_wp2_with fail
  ((with_reducible refine (DrawMixFlush _ _ _ _ HC.out).mono ?_); rintro e w1 ⟨x, AX, cx, BX, dx, v, rfl, ⟨hr, hsec, hsn, hpn, hpl, hb⟩⟩)
  replace B := Lib.hid (B.out.trans (hb.mono B.out.size))
  have z1 := hb.size
  have RX := Lib.hid hr
  clear hr hb
  have HSN := Lib.hid hsn
  have HPN := Lib.hid hpn
  clear hsec hsn hpn hpl
  have hal : Below w1.heap.size w1 (w1.alloc (.cells #[.int .i64 x.sec, .slice AX x.seen.length cx, .slice BX x.pool.length dx] 26)) := (Below.refl _ _).alloc (Nat.le_refl _) _
  have hzz : Blk (w1.alloc (.cells #[.int .i64 x.sec, .slice AX x.seen.length cx, .slice BX x.pool.length dx] 26)) w1.heap.size #[.int .i64 x.sec, .slice AX x.seen.length cx, .slice BX x.pool.length dx] 26 := heap_alloc_new _ _
  replace RX := Lib.hid (RX.out.below hal (Nat.le_refl _))
  replace B := Lib.hid (B.out.trans (hal.mono B.out.size))
  have ZX := Lib.hid hzz
  clear hzz
  clear hal
  have hzX : w1.heap.size < (w1.alloc (.cells #[.int .i64 x.sec, .slice AX x.seen.length cx, .slice BX x.pool.length dx] 26)).heap.size := by simp
  obtain ⟨y, l, HEY⟩ : ∃ (y : Mx) (l : List Pld), Hid (flushM x v = y ∧ flushL x v = l) := ⟨_, _, rfl, rfl⟩
  obtain ⟨m0, m1, m2, mf⟩ := Sp6.three_cells ZX.out
  go_wp2_with fail
  ((with_reducible refine (flushX x y v l _ _ _ _ _ _ _ RX.out HEY.out).mono ?_); rintro e w3 ⟨AM, cm, BM, dm, CM, qm, rfl, hr, hl, hb⟩)
  replace RX := Lib.hid (RX.out.below hb (Nat.le_refl _))
  replace ZX := Lib.hid (ZX.out.below hb (Nat.le_refl _))
  replace B := Lib.hid (B.out.trans (hb.mono B.out.size))
  have z3 := hb.size
  have RM := Lib.hid hr
  have QM := Lib.hid hl
  clear hr hl hb
  clear m0 m1 m2 mf
  have hal : Below w3.heap.size w3 (w3.alloc (.cells #[.int .i64 y.sec, .slice AM y.seen.length cm, .slice BM y.pool.length dm] 26)) := (Below.refl _ _).alloc (Nat.le_refl _) _
  have hzz : Blk (w3.alloc (.cells #[.int .i64 y.sec, .slice AM y.seen.length cm, .slice BM y.pool.length dm] 26)) w3.heap.size #[.int .i64 y.sec, .slice AM y.seen.length cm, .slice BM y.pool.length dm] 26 := heap_alloc_new _ _
  replace RX := Lib.hid (RX.out.below hal (Nat.le_refl _))
  replace ZX := Lib.hid (ZX.out.below hal (Nat.le_refl _))
  replace RM := Lib.hid (RM.out.below hal (Nat.le_refl _))
  replace QM := Lib.hid (QM.out.below hal (Nat.le_refl _))
  replace B := Lib.hid (B.out.trans (hal.mono B.out.size))
  have ZM := Lib.hid hzz
  clear hzz
  clear hal
  have hzM : w3.heap.size < (w3.alloc (.cells #[.int .i64 y.sec, .slice AM y.seen.length cm, .slice BM y.pool.length dm] 26)).heap.size := by simp
  obtain ⟨m0, m1, m2, mf⟩ := Sp6.three_cells ZX.out
  go_wp2_with fail
  ((with_reducible refine (flushS x y v l _ _ _ _ _ _ _ RX.out HEY.out).mono ?_); rintro e w5 ⟨AS, cs, BS, ds, CS, qs, rfl, hr, hl, hb⟩)
  replace RX := Lib.hid (RX.out.below hb (Nat.le_refl _))
  replace ZX := Lib.hid (ZX.out.below hb (Nat.le_refl _))
  replace RM := Lib.hid (RM.out.below hb (Nat.le_refl _))
  replace QM := Lib.hid (QM.out.below hb (Nat.le_refl _))
  replace ZM := Lib.hid (ZM.out.below hb (Nat.le_refl _))
  replace B := Lib.hid (B.out.trans (hb.mono B.out.size))
  have z5 := hb.size
  have RS := Lib.hid hr
  have QS := Lib.hid hl
  clear hr hl hb
  clear m0 m1 m2 mf
  have hal : Below w5.heap.size w5 (w5.alloc (.cells #[.int .i64 y.sec, .slice AS y.seen.length cs, .slice BS y.pool.length ds] 26)) := (Below.refl _ _).alloc (Nat.le_refl _) _
  have hzz : Blk (w5.alloc (.cells #[.int .i64 y.sec, .slice AS y.seen.length cs, .slice BS y.pool.length ds] 26)) w5.heap.size #[.int .i64 y.sec, .slice AS y.seen.length cs, .slice BS y.pool.length ds] 26 := heap_alloc_new _ _
  replace RX := Lib.hid (RX.out.below hal (Nat.le_refl _))
  replace ZX := Lib.hid (ZX.out.below hal (Nat.le_refl _))
  replace RM := Lib.hid (RM.out.below hal (Nat.le_refl _))
  replace QM := Lib.hid (QM.out.below hal (Nat.le_refl _))
  replace ZM := Lib.hid (ZM.out.below hal (Nat.le_refl _))
  replace RS := Lib.hid (RS.out.below hal (Nat.le_refl _))
  replace QS := Lib.hid (QS.out.below hal (Nat.le_refl _))
  replace B := Lib.hid (B.out.trans (hal.mono B.out.size))
  have ZS := Lib.hid hzz
  clear hzz
  clear hal
  have hzS : w5.heap.size < (w5.alloc (.cells #[.int .i64 y.sec, .slice AS y.seen.length cs, .slice BS y.pool.length ds] 26)).heap.size := by simp
  obtain ⟨m0, m1, m2, mf⟩ := Sp6.three_cells ZM.out
  obtain ⟨s0, s1, s2, sf⟩ := Sp6.three_cells ZS.out
  go_wp2_with fail
  ((with_reducible refine (sameMix y _ _ _ _ _ _ _ _ _ _ _ _ _ _ _ RM.out RS.out).mono ?_); rintro e w7 ⟨rfl, hb⟩)
  replace RX := Lib.hid (RX.out.below hb (Nat.le_refl _))
  replace ZX := Lib.hid (ZX.out.below hb (Nat.le_refl _))
  replace RM := Lib.hid (RM.out.below hb (Nat.le_refl _))
  replace QM := Lib.hid (QM.out.below hb (Nat.le_refl _))
  replace ZM := Lib.hid (ZM.out.below hb (Nat.le_refl _))
  replace RS := Lib.hid (RS.out.below hb (Nat.le_refl _))
  replace QS := Lib.hid (QS.out.below hb (Nat.le_refl _))
  replace ZS := Lib.hid (ZS.out.below hb (Nat.le_refl _))
  replace B := Lib.hid (B.out.trans (hb.mono B.out.size))
  have z7 := hb.size
  clear hb
  clear m0 m1 m2 mf s0 s1 s2 sf
  go_wp2_with fail
  ((with_reducible refine (samePoolL QM.out QS.out).mono ?_); rintro e w8 ⟨rfl, hb⟩)
  replace RX := Lib.hid (RX.out.below hb (Nat.le_refl _))
  replace ZX := Lib.hid (ZX.out.below hb (Nat.le_refl _))
  replace RM := Lib.hid (RM.out.below hb (Nat.le_refl _))
  replace QM := Lib.hid (QM.out.below hb (Nat.le_refl _))
  replace ZM := Lib.hid (ZM.out.below hb (Nat.le_refl _))
  replace RS := Lib.hid (RS.out.below hb (Nat.le_refl _))
  replace QS := Lib.hid (QS.out.below hb (Nat.le_refl _))
  replace ZS := Lib.hid (ZS.out.below hb (Nat.le_refl _))
  replace B := Lib.hid (B.out.trans (hb.mono B.out.size))
  have z8 := hb.size
  clear hb
  obtain ⟨m0, m1, m2, mf⟩ := Sp6.three_cells ZX.out
  go_wp2_with fail
  ((with_reducible refine (Sp6.MixValid x _ _ _ _ _ _ _ _ _ RX.out).mono ?_); rintro e w9 ⟨rfl, hb⟩)
  replace RX := Lib.hid (RX.out.below hb (Nat.le_refl _))
  replace ZX := Lib.hid (ZX.out.below hb (Nat.le_refl _))
  replace RM := Lib.hid (RM.out.below hb (Nat.le_refl _))
  replace QM := Lib.hid (QM.out.below hb (Nat.le_refl _))
  replace ZM := Lib.hid (ZM.out.below hb (Nat.le_refl _))
  replace RS := Lib.hid (RS.out.below hb (Nat.le_refl _))
  replace QS := Lib.hid (QS.out.below hb (Nat.le_refl _))
  replace ZS := Lib.hid (ZS.out.below hb (Nat.le_refl _))
  replace B := Lib.hid (B.out.trans (hb.mono B.out.size))
  have z9 := hb.size
  clear hb
  clear m0 m1 m2 mf
  cases hok : mixOk x
  · clear hok
    obtain ⟨m0, m1, m2, mf⟩ := Sp6.three_cells ZM.out
    obtain ⟨s0, s1, s2, sf⟩ := Sp6.three_cells ZS.out
    go_wp2_with fail
    ((with_reducible refine (sameMix y _ _ _ _ _ _ _ _ _ _ _ _ _ _ _ RM.out RS.out).mono ?_); rintro e w10 ⟨rfl, hb⟩)
    replace RX := Lib.hid (RX.out.below hb (Nat.le_refl _))
    replace ZX := Lib.hid (ZX.out.below hb (Nat.le_refl _))
    replace RM := Lib.hid (RM.out.below hb (Nat.le_refl _))
    replace QM := Lib.hid (QM.out.below hb (Nat.le_refl _))
    replace ZM := Lib.hid (ZM.out.below hb (Nat.le_refl _))
    replace RS := Lib.hid (RS.out.below hb (Nat.le_refl _))
    replace QS := Lib.hid (QS.out.below hb (Nat.le_refl _))
    replace ZS := Lib.hid (ZS.out.below hb (Nat.le_refl _))
    replace B := Lib.hid (B.out.trans (hb.mono B.out.size))
    have z10 := hb.size
    clear hb
    clear m0 m1 m2 mf s0 s1 s2 sf
    go_wp2_with fail
    ((with_reducible refine (samePoolL QM.out QS.out).mono ?_); rintro e w11 ⟨rfl, hb⟩)
    replace RX := Lib.hid (RX.out.below hb (Nat.le_refl _))
    replace ZX := Lib.hid (ZX.out.below hb (Nat.le_refl _))
    replace RM := Lib.hid (RM.out.below hb (Nat.le_refl _))
    replace QM := Lib.hid (QM.out.below hb (Nat.le_refl _))
    replace ZM := Lib.hid (ZM.out.below hb (Nat.le_refl _))
    replace RS := Lib.hid (RS.out.below hb (Nat.le_refl _))
    replace QS := Lib.hid (QS.out.below hb (Nat.le_refl _))
    replace ZS := Lib.hid (ZS.out.below hb (Nat.le_refl _))
    replace B := Lib.hid (B.out.trans (hb.mono B.out.size))
    have z11 := hb.size
    clear hb
    go_wp2
    go_ret
    exact ⟨rfl, B.out⟩
  have HOK := Lib.hid hok
  clear hok
  obtain ⟨a, l2, HA2⟩ : ∃ (a : Mx) (l2 : List Pld), Hid (flushM x true = a ∧ flushL x true = l2) := ⟨_, _, rfl, rfl⟩
  have hag : flushM a true = a ∧ flushL a true = [] := by have := HA2.out; rw [(flush_all HOK.out).1] at this; rw [← this.1]; exact flush_again HOK.out
  have HAG := Lib.hid hag
  clear hag
  obtain ⟨m0, m1, m2, mf⟩ := Sp6.three_cells ZX.out
  go_wp2_with fail
  ((with_reducible refine (flushX x a true l2 _ _ _ _ _ _ _ RX.out HA2.out).mono ?_); rintro e w10 ⟨AU, cu, BU, du, CU, qu, rfl, hr, hl, hb⟩)
  replace RX := Lib.hid (RX.out.below hb (Nat.le_refl _))
  replace ZX := Lib.hid (ZX.out.below hb (Nat.le_refl _))
  replace RM := Lib.hid (RM.out.below hb (Nat.le_refl _))
  replace QM := Lib.hid (QM.out.below hb (Nat.le_refl _))
  replace ZM := Lib.hid (ZM.out.below hb (Nat.le_refl _))
  replace RS := Lib.hid (RS.out.below hb (Nat.le_refl _))
  replace QS := Lib.hid (QS.out.below hb (Nat.le_refl _))
  replace ZS := Lib.hid (ZS.out.below hb (Nat.le_refl _))
  replace B := Lib.hid (B.out.trans (hb.mono B.out.size))
  have z10 := hb.size
  have RU := Lib.hid hr
  clear hr hb
  clear m0 m1 m2 mf
  clear hl
  have hal : Below w10.heap.size w10 (w10.alloc (.cells #[.int .i64 a.sec, .slice AU a.seen.length cu, .slice BU a.pool.length du] 26)) := (Below.refl _ _).alloc (Nat.le_refl _) _
  have hzz : Blk (w10.alloc (.cells #[.int .i64 a.sec, .slice AU a.seen.length cu, .slice BU a.pool.length du] 26)) w10.heap.size #[.int .i64 a.sec, .slice AU a.seen.length cu, .slice BU a.pool.length du] 26 := heap_alloc_new _ _
  replace RX := Lib.hid (RX.out.below hal (Nat.le_refl _))
  replace ZX := Lib.hid (ZX.out.below hal (Nat.le_refl _))
  replace RM := Lib.hid (RM.out.below hal (Nat.le_refl _))
  replace QM := Lib.hid (QM.out.below hal (Nat.le_refl _))
  replace ZM := Lib.hid (ZM.out.below hal (Nat.le_refl _))
  replace RS := Lib.hid (RS.out.below hal (Nat.le_refl _))
  replace QS := Lib.hid (QS.out.below hal (Nat.le_refl _))
  replace ZS := Lib.hid (ZS.out.below hal (Nat.le_refl _))
  replace RU := Lib.hid (RU.out.below hal (Nat.le_refl _))
  replace B := Lib.hid (B.out.trans (hal.mono B.out.size))
  have ZU := Lib.hid hzz
  clear hzz
  clear hal
  have hzU : w10.heap.size < (w10.alloc (.cells #[.int .i64 a.sec, .slice AU a.seen.length cu, .slice BU a.pool.length du] 26)).heap.size := by simp
  obtain ⟨m0, m1, m2, mf⟩ := Sp6.three_cells ZU.out
  go_wp2_with fail
  ((with_reducible refine (flushX a a true [] _ _ _ _ _ _ _ RU.out HAG.out).mono ?_); rintro e w12 ⟨AV, cv, BV, dv, CV, qv, rfl, hr, hl, hb⟩)
  replace RX := Lib.hid (RX.out.below hb (Nat.le_refl _))
  replace ZX := Lib.hid (ZX.out.below hb (Nat.le_refl _))
  replace RM := Lib.hid (RM.out.below hb (Nat.le_refl _))
  replace QM := Lib.hid (QM.out.below hb (Nat.le_refl _))
  replace ZM := Lib.hid (ZM.out.below hb (Nat.le_refl _))
  replace RS := Lib.hid (RS.out.below hb (Nat.le_refl _))
  replace QS := Lib.hid (QS.out.below hb (Nat.le_refl _))
  replace ZS := Lib.hid (ZS.out.below hb (Nat.le_refl _))
  replace RU := Lib.hid (RU.out.below hb (Nat.le_refl _))
  replace ZU := Lib.hid (ZU.out.below hb (Nat.le_refl _))
  replace B := Lib.hid (B.out.trans (hb.mono B.out.size))
  have z12 := hb.size
  have RV := Lib.hid hr
  clear hr hb
  clear m0 m1 m2 mf
  clear hl
  have hal : Below w12.heap.size w12 (w12.alloc (.cells #[.int .i64 a.sec, .slice AV a.seen.length cv, .slice BV a.pool.length dv] 26)) := (Below.refl _ _).alloc (Nat.le_refl _) _
  have hzz : Blk (w12.alloc (.cells #[.int .i64 a.sec, .slice AV a.seen.length cv, .slice BV a.pool.length dv] 26)) w12.heap.size #[.int .i64 a.sec, .slice AV a.seen.length cv, .slice BV a.pool.length dv] 26 := heap_alloc_new _ _
  replace RX := Lib.hid (RX.out.below hal (Nat.le_refl _))
  replace ZX := Lib.hid (ZX.out.below hal (Nat.le_refl _))
  replace RM := Lib.hid (RM.out.below hal (Nat.le_refl _))
  replace QM := Lib.hid (QM.out.below hal (Nat.le_refl _))
  replace ZM := Lib.hid (ZM.out.below hal (Nat.le_refl _))
  replace RS := Lib.hid (RS.out.below hal (Nat.le_refl _))
  replace QS := Lib.hid (QS.out.below hal (Nat.le_refl _))
  replace ZS := Lib.hid (ZS.out.below hal (Nat.le_refl _))
  replace RU := Lib.hid (RU.out.below hal (Nat.le_refl _))
  replace ZU := Lib.hid (ZU.out.below hal (Nat.le_refl _))
  replace RV := Lib.hid (RV.out.below hal (Nat.le_refl _))
  replace B := Lib.hid (B.out.trans (hal.mono B.out.size))
  have ZV := Lib.hid hzz
  clear hzz
  clear hal
  have hzV : w12.heap.size < (w12.alloc (.cells #[.int .i64 a.sec, .slice AV a.seen.length cv, .slice BV a.pool.length dv] 26)).heap.size := by simp
  obtain ⟨m0, m1, m2, mf⟩ := Sp6.three_cells ZV.out
  obtain ⟨s0, s1, s2, sf⟩ := Sp6.three_cells ZU.out
  go_wp2_with fail
  ((with_reducible refine (sameMix a _ _ _ _ _ _ _ _ _ _ _ _ _ _ _ RV.out RU.out).mono ?_); rintro e w14 ⟨rfl, hb⟩)
  replace RX := Lib.hid (RX.out.below hb (Nat.le_refl _))
  replace ZX := Lib.hid (ZX.out.below hb (Nat.le_refl _))
  replace RM := Lib.hid (RM.out.below hb (Nat.le_refl _))
  replace QM := Lib.hid (QM.out.below hb (Nat.le_refl _))
  replace ZM := Lib.hid (ZM.out.below hb (Nat.le_refl _))
  replace RS := Lib.hid (RS.out.below hb (Nat.le_refl _))
  replace QS := Lib.hid (QS.out.below hb (Nat.le_refl _))
  replace ZS := Lib.hid (ZS.out.below hb (Nat.le_refl _))
  replace RU := Lib.hid (RU.out.below hb (Nat.le_refl _))
  replace ZU := Lib.hid (ZU.out.below hb (Nat.le_refl _))
  replace RV := Lib.hid (RV.out.below hb (Nat.le_refl _))
  replace ZV := Lib.hid (ZV.out.below hb (Nat.le_refl _))
  replace B := Lib.hid (B.out.trans (hb.mono B.out.size))
  have z14 := hb.size
  clear hb
  clear m0 m1 m2 mf s0 s1 s2 sf
  go_wp2
  go_ret
  exact ⟨rfl, B.out⟩


/-- A Bool is returned, and it is true where P holds. -/
def BoolI (P : Prop) (w : World) (e : Ending) (w' : World) : Prop := ∃ r : Bool, e = .returned (.bool r) ∧ (P → r = true) ∧ Below w.heap.size w w'
set_option maxRecDepth 20000 in
theorem samePacketG (p q : Pkt) (A B A2 B2 : Option Addr) (c d c2 d2 l1 h1 l2 h2 l3 h3 l4 h4 : Nat) (w : World) (i1 : Ints l1 h1 w A p.hd.length c p.hd) (i2 : Ints l2 h2 w B p.bd.length d p.bd) (i3 : Ints l3 h3 w A2 q.hd.length c2 q.hd) (i4 : Ints l4 h4 w B2 q.bd.length d2 q.bd) :
    Calls Try.prog 46 #[.agg #[.int .i64 p.el, .slice A p.hd.length c, .int .i64 p.tag, .slice B p.bd.length d], .agg #[.int .i64 q.el, .slice A2 q.hd.length c2, .int .i64 q.tag, .slice B2 q.bd.length d2]] w (BoolI (p = q) w) := by
  have h0 : Below w.heap.size w (w.alloc (.cells #[.int .i64 p.el, .slice A p.hd.length c, .int .i64 p.tag, .slice B p.bd.length d] 37)) := (Below.refl _ _).alloc (Nat.le_refl _) _
  have hb0 := h0.alloc h0.size (.cells #[.int .i64 q.el, .slice A2 q.hd.length c2, .int .i64 q.tag, .slice B2 q.bd.length d2] 37)
  have I1 := Lib.hid (i1.below hb0 (Nat.le_refl _))
  have I2 := Lib.hid (i2.below hb0 (Nat.le_refl _))
  have I3 := Lib.hid (i3.below hb0 (Nat.le_refl _))
  have I4 := Lib.hid (i4.below hb0 (Nat.le_refl _))
  have B0 := Lib.hid hb0
  clear i1 i2 i3 i4 h0 hb0
  by_cases h1 : p.el = q.el
  case neg =>
    have H1 : Hid (¬ p = q) := fun e => h1 (congrArg Pkt.el e)
    have e1 : (p.el == q.el) = false := by simpa using h1
    clear h1
    go_enter Try.func46, Try.ntmps46
    go_wp2
    go_ret
    exact ⟨false, rfl, fun e => absurd e H1.out, B0.out⟩
  have e1 : (p.el == q.el) = true := by simpa using h1
  clear h1
  by_cases h2 : p.tag = q.tag
  case neg =>
    have H1 : Hid (¬ p = q) := fun e => h2 (congrArg Pkt.tag e)
    have e2 : (p.tag == q.tag) = false := by simpa using h2
    clear h2
    go_enter Try.func46, Try.ntmps46
    go_wp2
    go_ret
    exact ⟨false, rfl, fun e => absurd e H1.out, B0.out⟩
  have e2 : (p.tag == q.tag) = true := by simpa using h2
  clear h2
  by_cases h3 : p.hd = q.hd
  case neg =>
    have H1 : Hid (¬ p = q) := fun e => h3 (congrArg Pkt.hd e)
    have H3 := Lib.hid h3
    clear h3
    go_enter Try.func46, Try.ntmps46
    go_wp2_with fail
    ((with_reducible refine (Hlp.sameInts _ _ _ _ _ _ _ _ _ _ _ _ _ I1.out I3.out).mono ?_); rintro e w1 ⟨rfl, nn, rfl⟩)
    rw [decide_eq_false H3.out]
    go_wp2
    go_ret
    exact ⟨false, rfl, fun e => absurd e H1.out, B0.out.os, B0.out.tape, B0.out.output, B0.out.size, B0.out.block⟩
  have H3 := Lib.hid h3
  have H4 : Hid (p = q → p.bd = q.bd) := fun e => congrArg Pkt.bd e
  clear h3
  go_enter Try.func46, Try.ntmps46
  go_wp2_with fail
  ((with_reducible refine (Hlp.sameInts _ _ _ _ _ _ _ _ _ _ _ _ _ I1.out I3.out).mono ?_); rintro e w1 ⟨rfl, nn, rfl⟩)
  rw [decide_eq_true H3.out]
  go_wp2_with fail
  ((with_reducible refine (Hlp.sameInts _ _ _ _ _ _ _ _ _ _ _ _ _ (I2.out.drewN _) (I4.out.drewN _)).mono ?_); rintro e w1 ⟨rfl, nm, rfl⟩)
  generalize hbb : decide (p.bd = q.bd) = r at *
  have HBB := Lib.hid hbb
  clear hbb
  go_wp2
  go_ret
  exact ⟨r, rfl, fun e => by rw [← HBB.out]; exact decide_eq_true (H4.out e), B0.out.os, B0.out.tape, B0.out.output, B0.out.size, B0.out.block⟩
set_option maxRecDepth 20000 in
theorem samePeeledG (p q : Pld) (A B A2 B2 : Option Addr) (c d c2 d2 l1 h1 l2 h2 l3 h3 l4 h4 : Nat) (w : World) (i1 : Ints l1 h1 w A p.pk.hd.length c p.pk.hd) (i2 : Ints l2 h2 w B p.pk.bd.length d p.pk.bd) (i3 : Ints l3 h3 w A2 q.pk.hd.length c2 q.pk.hd) (i4 : Ints l4 h4 w B2 q.pk.bd.length d2 q.pk.bd) :
    Calls Try.prog 15 #[.agg #[.int .i64 p.kind, .int .i64 p.next, .int .i64 p.pk.el, .slice A p.pk.hd.length c, .int .i64 p.pk.tag, .slice B p.pk.bd.length d], .agg #[.int .i64 q.kind, .int .i64 q.next, .int .i64 q.pk.el, .slice A2 q.pk.hd.length c2, .int .i64 q.pk.tag, .slice B2 q.pk.bd.length d2]] w (BoolI (p = q) w) := by
  have h0 : Below w.heap.size w (w.alloc (.cells #[.int .i64 p.kind, .int .i64 p.next, .int .i64 p.pk.el, .slice A p.pk.hd.length c, .int .i64 p.pk.tag, .slice B p.pk.bd.length d] 39)) := (Below.refl _ _).alloc (Nat.le_refl _) _
  have hb0 := h0.alloc h0.size (.cells #[.int .i64 q.kind, .int .i64 q.next, .int .i64 q.pk.el, .slice A2 q.pk.hd.length c2, .int .i64 q.pk.tag, .slice B2 q.pk.bd.length d2] 39)
  have I1 := Lib.hid (i1.below hb0 (Nat.le_refl _))
  have I2 := Lib.hid (i2.below hb0 (Nat.le_refl _))
  have I3 := Lib.hid (i3.below hb0 (Nat.le_refl _))
  have I4 := Lib.hid (i4.below hb0 (Nat.le_refl _))
  have B0 := Lib.hid hb0
  clear i1 i2 i3 i4 h0 hb0
  by_cases h1 : p.kind = q.kind
  case neg =>
    have H1 : Hid (¬ p = q) := fun e => h1 (congrArg Pld.kind e)
    have e1 : (p.kind == q.kind) = false := by simpa using h1
    clear h1
    go_enter Try.func15, Try.ntmps15
    go_wp2
    go_ret
    exact ⟨false, rfl, fun e => absurd e H1.out, B0.out⟩
  have e1 : (p.kind == q.kind) = true := by simpa using h1
  clear h1
  by_cases h2 : p.next = q.next
  case neg =>
    have H1 : Hid (¬ p = q) := fun e => h2 (congrArg Pld.next e)
    have e2 : (p.next == q.next) = false := by simpa using h2
    clear h2
    go_enter Try.func15, Try.ntmps15
    go_wp2
    go_ret
    exact ⟨false, rfl, fun e => absurd e H1.out, B0.out⟩
  have e2 : (p.next == q.next) = true := by simpa using h2
  clear h2
  have H4 : Hid (p = q → p.pk = q.pk) := fun e => congrArg Pld.pk e
  go_enter Try.func15, Try.ntmps15
  go_wp2_with fail
  ((with_reducible refine (samePacketG p.pk q.pk _ _ _ _ _ _ _ _ _ _ _ _ _ _ _ _ _ I1.out I2.out I3.out I4.out).mono ?_); rintro e w1 ⟨r, rfl, hr, hb⟩)
  have B1 := Lib.hid (B0.out.trans (hb.mono B0.out.size))
  have HR := Lib.hid hr
  clear hb hr
  go_wp2
  go_ret
  exact ⟨r, rfl, fun e => HR.out (H4.out e), B1.out⟩
theorem insP_perm (x : Pld) (out : List Pld) : (insP x out).Perm (x :: out) := by
  unfold insP
  refine List.perm_middle.trans ?_
  rw [List.take_append_drop]
theorem sortP_perm (l : List Pld) : (sortP l).Perm l := by
  suffices ∀ (l out : List Pld), (l.foldl (fun out x => insP x out) out).Perm (l ++ out) by simpa [sortP] using this l []
  intro l
  induction l with
  | nil => intro out; exact List.Perm.refl _
  | cons x l ih =>
    intro out
    rw [List.foldl_cons]
    refine (ih _).trans ?_
    refine (List.Perm.append_left l (insP_perm x out)).trans ?_
    exact List.perm_middle
theorem flushL_or (x : Mx) (v : Bool) : flushL x v = [] ∨ flushL x v = sortP x.pool := by
  unfold flushL
  cases mixOk x && !(decide (x.pool.length < 2) && !v)
  · exact .inl rfl
  · exact .inr rfl
/-- Each waiting packet stands somewhere in what is passed on. -/
theorem flushL_has {x : Mx} {v : Bool} {i : Nat} (h : 0 < (flushL x v).length) (hi : i < x.pool.length) : ∃ j, j < (flushL x v).length ∧ pldAt (flushL x v) j = pldAt x.pool i := by
  rcases flushL_or x v with e | e
  · rw [e] at h; simp at h
  · rw [e]
    have hm : x.pool[i] ∈ sortP x.pool := (sortP_perm x.pool).mem_iff.2 (List.getElem_mem hi)
    obtain ⟨j, hj, e2⟩ := List.getElem_of_mem hm
    refine ⟨j, hj, ?_⟩
    unfold pldAt
    rw [List.getD_eq_getElem?_getD, List.getElem?_eq_getElem hj, List.getD_eq_getElem?_getD, List.getElem?_eq_getElem hi, Option.getD_some, Option.getD_some, e2]

set_option maxRecDepth 20000 in
set_option maxHeartbeats 2000000 in
theorem fnFlushSame (A : Option Addr) (n c : Nat) (w : World) (h : CodeIs w A n c) :
    Calls Try.prog 4 #[.slice A n c] w (TruePost w) := by
  have HC := Lib.hid h
  clear h
  by_cases hn : 1048576 < n
  · go_enter Try.func4, Try.ntmps4
    go_wp2
    go_ret
    exact ⟨rfl, Below.refl _ _⟩
  have B : Hid (Below w.heap.size w w) := Below.refl _ _
  go_enter Try.func4, Try.ntmps4
  have hq : n ≤ 1048576 := by omega
  go_wp2_with fail
  ((with_reducible refine (DrawMixFlush _ _ _ _ HC.out).mono ?_); rintro e w1 ⟨x, AX, cx, BX, dx, v, rfl, ⟨hr, hsec, hsn, hpn, hpl, hb⟩⟩)
  replace B := Lib.hid (B.out.trans (hb.mono B.out.size))
  have z1 := hb.size
  have RX := Lib.hid hr
  clear hr hb
  have HSN := Lib.hid hsn
  have HPN := Lib.hid hpn
  clear hsec hsn hpn hpl
  have hal : Below w1.heap.size w1 (w1.alloc (.cells #[.int .i64 x.sec, .slice AX x.seen.length cx, .slice BX x.pool.length dx] 26)) := (Below.refl _ _).alloc (Nat.le_refl _) _
  have hzz : Blk (w1.alloc (.cells #[.int .i64 x.sec, .slice AX x.seen.length cx, .slice BX x.pool.length dx] 26)) w1.heap.size #[.int .i64 x.sec, .slice AX x.seen.length cx, .slice BX x.pool.length dx] 26 := heap_alloc_new _ _
  replace RX := Lib.hid (RX.out.below hal (Nat.le_refl _))
  replace B := Lib.hid (B.out.trans (hal.mono B.out.size))
  have ZX := Lib.hid hzz
  clear hzz
  clear hal
  have hzX : w1.heap.size < (w1.alloc (.cells #[.int .i64 x.sec, .slice AX x.seen.length cx, .slice BX x.pool.length dx] 26)).heap.size := by simp
  obtain ⟨y, l, HEY⟩ : ∃ (y : Mx) (l : List Pld), Hid (flushM x v = y ∧ flushL x v = l) := ⟨_, _, rfl, rfl⟩
  obtain ⟨m0, m1, m2, mf⟩ := Sp6.three_cells ZX.out
  go_wp2_with fail
  ((with_reducible refine (flushX x y v l _ _ _ _ _ _ _ RX.out HEY.out).mono ?_); rintro e w3 ⟨AM, cm, BM, dm, CM, qm, rfl, hr, hl, hb⟩)
  replace RX := Lib.hid (RX.out.below hb (Nat.le_refl _))
  replace ZX := Lib.hid (ZX.out.below hb (Nat.le_refl _))
  replace B := Lib.hid (B.out.trans (hb.mono B.out.size))
  have z3 := hb.size
  have RM := Lib.hid hr
  have QM := Lib.hid hl
  clear hr hl hb
  clear m0 m1 m2 mf
  have hal : Below w3.heap.size w3 (w3.alloc (.cells #[.int .i64 y.sec, .slice AM y.seen.length cm, .slice BM y.pool.length dm] 26)) := (Below.refl _ _).alloc (Nat.le_refl _) _
  have hzz : Blk (w3.alloc (.cells #[.int .i64 y.sec, .slice AM y.seen.length cm, .slice BM y.pool.length dm] 26)) w3.heap.size #[.int .i64 y.sec, .slice AM y.seen.length cm, .slice BM y.pool.length dm] 26 := heap_alloc_new _ _
  replace RX := Lib.hid (RX.out.below hal (Nat.le_refl _))
  replace ZX := Lib.hid (ZX.out.below hal (Nat.le_refl _))
  replace RM := Lib.hid (RM.out.below hal (Nat.le_refl _))
  replace QM := Lib.hid (QM.out.below hal (Nat.le_refl _))
  replace B := Lib.hid (B.out.trans (hal.mono B.out.size))
  have ZM := Lib.hid hzz
  clear hzz
  clear hal
  have hzM : w3.heap.size < (w3.alloc (.cells #[.int .i64 y.sec, .slice AM y.seen.length cm, .slice BM y.pool.length dm] 26)).heap.size := by simp
  obtain ⟨m0, m1, m2, mf⟩ := Sp6.three_cells ZX.out
  go_wp2_with fail
  ((with_reducible refine (flushS x y v l _ _ _ _ _ _ _ RX.out HEY.out).mono ?_); rintro e w5 ⟨AS, cs, BS, ds, CS, qs, rfl, hr, hl, hb⟩)
  replace RX := Lib.hid (RX.out.below hb (Nat.le_refl _))
  replace ZX := Lib.hid (ZX.out.below hb (Nat.le_refl _))
  replace RM := Lib.hid (RM.out.below hb (Nat.le_refl _))
  replace QM := Lib.hid (QM.out.below hb (Nat.le_refl _))
  replace ZM := Lib.hid (ZM.out.below hb (Nat.le_refl _))
  replace B := Lib.hid (B.out.trans (hb.mono B.out.size))
  have z5 := hb.size
  have RS := Lib.hid hr
  have QS := Lib.hid hl
  clear hr hl hb
  clear m0 m1 m2 mf
  have hal : Below w5.heap.size w5 (w5.alloc (.cells #[.int .i64 y.sec, .slice AS y.seen.length cs, .slice BS y.pool.length ds] 26)) := (Below.refl _ _).alloc (Nat.le_refl _) _
  have hzz : Blk (w5.alloc (.cells #[.int .i64 y.sec, .slice AS y.seen.length cs, .slice BS y.pool.length ds] 26)) w5.heap.size #[.int .i64 y.sec, .slice AS y.seen.length cs, .slice BS y.pool.length ds] 26 := heap_alloc_new _ _
  replace RX := Lib.hid (RX.out.below hal (Nat.le_refl _))
  replace ZX := Lib.hid (ZX.out.below hal (Nat.le_refl _))
  replace RM := Lib.hid (RM.out.below hal (Nat.le_refl _))
  replace QM := Lib.hid (QM.out.below hal (Nat.le_refl _))
  replace ZM := Lib.hid (ZM.out.below hal (Nat.le_refl _))
  replace RS := Lib.hid (RS.out.below hal (Nat.le_refl _))
  replace QS := Lib.hid (QS.out.below hal (Nat.le_refl _))
  replace B := Lib.hid (B.out.trans (hal.mono B.out.size))
  have ZS := Lib.hid hzz
  clear hzz
  clear hal
  have hzS : w5.heap.size < (w5.alloc (.cells #[.int .i64 y.sec, .slice AS y.seen.length cs, .slice BS y.pool.length ds] 26)).heap.size := by simp
  obtain ⟨m0, m1, m2, mf⟩ := Sp6.three_cells ZM.out
  obtain ⟨s0, s1, s2, sf⟩ := Sp6.three_cells ZS.out
  go_wp2_with fail
  ((with_reducible refine (sameMix y _ _ _ _ _ _ _ _ _ _ _ _ _ _ _ RM.out RS.out).mono ?_); rintro e w7 ⟨rfl, hb⟩)
  replace RX := Lib.hid (RX.out.below hb (Nat.le_refl _))
  replace ZX := Lib.hid (ZX.out.below hb (Nat.le_refl _))
  replace RM := Lib.hid (RM.out.below hb (Nat.le_refl _))
  replace QM := Lib.hid (QM.out.below hb (Nat.le_refl _))
  replace ZM := Lib.hid (ZM.out.below hb (Nat.le_refl _))
  replace RS := Lib.hid (RS.out.below hb (Nat.le_refl _))
  replace QS := Lib.hid (QS.out.below hb (Nat.le_refl _))
  replace ZS := Lib.hid (ZS.out.below hb (Nat.le_refl _))
  replace B := Lib.hid (B.out.trans (hb.mono B.out.size))
  have z7 := hb.size
  clear hb
  clear m0 m1 m2 mf s0 s1 s2 sf
  go_wp2_with fail
  ((with_reducible refine (samePoolL QM.out QS.out).mono ?_); rintro e w8 ⟨rfl, hb⟩)
  replace RX := Lib.hid (RX.out.below hb (Nat.le_refl _))
  replace ZX := Lib.hid (ZX.out.below hb (Nat.le_refl _))
  replace RM := Lib.hid (RM.out.below hb (Nat.le_refl _))
  replace QM := Lib.hid (QM.out.below hb (Nat.le_refl _))
  replace ZM := Lib.hid (ZM.out.below hb (Nat.le_refl _))
  replace RS := Lib.hid (RS.out.below hb (Nat.le_refl _))
  replace QS := Lib.hid (QS.out.below hb (Nat.le_refl _))
  replace ZS := Lib.hid (ZS.out.below hb (Nat.le_refl _))
  replace B := Lib.hid (B.out.trans (hb.mono B.out.size))
  have z8 := hb.size
  clear hb
  obtain ⟨m0, m1, m2, mf⟩ := Sp6.three_cells ZX.out
  go_wp2_with fail
  ((with_reducible refine (Sp6.MixValid x _ _ _ _ _ _ _ _ _ RX.out).mono ?_); rintro e w9 ⟨rfl, hb⟩)
  replace RX := Lib.hid (RX.out.below hb (Nat.le_refl _))
  replace ZX := Lib.hid (ZX.out.below hb (Nat.le_refl _))
  replace RM := Lib.hid (RM.out.below hb (Nat.le_refl _))
  replace QM := Lib.hid (QM.out.below hb (Nat.le_refl _))
  replace ZM := Lib.hid (ZM.out.below hb (Nat.le_refl _))
  replace RS := Lib.hid (RS.out.below hb (Nat.le_refl _))
  replace QS := Lib.hid (QS.out.below hb (Nat.le_refl _))
  replace ZS := Lib.hid (ZS.out.below hb (Nat.le_refl _))
  replace B := Lib.hid (B.out.trans (hb.mono B.out.size))
  have z9 := hb.size
  clear hb
  clear m0 m1 m2 mf
  cases hok : mixOk x
  · clear hok
    obtain ⟨m0, m1, m2, mf⟩ := Sp6.three_cells ZM.out
    obtain ⟨s0, s1, s2, sf⟩ := Sp6.three_cells ZS.out
    go_wp2_with fail
    ((with_reducible refine (sameMix y _ _ _ _ _ _ _ _ _ _ _ _ _ _ _ RM.out RS.out).mono ?_); rintro e w10 ⟨rfl, hb⟩)
    replace RX := Lib.hid (RX.out.below hb (Nat.le_refl _))
    replace ZX := Lib.hid (ZX.out.below hb (Nat.le_refl _))
    replace RM := Lib.hid (RM.out.below hb (Nat.le_refl _))
    replace QM := Lib.hid (QM.out.below hb (Nat.le_refl _))
    replace ZM := Lib.hid (ZM.out.below hb (Nat.le_refl _))
    replace RS := Lib.hid (RS.out.below hb (Nat.le_refl _))
    replace QS := Lib.hid (QS.out.below hb (Nat.le_refl _))
    replace ZS := Lib.hid (ZS.out.below hb (Nat.le_refl _))
    replace B := Lib.hid (B.out.trans (hb.mono B.out.size))
    have z10 := hb.size
    clear hb
    clear m0 m1 m2 mf s0 s1 s2 sf
    go_wp2_with fail
    ((with_reducible refine (samePoolL QM.out QS.out).mono ?_); rintro e w11 ⟨rfl, hb⟩)
    replace RX := Lib.hid (RX.out.below hb (Nat.le_refl _))
    replace ZX := Lib.hid (ZX.out.below hb (Nat.le_refl _))
    replace RM := Lib.hid (RM.out.below hb (Nat.le_refl _))
    replace QM := Lib.hid (QM.out.below hb (Nat.le_refl _))
    replace ZM := Lib.hid (ZM.out.below hb (Nat.le_refl _))
    replace RS := Lib.hid (RS.out.below hb (Nat.le_refl _))
    replace QS := Lib.hid (QS.out.below hb (Nat.le_refl _))
    replace ZS := Lib.hid (ZS.out.below hb (Nat.le_refl _))
    replace B := Lib.hid (B.out.trans (hb.mono B.out.size))
    have z11 := hb.size
    clear hb
    go_wp2
    go_ret
    exact ⟨rfl, B.out⟩
  have HOK := Lib.hid hok
  clear hok
  have hl1 := QM.out.max_
  have hl2 := QM.out.cap_
  have hp5 := HPN.out
  unfold maxLen at hl1
  have HHAS : Hid (∀ i, 0 < l.length → i < x.pool.length → ∃ j, j < l.length ∧ pldAt l j = pldAt x.pool i) := fun i h hi => by have e := HEY.out.2; rw [← e] at h ⊢; exact flushL_has h hi
  have hXlt := blk_lt ZX.out
  clear HEY
  go_upto_region 8 with (fail)
  generalize w9 = wc at *
  have HB0 : Hid (Below wc.heap.size wc wc) := Below.refl _ _
  go_wp2
  go_loopw [9] (fun i wr => ∃ j : Nat, j ≤ x.pool.length ∧ i = .int .i64 j ∧ Hid (Below wc.heap.size wc wr)) (fun i _ => x.pool.length - (intOf i).toNat)
  case atStart => exact ⟨0, Nat.zero_le _, rfl, HB0.out⟩
  case round =>
    clear HB0
    obtain ⟨i, hi, rfl, hR⟩ := hrel
    obtain ⟨x0, x1, x2, xf⟩ := Sp6.three_cells (ZX.out.below hR.out (Nat.le_refl _))
    by_cases hlt : i < x.pool.length
    case neg =>
      obtain rfl : i = x.pool.length := by omega
      go_wp2
      go_ret
      exact ⟨rfl, B.out.trans (hR.out.mono B.out.size)⟩
    by_cases hl0 : 0 < l.length
    case neg =>
      go_wp2
      go_ret
      exact ⟨rfl, B.out.trans (hR.out.mono B.out.size)⟩
    have HEX := Lib.hid (HHAS.out i hl0 hlt)
    obtain ⟨bp, op, H, ch, G, cg, rfl, hp1, hp2, p0, p1, p2, p3, p4, p5, PH, PG⟩ := RX.out.pl.at_ hlt
    have hbpl : bp < wc.heap.size := by have := B.out.size; omega
    have hq : ∀ wr, Below wc.heap.size wc wr → wr.cell? ⟨bp, op + i * 6, none⟩ = some (.int .i64 (pldAt x.pool i).kind) ∧ wr.cell? ⟨bp, op + i * 6 + 1, none⟩ = some (.int .i64 (pldAt x.pool i).next) ∧ wr.cell? ⟨bp, op + i * 6 + 2, none⟩ = some (.int .i64 (pldAt x.pool i).pk.el) ∧ wr.cell? ⟨bp, op + i * 6 + 3, none⟩ = some (.slice H (pldAt x.pool i).pk.hd.length ch) ∧ wr.cell? ⟨bp, op + i * 6 + 4, none⟩ = some (.int .i64 (pldAt x.pool i).pk.tag) ∧ wr.cell? ⟨bp, op + i * 6 + 5, none⟩ = some (.slice G (pldAt x.pool i).pk.bd.length cg) := fun wr hb =>
      ⟨(hb.cell (p := ⟨bp, op + i * 6, none⟩) hbpl).trans p0, (hb.cell (p := ⟨bp, op + i * 6 + 1, none⟩) hbpl).trans p1, (hb.cell (p := ⟨bp, op + i * 6 + 2, none⟩) hbpl).trans p2, (hb.cell (p := ⟨bp, op + i * 6 + 3, none⟩) hbpl).trans p3, (hb.cell (p := ⟨bp, op + i * 6 + 4, none⟩) hbpl).trans p4, (hb.cell (p := ⟨bp, op + i * 6 + 5, none⟩) hbpl).trans p5⟩
    have HQ := Lib.hid hq
    have JH := Lib.hid PH
    have JG := Lib.hid PG
    clear hq p0 p1 p2 p3 p4 p5 PH PG
    generalize pldAt x.pool i = q at *
    go_upto_region 13 with (fail)
    clear x0 x1 x2 xf
    go_loopw [10, 11] (fun f k wr => ∃ (j : Nat) (b : Bool), j ≤ l.length ∧ k = .int .i64 j ∧ f = .bool b ∧ Hid (((∃ t, t < j ∧ pldAt l t = q) → b = true) ∧ Below wc.heap.size wc wr)) (fun _ k _ => l.length - (intOf k).toNat)
    case atStart => exact ⟨0, false, Nat.zero_le _, rfl, rfl, fun ⟨t, h, _⟩ => absurd h (Nat.not_lt_zero _), hR.out⟩
    case round =>
      clear hR
      obtain ⟨j, b, hj, rfl, rfl, hS⟩ := hrel
      by_cases hjl : j < l.length
      case neg =>
        obtain rfl : j = l.length := by omega
        have hb := hS.out.1 HEX.out
        subst hb
        have HS2 := Lib.hid hS.out.2
        clear hS HEX
        go_wp2
        go_roundw
        case rel => exact ⟨i + 1, by omega, by go_num, HS2.out⟩
        case measure => simp [intOf]; omega
      have hS2 := hS.out.2
      obtain ⟨x0, x1, x2, xf⟩ := Sp6.three_cells (ZX.out.below hS2 (Nat.le_refl _))
      clear x0 x1 xf
      obtain ⟨bl, ol, H2, ch2, G2, cg2, rfl, _, _, l0, l1, l2, l3, l4, l5, LH, LG⟩ := (QM.out.below hS2 (Nat.le_refl _)).at_ hjl
      obtain ⟨p0, p1, p2, p3, p4, p5⟩ := HQ.out _ hS2
      cases b
      · have K1 : Hid (Ints _ _ wr.drew H2 (pldAt l j).pk.hd.length ch2 (pldAt l j).pk.hd) := LH
        have K2 : Hid (Ints _ _ wr.drew G2 (pldAt l j).pk.bd.length cg2 (pldAt l j).pk.bd) := LG
        have k3 := JH.out.below hS2 (Nat.le_refl _)
        have K3 : Hid (Ints _ _ wr.drew H q.pk.hd.length ch q.pk.hd) := k3
        have k4 := JG.out.below hS2 (Nat.le_refl _)
        have K4 : Hid (Ints _ _ wr.drew G q.pk.bd.length cg q.pk.bd) := k4
        clear k3 k4
        have HS1 := Lib.hid hS.out
        obtain ⟨p, hpj⟩ : ∃ p, pldAt l j = p := ⟨_, rfl⟩
        rw [hpj] at K1 K2 l0 l1 l2 l3 l4 l5
        have HPJ := Lib.hid hpj
        clear hpj
        clear LH LG hS hS2
        go_wp2_with fail
        go_region_law (first | (go_simp; go_at_call 15; refine (samePeeledG p q _ _ _ _ _ _ _ _ _ _ _ _ _ _ _ _ _ K1.out K2.out K3.out K4.out).mono ?_; rintro e v1 ⟨r, rfl, hr, hb1⟩) | fail)
        all_goals
          have HN : Hid (((∃ t, t < j + 1 ∧ pldAt l t = q) → r = true) ∧ Below wc.heap.size wc v1) := ⟨fun ⟨t, h1, h2⟩ => by
            by_cases e : t = j
            · subst e; exact hr (HPJ.out.symm.trans h2)
            · exact absurd (HS1.out.1 ⟨t, by omega, h2⟩) (by decide), HS1.out.2.trans ((below_drew hb1).mono HS1.out.2.size)⟩
          clear hr hb1 K1 K2 K3 K4 HS1 HPJ p0 p1 p2 p3 p4 p5 l0 l1 l2 l3 l4 l5 x2
          go_wp2
          go_roundw
          case rel => exact ⟨j + 1, r, by omega, by go_num, rfl, HN.out⟩
          case measure => simp [intOf]; omega
      · have HN : Hid (∀ k, Below wc.heap.size wc (wr.drewN k)) := fun k => below_dr hS2 k
        clear LH LG hS hS2 p0 p1 p2 p3 p4 p5 l0 l1 l2 l3 l4 l5 x2
        go_wp2_with fail
        go_quiet (fail)
        go_wp2
        go_roundw
        case rel => exact ⟨j + 1, true, by omega, by go_num, rfl, fun _ => rfl, HN.out _⟩
        case measure => simp [intOf]; omega

theorem cell_lt {w : World} {b o : Nat} {v : Value} (h : w.cell? ⟨b, o, none⟩ = some v) : b < w.heap.size := by
  by_cases hb : b < w.heap.size
  · exact hb
  · have : w.heap[b]? = none := Array.getElem?_eq_none (by omega)
    simp [World.cell?, this] at h
/-- What is passed on is in order. -/
theorem sortP_sorted (ps : List Pld) : (sortP ps).Pairwise fun a b => ¬ Lt b a := by
  obtain ⟨qs, h1, h2, h3⟩ := Hp6.sort_deco (ps.map fun p => (⟨p, none, 0, none, 0, 0, 0⟩ : Slot))
  have e : (ps.map fun p => (⟨p, none, 0, none, 0, 0, 0⟩ : Slot)).map (fun s => s.p) = ps := by rw [List.map_map]; exact List.map_id' ps
  rw [e] at h3
  rw [← h3]
  refine List.pairwise_map.2 (h2.imp fun hab hlt => hab (.inl hlt))
theorem flushL_sorted {x : Mx} {v : Bool} {t : Nat} (h : t + 1 < (flushL x v).length) : ¬ Lt (pldAt (flushL x v) (t + 1)) (pldAt (flushL x v) t) := by
  rcases flushL_or x v with e | e
  · rw [e] at h; simp at h
  · rw [e] at h ⊢
    have hp := List.pairwise_iff_getElem.1 (sortP_sorted x.pool) t (t + 1) (by omega) h (by omega)
    unfold pldAt
    rw [List.getD_eq_getElem?_getD, List.getElem?_eq_getElem h, List.getD_eq_getElem?_getD, List.getElem?_eq_getElem (by omega : t < (sortP x.pool).length), Option.getD_some, Option.getD_some]
    exact hp
theorem not_lt_cases {p q : Pld} (h : ¬ Lt q p) : p.kind < q.kind ∨ (p.kind = q.kind ∧ (p.next < q.next ∨ (p.next = q.next ∧ (p.pk.el < q.pk.el ∨ (p.pk.el = q.pk.el ∧ p.pk.tag ≤ q.pk.tag))))) := by unfold Lt at h; omega


end Law6f
end Go.Proofs.Ytnjcpbkpcmemeac
