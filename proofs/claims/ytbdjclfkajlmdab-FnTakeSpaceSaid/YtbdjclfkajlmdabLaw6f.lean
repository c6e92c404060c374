/-
  The laws of chapter 11 on passing on, by the contracts of the functions that they call: each returns true and writes nothing that was there.
-/
import Derived.Test.YtbdjclfkajlmdabIm6f
import Derived.Test.YtbdjclfkajlmdabHlp7
import Derived.Test.YtbdjclfkajlmdabDr6
import Derived.Deep.RegionLaw
import Derived.Deep.RegionHeld3
import Derived.Deep.Cut
import Derived.Deep.QuietTactic
import Derived.BigQuiet
namespace Go.Proofs.Ytbdjclfkajlmdab
open Go.RowKit
namespace Law6f
open Gm Mm Tm Lm Pm Po Pq Il Rd Hlp5 Hlp6 Hlp7 LawB Sl Mm6 Sp6

theorem flushX (x y : Mx) (all : Bool) (l : List Pld) (A B : Option Addr) (c d lo hi : Nat) (w : World) (hx : MixR lo hi w A x.seen.length c B x.pool.length d x) (h : flushM x all = y ∧ flushL x all = l) :
    Calls Try.prog 18 #[.agg #[.int .i64 x.sec, .slice A x.seen.length c, .slice B x.pool.length d], .bool all] w (FlushB y l w) := by
  obtain ⟨rfl, rfl⟩ := h
  exact (Im6.MixFlushP x all A B c d lo hi w hx).mono fun _ _ h => h.b
theorem flushS (x y : Mx) (all : Bool) (l : List Pld) (A B : Option Addr) (c d lo hi : Nat) (w : World) (hx : MixR lo hi w A x.seen.length c B x.pool.length d x) (h : flushM x all = y ∧ flushL x all = l) :
    Calls Try.prog 22 #[.agg #[.int .i64 x.sec, .slice A x.seen.length c, .slice B x.pool.length d], .bool all] w (FlushB y l w) := by
  obtain ⟨rfl, rfl⟩ := h
  exact Sp6.MixFlush x all A B c d lo hi w hx
theorem same2 {x y : Mx} {l1 h1 l2 h2 n n2 c m m2 d c2 d2 : Nat} {A B A2 B2 : Option Addr} {w : World} (i1 : MixR l1 h1 w A n c B m d y) (i2 : MixR l2 h2 w A2 n2 c2 B2 m2 d2 x) (e : y = x) :
    Calls Try.prog 12 #[.agg #[.int .i64 y.sec, .slice A n c, .slice B m d], .agg #[.int .i64 x.sec, .slice A2 n2 c2, .slice B2 m2 d2]] w (BoolB true w) := by
  subst e
  have e1 := i1.1.1.symm.trans i2.1.1
  have e2 := i1.2.len_.symm.trans i2.2.len_
  subst e1 e2
  exact sameMix y A B A2 B2 _ c _ d c2 d2 l1 h1 l2 h2 w i1 i2
theorem flushed_ok {x : Mx} (h : mixOk x = true) : mixOk ⟨x.sec, x.seen, []⟩ = true := by
  obtain ⟨m1, m2, m3, m4, m5⟩ := mixOk_iff.1 h
  exact mixOk_iff.2 ⟨m1, m2, m3, rfl, by simp⟩
theorem flush_all {x : Mx} (h : mixOk x = true) : flushM x true = ⟨x.sec, x.seen, []⟩ ∧ flushL x true = sortP x.pool := flush_yes h (.inr rfl)
theorem flush_again {x : Mx} (h : mixOk x = true) : flushM ⟨x.sec, x.seen, []⟩ true = ⟨x.sec, x.seen, []⟩ ∧ flushL ⟨x.sec, x.seen, []⟩ true = [] := flush_all (flushed_ok h)
theorem samePoolL {ps : List Pld} {l1 h1 l2 h2 n c d : Nat} {A B : Option Addr} {w : World} (i1 : Pool l1 h1 w A n c ps) (i2 : Pool l2 h2 w B n d ps) : Calls Try.prog 15 #[.slice A n c, .slice B n d] w (BoolB true w) := samePool A B n c d l1 h1 l2 h2 ps w i1 i2



set_option maxRecDepth 20000 in
set_option maxHeartbeats 2000000 in
theorem fnTakeSpace (A : Option Addr) (n c : Nat) (w : World) (h : CodeIs w A n c) :
    Calls Try.prog 8 #[.slice A n c] w (TruePost w) := by
  have HC := Lib.hid h
  clear h
  by_cases hn : 1048576 < n
  · go_enter Try.func8, Try.ntmps8
    go_wp2
    go_ret
    exact ⟨rfl, Below.refl _ _⟩
  have B : Hid (Below w.heap.size w w) := Below.refl _ _
  go_enter Try.func8, Try.ntmps8
  have hq : n ≤ 1048576 := by omega
  go_wp2_with fail
  ((with_reducible refine (DrawMixFlush _ _ _ _ HC.out).mono ?_); rintro e w1 ⟨x, AX, cx, BX, dx, v, rfl, ⟨hr, hsec, hsn, hpn, hpl, hb⟩⟩)
  replace B := Lib.hid (B.out.trans (hb.mono B.out.size))
  have z1 := hb.size
  have RX := Lib.hid hr
  clear hr hb
  have HSN := Lib.hid hsn
  have HPN := Lib.hid hpn
  clear hsec hsn hpn hpl
  have hal : Below w1.heap.size w1 (w1.alloc (.cells #[.int .i64 x.sec, .slice AX x.seen.length cx, .slice BX x.pool.length dx] 26)) := (Below.refl _ _).alloc (Nat.le_refl _) _
  have hzz : Blk (w1.alloc (.cells #[.int .i64 x.sec, .slice AX x.seen.length cx, .slice BX x.pool.length dx] 26)) w1.heap.size #[.int .i64 x.sec, .slice AX x.seen.length cx, .slice BX x.pool.length dx] 26 := heap_alloc_new _ _
  replace RX := Lib.hid (RX.out.below hal (Nat.le_refl _))
  replace B := Lib.hid (B.out.trans (hal.mono B.out.size))
  have ZX := Lib.hid hzz
  clear hzz
  clear hal
  have hzX : w1.heap.size < (w1.alloc (.cells #[.int .i64 x.sec, .slice AX x.seen.length cx, .slice BX x.pool.length dx] 26)).heap.size := by simp
  obtain ⟨y, l, HEY⟩ : ∃ (y : Mx) (l : List Pld), Hid (flushM x v = y ∧ flushL x v = l) := ⟨_, _, rfl, rfl⟩
  obtain ⟨m0, m1, m2, mf⟩ := Sp6.three_cells ZX.out
  go_wp2_with fail
  ((with_reducible refine (flushX x y v l _ _ _ _ _ _ _ RX.out HEY.out).mono ?_); rintro e w3 ⟨AM, cm, BM, dm, CM, qm, rfl, hr, hl, hb⟩)
  replace RX := Lib.hid (RX.out.below hb (Nat.le_refl _))
  replace ZX := Lib.hid (ZX.out.below hb (Nat.le_refl _))
  replace B := Lib.hid (B.out.trans (hb.mono B.out.size))
  have z3 := hb.size
  have RM := Lib.hid hr
  have QM := Lib.hid hl
  clear hr hl hb
  clear m0 m1 m2 mf
  have hal : Below w3.heap.size w3 (w3.alloc (.cells #[.int .i64 y.sec, .slice AM y.seen.length cm, .slice BM y.pool.length dm] 26)) := (Below.refl _ _).alloc (Nat.le_refl _) _
  have hzz : Blk (w3.alloc (.cells #[.int .i64 y.sec, .slice AM y.seen.length cm, .slice BM y.pool.length dm] 26)) w3.heap.size #[.int .i64 y.sec, .slice AM y.seen.length cm, .slice BM y.pool.length dm] 26 := heap_alloc_new _ _
  replace RX := Lib.hid (RX.out.below hal (Nat.le_refl _))
  replace ZX := Lib.hid (ZX.out.below hal (Nat.le_refl _))
  replace RM := Lib.hid (RM.out.below hal (Nat.le_refl _))
  replace QM := Lib.hid (QM.out.below hal (Nat.le_refl _))
  replace B := Lib.hid (B.out.trans (hal.mono B.out.size))
  have ZM := Lib.hid hzz
  clear hzz
  clear hal
  have hzM : w3.heap.size < (w3.alloc (.cells #[.int .i64 y.sec, .slice AM y.seen.length cm, .slice BM y.pool.length dm] 26)).heap.size := by simp
  obtain ⟨m0, m1, m2, mf⟩ := Sp6.three_cells ZX.out
  go_wp2_with fail
  ((with_reducible refine (flushS x y v l _ _ _ _ _ _ _ RX.out HEY.out).mono ?_); rintro e w5 ⟨AS, cs, BS, ds, CS, qs, rfl, hr, hl, hb⟩)
  replace RX := Lib.hid (RX.out.below hb (Nat.le_refl _))
  replace ZX := Lib.hid (ZX.out.below hb (Nat.le_refl _))
  replace RM := Lib.hid (RM.out.below hb (Nat.le_refl _))
  replace QM := Lib.hid (QM.out.below hb (Nat.le_refl _))
  replace ZM := Lib.hid (ZM.out.below hb (Nat.le_refl _))
  replace B := Lib.hid (B.out.trans (hb.mono B.out.size))
  have z5 := hb.size
  have RS := Lib.hid hr
  have QS := Lib.hid hl
  clear hr hl hb
  clear m0 m1 m2 mf
  have hal : Below w5.heap.size w5 (w5.alloc (.cells #[.int .i64 y.sec, .slice AS y.seen.length cs, .slice BS y.pool.length ds] 26)) := (Below.refl _ _).alloc (Nat.le_refl _) _
  have hzz : Blk (w5.alloc (.cells #[.int .i64 y.sec, .slice AS y.seen.length cs, .slice BS y.pool.length ds] 26)) w5.heap.size #[.int .i64 y.sec, .slice AS y.seen.length cs, .slice BS y.pool.length ds] 26 := heap_alloc_new _ _
  replace RX := Lib.hid (RX.out.below hal (Nat.le_refl _))
  replace ZX := Lib.hid (ZX.out.below hal (Nat.le_refl _))
  replace RM := Lib.hid (RM.out.below hal (Nat.le_refl _))
  replace QM := Lib.hid (QM.out.below hal (Nat.le_refl _))
  replace ZM := Lib.hid (ZM.out.below hal (Nat.le_refl _))
  replace RS := Lib.hid (RS.out.below hal (Nat.le_refl _))
  replace QS := Lib.hid (QS.out.below hal (Nat.le_refl _))
  replace B := Lib.hid (B.out.trans (hal.mono B.out.size))
  have ZS := Lib.hid hzz
  clear hzz
  clear hal
  have hzS : w5.heap.size < (w5.alloc (.cells #[.int .i64 y.sec, .slice AS y.seen.length cs, .slice BS y.pool.length ds] 26)).heap.size := by simp
  obtain ⟨m0, m1, m2, mf⟩ := Sp6.three_cells ZM.out
  obtain ⟨s0, s1, s2, sf⟩ := Sp6.three_cells ZS.out
  go_wp2_with fail
  ((with_reducible refine (sameMix y _ _ _ _ _ _ _ _ _ _ _ _ _ _ _ RM.out RS.out).mono ?_); rintro e w7 ⟨rfl, hb⟩)
  replace RX := Lib.hid (RX.out.below hb (Nat.le_refl _))
  replace ZX := Lib.hid (ZX.out.below hb (Nat.le_refl _))
  replace RM := Lib.hid (RM.out.below hb (Nat.le_refl _))
  replace QM := Lib.hid (QM.out.below hb (Nat.le_refl _))
  replace ZM := Lib.hid (ZM.out.below hb (Nat.le_refl _))
  replace RS := Lib.hid (RS.out.below hb (Nat.le_refl _))
  replace QS := Lib.hid (QS.out.below hb (Nat.le_refl _))
  replace ZS := Lib.hid (ZS.out.below hb (Nat.le_refl _))
  replace B := Lib.hid (B.out.trans (hb.mono B.out.size))
  have z7 := hb.size
  clear hb
  clear m0 m1 m2 mf s0 s1 s2 sf
  go_wp2_with fail
  ((with_reducible refine (samePoolL QM.out QS.out).mono ?_); rintro e w8 ⟨rfl, hb⟩)
  replace RX := Lib.hid (RX.out.below hb (Nat.le_refl _))
  replace ZX := Lib.hid (ZX.out.below hb (Nat.le_refl _))
  replace RM := Lib.hid (RM.out.below hb (Nat.le_refl _))
  replace QM := Lib.hid (QM.out.below hb (Nat.le_refl _))
  replace ZM := Lib.hid (ZM.out.below hb (Nat.le_refl _))
  replace RS := Lib.hid (RS.out.below hb (Nat.le_refl _))
  replace QS := Lib.hid (QS.out.below hb (Nat.le_refl _))
  replace ZS := Lib.hid (ZS.out.below hb (Nat.le_refl _))
  replace B := Lib.hid (B.out.trans (hb.mono B.out.size))
  have z8 := hb.size
  clear hb
  obtain ⟨m0, m1, m2, mf⟩ := Sp6.three_cells ZX.out
  go_wp2_with fail
  ((with_reducible refine (Sp6.MixValid x _ _ _ _ _ _ _ _ _ RX.out).mono ?_); rintro e w9 ⟨rfl, hb⟩)
  replace RX := Lib.hid (RX.out.below hb (Nat.le_refl _))
  replace ZX := Lib.hid (ZX.out.below hb (Nat.le_refl _))
  replace RM := Lib.hid (RM.out.below hb (Nat.le_refl _))
  replace QM := Lib.hid (QM.out.below hb (Nat.le_refl _))
  replace ZM := Lib.hid (ZM.out.below hb (Nat.le_refl _))
  replace RS := Lib.hid (RS.out.below hb (Nat.le_refl _))
  replace QS := Lib.hid (QS.out.below hb (Nat.le_refl _))
  replace ZS := Lib.hid (ZS.out.below hb (Nat.le_refl _))
  replace B := Lib.hid (B.out.trans (hb.mono B.out.size))
  have z9 := hb.size
  clear hb
  clear m0 m1 m2 mf
  cases hok : mixOk x
  · clear hok
    obtain ⟨m0, m1, m2, mf⟩ := Sp6.three_cells ZM.out
    obtain ⟨s0, s1, s2, sf⟩ := Sp6.three_cells ZS.out
    go_wp2_with fail
    ((with_reducible refine (sameMix y _ _ _ _ _ _ _ _ _ _ _ _ _ _ _ RM.out RS.out).mono ?_); rintro e w10 ⟨rfl, hb⟩)
    replace RX := Lib.hid (RX.out.below hb (Nat.le_refl _))
    replace ZX := Lib.hid (ZX.out.below hb (Nat.le_refl _))
    replace RM := Lib.hid (RM.out.below hb (Nat.le_refl _))
    replace QM := Lib.hid (QM.out.below hb (Nat.le_refl _))
    replace ZM := Lib.hid (ZM.out.below hb (Nat.le_refl _))
    replace RS := Lib.hid (RS.out.below hb (Nat.le_refl _))
    replace QS := Lib.hid (QS.out.below hb (Nat.le_refl _))
    replace ZS := Lib.hid (ZS.out.below hb (Nat.le_refl _))
    replace B := Lib.hid (B.out.trans (hb.mono B.out.size))
    have z10 := hb.size
    clear hb
    clear m0 m1 m2 mf s0 s1 s2 sf
    go_wp2_with fail
    ((with_reducible refine (samePoolL QM.out QS.out).mono ?_); rintro e w11 ⟨rfl, hb⟩)
    replace RX := Lib.hid (RX.out.below hb (Nat.le_refl _))
    replace ZX := Lib.hid (ZX.out.below hb (Nat.le_refl _))
    replace RM := Lib.hid (RM.out.below hb (Nat.le_refl _))
    replace QM := Lib.hid (QM.out.below hb (Nat.le_refl _))
    replace ZM := Lib.hid (ZM.out.below hb (Nat.le_refl _))
    replace RS := Lib.hid (RS.out.below hb (Nat.le_refl _))
    replace QS := Lib.hid (QS.out.below hb (Nat.le_refl _))
    replace ZS := Lib.hid (ZS.out.below hb (Nat.le_refl _))
    replace B := Lib.hid (B.out.trans (hb.mono B.out.size))
    have z11 := hb.size
    clear hb
    go_wp2
    go_ret
    exact ⟨rfl, B.out⟩
  have HOK := Lib.hid hok
  clear hok
  obtain ⟨a, l2, HA2⟩ : ∃ (a : Mx) (l2 : List Pld), Hid (flushM x true = a ∧ flushL x true = l2) := ⟨_, _, rfl, rfl⟩
  have hag : a = ⟨x.sec, x.seen, []⟩ := by have := HA2.out; rw [(flush_all HOK.out).1] at this; exact this.1.symm
  have k1 : ((a.pool.length : Int) == 0) = true := by rw [hag]; rfl
  have k2 : ((a.seen.length : Int) == (x.seen.length : Int)) = true := by rw [hag]; simp
  have k3 : (a.sec == x.sec) = true := by rw [hag]; simp
  clear hag
  obtain ⟨m0, m1, m2, mf⟩ := Sp6.three_cells ZX.out
  go_wp2_with fail
  ((with_reducible refine (flushX x a true l2 _ _ _ _ _ _ _ RX.out HA2.out).mono ?_); rintro e w10 ⟨AU, cu, BU, du, CU, qu, rfl, hr, hl, hb⟩)
  replace RX := Lib.hid (RX.out.below hb (Nat.le_refl _))
  replace ZX := Lib.hid (ZX.out.below hb (Nat.le_refl _))
  replace RM := Lib.hid (RM.out.below hb (Nat.le_refl _))
  replace QM := Lib.hid (QM.out.below hb (Nat.le_refl _))
  replace ZM := Lib.hid (ZM.out.below hb (Nat.le_refl _))
  replace RS := Lib.hid (RS.out.below hb (Nat.le_refl _))
  replace QS := Lib.hid (QS.out.below hb (Nat.le_refl _))
  replace ZS := Lib.hid (ZS.out.below hb (Nat.le_refl _))
  replace B := Lib.hid (B.out.trans (hb.mono B.out.size))
  have z10 := hb.size
  have RU := Lib.hid hr
  clear hr hb
  clear m0 m1 m2 mf
  clear hl
  have hal : Below w10.heap.size w10 (w10.alloc (.cells #[.int .i64 a.sec, .slice AU a.seen.length cu, .slice BU a.pool.length du] 26)) := (Below.refl _ _).alloc (Nat.le_refl _) _
  have hzz : Blk (w10.alloc (.cells #[.int .i64 a.sec, .slice AU a.seen.length cu, .slice BU a.pool.length du] 26)) w10.heap.size #[.int .i64 a.sec, .slice AU a.seen.length cu, .slice BU a.pool.length du] 26 := heap_alloc_new _ _
  replace RX := Lib.hid (RX.out.below hal (Nat.le_refl _))
  replace ZX := Lib.hid (ZX.out.below hal (Nat.le_refl _))
  replace RM := Lib.hid (RM.out.below hal (Nat.le_refl _))
  replace QM := Lib.hid (QM.out.below hal (Nat.le_refl _))
  replace ZM := Lib.hid (ZM.out.below hal (Nat.le_refl _))
  replace RS := Lib.hid (RS.out.below hal (Nat.le_refl _))
  replace QS := Lib.hid (QS.out.below hal (Nat.le_refl _))
  replace ZS := Lib.hid (ZS.out.below hal (Nat.le_refl _))
  replace RU := Lib.hid (RU.out.below hal (Nat.le_refl _))
  replace B := Lib.hid (B.out.trans (hal.mono B.out.size))
  have ZU := Lib.hid hzz
  clear hzz
  clear hal
  have hzU : w10.heap.size < (w10.alloc (.cells #[.int .i64 a.sec, .slice AU a.seen.length cu, .slice BU a.pool.length du] 26)).heap.size := by simp
  obtain ⟨q0, q1, q2, qf⟩ := Sp6.three_cells ZX.out
  obtain ⟨m0, m1, m2, mf⟩ := Sp6.three_cells ZU.out
  go_wp2
  go_ret
  exact ⟨rfl, B.out⟩

end Law6f
end Go.Proofs.Ytbdjclfkajlmdab
