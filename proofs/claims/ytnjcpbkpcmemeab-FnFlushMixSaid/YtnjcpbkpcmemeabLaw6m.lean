/-
  The law of chapter 11 on the order of arrival, by the contracts of the functions that it calls: it returns true and writes nothing that was there.
-/
import Derived.Test.YtnjcpbkpcmemeabLaw6f
namespace Go.Proofs.Ytnjcpbkpcmemeab
open Go.RowKit
namespace Law6m
open Gm Mm Tm Lm Pm Po Pq Il Rd Hlp5 Hlp6 Hlp7 LawB Sl Mm6 Sp6
open Law6f

/-- No two packets of the pool have one element. -/
def Apart (ps : List Pld) : Prop := ∀ i k, k < i → i < ps.length → (pldAt ps k).pk.el ≠ (pldAt ps i).pk.el
theorem pldAt_get {ps : List Pld} {i : Nat} (h : i < ps.length) : pldAt ps i = ps[i] := by
  unfold pldAt
  rw [List.getD_eq_getElem?_getD, List.getElem?_eq_getElem h, Option.getD_some]
theorem apart_eq {ps : List Pld} (h : Apart ps) {a b : Pld} (ha : a ∈ ps) (hb : b ∈ ps) (e : a.pk.el = b.pk.el) : a = b := by
  obtain ⟨i, hi, rfl⟩ := List.getElem_of_mem ha
  obtain ⟨k, hk, rfl⟩ := List.getElem_of_mem hb
  rcases Nat.lt_trichotomy i k with hlt | rfl | hlt
  · exact absurd (by rw [pldAt_get hi, pldAt_get hk]; exact e) (h k i hlt hk)
  · rfl
  · exact absurd (by rw [pldAt_get hi, pldAt_get hk]; exact e.symm) (h i k hlt hi)
theorem sort_rev {ps : List Pld} (h : Apart ps) : sortP ps.reverse = sortP ps := by
  refine List.Perm.eq_of_pairwise (fun a b ha hb h1 h2 => ?_) (sortP_sorted _) (sortP_sorted _) ((sortP_perm _).trans ((List.reverse_perm ps).trans (sortP_perm ps).symm))
  have ha2 : a ∈ ps := List.mem_reverse.1 ((sortP_perm _).mem_iff.1 ha)
  have hb2 : b ∈ ps := (sortP_perm _).mem_iff.1 hb
  refine apart_eq h ha2 hb2 ?_
  unfold Lt at h1 h2
  omega
theorem rev_ok {x : Mx} (h : mixOk x = true) : mixOk ⟨x.sec, x.seen, x.pool.reverse⟩ = true := by
  obtain ⟨m1, m2, m3, m4, m5⟩ := mixOk_iff.1 h
  refine mixOk_iff.2 ⟨m1, m2, m3, ?_, by simpa using m5⟩
  unfold poolOk at *
  rw [List.all_reverse]
  exact m4
theorem flush_rev {x : Mx} (h : mixOk x = true) (ha : Apart x.pool) (v : Bool) : flushL ⟨x.sec, x.seen, x.pool.reverse⟩ v = flushL x v := by
  unfold flushL
  rw [rev_ok h, h]
  simp only [List.length_reverse, sort_rev ha]
/-- The mix with the pool turned, while it is made. -/
def FmR (wc wr : World) (bW n i i2 : Nat) (s : Int) (A : Option Addr) (ns cs : Nat) (ss : List Slot) (ps : List Pld) : Prop :=
  ∃ g B c, Blk wr bW #[.int .i64 s, .slice A ns cs, .slice B (n - i) c] 26 ∧ Dest 42 6 g wr (.slice B (n - i) c) (n - i) ((ss.drop i).reverse.flatMap Slot.cells) ∧ (∀ q, g = some q → q ≠ bW ∧ wc.heap.size ≤ q) ∧ Below wc.heap.size wc wr ∧ (∀ j k, i2 ≤ j → k < j → j < n → (pldAt ps k).pk.el ≠ (pldAt ps j).pk.el)
theorem FmR.below {wc wr w' : World} {bW n i i2 : Nat} {s : Int} {A : Option Addr} {ns cs : Nat} {ss : List Slot} {ps : List Pld} (h : FmR wc wr bW n i i2 s A ns cs ss ps) (hB : Below wr.heap.size wr w') : FmR wc w' bW n i i2 s A ns cs ss ps := by
  obtain ⟨g, B, c, h1, h2, h3, h4, h5⟩ := h
  exact ⟨g, B, c, h1.below hB (Nat.le_refl _), dest_keep h2 (fun y e => hB.block y (dest_lt h2 y e)), h3, h4.trans (hB.mono h4.size), h5⟩
theorem drop_rev {ss : List Slot} {m : Nat} {s : Slot} (h : ss[m]? = some s) : (ss.drop m).reverse = (ss.drop (m + 1)).reverse ++ [s] := by
  have hl := (List.getElem?_eq_some_iff.1 h).1
  rw [List.drop_eq_getElem_cons hl, List.reverse_cons]
  rw [List.getElem?_eq_getElem hl] at h
  simp only [Option.some.injEq] at h
  rw [h]

theorem dest_row {e : TypeId} {sz n c : Nat} {g : Option Nat} {w : World} {B : Option Addr} {vs : List Value} (h : Dest e sz g w (.slice B n c) n vs) : Row 0 w.heap.size w B n c sz vs := by
  rcases h with ⟨rfl, rfl, rfl, A, e⟩ | ⟨k, rfl, ha⟩
  · simp only [Value.slice.injEq, true_and] at e
    obtain ⟨rfl, rfl⟩ := e
    exact Row.nil_ (Nat.zero_le _)
  · obtain ⟨cap, e, hr⟩ := ha.row
    simp only [Value.slice.injEq, true_and] at e
    obtain ⟨rfl, rfl⟩ := e
    exact hr.1.top (Nat.zero_le _)
theorem flushE (s : Int) (seen : List Int) (pool : List Pld) (a : Mx) (all : Bool) (l : List Pld) (A B : Option Addr) (n m c d lo hi : Nat) (w : World) (i1 : Ints lo hi w A n c seen) (i2 : Pool lo hi w B m d pool) (h : flushM ⟨s, seen, pool⟩ all = a ∧ flushL ⟨s, seen, pool⟩ all = l) :
    Calls Try.prog 10 #[.agg #[.int .i64 s, .slice A n c, .slice B m d], .bool all] w (FlushB a l w) := by
  obtain rfl : seen.length = n := i1.1
  obtain rfl : pool.length = m := i2.len_
  exact flushX ⟨s, seen, pool⟩ a all l A B c d lo hi w ⟨i1, i2⟩ h

set_option maxRecDepth 20000 in
set_option maxHeartbeats 2000000 in
theorem fnFlushMix (A : Option Addr) (n c : Nat) (w : World) (h : CodeIs w A n c) :
    Calls Try.prog 8 #[.slice A n c] w (TruePost w) := by
  have HC := Lib.hid h
  clear h
  by_cases hn : 1048576 < n
  · go_enter Try.func8, Try.ntmps8
    go_wp2
    go_ret
    exact ⟨rfl, Below.refl _ _⟩
  have B : Hid (Below w.heap.size w w) := Below.refl _ _
  go_enter Try.func8, Try.ntmps8
  have hq : n ≤ 1048576 := by omega
  go_wp2_with fail
  ((with_reducible refine (DrawMixFlush _ _ _ _ HC.out).mono ?_); rintro e w1 ⟨x, AX, cx, BX, dx, v, rfl, ⟨hr, hsec, hsn, hpn, hpl, hb⟩⟩)
  replace B := Lib.hid (B.out.trans (hb.mono B.out.size))
  have z1 := hb.size
  have RX := Lib.hid hr
  clear hr hb
  have HSN := Lib.hid hsn
  have HPN := Lib.hid hpn
  clear hsec hsn hpn hpl
  have hal : Below w1.heap.size w1 (w1.alloc (.cells #[.int .i64 x.sec, .slice AX x.seen.length cx, .slice BX x.pool.length dx] 26)) := (Below.refl _ _).alloc (Nat.le_refl _) _
  have hzz : Blk (w1.alloc (.cells #[.int .i64 x.sec, .slice AX x.seen.length cx, .slice BX x.pool.length dx] 26)) w1.heap.size #[.int .i64 x.sec, .slice AX x.seen.length cx, .slice BX x.pool.length dx] 26 := heap_alloc_new _ _
  replace RX := Lib.hid (RX.out.below hal (Nat.le_refl _))
  replace B := Lib.hid (B.out.trans (hal.mono B.out.size))
  have ZX := Lib.hid hzz
  clear hzz
  clear hal
  have hzX : w1.heap.size < (w1.alloc (.cells #[.int .i64 x.sec, .slice AX x.seen.length cx, .slice BX x.pool.length dx] 26)).heap.size := by simp
  obtain ⟨y, l, HEY⟩ : ∃ (y : Mx) (l : List Pld), Hid (flushM x v = y ∧ flushL x v = l) := ⟨_, _, rfl, rfl⟩
  obtain ⟨m0, m1, m2, mf⟩ := Sp6.three_cells ZX.out
  go_wp2_with fail
  ((with_reducible refine (flushX x y v l _ _ _ _ _ _ _ RX.out HEY.out).mono ?_); rintro e w3 ⟨AM, cm, BM, dm, CM, qm, rfl, hr, hl, hb⟩)
  replace RX := Lib.hid (RX.out.below hb (Nat.le_refl _))
  replace ZX := Lib.hid (ZX.out.below hb (Nat.le_refl _))
  replace B := Lib.hid (B.out.trans (hb.mono B.out.size))
  have z3 := hb.size
  have RM := Lib.hid hr
  have QM := Lib.hid hl
  clear hr hl hb
  clear m0 m1 m2 mf
  have hal : Below w3.heap.size w3 (w3.alloc (.cells #[.int .i64 y.sec, .slice AM y.seen.length cm, .slice BM y.pool.length dm] 26)) := (Below.refl _ _).alloc (Nat.le_refl _) _
  have hzz : Blk (w3.alloc (.cells #[.int .i64 y.sec, .slice AM y.seen.length cm, .slice BM y.pool.length dm] 26)) w3.heap.size #[.int .i64 y.sec, .slice AM y.seen.length cm, .slice BM y.pool.length dm] 26 := heap_alloc_new _ _
  replace RX := Lib.hid (RX.out.below hal (Nat.le_refl _))
  replace ZX := Lib.hid (ZX.out.below hal (Nat.le_refl _))
  replace RM := Lib.hid (RM.out.below hal (Nat.le_refl _))
  replace QM := Lib.hid (QM.out.below hal (Nat.le_refl _))
  replace B := Lib.hid (B.out.trans (hal.mono B.out.size))
  have ZM := Lib.hid hzz
  clear hzz
  clear hal
  have hzM : w3.heap.size < (w3.alloc (.cells #[.int .i64 y.sec, .slice AM y.seen.length cm, .slice BM y.pool.length dm] 26)).heap.size := by simp
  obtain ⟨m0, m1, m2, mf⟩ := Sp6.three_cells ZX.out
  go_wp2_with fail
  ((with_reducible refine (flushS x y v l _ _ _ _ _ _ _ RX.out HEY.out).mono ?_); rintro e w5 ⟨AS, cs, BS, ds, CS, qs, rfl, hr, hl, hb⟩)
  replace RX := Lib.hid (RX.out.below hb (Nat.le_refl _))
  replace ZX := Lib.hid (ZX.out.below hb (Nat.le_refl _))
  replace RM := Lib.hid (RM.out.below hb (Nat.le_refl _))
  replace QM := Lib.hid (QM.out.below hb (Nat.le_refl _))
  replace ZM := Lib.hid (ZM.out.below hb (Nat.le_refl _))
  replace B := Lib.hid (B.out.trans (hb.mono B.out.size))
  have z5 := hb.size
  have RS := Lib.hid hr
  have QS := Lib.hid hl
  clear hr hl hb
  clear m0 m1 m2 mf
  have hal : Below w5.heap.size w5 (w5.alloc (.cells #[.int .i64 y.sec, .slice AS y.seen.length cs, .slice BS y.pool.length ds] 26)) := (Below.refl _ _).alloc (Nat.le_refl _) _
  have hzz : Blk (w5.alloc (.cells #[.int .i64 y.sec, .slice AS y.seen.length cs, .slice BS y.pool.length ds] 26)) w5.heap.size #[.int .i64 y.sec, .slice AS y.seen.length cs, .slice BS y.pool.length ds] 26 := heap_alloc_new _ _
  replace RX := Lib.hid (RX.out.below hal (Nat.le_refl _))
  replace ZX := Lib.hid (ZX.out.below hal (Nat.le_refl _))
  replace RM := Lib.hid (RM.out.below hal (Nat.le_refl _))
  replace QM := Lib.hid (QM.out.below hal (Nat.le_refl _))
  replace ZM := Lib.hid (ZM.out.below hal (Nat.le_refl _))
  replace RS := Lib.hid (RS.out.below hal (Nat.le_refl _))
  replace QS := Lib.hid (QS.out.below hal (Nat.le_refl _))
  replace B := Lib.hid (B.out.trans (hal.mono B.out.size))
  have ZS := Lib.hid hzz
  clear hzz
  clear hal
  have hzS : w5.heap.size < (w5.alloc (.cells #[.int .i64 y.sec, .slice AS y.seen.length cs, .slice BS y.pool.length ds] 26)).heap.size := by simp
  obtain ⟨m0, m1, m2, mf⟩ := Sp6.three_cells ZM.out
  obtain ⟨s0, s1, s2, sf⟩ := Sp6.three_cells ZS.out
  go_wp2_with fail
  ((with_reducible refine (sameMix y _ _ _ _ _ _ _ _ _ _ _ _ _ _ _ RM.out RS.out).mono ?_); rintro e w7 ⟨rfl, hb⟩)
  replace RX := Lib.hid (RX.out.below hb (Nat.le_refl _))
  replace ZX := Lib.hid (ZX.out.below hb (Nat.le_refl _))
  replace RM := Lib.hid (RM.out.below hb (Nat.le_refl _))
  replace QM := Lib.hid (QM.out.below hb (Nat.le_refl _))
  replace ZM := Lib.hid (ZM.out.below hb (Nat.le_refl _))
  replace RS := Lib.hid (RS.out.below hb (Nat.le_refl _))
  replace QS := Lib.hid (QS.out.below hb (Nat.le_refl _))
  replace ZS := Lib.hid (ZS.out.below hb (Nat.le_refl _))
  replace B := Lib.hid (B.out.trans (hb.mono B.out.size))
  have z7 := hb.size
  clear hb
  clear m0 m1 m2 mf s0 s1 s2 sf
  go_wp2_with fail
  ((with_reducible refine (samePoolL QM.out QS.out).mono ?_); rintro e w8 ⟨rfl, hb⟩)
  replace RX := Lib.hid (RX.out.below hb (Nat.le_refl _))
  replace ZX := Lib.hid (ZX.out.below hb (Nat.le_refl _))
  replace RM := Lib.hid (RM.out.below hb (Nat.le_refl _))
  replace QM := Lib.hid (QM.out.below hb (Nat.le_refl _))
  replace ZM := Lib.hid (ZM.out.below hb (Nat.le_refl _))
  replace RS := Lib.hid (RS.out.below hb (Nat.le_refl _))
  replace QS := Lib.hid (QS.out.below hb (Nat.le_refl _))
  replace ZS := Lib.hid (ZS.out.below hb (Nat.le_refl _))
  replace B := Lib.hid (B.out.trans (hb.mono B.out.size))
  have z8 := hb.size
  clear hb
  obtain ⟨m0, m1, m2, mf⟩ := Sp6.three_cells ZX.out
  go_wp2_with fail
  ((with_reducible refine (Sp6.MixValid x _ _ _ _ _ _ _ _ _ RX.out).mono ?_); rintro e w9 ⟨rfl, hb⟩)
  replace RX := Lib.hid (RX.out.below hb (Nat.le_refl _))
  replace ZX := Lib.hid (ZX.out.below hb (Nat.le_refl _))
  replace RM := Lib.hid (RM.out.below hb (Nat.le_refl _))
  replace QM := Lib.hid (QM.out.below hb (Nat.le_refl _))
  replace ZM := Lib.hid (ZM.out.below hb (Nat.le_refl _))
  replace RS := Lib.hid (RS.out.below hb (Nat.le_refl _))
  replace QS := Lib.hid (QS.out.below hb (Nat.le_refl _))
  replace ZS := Lib.hid (ZS.out.below hb (Nat.le_refl _))
  replace B := Lib.hid (B.out.trans (hb.mono B.out.size))
  have z9 := hb.size
  clear hb
  clear m0 m1 m2 mf
  cases hok : mixOk x
  · clear hok
    obtain ⟨m0, m1, m2, mf⟩ := Sp6.three_cells ZM.out
    obtain ⟨s0, s1, s2, sf⟩ := Sp6.three_cells ZS.out
    go_wp2_with fail
    ((with_reducible refine (sameMix y _ _ _ _ _ _ _ _ _ _ _ _ _ _ _ RM.out RS.out).mono ?_); rintro e w10 ⟨rfl, hb⟩)
    replace RX := Lib.hid (RX.out.below hb (Nat.le_refl _))
    replace ZX := Lib.hid (ZX.out.below hb (Nat.le_refl _))
    replace RM := Lib.hid (RM.out.below hb (Nat.le_refl _))
    replace QM := Lib.hid (QM.out.below hb (Nat.le_refl _))
    replace ZM := Lib.hid (ZM.out.below hb (Nat.le_refl _))
    replace RS := Lib.hid (RS.out.below hb (Nat.le_refl _))
    replace QS := Lib.hid (QS.out.below hb (Nat.le_refl _))
    replace ZS := Lib.hid (ZS.out.below hb (Nat.le_refl _))
    replace B := Lib.hid (B.out.trans (hb.mono B.out.size))
    have z10 := hb.size
    clear hb
    clear m0 m1 m2 mf s0 s1 s2 sf
    go_wp2_with fail
    ((with_reducible refine (samePoolL QM.out QS.out).mono ?_); rintro e w11 ⟨rfl, hb⟩)
    replace RX := Lib.hid (RX.out.below hb (Nat.le_refl _))
    replace ZX := Lib.hid (ZX.out.below hb (Nat.le_refl _))
    replace RM := Lib.hid (RM.out.below hb (Nat.le_refl _))
    replace QM := Lib.hid (QM.out.below hb (Nat.le_refl _))
    replace ZM := Lib.hid (ZM.out.below hb (Nat.le_refl _))
    replace RS := Lib.hid (RS.out.below hb (Nat.le_refl _))
    replace QS := Lib.hid (QS.out.below hb (Nat.le_refl _))
    replace ZS := Lib.hid (ZS.out.below hb (Nat.le_refl _))
    replace B := Lib.hid (B.out.trans (hb.mono B.out.size))
    have z11 := hb.size
    clear hb
    go_wp2
    go_ret
    exact ⟨rfl, B.out⟩
  have HOK := Lib.hid hok
  clear hok
  have hp5 := HPN.out
  obtain ⟨ss, hsp, hrow, hsl⟩ := RX.out.pl.top (lo' := 0) (Nat.zero_le _)
  have HSP := Lib.hid hsp
  have HROW := Lib.hid hrow
  have HSL := Lib.hid hsl
  clear hsp hrow hsl
  obtain ⟨q0, q1, q2, qf⟩ := Sp6.three_cells ZX.out
  have hXlt := blk_lt ZX.out
  have hal : Below w9.heap.size w9 (w9.alloc (.cells #[.int .i64 x.sec, .slice AX x.seen.length cx, .slice BX x.pool.length dx] 26)) := (Below.refl _ _).alloc (Nat.le_refl _) _
  go_upto_region 8 with (fail)
  clear q0 q1 q2 qf hal
  generalize w9 = wc at *
  obtain ⟨q0, q1, q2, qf⟩ := Sp6.three_cells ZX.out
  have hssl := Sp6.row_len HROW.out
  go_upto_region 10 with (fail)
  obtain ⟨hz1, _, hs1, hbb⟩ := Sp6.two_blocks wc #[.int .i64 x.sec, .slice AX x.seen.length cx, .slice (some ⟨wc.heap.size + 1, 0, none⟩) 0 0] #[] 26 42
  have hF : FmR wc ((wc.alloc (.cells #[.int .i64 x.sec, .slice AX x.seen.length cx, .slice (some ⟨wc.heap.size + 1, 0, none⟩) 0 0] 26)).alloc (.cells #[] 42)) wc.heap.size x.pool.length x.pool.length x.pool.length x.sec AX x.seen.length cx ss x.pool := by
    refine ⟨some (wc.heap.size + 1), some ⟨wc.heap.size + 1, 0, none⟩, 0, ?_, .inr ⟨wc.heap.size + 1, rfl, ?_⟩, fun q e => ?_, hbb, fun j k h1 _ h3 => absurd h3 (by omega)⟩
    · rw [Nat.sub_self]; exact hz1
    · rw [Nat.sub_self, List.drop_of_length_le (by omega)]
      have ha := accV_new (wc.alloc (.cells #[.int .i64 x.sec, .slice AX x.seen.length cx, .slice (some ⟨wc.heap.size + 1, 0, none⟩) 0 0] 26)) 42 6
      rw [show (wc.alloc (.cells #[.int .i64 x.sec, .slice AX x.seen.length cx, .slice (some ⟨wc.heap.size + 1, 0, none⟩) 0 0] 26)).heap.size = wc.heap.size + 1 by simp] at ha
      exact ha
    · simp only [Option.some.injEq] at e; omega
  have HF := Lib.hid hF
  have HSSL := Lib.hid hssl
  have HXL := Lib.hid hXlt
  have zx2 : Blk ((wc.alloc (.cells #[.int .i64 x.sec, .slice AX x.seen.length cx, .slice (some ⟨wc.heap.size + 1, 0, none⟩) 0 0] 26)).alloc (.cells #[] 42)) _ _ _ := ZX.out.below hbb (Nat.le_refl _)
  clear hz1 hF hssl hbb
  generalize ((wc.alloc (.cells #[.int .i64 x.sec, .slice AX x.seen.length cx, .slice (some ⟨wc.heap.size + 1, 0, none⟩) 0 0] 26)).alloc (.cells #[] 42)) = w2 at HF zx2 ⊢
  clear q0 q1 q2 qf hs1
  obtain ⟨q0, q1, q2, qf⟩ := Sp6.three_cells zx2
  clear q0 q1 qf zx2
  go_wp2
  go_loopw [10] (fun v wr => ∃ i : Nat, i ≤ x.pool.length ∧ v = .int .i64 ((i : Int) - 1) ∧ Hid (FmR wc wr wc.heap.size x.pool.length i i x.sec AX x.seen.length cx ss x.pool)) (fun v _ => (intOf v + 1).toNat)
  case atStart => exact ⟨x.pool.length, Nat.le_refl _, rfl, HF.out⟩
  case round =>
    clear HF q2
    obtain ⟨i, hi, rfl, hF⟩ := hrel
    obtain ⟨g, BW, cW, hbw, hdw, hgw, hBw, hap⟩ := hF.out
    obtain ⟨b0, b1, b2, bf⟩ := Sp6.three_cells hbw
    obtain ⟨x0, x1, x2, xf⟩ := Sp6.three_cells (ZX.out.below hBw (Nat.le_refl _))
    clear x0 x1 xf
    by_cases hi0 : i = 0
    case pos =>
      subst hi0
      rw [Nat.sub_zero] at hdw b2
      have hrow := dest_row hdw
      have hapart : Apart x.pool := fun i k h1 h2 => hap i k (Nat.zero_le _) h1 h2
      have HP : Hid (Pool 0 wr.heap.size wr BW x.pool.length cW x.pool.reverse) := ⟨(ss.drop 0).reverse, by rw [List.map_reverse, List.drop_zero, HSP.out], hrow, fun s hs => by
        have hm := HSL.out s (List.mem_of_mem_drop (List.mem_reverse.1 hs))
        exact ⟨ints_top' (hm.1.below hBw (Nat.le_refl _)) (Nat.zero_le _), ints_top' (hm.2.below hBw (Nat.le_refl _)) (Nat.zero_le _)⟩⟩
      have HI : Hid (Ints 0 wr.heap.size wr AX x.seen.length cx x.seen) := ints_top' (RX.out.keys.below hBw (Nat.le_refl _)) (Nat.zero_le _)
      obtain ⟨a, HFA⟩ : ∃ a : Mx, Hid (flushM ⟨x.sec, x.seen, x.pool.reverse⟩ v = a ∧ flushL ⟨x.sec, x.seen, x.pool.reverse⟩ v = l) := ⟨_, rfl, (flush_rev HOK.out hapart v).trans HEY.out.2⟩
      have HBW := Lib.hid hBw
      clear hbw hdw hgw hBw hap hF hrow hapart x2
      go_wp2_with fail
      ((with_reducible refine (flushE x.sec x.seen x.pool.reverse a v l _ _ _ _ _ _ _ _ _ HI.out HP.out HFA.out).mono ?_); rintro e w9 ⟨AU, cu, BU, du, CU, qu, rfl, hr, hl, hb⟩)
      have hal : Below w9.heap.size w9 (w9.alloc (.cells #[.int .i64 a.sec, .slice AU a.seen.length cu, .slice BU a.pool.length du] 26)) := (Below.refl _ _).alloc (Nat.le_refl _) _
      have HB9 := Lib.hid ((HBW.out.trans (hb.mono HBW.out.size)).trans (hal.mono (Nat.le_trans HBW.out.size hb.size)))
      have QU := Lib.hid (hl.below hal (Nat.le_refl _))
      have QV := Lib.hid (QM.out.below HB9.out (Nat.le_refl _))
      clear hr hl hb hal b0 b1 b2 bf HI HP HBW
      go_wp2_with fail
      ((with_reducible refine (samePoolL QU.out QV.out).mono ?_); rintro e w10 ⟨rfl, hb⟩)
      have HB10 := Lib.hid (HB9.out.trans (hb.mono HB9.out.size))
      clear hb
      go_wp2
      go_ret
      exact ⟨rfl, B.out.trans (HB10.out.mono B.out.size)⟩
    obtain ⟨m, rfl⟩ : ∃ m, i = m + 1 := ⟨i - 1, by omega⟩
    have hrow := HROW.out.below hBw (Nat.le_refl _)
    obtain ⟨bp, op, s, rfl, _, _, hsm, c0, c1, c2, c3, c4, c5⟩ := Sp6.row_at hrow (k := m) (by omega)
    have hbplt := cell_lt c0
    have hbwlt : wc.heap.size < wr.heap.size := cell_lt b0
    have hal : Below wr.heap.size wr (wr.alloc (.cells #[.int .i64 s.p.kind, .int .i64 s.p.next, .int .i64 s.p.pk.el, .slice s.A s.p.pk.hd.length s.c, .int .i64 s.p.pk.tag, .slice s.B s.p.pk.bd.length s.d] 42)) := (Below.refl _ _).alloc (Nat.le_refl _) _
    have HD : Hid (Dest 42 6 g (wr.alloc (.cells #[.int .i64 s.p.kind, .int .i64 s.p.next, .int .i64 s.p.pk.el, .slice s.A s.p.pk.hd.length s.c, .int .i64 s.p.pk.tag, .slice s.B s.p.pk.bd.length s.d] 42)).drew (.slice BW (x.pool.length - (m + 1)) cW) (x.pool.length - (m + 1)) ((ss.drop (m + 1)).reverse.flatMap Slot.cells)) := dest_keep hdw (fun y e => hal.block y (dest_lt hdw y e))
    have HRW : Hid (Row wr.heap.size (wr.heap.size + 1) (wr.alloc (.cells #[.int .i64 s.p.kind, .int .i64 s.p.next, .int .i64 s.p.pk.el, .slice s.A s.p.pk.hd.length s.c, .int .i64 s.p.pk.tag, .slice s.B s.p.pk.bd.length s.d] 42)).drew (some ⟨wr.heap.size, 0, none⟩) 1 1 6 s.cells) := row_lit wr 42 s.cells rfl
    have HAL : Hid (Below wr.heap.size wr (wr.alloc (.cells #[.int .i64 s.p.kind, .int .i64 s.p.next, .int .i64 s.p.pk.el, .slice s.A s.p.pk.hd.length s.c, .int .i64 s.p.pk.tag, .slice s.B s.p.pk.bd.length s.d] 42)).drew) := ⟨hal.os, hal.tape, hal.output, hal.size, hal.block⟩
    have HBK : Hid (Blk (wr.alloc (.cells #[.int .i64 s.p.kind, .int .i64 s.p.next, .int .i64 s.p.pk.el, .slice s.A s.p.pk.hd.length s.c, .int .i64 s.p.pk.tag, .slice s.B s.p.pk.bd.length s.d] 42)).drew wc.heap.size #[.int .i64 x.sec, .slice AX x.seen.length cx, .slice BW (x.pool.length - (m + 1)) cW] 26) := hbw.below HAL.out (Nat.le_refl _)
    have HGW := Lib.hid hgw
    have HBW := Lib.hid hBw
    have HAP := Lib.hid hap
    have HSM := Lib.hid hsm
    have hlm : (0 : Int) ≤ (m : Int) := by omega
    have hlm2 : (m : Int) < (x.pool.length : Int) := by omega
    clear hbw hdw hgw hBw hap hF hrow hsm hal
    go_upto_region 13 with (fail)
    go_wp2_with fail
    go_region_law (first | (refine step_appD elPld g _ _ _ _ HD.out _ _ _ _ _ _ HRW.out (cells_one s) (by omega) (.tmp 69) (.tmp 75) rfl rfl (by go_simp) (by go_simp) ?_; intro g1 v1 w3 hd1 hg1 hgr1; have hz1 : Blk w3 wc.heap.size #[.int .i64 x.sec, .slice AX x.seen.length cx, .slice BW (x.pool.length - (m + 1)) cW] 26 := (hgr1.block _ (blk_lt HBK.out) (fun e => (HGW.out _ e.symm).1 rfl)).trans HBK.out; obtain ⟨y0, y1, y2, yf⟩ := Sp6.three_cells hz1; obtain ⟨A1, k1, rfl, _, _, _⟩ := Im6.dest_form hd1) | fail)
    all_goals
      have hnm : x.pool.length - m = x.pool.length - (m + 1) + 1 := by omega
      have hg2 : ∀ q, g1 = some q → q ≠ wc.heap.size ∧ wc.heap.size ≤ q := fun q e => by
        rcases hg1 with rfl | ⟨y, rfl, hy⟩
        · exact HGW.out q e
        · have := HAL.out.size
          simp only [Option.some.injEq] at e
          subst e
          omega
      have HF3 : Hid (FmR wc (w3.setCell ⟨wc.heap.size, 2, none⟩ (.slice A1 (x.pool.length - (m + 1) + 1) k1)) wc.heap.size x.pool.length m (m + 1) x.sec AX x.seen.length cx ss x.pool) := by
        refine ⟨g1, A1, k1, ?_, ?_, hg2, ?_, HAP.out⟩
        · rw [hnm]; exact Sp6.blk3_set2 hz1
        · rw [hnm, drop_rev HSM.out, List.flatMap_append, List.flatMap_singleton]
          exact dest_keep hd1 (fun y e => Below.heap_setCell _ _ _ _ (hg2 y e).1)
        · refine ((HBW.out.trans ?_).setCell (p := ⟨wc.heap.size, 2, none⟩) (Nat.le_refl _) _)
          refine ⟨hgr1.os.trans HAL.out.os, hgr1.tape.trans HAL.out.tape, hgr1.output.trans HAL.out.output, by have := hgr1.size; have := HAL.out.size; omega, fun z hz => ?_⟩
          have hb9 := HBW.out.size
          exact (hgr1.block z (by have := HAL.out.size; omega) (fun e => by have := HGW.out _ e.symm; omega)).trans (HAL.out.block z (by omega))
      clear y0 y1 y2 yf hz1 hd1 hg1 hgr1 hg2 hnm HD HRW HAL HBK HGW HBW HAP HSM b0 b1 b2 bf c0 c1 c2 c3 c4 c5 x2 hbplt hbwlt
      go_upto_region 15 with (fail)
      generalize w3.setCell ⟨wc.heap.size, 2, none⟩ (.slice A1 (x.pool.length - (m + 1) + 1) k1) = w4 at *
      go_wp2
      go_loopw [11] (fun k wr => ∃ j : Nat, j ≤ m ∧ k = .int .i64 j ∧ Hid (FmR wc wr wc.heap.size x.pool.length m (m + 1) x.sec AX x.seen.length cx ss x.pool ∧ ∀ z, z < j → (pldAt x.pool z).pk.el ≠ (pldAt x.pool m).pk.el)) (fun k _ => m - (intOf k).toNat)
      case atStart => exact ⟨0, Nat.zero_le _, rfl, HF3.out, fun z h => absurd h (Nat.not_lt_zero _)⟩
      case round =>
        clear HF3
        obtain ⟨j, hj, rfl, hG⟩ := hrel
        by_cases hjm : j < m
        case neg =>
          obtain rfl : j = m := by omega
          have HN : Hid (FmR wc wr wc.heap.size x.pool.length j j x.sec AX x.seen.length cx ss x.pool) := by
            obtain ⟨g2, B2, c2, r1, r2, r3, r4, r5⟩ := hG.out.1
            refine ⟨g2, B2, c2, r1, r2, r3, r4, fun z k h1 h2 h3 => ?_⟩
            by_cases e : z = j
            · subst e; exact hG.out.2 k h2
            · exact r5 z k (by omega) h2 h3
          clear hG
          go_wp2
          go_roundw
          case rel => exact ⟨j, by omega, by go_num, HN.out⟩
          case measure => simp [intOf]
        have hb4 : Below wc.heap.size wc wr := by
          obtain ⟨g2, B2, c2, r1, r2, r3, r4, r5⟩ := hG.out.1
          exact r4
        obtain ⟨x0, x1, x2, xf⟩ := Sp6.three_cells (ZX.out.below hb4 (Nat.le_refl _))
        obtain ⟨b5, o5, _, _, _, _, ee, _, _, _, _, p2, _⟩ := (RX.out.pl.below hb4 (Nat.le_refl _)).at_ (k := j) (by omega)
        simp only [Option.some.injEq, Addr.mk.injEq, and_true] at ee
        obtain ⟨rfl, rfl⟩ := ee
        obtain ⟨b6, o6, _, _, _, _, ee, _, _, _, _, q2, _⟩ := (RX.out.pl.below hb4 (Nat.le_refl _)).at_ (k := m) (by omega)
        simp only [Option.some.injEq, Addr.mk.injEq, and_true] at ee
        obtain ⟨rfl, rfl⟩ := ee
        have HB4 := Lib.hid hb4
        have hj1 : (0 : Int) ≤ (j : Int) := by omega
        have hj2 : (j : Int) < (x.pool.length : Int) := by omega
        clear x0 x1 xf hb4
        by_cases he : (pldAt x.pool j).pk.el = (pldAt x.pool m).pk.el
        · have e0 : ((pldAt x.pool j).pk.el == (pldAt x.pool m).pk.el) = true := by simpa using he
          clear he hG
          generalize (pldAt x.pool j).pk.el = u at *
          generalize (pldAt x.pool m).pk.el = u2 at *
          go_wp2_with fail
          go_quiet (fail)
          go_wp2
          go_ret
          exact ⟨rfl, B.out.trans ((below_dr HB4.out _).mono B.out.size)⟩
        · have e0 : ((pldAt x.pool j).pk.el == (pldAt x.pool m).pk.el) = false := by simpa using he
          have HN : Hid (∀ k, FmR wc (wr.drewN k) wc.heap.size x.pool.length m (m + 1) x.sec AX x.seen.length cx ss x.pool ∧ ∀ z, z < j + 1 → (pldAt x.pool z).pk.el ≠ (pldAt x.pool m).pk.el) := fun k => ⟨hG.out.1.below (below_dr (Below.refl _ _) k), fun z hz => by
            by_cases e : z = j
            · subst e; exact he
            · exact hG.out.2 z (by omega)⟩
          clear he hG
          obtain ⟨u, hu⟩ : ∃ u, (pldAt x.pool j).pk.el = u := ⟨_, rfl⟩
          obtain ⟨u2, hu2⟩ : ∃ u, (pldAt x.pool m).pk.el = u := ⟨_, rfl⟩
          rw [hu] at e0 p2
          rw [hu2] at e0 q2
          clear hu hu2
          go_wp2_with fail
          go_quiet (fail)
          go_wp2
          go_roundw
          case rel => exact ⟨j + 1, by omega, by go_num, HN.out _⟩
          case measure => simp [intOf]; omega

end Law6m
end Go.Proofs.Ytnjcpbkpcmemeab
