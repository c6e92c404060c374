/-
  Contracts of the laws' helpers on counts of links: sizes, copies, equality, marks.
-/
import Derived.Test.YtbhafchdcofceaaLa
import Derived.Test.YtbhafchdcofceaaQc
import Derived.Test.YtbhafchdcofceaaSp7a
import Derived.StillTailTactics
import Derived.Laws.StructEq
import Derived.Laws.ResultCell
namespace Go.Proofs.Ytbhafchdcofceaa
open Go.RowKit
namespace Hc
open Il Sl Lc Sp7

theorem sz_yes (A : Option Addr) (n c : Nat) (w : World) (h : n ≤ 1048576) :
    Calls Try.prog 17 #[.slice A n c, .int .i64 1048576] w fun e w' => e = .returned (.int .i64 (1048576 - (n : Int))) ∧ w = w' := by
  have e0 : decide (1048576 - (n : Int) < 0) = false := by simp; omega
  go_enter Try.func17, Try.ntmps17
  go_wp2
  go_ret
  exact ⟨rfl, rfl⟩
theorem sz_no (A : Option Addr) (n c : Nat) (w : World) (hc : c ≤ 9223372036854775807) (hn : n ≤ c) (h : 1048576 < n) :
    Calls Try.prog 17 #[.slice A n c, .int .i64 1048576] w fun e w' => e = .returned (.int .i64 (-1)) ∧ w = w' := by
  have e0 : decide (1048576 - (n : Int) < 0) = true := by simp; omega
  go_enter Try.func17, Try.ntmps17
  go_wp2
  go_ret
  exact ⟨rfl, rfl⟩

theorem results_cell1' {fn : Func} {p : Tmp} {t : TypeId} (h : fn.results = #[.cell p t]) (tmps : Array Value) (P : Program) (w : World) : (results fn tmps).run P w = ((asAddr (tmps.getD p undef)).run P w).andThen fun a w₁ => (loadVar t a).run P w₁ := by
  simp only [results, h]
  simp [Sem.run_bind]
set_option maxRecDepth 20000 in
theorem toLinkCount (x : Cnt) (w : World) :
    Calls Try.prog 41 #[.agg #[.int .i64 x.fr, .int .i64 x.to_, .int .i64 x.se, .int .i64 x.ba]] w fun e w' => e = .returned (.agg #[.int .i64 x.fr, .int .i64 x.to_, .int .i64 x.se, .int .i64 x.ba]) ∧ Below w.heap.size w w' := by
  go_enter Try.func41, Try.ntmps41
  go_wp2
  refine bodyPost_ret (v := .agg #[.int .i64 x.fr, .int .i64 x.to_, .int .i64 x.se, .int .i64 x.ba]) ?_ rfl ?_
  · rw [results_cell1' rfl]
    go_simp
  · refine ⟨rfl, ?_⟩
    repeat first
      | exact Below.refl _ _
      | refine Below.setCell ?_ (by simp) _
      | refine Below.alloc ?_ (by simp; try omega) _

set_option maxRecDepth 20000 in
theorem eqLinkCount (x : Cnt) (w : World) :
    Calls Try.prog 42 #[.agg #[.int .i64 x.fr, .int .i64 x.to_, .int .i64 x.se, .int .i64 x.ba], .agg #[.int .i64 x.fr, .int .i64 x.to_, .int .i64 x.se, .int .i64 x.ba]] w (BoolB true w) := by
  have h0 : Below w.heap.size w (w.alloc (.cells #[.int .i64 x.fr, .int .i64 x.to_, .int .i64 x.se, .int .i64 x.ba] 37)) := (Below.refl _ _).alloc (Nat.le_refl _) _
  have B0 := Lib.hid (h0.alloc h0.size (.cells #[.int .i64 x.fr, .int .i64 x.to_, .int .i64 x.se, .int .i64 x.ba] 37))
  clear h0
  go_enter Try.func42, Try.ntmps42
  go_wp2
  go_ret
  exact ⟨rfl, B0.out⟩

def EqRel (la ha lb hb : Nat) (w wr : World) (A B : Option Addr) (n c d : Nat) (xs : List Cnt) : Prop := Cnts la ha wr A n c xs ∧ Cnts lb hb wr B n d xs ∧ Below w.heap.size w wr
set_option maxRecDepth 20000 in
theorem eqLinkCountS (la ha lb hb : Nat) (A B : Option Addr) (n c d : Nat) (xs : List Cnt) (w : World) (hx : Cnts la ha w A n c xs) (hy : Cnts lb hb w B n d xs) :
    Calls Try.prog 20 #[.slice A n c, .slice B n d] w (BoolB true w) := by
  have hc1 := hx.max_
  have hc2 := hx.cap_
  have hd1 := hy.max_
  have hd2 := hy.cap_
  have HX0 : Hid (EqRel la ha lb hb w w A B n c d xs) := ⟨hx, hy, Below.refl _ _⟩
  clear hx hy
  go_enter Try.func20, Try.ntmps20
  go_wp2
  go_loopw [5] (fun i wr => ∃ k : Nat, k ≤ n ∧ i = .int .i64 k ∧ Hid (EqRel la ha lb hb w wr A B n c d xs)) (fun i _ => n - (intOf i).toNat)
  case atStart => exact ⟨0, Nat.zero_le _, rfl, HX0.out⟩
  case round =>
    obtain ⟨k, hk, rfl, hR⟩ := hrel
    clear HX0
    by_cases hlt : k < n
    · obtain ⟨b, off, rfl, _, _, hbz, c0, c1, c2, c3⟩ := hR.out.1.at_ hlt
      obtain ⟨b2, off2, rfl, _, _, hbz2, y0, y1, y2, y3⟩ := hR.out.2.1.at_ hlt
      generalize cntAt xs k = x at *
      go_wp2
      go_still_tail 8, (by kernel_rfl)
      change wpList _ _ _ _ _ wr.drew
      go_wp2_with fail
      ((with_reducible refine (eqLinkCount x _).mono ?_); rintro e w1 ⟨rfl, hb1⟩)
      have hb2 : Below wr.heap.size wr w1 := below_drew hb1
      have HR := Lib.hid (show EqRel la ha lb hb w w1 _ _ n c d xs from ⟨hR.out.1.below hb2 (Nat.le_refl _), hR.out.2.1.below hb2 (Nat.le_refl _), hR.out.2.2.trans (hb2.mono hR.out.2.2.size)⟩)
      clear hb1 hb2 hR c0 c1 c2 c3 y0 y1 y2 y3 hbz hbz2
      go_wp2
      go_roundw
      case rel => exact ⟨k + 1, by omega, by go_num, HR.out⟩
      case measure => simp [intOf]; omega
    · obtain rfl : k = n := by omega
      clear hlt
      go_wp2
      go_ret
      exact ⟨rfl, hR.out.2.2⟩

set_option maxRecDepth 20000 in
theorem sameCounts (la ha lb hb : Nat) (A B : Option Addr) (n c d : Nat) (xs : List Cnt) (w : World) (hx : Cnts la ha w A n c xs) (hy : Cnts lb hb w B n d xs) :
    Calls Try.prog 11 #[.slice A n c, .slice B n d] w (BoolB true w) := by
  have hc1 := hx.max_
  have hc2 := hx.cap_
  have hd1 := hy.max_
  have hd2 := hy.cap_
  have HX0 : Hid (EqRel la ha lb hb w w A B n c d xs) := ⟨hx, hy, Below.refl _ _⟩
  clear hx hy
  go_enter Try.func11, Try.ntmps11
  go_wp2
  go_loopw [5] (fun i wr => ∃ k : Nat, k ≤ n ∧ i = .int .i64 k ∧ Hid (EqRel la ha lb hb w wr A B n c d xs)) (fun i _ => n - (intOf i).toNat)
  case atStart => exact ⟨0, Nat.zero_le _, rfl, HX0.out⟩
  case round =>
    obtain ⟨k, hk, rfl, hR⟩ := hrel
    clear HX0
    by_cases hlt : k < n
    · obtain ⟨b, off, rfl, _, _, hbz, c0, c1, c2, c3⟩ := hR.out.1.at_ hlt
      obtain ⟨b2, off2, rfl, _, _, hbz2, y0, y1, y2, y3⟩ := hR.out.2.1.at_ hlt
      generalize cntAt xs k = x at *
      go_wp2
      go_quiet (fail)
      have HR : Hid (EqRel la ha lb hb w (wr.drewN nq) (some ⟨b, off, none⟩) (some ⟨b2, off2, none⟩) n c d xs) := ⟨hR.out.1, hR.out.2.1, below_dr hR.out.2.2⟩
      go_wp2
      go_roundw
      case rel => exact ⟨k + 1, by omega, by go_num, HR.out⟩
      case measure => simp [intOf]; omega
    · obtain rfl : k = n := by omega
      clear hlt
      go_wp2
      go_ret
      exact ⟨rfl, hR.out.2.2⟩

/-! ### marks -/
def markC (k : Int) (i : Nat) : Cnt := ⟨k + 4 * (i : Int), k + 4 * (i : Int) + 1, k + 4 * (i : Int) + 2, k + 4 * (i : Int) + 3⟩
def marksC (k : Int) (n : Nat) : List Cnt := (List.range n).map (markC k)
theorem marksC_len (k : Int) (n : Nat) : (marksC k n).length = n := by simp [marksC]
theorem marksC_at (k : Int) {n j : Nat} (h : j < n) : cntAt (marksC k n) j = markC k j := by
  unfold cntAt
  rw [List.getD_eq_getElem?_getD]; simp [marksC, h]
theorem marksC_step (k : Int) (xs : List Cnt) {j : Nat} (h : j < xs.length) : (marksC k j ++ xs.drop j).set j (markC k j) = marksC k (j + 1) ++ xs.drop (j + 1) := by
  rw [List.set_append_right _ _ (by rw [marksC_len]; exact Nat.le_refl _), marksC_len, Nat.sub_self]
  rw [List.drop_eq_getElem_cons h, List.set_cons_zero]
  simp [marksC, List.range_succ]
theorem rowO_set {lo hi b off n c sz i : Nat} {w : World} {vs : List Value} (h : RowO lo hi w (some ⟨b, off, none⟩) n c sz vs) (hi' : i < n * sz) (v : Value) :
    RowO lo hi (w.setCell ⟨b, off + i, none⟩ v) (some ⟨b, off, none⟩) n c sz (vs.set i v) := by
  have hl := h.1.1
  have hn : 0 < n := by
    rcases Nat.eq_zero_or_pos n with rfl | h
    · omega
    · exact h
  obtain ⟨b', off', e, hb, hb', hz, hc⟩ := h.1.2.2.2 hn
  simp only [Option.some.injEq, Addr.mk.injEq, and_true] at e
  obtain ⟨rfl, rfl⟩ := e
  refine ⟨⟨by rw [List.length_set]; exact hl, h.1.2.1, h.1.2.2.1, fun _ => ⟨b, off, rfl, hb, hb', by simpa [World.setCell] using hz, fun j u hj => ?_⟩⟩, fun b2 off2 hn e j hj => ?_⟩
  · have hjl : j < vs.length := by
      have := (List.getElem?_eq_some_iff.1 hj).1
      rwa [List.length_set] at this
    by_cases hji : j = i
    · subst hji
      rw [List.getElem?_set_self hjl] at hj
      rw [World.cell?_setCell_same _ _ _ (hc j _ (List.getElem?_eq_getElem hjl))]
      exact hj
    · rw [List.getElem?_set_ne (by omega)] at hj
      rw [World.cell?_setCell_other w _ _ _ (by simp only [ne_eq, Addr.mk.injEq, true_and, and_true]; omega)]
      exact hc j u hj
  · simp only [Option.some.injEq, Addr.mk.injEq, and_true] at e
    obtain ⟨rfl, rfl⟩ := e
    rw [World.frozen?_setCell]
    exact h.2 b off hn rfl j hj
theorem flat_set4 {xs : List Cnt} {k : Nat} (y : Cnt) (hk : k < xs.length) :
    ((((xs.flatMap Cnt.cells).set (k * 4) (.int .i64 y.fr)).set (k * 4 + 1) (.int .i64 y.to_)).set (k * 4 + 2) (.int .i64 y.se)).set (k * 4 + 3) (.int .i64 y.ba) = (xs.set k y).flatMap Cnt.cells := by
  induction xs generalizing k with
  | nil => simp at hk
  | cons x xs ih =>
    cases k with
    | zero => rw [List.set_cons_zero, List.flatMap_cons, List.flatMap_cons]; rfl
    | succ k =>
      have h4 : x.cells.length = 4 := rfl
      rw [List.set_cons_succ, List.flatMap_cons, List.flatMap_cons, ← ih (by simpa using hk)]
      rw [List.set_append_right _ _ (by rw [h4]; omega), List.set_append_right _ _ (by rw [h4]; omega), List.set_append_right _ _ (by rw [h4]; omega), List.set_append_right _ _ (by rw [h4]; omega), h4]
      rw [show (k + 1) * 4 - 4 = k * 4 by omega, show (k + 1) * 4 + 1 - 4 = k * 4 + 1 by omega, show (k + 1) * 4 + 2 - 4 = k * 4 + 2 by omega, show (k + 1) * 4 + 3 - 4 = k * 4 + 3 by omega]
/-- One place of the counts is written. -/
theorem CntsO.put {lo hi b off n c k : Nat} {w : World} {xs : List Cnt} (h : CntsO lo hi w (some ⟨b, off, none⟩) n c xs) (hk : k < n) (y : Cnt) :
    CntsO lo hi ((((w.setCell ⟨b, off + k * 4, none⟩ (.int .i64 y.fr)).setCell ⟨b, off + k * 4 + 1, none⟩ (.int .i64 y.to_)).setCell ⟨b, off + k * 4 + 2, none⟩ (.int .i64 y.se)).setCell ⟨b, off + k * 4 + 3, none⟩ (.int .i64 y.ba)) (some ⟨b, off, none⟩) n c (xs.set k y) := by
  have hl := h.cnts.len_
  unfold CntsO
  rw [← flat_set4 y (by omega)]
  have q1 := rowO_set h (i := k * 4) (by omega) (.int .i64 y.fr)
  have q2 := rowO_set q1 (i := k * 4 + 1) (by omega) (.int .i64 y.to_)
  have q3 := rowO_set q2 (i := k * 4 + 2) (by omega) (.int .i64 y.se)
  have q4 := rowO_set q3 (i := k * 4 + 3) (by omega) (.int .i64 y.ba)
  exact q4
theorem CntsO.free {lo hi b off n c k : Nat} {w : World} {xs : List Cnt} (h : CntsO lo hi w (some ⟨b, off, none⟩) n c xs) (hk : k < n) :
    w.frozen? ⟨b, off + k * 4, none⟩ = false ∧ w.frozen? ⟨b, off + k * 4 + 1, none⟩ = false ∧ w.frozen? ⟨b, off + k * 4 + 2, none⟩ = false ∧ w.frozen? ⟨b, off + k * 4 + 3, none⟩ = false := by
  refine ⟨h.2 b off (by omega) rfl (k * 4) (by omega), ?_, ?_, ?_⟩
  all_goals rw [Nat.add_assoc]; exact h.2 b off (by omega) rfl _ (by omega)

def MarkC (lo hi : Nat) (A : Option Addr) (n c : Nat) (k0 : Int) (w : World) (e : Ending) (w' : World) : Prop := e = .returned (.int .i64 (k0 + 4 * n)) ∧ CntsO lo hi w' A n c (marksC k0 n) ∧ Kept lo hi w w'
set_option maxRecDepth 20000 in
theorem markLinkCountS (lo hi : Nat) (A : Option Addr) (n c : Nat) (xs : List Cnt) (k0 : Int) (w : World) (hx : CntsO lo hi w A n c xs) (hn : n ≤ 10000000) (h0 : 0 ≤ k0) (h1 : k0 ≤ 10000000) :
    Calls Try.prog 22 #[.slice A n c, .int .i64 k0] w (MarkC lo hi A n c k0 w) := by
  have hc1 := hx.cnts.max_
  have hc2 := hx.cnts.cap_
  have HL := Lib.hid hx.cnts.len_
  have HX := Lib.hid hx
  clear hx
  go_enter Try.func22, Try.ntmps22
  go_wp2
  go_loopw [1, 5] (fun q i wr => ∃ k : Nat, k ≤ n ∧ i = .int .i64 k ∧ q = .int .i64 (k0 + 4 * (k : Int)) ∧ Hid (CntsO lo hi wr A n c (marksC k0 k ++ xs.drop k) ∧ Kept lo hi w wr)) (fun _ i _ => n - (intOf i).toNat)
  case atStart => exact ⟨0, Nat.zero_le _, rfl, by simp, by simpa [marksC] using HX.out, Kept.refl _ _ _⟩
  case round =>
    obtain ⟨k, hk, rfl, rfl, hT⟩ := hrel
    by_cases hlt : k < n
    · obtain ⟨b, off, rfl, hb1, hb2, _, m0, m1, m2, m3⟩ := hT.out.1.cnts.at_ hlt
      obtain ⟨f0, f1, f2, f3⟩ := CntsO.free hT.out.1 hlt
      have hT' := CntsO.put hT.out.1 hlt (markC k0 k)
      rw [marksC_step k0 xs (by rw [HL.out]; exact hlt)] at hT'
      have HT := Lib.hid (And.intro hT' ((((hT.out.2.set (p := ⟨b, off + k * 4, none⟩) hb1 hb2 (.int .i64 (markC k0 k).fr)).set (p := ⟨b, off + k * 4 + 1, none⟩) hb1 hb2 (.int .i64 (markC k0 k).to_)).set (p := ⟨b, off + k * 4 + 2, none⟩) hb1 hb2 (.int .i64 (markC k0 k).se)).set (p := ⟨b, off + k * 4 + 3, none⟩) hb1 hb2 (.int .i64 (markC k0 k).ba)))
      clear hT hT'
      generalize cntAt (marksC k0 k ++ xs.drop k) k = y at *
      unfold markC at HT
      simp only at HT
      generalize hq : k0 + 4 * (k : Int) = q at *
      have hq0 : 0 ≤ q := by omega
      have hq1 : q ≤ 100000000 := by omega
      have HQ := Lib.hid hq
      clear hq
      have e2 : q + 1 + 1 = q + 2 := by omega
      have e3 : q + 2 + 1 = q + 3 := by omega
      have e4 : q + 3 + 1 = q + 4 := by omega
      go_wp2
      go_roundw
      case rel => exact ⟨k + 1, by omega, by go_num, by have := HQ.out; congr 1; push_cast; omega, HT.out⟩
      case measure => simp [intOf]; omega
    · obtain rfl : k = n := by omega
      have hT1 := hT.out.1
      have hT2 := hT.out.2
      rw [List.drop_eq_nil_of_le (by rw [HL.out]; exact Nat.le_refl _), List.append_nil] at hT1
      have HT := Lib.hid (show _ ∧ _ from ⟨hT1, hT2⟩)
      clear hT hT1 hT2
      go_wp2
      go_ret
      exact ⟨rfl, HT.out⟩

set_option maxRecDepth 20000 in
theorem heldLinkCountS (lo hi : Nat) (A : Option Addr) (n c : Nat) (k0 : Int) (w : World) (hx : Cnts lo hi w A n c (marksC k0 n)) (hn : n ≤ 10000000) (h0 : 0 ≤ k0) (h1 : k0 ≤ 10000000) :
    Calls Try.prog 24 #[.slice A n c, .int .i64 k0] w fun e w' => e = .returned (.int .i64 (k0 + 4 * n)) ∧ w = w' := by
  have hc1 := hx.max_
  have hc2 := hx.cap_
  have HX := Lib.hid hx
  clear hx
  go_enter Try.func24, Try.ntmps24
  go_wp2
  go_loop [1, 5] (fun q i => ∃ k : Nat, k ≤ n ∧ i = .int .i64 k ∧ q = .int .i64 (k0 + 4 * (k : Int))) (fun _ i => n - (intOf i).toNat)
  case atStart => exact ⟨0, Nat.zero_le _, rfl, by simp⟩
  case round =>
    obtain ⟨k, hk, rfl, rfl⟩ := hrel
    by_cases hlt : k < n
    · obtain ⟨b, off, rfl, hb1, hb2, _, m0, m1, m2, m3⟩ := HX.out.at_ hlt
      rw [marksC_at k0 hlt] at m0 m1 m2 m3
      unfold markC at m0 m1 m2 m3
      simp only at m0 m1 m2 m3
      generalize hq : k0 + 4 * (k : Int) = q at *
      have hq0 : 0 ≤ q := by omega
      have hq1 : q ≤ 100000000 := by omega
      have HQ := Lib.hid hq
      clear hq
      have e2 : q + 1 + 1 = q + 2 := by omega
      have e3 : q + 2 + 1 = q + 3 := by omega
      have e4 : q + 3 + 1 = q + 4 := by omega
      go_wp2
      go_round
      case rel => exact ⟨k + 1, by omega, by go_num, by have := HQ.out; congr 1; push_cast; omega⟩
      case measure => simp [intOf]; omega
    · obtain rfl : k = n := by omega
      clear hlt
      go_wp2
      go_ret
      exact ⟨rfl, rfl⟩

end Hc
end Go.Proofs.Ytbhafchdcofceaa
