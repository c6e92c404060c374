/-
  Contracts of the laws' helpers on entries of directories: sizes, copies, equality, marks.
-/
import Derived.Test.YtfnbjojaflloaabEd
import Derived.Test.YtfnbjojaflloaabQc
import Derived.Test.YtfnbjojaflloaabSp9
import Derived.StillTailTactics
import Derived.Laws.StructEq
import Derived.Laws.ResultCell
namespace Go.Proofs.Ytfnbjojaflloaab
open Go.RowKit
namespace He
open Il Sl Ec Dm Sp9

theorem sz_yes (A : Option Addr) (n c : Nat) (w : World) (h : n ≤ 1048576) :
    Calls Try.prog 61 #[.slice A n c, .int .i64 1048576] w fun e w' => e = .returned (.int .i64 (1048576 - (n : Int))) ∧ w = w' := by
  have e0 : decide (1048576 - (n : Int) < 0) = false := by simp; omega
  go_enter Try.func61, Try.ntmps61
  go_wp2
  go_ret
  exact ⟨rfl, rfl⟩
theorem sz_no (A : Option Addr) (n c : Nat) (w : World) (hc : c ≤ 9223372036854775807) (hn : n ≤ c) (h : 1048576 < n) :
    Calls Try.prog 61 #[.slice A n c, .int .i64 1048576] w fun e w' => e = .returned (.int .i64 (-1)) ∧ w = w' := by
  have e0 : decide (1048576 - (n : Int) < 0) = true := by simp; omega
  go_enter Try.func61, Try.ntmps61
  go_wp2
  go_ret
  exact ⟨rfl, rfl⟩

theorem results_cell1' {fn : Func} {p : Tmp} {t : TypeId} (h : fn.results = #[.cell p t]) (tmps : Array Value) (P : Program) (w : World) : (results fn tmps).run P w = ((asAddr (tmps.getD p undef)).run P w).andThen fun a w₁ => (loadVar t a).run P w₁ := by
  simp only [results, h]
  simp [Sem.run_bind]
set_option maxRecDepth 20000 in
theorem toEntry (x : En) (w : World) :
    Calls Try.prog 70 #[.agg #[.int .i64 x.nm, .int .i64 x.pu, .int .i64 x.wt]] w fun e w' => e = .returned (.agg #[.int .i64 x.nm, .int .i64 x.pu, .int .i64 x.wt]) ∧ Below w.heap.size w w' := by
  go_enter Try.func70, Try.ntmps70
  go_wp2
  refine bodyPost_ret (v := .agg #[.int .i64 x.nm, .int .i64 x.pu, .int .i64 x.wt]) ?_ rfl ?_
  · rw [results_cell1' rfl]
    go_simp
  · refine ⟨rfl, ?_⟩
    repeat first
      | exact Below.refl _ _
      | refine Below.setCell ?_ (by simp) _
      | refine Below.alloc ?_ (by simp; try omega) _

set_option maxRecDepth 20000 in
theorem eqEntry (x : En) (w : World) :
    Calls Try.prog 71 #[.agg #[.int .i64 x.nm, .int .i64 x.pu, .int .i64 x.wt], .agg #[.int .i64 x.nm, .int .i64 x.pu, .int .i64 x.wt]] w (BoolB true w) := by
  have h0 : Below w.heap.size w (w.alloc (.cells #[.int .i64 x.nm, .int .i64 x.pu, .int .i64 x.wt] 71)) := (Below.refl _ _).alloc (Nat.le_refl _) _
  have B0 := Lib.hid (h0.alloc h0.size (.cells #[.int .i64 x.nm, .int .i64 x.pu, .int .i64 x.wt] 71))
  clear h0
  go_enter Try.func71, Try.ntmps71
  go_wp2
  go_ret
  exact ⟨rfl, B0.out⟩

def EqRel (la ha lb hb : Nat) (w wr : World) (A B : Option Addr) (n c d : Nat) (xs : List En) : Prop := Ens la ha wr A n c xs ∧ Ens lb hb wr B n d xs ∧ Below w.heap.size w wr
set_option maxRecDepth 20000 in
theorem eqEntryS (la ha lb hb : Nat) (A B : Option Addr) (n c d : Nat) (xs : List En) (w : World) (hx : Ens la ha w A n c xs) (hy : Ens lb hb w B n d xs) :
    Calls Try.prog 63 #[.slice A n c, .slice B n d] w (BoolB true w) := by
  have hc1 := hx.max_
  have hc2 := hx.cap_
  have hd1 := hy.max_
  have hd2 := hy.cap_
  have HX0 : Hid (EqRel la ha lb hb w w A B n c d xs) := ⟨hx, hy, Below.refl _ _⟩
  clear hx hy
  go_enter Try.func63, Try.ntmps63
  go_wp2
  go_loopw [5] (fun i wr => ∃ k : Nat, k ≤ n ∧ i = .int .i64 k ∧ Hid (EqRel la ha lb hb w wr A B n c d xs)) (fun i _ => n - (intOf i).toNat)
  case atStart => exact ⟨0, Nat.zero_le _, rfl, HX0.out⟩
  case round =>
    obtain ⟨k, hk, rfl, hR⟩ := hrel
    clear HX0
    by_cases hlt : k < n
    · obtain ⟨b, off, rfl, _, _, hbz, c0, c1, c2⟩ := hR.out.1.at_ hlt
      obtain ⟨b2, off2, rfl, _, _, hbz2, y0, y1, y2⟩ := hR.out.2.1.at_ hlt
      generalize enAt xs k = x at *
      go_wp2
      go_still_tail 8, (by kernel_rfl)
      change wpList _ _ _ _ _ wr.drew
      go_wp2_with fail
      ((with_reducible refine (eqEntry x _).mono ?_); rintro e w1 ⟨rfl, hb1⟩)
      have hb2 : Below wr.heap.size wr w1 := below_drew hb1
      have HR := Lib.hid (show EqRel la ha lb hb w w1 _ _ n c d xs from ⟨hR.out.1.below hb2 (Nat.le_refl _), hR.out.2.1.below hb2 (Nat.le_refl _), hR.out.2.2.trans (hb2.mono hR.out.2.2.size)⟩)
      clear hb1 hb2 hR c0 c1 c2 y0 y1 y2 hbz hbz2
      go_wp2
      go_roundw
      case rel => exact ⟨k + 1, by omega, by go_num, HR.out⟩
      case measure => simp [intOf]; omega
    · obtain rfl : k = n := by omega
      clear hlt
      go_wp2
      go_ret
      exact ⟨rfl, hR.out.2.2⟩


/-! ### marks -/
def markC (k : Int) (i : Nat) : En := ⟨k + 3 * (i : Int), k + 3 * (i : Int) + 1, k + 3 * (i : Int) + 2⟩
def marksC (k : Int) (n : Nat) : List En := (List.range n).map (markC k)
theorem marksC_len (k : Int) (n : Nat) : (marksC k n).length = n := by simp [marksC]
theorem marksC_at (k : Int) {n j : Nat} (h : j < n) : enAt (marksC k n) j = markC k j := by
  unfold enAt
  rw [List.getD_eq_getElem?_getD]; simp [marksC, h]
theorem marksC_step (k : Int) (xs : List En) {j : Nat} (h : j < xs.length) : (marksC k j ++ xs.drop j).set j (markC k j) = marksC k (j + 1) ++ xs.drop (j + 1) := by
  rw [List.set_append_right _ _ (by rw [marksC_len]; exact Nat.le_refl _), marksC_len, Nat.sub_self]
  rw [List.drop_eq_getElem_cons h, List.set_cons_zero]
  simp [marksC, List.range_succ]



end He
end Go.Proofs.Ytfnbjojaflloaab
