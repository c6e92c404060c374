/-
  Contracts of the laws' helpers on flows: sizes, copies, equality, marks.
-/
import Derived.Test.YtcbhjnjallnidabFd
import Derived.Test.YtcbhjnjallnidabQc
import Derived.Test.YtcbhjnjallnidabSp13
import Derived.StillTailTactics
import Derived.Laws.StructEq
import Derived.Laws.ResultCell
namespace Go.Proofs.Ytcbhjnjallnidab
open Go.RowKit
namespace Hv
open Il Sl Fc Sp13


theorem results_cell1' {fn : Func} {p : Tmp} {t : TypeId} (h : fn.results = #[.cell p t]) (tmps : Array Value) (P : Program) (w : World) : (results fn tmps).run P w = ((asAddr (tmps.getD p undef)).run P w).andThen fun a w₁ => (loadVar t a).run P w₁ := by
  simp only [results, h]
  simp [Sem.run_bind]

set_option maxRecDepth 20000 in
theorem eqFlow (x : Fl) (w : World) :
    Calls Try.prog 37 #[.agg #[.int .i64 x.fr, .int .i64 x.to, .int .i64 x.nm], .agg #[.int .i64 x.fr, .int .i64 x.to, .int .i64 x.nm]] w (BoolB true w) := by
  have h0 : Below w.heap.size w (w.alloc (.cells #[.int .i64 x.fr, .int .i64 x.to, .int .i64 x.nm] 30)) := (Below.refl _ _).alloc (Nat.le_refl _) _
  have B0 := Lib.hid (h0.alloc h0.size (.cells #[.int .i64 x.fr, .int .i64 x.to, .int .i64 x.nm] 30))
  clear h0
  go_enter Try.func37, Try.ntmps37
  go_wp2
  go_ret
  exact ⟨rfl, B0.out⟩

def EqRel (la ha lb hb : Nat) (w wr : World) (A B : Option Addr) (n c d : Nat) (xs : List Fl) : Prop := Fls la ha wr A n c xs ∧ Fls lb hb wr B n d xs ∧ Below w.heap.size w wr
set_option maxRecDepth 20000 in
theorem eqFlowS (la ha lb hb : Nat) (A B : Option Addr) (n c d : Nat) (xs : List Fl) (w : World) (hx : Fls la ha w A n c xs) (hy : Fls lb hb w B n d xs) :
    Calls Try.prog 18 #[.slice A n c, .slice B n d] w (BoolB true w) := by
  have hc1 := hx.max_
  have hc2 := hx.cap_
  have hd1 := hy.max_
  have hd2 := hy.cap_
  have HX0 : Hid (EqRel la ha lb hb w w A B n c d xs) := ⟨hx, hy, Below.refl _ _⟩
  clear hx hy
  go_enter Try.func18, Try.ntmps18
  go_wp2
  go_loopw [5] (fun i wr => ∃ k : Nat, k ≤ n ∧ i = .int .i64 k ∧ Hid (EqRel la ha lb hb w wr A B n c d xs)) (fun i _ => n - (intOf i).toNat)
  case atStart => exact ⟨0, Nat.zero_le _, rfl, HX0.out⟩
  case round =>
    obtain ⟨k, hk, rfl, hR⟩ := hrel
    clear HX0
    by_cases hlt : k < n
    · obtain ⟨b, off, rfl, _, _, hbz, c0, c1, c2⟩ := hR.out.1.at_ hlt
      obtain ⟨b2, off2, rfl, _, _, hbz2, y0, y1, y2⟩ := hR.out.2.1.at_ hlt
      generalize flAt xs k = x at *
      go_wp2
      go_still_tail 8, (by kernel_rfl)
      change wpList _ _ _ _ _ wr.drew
      go_wp2_with fail
      ((with_reducible refine (eqFlow x _).mono ?_); rintro e w1 ⟨rfl, hb1⟩)
      have hb2 : Below wr.heap.size wr w1 := below_drew hb1
      have HR := Lib.hid (show EqRel la ha lb hb w w1 _ _ n c d xs from ⟨hR.out.1.below hb2 (Nat.le_refl _), hR.out.2.1.below hb2 (Nat.le_refl _), hR.out.2.2.trans (hb2.mono hR.out.2.2.size)⟩)
      clear hb1 hb2 hR c0 c1 c2 y0 y1 y2 hbz hbz2
      go_wp2
      go_roundw
      case rel => exact ⟨k + 1, by omega, by go_num, HR.out⟩
      case measure => simp [intOf]; omega
    · obtain rfl : k = n := by omega
      clear hlt
      go_wp2
      go_ret
      exact ⟨rfl, hR.out.2.2⟩


/-! ### marks -/
def markC (k : Int) (i : Nat) : Fl := ⟨k + 3 * (i : Int), k + 3 * (i : Int) + 1, k + 3 * (i : Int) + 2⟩
def marksC (k : Int) (n : Nat) : List Fl := (List.range n).map (markC k)
theorem marksC_len (k : Int) (n : Nat) : (marksC k n).length = n := by simp [marksC]
theorem marksC_at (k : Int) {n j : Nat} (h : j < n) : flAt (marksC k n) j = markC k j := by
  unfold flAt
  rw [List.getD_eq_getElem?_getD]; simp [marksC, h]
theorem marksC_step (k : Int) (xs : List Fl) {j : Nat} (h : j < xs.length) : (marksC k j ++ xs.drop j).set j (markC k j) = marksC k (j + 1) ++ xs.drop (j + 1) := by
  rw [List.set_append_right _ _ (by rw [marksC_len]; exact Nat.le_refl _), marksC_len, Nat.sub_self]
  rw [List.drop_eq_getElem_cons h, List.set_cons_zero]
  simp [marksC, List.range_succ]

def MarkC (lo hi : Nat) (A : Option Addr) (n c : Nat) (k0 : Int) (w : World) (e : Ending) (w' : World) : Prop := e = .returned (.int .i64 (k0 + 3 * n)) ∧ FlsO lo hi w' A n c (marksC k0 n) ∧ Kept lo hi w w'
set_option maxRecDepth 20000 in
theorem markFlowS (lo hi : Nat) (A : Option Addr) (n c : Nat) (xs : List Fl) (k0 : Int) (w : World) (hx : FlsO lo hi w A n c xs) (hn : n ≤ 10000000) (h0 : 0 ≤ k0) (h1 : k0 ≤ 10000000) :
    Calls Try.prog 21 #[.slice A n c, .int .i64 k0] w (MarkC lo hi A n c k0 w) := by
  have hc1 := hx.row_.max_
  have hc2 := hx.row_.cap_
  have HL := Lib.hid hx.row_.len_
  have HX := Lib.hid hx
  clear hx
  go_enter Try.func21, Try.ntmps21
  go_wp2
  go_loopw [1, 5] (fun q i wr => ∃ k : Nat, k ≤ n ∧ i = .int .i64 k ∧ q = .int .i64 (k0 + 3 * (k : Int)) ∧ Hid (FlsO lo hi wr A n c (marksC k0 k ++ xs.drop k) ∧ Kept lo hi w wr)) (fun _ i _ => n - (intOf i).toNat)
  case atStart => exact ⟨0, Nat.zero_le _, rfl, by simp, by simpa [marksC] using HX.out, Kept.refl _ _ _⟩
  case round =>
    obtain ⟨k, hk, rfl, rfl, hT⟩ := hrel
    by_cases hlt : k < n
    · obtain ⟨b, off, rfl, hb1, hb2, _, m0, m1, m2⟩ := hT.out.1.row_.at_ hlt
      obtain ⟨f0, f1, f2⟩ := FlsO.free hT.out.1 hlt
      have hT' := FlsO.put hT.out.1 hlt (markC k0 k)
      rw [marksC_step k0 xs (by rw [HL.out]; exact hlt)] at hT'
      have HT := Lib.hid (And.intro hT' (((hT.out.2.set (p := ⟨b, off + k * 3, none⟩) hb1 hb2 (.int .i64 (markC k0 k).fr)).set (p := ⟨b, off + k * 3 + 1, none⟩) hb1 hb2 (.int .i64 (markC k0 k).to)).set (p := ⟨b, off + k * 3 + 2, none⟩) hb1 hb2 (.int .i64 (markC k0 k).nm)))
      clear hT hT'
      generalize flAt (marksC k0 k ++ xs.drop k) k = y at *
      unfold markC at HT
      simp only at HT
      generalize hq : k0 + 3 * (k : Int) = q at *
      have hq0 : 0 ≤ q := by omega
      have hq1 : q ≤ 100000000 := by omega
      have HQ := Lib.hid hq
      clear hq
      have e2 : q + 1 + 1 = q + 2 := by omega
      have e3 : q + 2 + 1 = q + 3 := by omega
      go_wp2
      go_roundw
      case rel => exact ⟨k + 1, by omega, by go_num, by have := HQ.out; congr 1; push_cast; omega, HT.out⟩
      case measure => simp [intOf]; omega
    · obtain rfl : k = n := by omega
      have hT1 := hT.out.1
      have hT2 := hT.out.2
      rw [List.drop_eq_nil_of_le (by rw [HL.out]; exact Nat.le_refl _), List.append_nil] at hT1
      have HT := Lib.hid (show _ ∧ _ from ⟨hT1, hT2⟩)
      clear hT hT1 hT2
      go_wp2
      go_ret
      exact ⟨rfl, HT.out⟩

set_option maxRecDepth 20000 in
theorem heldFlowS (lo hi : Nat) (A : Option Addr) (n c : Nat) (k0 : Int) (w : World) (hx : Fls lo hi w A n c (marksC k0 n)) (hn : n ≤ 10000000) (h0 : 0 ≤ k0) (h1 : k0 ≤ 10000000) :
    Calls Try.prog 22 #[.slice A n c, .int .i64 k0] w fun e w' => e = .returned (.int .i64 (k0 + 3 * n)) ∧ w = w' := by
  have hc1 := hx.max_
  have hc2 := hx.cap_
  have HX := Lib.hid hx
  clear hx
  go_enter Try.func22, Try.ntmps22
  go_wp2
  go_loop [1, 5] (fun q i => ∃ k : Nat, k ≤ n ∧ i = .int .i64 k ∧ q = .int .i64 (k0 + 3 * (k : Int))) (fun _ i => n - (intOf i).toNat)
  case atStart => exact ⟨0, Nat.zero_le _, rfl, by simp⟩
  case round =>
    obtain ⟨k, hk, rfl, rfl⟩ := hrel
    by_cases hlt : k < n
    · obtain ⟨b, off, rfl, hb1, hb2, _, m0, m1, m2⟩ := HX.out.at_ hlt
      rw [marksC_at k0 hlt] at m0 m1 m2
      unfold markC at m0 m1 m2
      simp only at m0 m1 m2
      generalize hq : k0 + 3 * (k : Int) = q at *
      have hq0 : 0 ≤ q := by omega
      have hq1 : q ≤ 100000000 := by omega
      have HQ := Lib.hid hq
      clear hq
      have e2 : q + 1 + 1 = q + 2 := by omega
      have e3 : q + 2 + 1 = q + 3 := by omega
      go_wp2
      go_round
      case rel => exact ⟨k + 1, by omega, by go_num, by have := HQ.out; congr 1; push_cast; omega⟩
      case measure => simp [intOf]; omega
    · obtain rfl : k = n := by omega
      clear hlt
      go_wp2
      go_ret
      exact ⟨rfl, rfl⟩

end Hv
end Go.Proofs.Ytcbhjnjallnidab
