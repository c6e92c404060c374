/-
  Contracts of the program's chapter 21: small functions, searches with a predicate that may turn a block of its own, valid directories.
-/
import Derived.Test.YtfnbjojaflloaabSp9d
import Derived.Test.YtfnbjojaflloaabDq
import Derived.RangeFuncBox
import Derived.Lib.SliceRun
namespace Go.Proofs.Ytfnbjojaflloaab
open Go.RowKit
namespace Im9
open Il Sl Gm Cm Ec Dm Sp9 Sg
attribute [local go_sem] Oper.semAt_some

theorem nameValid (x : Int) (w : World) : Calls Try.prog 73 #[.int .i64 x] w fun r w' => r = .returned (.bool (inN x)) ∧ w = w' := by
  by_cases h1 : 0 ≤ x
  · by_cases h2 : x < 8
    · have hv : inN x = true := decide_eq_true ⟨h1, by omega⟩
      rw [hv]
      clear hv
      go_enter Try.func73, Try.ntmps73
      go_wp2
      go_ret
      exact ⟨rfl, rfl⟩
    · have hv : inN x = false := decide_eq_false fun h => h2 (by omega)
      rw [hv]
      have h2' : decide (x < 8) = false := by simpa using h2
      clear hv h2
      go_enter Try.func73, Try.ntmps73
      go_wp2
      go_ret
      exact ⟨rfl, rfl⟩
  · have hv : inN x = false := decide_eq_false fun h => h1 h.1
    rw [hv]
    have h1' : decide (0 ≤ x) = false := by simpa using h1
    clear hv h1
    go_enter Try.func73, Try.ntmps73
    go_wp2
    go_ret
    exact ⟨rfl, rfl⟩
theorem epochValid (x : Int) (w : World) : Calls Try.prog 65 #[.int .i64 x] w fun r w' => r = .returned (.bool (epB x)) ∧ w = w' := by
  by_cases h1 : 0 ≤ x
  · by_cases h2 : x ≤ 99
    · have hv : epB x = true := decide_eq_true ⟨h1, h2⟩
      rw [hv]
      clear hv
      go_enter Try.func65, Try.ntmps65
      go_wp2
      go_ret
      exact ⟨rfl, rfl⟩
    · have hv : epB x = false := decide_eq_false fun h => h2 h.2
      rw [hv]
      have h2' : decide (x ≤ 99) = false := by simpa using h2
      clear hv h2
      go_enter Try.func65, Try.ntmps65
      go_wp2
      go_ret
      exact ⟨rfl, rfl⟩
  · have hv : epB x = false := decide_eq_false fun h => h1 h.1
    rw [hv]
    have h1' : decide (0 ≤ x) = false := by simpa using h1
    clear hv h1
    go_enter Try.func65, Try.ntmps65
    go_wp2
    go_ret
    exact ⟨rfl, rfl⟩

set_option maxRecDepth 20000 in
theorem invalid (x : En) (w : World) : Calls Try.prog 67 #[.agg #[.int .i64 x.nm, .int .i64 x.pu, .int .i64 x.wt]] w (BoolB (!okE x) w) := by
  have B0 : Hid (Below w.heap.size w (w.alloc (.cells #[.int .i64 x.nm, .int .i64 x.pu, .int .i64 x.wt] 71))) := (Below.refl _ _).alloc (Nat.le_refl _) _
  have q0 : Hid (okE x = (inN x.nm && (inG x.pu && wtB x.wt))) := rfl
  cases h1 : inN x.nm
  · have HV : Hid ((!okE x) = true) := by show _ = _; rw [q0.out, h1]; rfl
    clear q0
    go_enter Try.func67, Try.ntmps67
    go_wp2_with fail
    ((with_reducible refine (nameValid x.nm _).mono ?_); rintro e w1 ⟨rfl, rfl⟩)
    rw [h1]
    go_wp2
    go_ret
    rw [HV.out]
    exact ⟨rfl, B0.out⟩
  cases h2 : inG x.pu
  · have HV : Hid ((!okE x) = true) := by show _ = _; rw [q0.out, h2, Bool.false_and, Bool.and_false]; rfl
    clear q0
    go_enter Try.func67, Try.ntmps67
    go_wp2_with fail
    ((with_reducible refine (nameValid x.nm _).mono ?_); rintro e w1 ⟨rfl, rfl⟩)
    rw [h1]
    go_wp2_with fail
    ((with_reducible refine (Sg.inRange x.pu _).mono ?_); rintro e w1 ⟨rfl, rfl⟩)
    rw [h2]
    go_wp2
    go_ret
    rw [HV.out]
    exact ⟨rfl, B0.out⟩
  by_cases h3 : x.wt < 0
  · have HV : Hid ((!okE x) = true) := by show _ = _; rw [q0.out, show wtB x.wt = false from decide_eq_false (fun h => by omega), Bool.and_false, Bool.and_false]; rfl
    have d3 : decide (x.wt < 0) = true := decide_eq_true h3
    clear q0
    go_enter Try.func67, Try.ntmps67
    go_wp2_with fail
    ((with_reducible refine (nameValid x.nm _).mono ?_); rintro e w1 ⟨rfl, rfl⟩)
    rw [h1]
    go_wp2_with fail
    ((with_reducible refine (Sg.inRange x.pu _).mono ?_); rintro e w1 ⟨rfl, rfl⟩)
    rw [h2]
    go_wp2
    go_ret
    rw [HV.out]
    exact ⟨rfl, B0.out⟩
  have d3 : decide (x.wt < 0) = false := decide_eq_false h3
  by_cases h4 : x.wt > 9
  · have HV : Hid ((!okE x) = true) := by show _ = _; rw [q0.out, show wtB x.wt = false from decide_eq_false (fun h => by omega), Bool.and_false, Bool.and_false]; rfl
    have d4 : decide (9 < x.wt) = true := decide_eq_true h4
    clear q0
    go_enter Try.func67, Try.ntmps67
    go_wp2_with fail
    ((with_reducible refine (nameValid x.nm _).mono ?_); rintro e w1 ⟨rfl, rfl⟩)
    rw [h1]
    go_wp2_with fail
    ((with_reducible refine (Sg.inRange x.pu _).mono ?_); rintro e w1 ⟨rfl, rfl⟩)
    rw [h2]
    go_wp2
    go_ret
    rw [HV.out]
    exact ⟨rfl, B0.out⟩
  · have HV : Hid ((!okE x) = false) := by show _ = _; rw [q0.out, h1, h2, show wtB x.wt = true from decide_eq_true ⟨by omega, by omega⟩]; rfl
    have d4 : decide (9 < x.wt) = false := decide_eq_false h4
    clear q0
    go_enter Try.func67, Try.ntmps67
    go_wp2_with fail
    ((with_reducible refine (nameValid x.nm _).mono ?_); rintro e w1 ⟨rfl, rfl⟩)
    rw [h1]
    go_wp2_with fail
    ((with_reducible refine (Sg.inRange x.pu _).mono ?_); rintro e w1 ⟨rfl, rfl⟩)
    rw [h2]
    go_wp2
    go_ret
    rw [HV.out]
    exact ⟨rfl, B0.out⟩

/-- One cell of the block b is turned at most, others made. -/
theorem grown_box {w : World} {b : Nat} (o : Obj) (v : Value) : w.grownBy ((w.setCell ⟨b, 0, none⟩ v).alloc o) (some b) := by
  have h0 := World.grownBy_alloc (w.setCell ⟨b, 0, none⟩ v) o (some b)
  have hs : (w.setCell ⟨b, 0, none⟩ v).heap.size = w.heap.size := by simp [World.setCell]
  refine ⟨h0.os, h0.tape, h0.output, by rw [← hs]; exact h0.size, fun q hq hne => ?_⟩
  rw [h0.block q (by rw [hs]; exact hq) hne, Below.heap_setCell _ ⟨b, 0, none⟩ v q (fun e => hne (by rw [e]))]
set_option maxRecDepth 20000 in
theorem brokenBy (x : En) (b : Nat) (l : Int) (w : World) (hb : Boxed w b 81 (.int .i64 l)) : Calls Try.prog 68 #[.pointer (some ⟨b, 0, none⟩), .agg #[.int .i64 x.nm, .int .i64 x.pu, .int .i64 x.wt]] w fun e w' => e = .returned (.bool (decide (x.nm ≤ l))) ∧ Boxed w' b 81 (.int .i64 x.nm) ∧ w.grownBy w' (some b) := by
  have HB := Lib.hid ((hb.set (.int .i64 x.nm)).alloc (.cells #[.int .i64 x.nm, .int .i64 x.pu, .int .i64 x.wt] 71))
  have hG := Lib.hid (grown_box (w := w) (b := b) (.cells #[.int .i64 x.nm, .int .i64 x.pu, .int .i64 x.wt] 71) (.int .i64 x.nm))
  have hlt := hb.lt
  have hcb := hb.cell
  have hfb := hb.frozen
  have hne : ¬ b = w.heap.size := by omega
  clear hb
  by_cases hle : x.nm ≤ l
  · rw [decide_eq_true hle]
    go_enter Try.func68, Try.ntmps68
    go_wp2
    go_ret
    exact ⟨rfl, HB.out, hG.out⟩
  · rw [decide_eq_false hle]
    have hle' : decide (x.nm ≤ l) = false := decide_eq_false hle
    go_enter Try.func68, Try.ntmps68
    go_wp2
    go_ret
    exact ⟨rfl, HB.out, hG.out⟩

end Im9
end Go.Proofs.Ytfnbjojaflloaab
