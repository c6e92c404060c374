/-
  The program's iterator over a stream: its contract, and the checks of lists and of keys.
-/
import Derived.Test.YtnjcpbkpcmemeabChecked
import Derived.Test.YtnjcpbkpcmemeabIla
import Derived.Test.YtnjcpbkpcmemeabGmm
import Derived.BigQuiet
import Derived.Deep.RegionLaw
import Derived.RangeFuncNested
import Derived.RangeFuncBound
import Derived.RangeFuncCalls
import Derived.RangeFuncLeaves
import Derived.Shelf.Abstract
import Derived.Shelf.RegionOpen
import Derived.WalkKit
import Derived.Lib.Hide
import Derived.OwnWalkIn
import Derived.TacticsInMore
import Derived.LoopNIn
import Derived.LoopIn
namespace Go.Proofs.Ytnjcpbkpcmemeab
open Go.RowKit Go.Shelf
namespace Nv
theorem numberValid (x : Int) (w : World) : Calls Try.prog 65 #[.int .i64 x] w fun e w' => e = .returned (.bool (Mm.inN x)) ∧ w = w' := by
  by_cases h0 : 0 ≤ x
  · by_cases h1 : x < 991
    · have hv : Mm.inN x = true := Mm.inN_iff.2 (by omega)
      rw [hv]
      clear hv
      go_enter Try.func65, Try.ntmps65
      go_wp2
      go_ret
      exact ⟨rfl, rfl⟩
    · have hv : Mm.inN x = false := by unfold Mm.inN; simp; omega
      rw [hv]
      clear hv
      have h2 : decide (x < 991) = false := by simpa using h1
      clear h1
      go_enter Try.func65, Try.ntmps65
      go_wp2
      go_ret
      exact ⟨rfl, rfl⟩
  · have hv : Mm.inN x = false := by unfold Mm.inN; simp; omega
    rw [hv]
    clear hv
    have h2 : decide (0 ≤ x) = false := by simpa using h0
    clear h0
    go_enter Try.func65, Try.ntmps65
    go_wp2
    go_ret
    exact ⟨rfl, rfl⟩
theorem numberValid_lit {x : Int} {b : Bool} (h : Mm.inN x = b) (w : World) : Calls Try.prog 65 #[.int .i64 x] w fun e w' => e = .returned (.bool b) ∧ w = w' := by
  rw [← h]; exact numberValid x w
end Nv
namespace Im2
open Il (Ints NewInts)
open Gm Mm
attribute [local go_sem] Oper.semAt_some

set_option maxRecDepth 20000 in
theorem inRange_yes (n : Int) (w : World) (h1 : 1 ≤ n) (h2 : n ≤ 996) :
    Calls Try.prog 34 #[.int .i64 n] w fun e w' => e = .returned (.bool true) ∧ w = w' := by
  go_enter Try.func34, Try.ntmps34
  go_wp2
  go_ret
  exact ⟨rfl, rfl⟩
set_option maxRecDepth 20000 in
theorem inRange_no (n : Int) (w : World) (h : n < 1 ∨ 996 < n) :
    Calls Try.prog 34 #[.int .i64 n] w fun e w' => e = .returned (.bool false) ∧ w = w' := by
  rcases h with h | h
  · go_enter Try.func34, Try.ntmps34
    go_wp2
    go_ret
    exact ⟨rfl, rfl⟩
  · have h0 : 1 ≤ n := by omega
    have h0d : decide (n ≤ 996) = false := by simp; omega
    go_enter Try.func34, Try.ntmps34
    go_wp2
    go_ret
    exact ⟨rfl, rfl⟩
set_option maxRecDepth 20000 in
theorem inRange (n : Int) (w : World) :
    Calls Try.prog 34 #[.int .i64 n] w fun e w' => e = .returned (.bool (inG n)) ∧ w = w' := by
  by_cases h : 1 ≤ n ∧ n ≤ 996
  · rw [inG_iff.2 h]; exact inRange_yes n w h.1 h.2
  · rw [inG_no.2 h]; exact inRange_no n w (by omega)

set_option maxRecDepth 20000 in
theorem listValid (lo hi : Nat) (A : Option Addr) (n c : Nat) (xs : List Int) (w : World) (hx : Ints lo hi w A n c xs) :
    Calls Try.prog 64 #[.slice A n c] w fun e w' => e = .returned (.bool (okL xs)) ∧ w = w' := by
  have hc1 := hx.2.2.1
  have hc2 := hx.2.1
  have HL := Lib.hid hx.1
  unfold maxLen at hc1
  have HX := Lib.hid hx
  clear hx
  by_cases h24 : n ≤ 24
  · have hd24 : decide (24 < (n : Int)) = false := by simp; omega
    go_enter Try.func64, Try.ntmps64
    go_wp2
    go_loop [10] (fun i => ∃ k : Nat, k ≤ n ∧ i = .int .i64 k ∧ okTo xs k) (fun i => n - (intOf i).toNat)
    case atStart => exact ⟨0, Nat.zero_le _, rfl, okTo_zero _⟩
    case round =>
      obtain ⟨k, hk, rfl, hT⟩ := hrel
      have HT := Lib.hid hT
      clear hT
      by_cases hlt : k < n
      · obtain ⟨b, off, rfl, _, _, hcx⟩ := HX.out.at_ hlt
        generalize hxe : xs.getD k 0 = x at hcx
        have HXE := Lib.hid hxe
        clear hxe
        cases hin : inN x
        · have hno_ := Lib.hid hin
          have hfin : okL xs = false := okL_bad (k := k) (by rw [HL.out]; exact hlt) (by rw [HXE.out]; exact hin)
          have HF := Lib.hid hfin
          clear hfin hin
          go_wp2_with fail
          ((with_reducible refine (Nv.numberValid_lit hno_.out _).mono ?_); rintro e w' ⟨rfl, rfl⟩)
          go_wp2
          go_ret
          rw [HF.out]
          exact ⟨rfl, rfl⟩
        · have hyes := Lib.hid hin
          have HN := Lib.hid (okTo_succ HT.out (by rw [HXE.out]; exact hin))
          clear hin
          go_wp2_with fail
          ((with_reducible refine (Nv.numberValid_lit hyes.out _).mono ?_); rintro e w' ⟨rfl, rfl⟩)
          go_wp2
          go_round
          case rel => exact ⟨k + 1, by omega, by go_num, HN.out⟩
          case measure => simp [intOf]; omega
      · have hkn : k = n := by omega
        have hfin : okL xs = decide (n ≤ 24) := by
          rw [← HL.out]
          exact okL_of_to (by rw [HL.out, ← hkn]; exact HT.out)
        have HF := Lib.hid hfin
        clear hfin hkn
        go_wp2
        go_ret
        rw [HF.out, decide_eq_true h24]
        exact ⟨rfl, rfl⟩
  · have hfin : okL xs = false := by
      unfold okL
      rw [decide_eq_false (by rw [HL.out]; exact h24), Bool.and_false]
    have HF := Lib.hid hfin
    have hd24 : decide (24 < (n : Int)) = true := by simp; omega
    clear hfin h24
    go_enter Try.func64, Try.ntmps64
    go_wp2
    go_ret
    rw [HF.out]
    exact ⟨rfl, rfl⟩

end Im2
end Go.Proofs.Ytnjcpbkpcmemeab
