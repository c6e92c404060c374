/-
  Contracts of the model's chapter 2: streams, masking on and off.
-/
import Derived.Test.YtoghgliijjfppabChecked
import Derived.Test.YtoghgliijjfppabIla
import Derived.Test.YtoghgliijjfppabGmm
import Derived.BigQuiet
import Derived.Deep.RegionLaw
namespace Go.Proofs.Ytoghgliijjfppab
open Go.RowKit
namespace Sp2
open Il Gm Mm


set_option maxRecDepth 20000 in
theorem l6In (n lo hi : Int) (w : World) :
    Calls Try.prog 44 #[.int .i64 n, .int .i64 lo, .int .i64 hi] w fun e w' => e = .returned (.bool (decide (lo ≤ n ∧ n ≤ hi))) ∧ w = w' := by
  by_cases h1 : lo ≤ n
  · by_cases h2 : n ≤ hi
    · rw [decide_eq_true (And.intro h1 h2)]
      go_enter Try.func44, Try.ntmps44
      go_wp2
      go_ret
      exact ⟨rfl, rfl⟩
    · rw [decide_eq_false (fun h => h2 h.2)]
      have h3 : decide (n ≤ hi) = false := by simpa using h2
      clear h2
      go_enter Try.func44, Try.ntmps44
      go_wp2
      go_ret
      exact ⟨rfl, rfl⟩
  · rw [decide_eq_false (fun h => h1 h.1)]
    have h3 : decide (lo ≤ n) = false := by simpa using h1
    clear h1
    go_enter Try.func44, Try.ntmps44
    go_wp2
    go_ret
    exact ⟨rfl, rfl⟩

set_option maxRecDepth 20000 in
theorem l2List (lo hi : Nat) (A : Option Addr) (n c : Nat) (xs : List Int) (w : World) (hx : Ints lo hi w A n c xs) :
    Calls Try.prog 31 #[.slice A n c] w fun e w' => e = .returned (.bool (okL xs)) ∧ w = w' := by
  have hc1 := hx.2.2.1
  have hc2 := hx.2.1
  have HL := Lib.hid hx.1
  unfold maxLen at hc1
  have HX := Lib.hid hx
  clear hx
  go_enter Try.func31, Try.ntmps31
  go_wp2
  go_loop [3] (fun i => ∃ k : Nat, k ≤ n ∧ i = .int .i64 k ∧ okTo xs k) (fun i => n - (intOf i).toNat)
  case atStart => exact ⟨0, Nat.zero_le _, rfl, okTo_zero _⟩
  case round =>
    obtain ⟨k, hk, rfl, hT⟩ := hrel
    have HT := Lib.hid hT
    clear hT
    by_cases hlt : k < n
    · obtain ⟨b, off, rfl, _, _, hcx⟩ := HX.out.at_ hlt
      generalize hxe : xs.getD k 0 = x at hcx
      have HXE := Lib.hid hxe
      clear hxe
      cases hin : inN x
      · have hno := inN_no.1 hin
        have hfin : okL xs = false := okL_bad (k := k) (by rw [HL.out]; exact hlt) (by rw [HXE.out]; exact hin)
        have HF := Lib.hid hfin
        have hd : decide (0 ≤ x ∧ x ≤ 990) = false := decide_eq_false hno
        clear hfin hin hno
        go_wp2_with fail
        ((with_reducible refine (l6In x 0 990 w).mono ?_); rintro e w' ⟨rfl, rfl⟩)
        rw [hd]
        clear hd
        go_wp2
        go_ret
        rw [HF.out]
        exact ⟨rfl, rfl⟩
      · have hyes := inN_iff.1 hin
        have HN := Lib.hid (okTo_succ HT.out (by rw [HXE.out]; exact hin))
        have hd : decide (0 ≤ x ∧ x ≤ 990) = true := decide_eq_true hyes
        clear hin hyes
        go_wp2_with fail
        ((with_reducible refine (l6In x 0 990 w).mono ?_); rintro e w' ⟨rfl, rfl⟩)
        rw [hd]
        clear hd
        go_wp2
        go_round
        case rel => exact ⟨k + 1, by omega, by go_num, HN.out⟩
        case measure => simp [intOf]; omega
    · have hkn : k = n := by omega
      have hfin : okL xs = decide (n ≤ 24) := by
        rw [← HL.out]
        exact okL_of_to (by rw [HL.out, ← hkn]; exact HT.out)
      have HF := Lib.hid hfin
      clear hfin hkn
      by_cases h24 : n ≤ 24
      · have hd2 : decide ((n : Int) ≤ 24) = true := by simp; omega
        go_wp2
        go_ret
        rw [HF.out, decide_eq_true h24]
        exact ⟨rfl, rfl⟩
      · have hd : decide (n ≤ 24) = false := decide_eq_false h24
        have hd2 : decide ((n : Int) ≤ 24) = false := by simp; omega
        clear h24
        go_wp2
        go_ret
        rw [HF.out, hd]
        exact ⟨rfl, rfl⟩










end Sp2
end Go.Proofs.Ytoghgliijjfppab
