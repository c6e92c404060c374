/-
  Contracts of the group's functions: each returns the product or the factor of Gm, or 0 outside the range, and leaves the world alone.
-/
import Derived.Test.YtnjcpbkpcmemeacChecked
import Derived.Test.YtnjcpbkpcmemeacGmm
import Derived.WalkKit
namespace Go.Proofs.Ytnjcpbkpcmemeac
open Go.RowKit
namespace Grp
open Gm

theorem inRange_yes (n : Int) (w : World) (h1 : 1 ≤ n) (h2 : n ≤ 996) :
    Calls Try.prog 51 #[.int .i64 n] w fun e w' => e = .returned (.bool true) ∧ w = w' := by
  go_enter Try.func51, Try.ntmps51
  go_wp2
  go_ret
  exact ⟨rfl, rfl⟩
theorem inRange_no (n : Int) (w : World) (h : n < 1 ∨ 996 < n) :
    Calls Try.prog 51 #[.int .i64 n] w fun e w' => e = .returned (.bool false) ∧ w = w' := by
  rcases h with h | h
  · go_enter Try.func51, Try.ntmps51
    go_wp2
    go_ret
    exact ⟨rfl, rfl⟩
  · have h0 : 1 ≤ n := by omega
    have h0d : decide (n ≤ 996) = false := by simp; omega
    go_enter Try.func51, Try.ntmps51
    go_wp2
    go_ret
    exact ⟨rfl, rfl⟩
theorem inRange (n : Int) (w : World) :
    Calls Try.prog 51 #[.int .i64 n] w fun e w' => e = .returned (.bool (inG n)) ∧ w = w' := by
  by_cases h : 1 ≤ n ∧ n ≤ 996
  · rw [inG_iff.2 h]; exact inRange_yes n w h.1 h.2
  · rw [inG_no.2 h]; exact inRange_no n w (by omega)

theorem l1Is_yes (n : Int) (w : World) (h1 : 1 ≤ n) (h2 : n ≤ 996) :
    Calls Try.prog 43 #[.int .i64 n] w fun e w' => e = .returned (.bool true) ∧ w = w' := by
  go_enter Try.func43, Try.ntmps43
  go_wp2
  go_ret
  exact ⟨rfl, rfl⟩
theorem l1Is_no (n : Int) (w : World) (h : n < 1 ∨ 996 < n) :
    Calls Try.prog 43 #[.int .i64 n] w fun e w' => e = .returned (.bool false) ∧ w = w' := by
  rcases h with h | h
  · go_enter Try.func43, Try.ntmps43
    go_wp2
    go_ret
    exact ⟨rfl, rfl⟩
  · have h0 : 1 ≤ n := by omega
    have h0d : decide (n ≤ 996) = false := by simp; omega
    go_enter Try.func43, Try.ntmps43
    go_wp2
    go_ret
    exact ⟨rfl, rfl⟩
theorem l1Is (n : Int) (w : World) :
    Calls Try.prog 43 #[.int .i64 n] w fun e w' => e = .returned (.bool (inG n)) ∧ w = w' := by
  by_cases h : 1 ≤ n ∧ n ≤ 996
  · rw [inG_iff.2 h]; exact l1Is_yes n w h.1 h.2
  · rw [inG_no.2 h]; exact l1Is_no n w (by omega)


theorem sPublic (a : Int) (w : World) :
    Calls Try.prog 91 #[.int .i64 a] w fun e w' => e = .returned (.int .i64 (mulG a 5)) ∧ w = w' := by
  by_cases ha : 1 ≤ a ∧ a ≤ 996
  · obtain ⟨ha1, ha2⟩ := ha
    rw [mulG_in (inG_iff.2 ⟨ha1, ha2⟩) (by decide)]
    have hm : 0 ≤ a * 5 ∧ a * 5 ≤ 992016 := by omega
    obtain ⟨hm1, hm2⟩ := hm
    go_enter Try.func91, Try.ntmps91
    go_wp2
    go_ret
    exact ⟨rfl, rfl⟩
  · rw [mulG_out1 (inG_no.2 ha)]
    have ha' : a < 1 ∨ 996 < a := by omega
    clear ha
    rcases ha' with ha | ha
    · go_enter Try.func91, Try.ntmps91
      go_wp2
      go_ret
      exact ⟨rfl, rfl⟩
    · have ha0 : 1 ≤ a := by omega
      have ha0d : decide (a ≤ 996) = false := by simp; omega
      go_enter Try.func91, Try.ntmps91
      go_wp2
      go_ret
      exact ⟨rfl, rfl⟩

theorem iShared (a b : Int) (w : World) :
    Calls Try.prog 59 #[.int .i64 a, .int .i64 b] w fun e w' => e = .returned (.int .i64 (mulG a b)) ∧ w = w' := by
  by_cases ha : 1 ≤ a ∧ a ≤ 996
  · obtain ⟨ha1, ha2⟩ := ha
    by_cases hb : 1 ≤ b ∧ b ≤ 996
    · obtain ⟨hb1, hb2⟩ := hb
      rw [mulG_in (inG_iff.2 ⟨ha1, ha2⟩) (inG_iff.2 ⟨hb1, hb2⟩)]
      have hm : 0 ≤ a * b ∧ a * b ≤ 992016 := by exact ⟨Int.mul_nonneg (by omega) (by omega), by have := Int.mul_le_mul ha2 hb2 (by omega) (by omega); omega⟩
      obtain ⟨hm1, hm2⟩ := hm
      go_enter Try.func59, Try.ntmps59
      go_wp2
      go_ret
      exact ⟨rfl, rfl⟩
    · rw [mulG_out2 (inG_no.2 hb)]
      have hb' : b < 1 ∨ 996 < b := by omega
      clear hb
      rcases hb' with hb | hb
      · go_enter Try.func59, Try.ntmps59
        go_wp2
        go_ret
        exact ⟨rfl, rfl⟩
      · have hb0 : 1 ≤ b := by omega
        have hb0d : decide (b ≤ 996) = false := by simp; omega
        go_enter Try.func59, Try.ntmps59
        go_wp2
        go_ret
        exact ⟨rfl, rfl⟩
  · rw [mulG_out1 (inG_no.2 ha)]
    have ha' : a < 1 ∨ 996 < a := by omega
    clear ha
    rcases ha' with ha | ha
    · go_enter Try.func59, Try.ntmps59
      go_wp2
      go_ret
      exact ⟨rfl, rfl⟩
    · have ha0 : 1 ≤ a := by omega
      have ha0d : decide (a ≤ 996) = false := by simp; omega
      go_enter Try.func59, Try.ntmps59
      go_wp2
      go_ret
      exact ⟨rfl, rfl⟩


theorem iBlind (a b : Int) (w : World) :
    Calls Try.prog 86 #[.int .i64 a, .int .i64 b] w fun e w' => e = .returned (.int .i64 (mulG a b)) ∧ w = w' := by
  by_cases ha : 1 ≤ a ∧ a ≤ 996
  · obtain ⟨ha1, ha2⟩ := ha
    by_cases hb : 1 ≤ b ∧ b ≤ 996
    · obtain ⟨hb1, hb2⟩ := hb
      rw [mulG_in (inG_iff.2 ⟨ha1, ha2⟩) (inG_iff.2 ⟨hb1, hb2⟩)]
      have hm : 0 ≤ a * b ∧ a * b ≤ 992016 := by exact ⟨Int.mul_nonneg (by omega) (by omega), by have := Int.mul_le_mul ha2 hb2 (by omega) (by omega); omega⟩
      obtain ⟨hm1, hm2⟩ := hm
      go_enter Try.func86, Try.ntmps86
      go_wp2
      go_ret
      exact ⟨rfl, rfl⟩
    · rw [mulG_out2 (inG_no.2 hb)]
      have hb' : b < 1 ∨ 996 < b := by omega
      clear hb
      rcases hb' with hb | hb
      · go_enter Try.func86, Try.ntmps86
        go_wp2
        go_ret
        exact ⟨rfl, rfl⟩
      · have hb0 : 1 ≤ b := by omega
        have hb0d : decide (b ≤ 996) = false := by simp; omega
        go_enter Try.func86, Try.ntmps86
        go_wp2
        go_ret
        exact ⟨rfl, rfl⟩
  · rw [mulG_out1 (inG_no.2 ha)]
    have ha' : a < 1 ∨ 996 < a := by omega
    clear ha
    rcases ha' with ha | ha
    · go_enter Try.func86, Try.ntmps86
      go_wp2
      go_ret
      exact ⟨rfl, rfl⟩
    · have ha0 : 1 ≤ a := by omega
      have ha0d : decide (a ≤ 996) = false := by simp; omega
      go_enter Try.func86, Try.ntmps86
      go_wp2
      go_ret
      exact ⟨rfl, rfl⟩


theorem iFactor (a : Int) (w : World) :
    Calls Try.prog 87 #[.int .i64 a] w fun e w' => e = .returned (.int .i64 (facG a)) ∧ w = w' := by
  by_cases ha : 1 ≤ a ∧ a ≤ 996
  · obtain ⟨ha1, ha2⟩ := ha
    rw [facG_in (inG_iff.2 ⟨ha1, ha2⟩)]
    go_enter Try.func87, Try.ntmps87
    go_wp2
    go_ret
    exact ⟨rfl, rfl⟩
  · rw [facG_out (inG_no.2 ha)]
    have ha' : a < 1 ∨ 996 < a := by omega
    clear ha
    rcases ha' with ha | ha
    · go_enter Try.func87, Try.ntmps87
      go_wp2
      go_ret
      exact ⟨rfl, rfl⟩
    · have ha0 : 1 ≤ a := by omega
      have ha0d : decide (a ≤ 996) = false := by simp; omega
      go_enter Try.func87, Try.ntmps87
      go_wp2
      go_ret
      exact ⟨rfl, rfl⟩



end Grp
end Go.Proofs.Ytnjcpbkpcmemeac
