/-
  Names of mixes: plain lists, the model's and the program's checks. (The same as in the parts on packets, for a program without them.)
-/
import Derived.Test.YtbhafchdcofceaaSp2
namespace Go.Proofs.Ytbhafchdcofceaa
open Go.RowKit
namespace Nm
open Il Sp2

def inName (x : Int) : Bool := decide (0 ≤ x ∧ x ≤ 7)
theorem getD_mem {xs : List Int} {k : Nat} (h : k < xs.length) : xs.getD k 0 ∈ xs := by
  rw [List.getD_eq_getElem?_getD, List.getElem?_eq_getElem h]
  exact List.getElem_mem h
theorem inName_iff {x : Int} : inName x = true ↔ 0 ≤ x ∧ x ≤ 7 := by unfold inName; simp
def allTo (P : Int → Bool) (xs : List Int) (k : Nat) : Prop := ∀ j, j < k → P (xs.getD j 0) = true
theorem allTo_zero (P : Int → Bool) (xs : List Int) : allTo P xs 0 := fun j h => absurd h (by omega)
theorem allTo_succ {P : Int → Bool} {xs : List Int} {k : Nat} (h : allTo P xs k) (hk : P (xs.getD k 0) = true) : allTo P xs (k + 1) := fun j hj => by
  by_cases e : j = k
  · subst e; exact hk
  · exact h j (by omega)
theorem all_of_to {P : Int → Bool} {xs : List Int} (h : allTo P xs xs.length) : xs.all P = true := by
  rw [List.all_eq_true]
  intro x hx
  obtain ⟨j, hj, e⟩ := List.getElem_of_mem hx
  have := h j hj
  rwa [List.getD_eq_getElem?_getD, List.getElem?_eq_getElem hj, Option.getD_some, e] at this
theorem all_bad {P : Int → Bool} {xs : List Int} {k : Nat} (hk : k < xs.length) (h : P (xs.getD k 0) = false) : xs.all P = false := by
  rw [List.all_eq_false]
  exact ⟨_, getD_mem hk, by rw [h]; decide⟩

def namesOk (xs : List Int) : Bool := xs.all inName

set_option maxRecDepth 20000 in
theorem l5Names (lo hi : Nat) (A : Option Addr) (n c : Nat) (xs : List Int) (w : World) (hx : Ints lo hi w A n c xs) :
    Calls Try.prog 48 #[.slice A n c] w fun e w' => e = .returned (.bool (namesOk xs)) ∧ w = w' := by
  have hc1 := hx.2.2.1
  have hc2 := hx.2.1
  have HL := Lib.hid hx.1
  unfold maxLen at hc1
  have HX := Lib.hid hx
  clear hx
  go_enter Try.func48, Try.ntmps48
  go_wp2
  go_loop [3] (fun i => ∃ k : Nat, k ≤ n ∧ i = .int .i64 k ∧ allTo inName xs k) (fun i => n - (intOf i).toNat)
  case atStart => exact ⟨0, Nat.zero_le _, rfl, allTo_zero _ _⟩
  case round =>
    obtain ⟨k, hk, rfl, hT⟩ := hrel
    have HT := Lib.hid hT
    clear hT
    by_cases hlt : k < n
    · obtain ⟨b, off, rfl, _, _, hcx⟩ := HX.out.at_ hlt
      generalize hxe : xs.getD k 0 = x at hcx
      have HXE := Lib.hid hxe
      clear hxe
      cases hin : inName x
      · have hfin : namesOk xs = false := by
          have := all_bad (P := inName) (k := k) (by rw [HL.out]; exact hlt) (by rw [HXE.out]; exact hin)
          simp [namesOk, this]
        have HF := Lib.hid hfin
        clear hfin
        go_wp2_with fail
        ((with_reducible refine (l6In x 0 7 w).mono ?_); rintro e w' ⟨rfl, rfl⟩)
        rw [show decide (0 ≤ x ∧ x ≤ 7) = _ from hin]
        clear hin
        go_wp2
        go_ret
        rw [HF.out]
        exact ⟨rfl, rfl⟩
      · have HN := Lib.hid (allTo_succ HT.out (by rw [HXE.out]; exact hin))
        go_wp2_with fail
        ((with_reducible refine (l6In x 0 7 w).mono ?_); rintro e w' ⟨rfl, rfl⟩)
        rw [show decide (0 ≤ x ∧ x ≤ 7) = _ from hin]
        clear hin
        go_wp2
        go_round
        case rel => exact ⟨k + 1, by omega, by go_num, HN.out⟩
        case measure => simp [intOf]; omega
    · have hkn : k = n := by omega
      have hall : xs.all inName = true := all_of_to (by rw [HL.out, ← hkn]; exact HT.out)
      have HF : Hid (namesOk xs = true) := hall
      clear hkn hall
      go_wp2
      go_ret
      rw [HF.out]
      exact ⟨rfl, rfl⟩

set_option maxRecDepth 20000 in
theorem nameValid (x : Int) (w : World) :
    Calls Try.prog 49 #[.int .i64 x] w fun e w' => e = .returned (.bool (inName x)) ∧ w = w' := by
  by_cases h0 : 0 ≤ x
  · by_cases h1 : x < 8
    · have hv : inName x = true := inName_iff.2 (by omega)
      rw [hv]
      clear hv
      go_enter Try.func49, Try.ntmps49
      go_wp2
      go_ret
      exact ⟨rfl, rfl⟩
    · have hv : inName x = false := by unfold inName; simp; omega
      rw [hv]
      clear hv
      have h2 : decide (x < 8) = false := by simpa using h1
      clear h1
      go_enter Try.func49, Try.ntmps49
      go_wp2
      go_ret
      exact ⟨rfl, rfl⟩
  · have hv : inName x = false := by unfold inName; simp; omega
    rw [hv]
    clear hv
    have h2 : decide (0 ≤ x) = false := by simpa using h0
    clear h0
    go_enter Try.func49, Try.ntmps49
    go_wp2
    go_ret
    exact ⟨rfl, rfl⟩

set_option maxRecDepth 20000 in
theorem namesValid (lo hi : Nat) (A : Option Addr) (n c : Nat) (xs : List Int) (w : World) (hx : Ints lo hi w A n c xs) :
    Calls Try.prog 43 #[.slice A n c] w fun e w' => e = .returned (.bool (namesOk xs)) ∧ w = w' := by
  have hc1 := hx.2.2.1
  have hc2 := hx.2.1
  have HL := Lib.hid hx.1
  unfold maxLen at hc1
  have HX := Lib.hid hx
  clear hx
  go_enter Try.func43, Try.ntmps43
  go_wp2
  go_loop [7] (fun i => ∃ k : Nat, k ≤ n ∧ i = .int .i64 k ∧ allTo inName xs k) (fun i => n - (intOf i).toNat)
  case atStart => exact ⟨0, Nat.zero_le _, rfl, allTo_zero _ _⟩
  case round =>
    obtain ⟨k, hk, rfl, hT⟩ := hrel
    have HT := Lib.hid hT
    clear hT
    by_cases hlt : k < n
    · obtain ⟨b, off, rfl, _, _, hcx⟩ := HX.out.at_ hlt
      generalize hxe : xs.getD k 0 = x at hcx
      have HXE := Lib.hid hxe
      clear hxe
      cases hin : inName x
      · have hfin : namesOk xs = false := by
          have := all_bad (P := inName) (k := k) (by rw [HL.out]; exact hlt) (by rw [HXE.out]; exact hin)
          simp [namesOk, this]
        have HF := Lib.hid hfin
        clear hfin
        go_wp2_with fail
        ((with_reducible refine (nameValid x w).mono ?_); rintro e w' ⟨rfl, rfl⟩)
        rw [hin]
        clear hin
        go_wp2
        go_ret
        rw [HF.out]
        exact ⟨rfl, rfl⟩
      · have HN := Lib.hid (allTo_succ HT.out (by rw [HXE.out]; exact hin))
        go_wp2_with fail
        ((with_reducible refine (nameValid x w).mono ?_); rintro e w' ⟨rfl, rfl⟩)
        rw [hin]
        clear hin
        go_wp2
        go_round
        case rel => exact ⟨k + 1, by omega, by go_num, HN.out⟩
        case measure => simp [intOf]; omega
    · have hkn : k = n := by omega
      have hall : xs.all inName = true := all_of_to (by rw [HL.out, ← hkn]; exact HT.out)
      have HF : Hid (namesOk xs = true) := hall
      clear hkn hall
      go_wp2
      go_ret
      rw [HF.out]
      exact ⟨rfl, rfl⟩

end Nm
end Go.Proofs.Ytbhafchdcofceaa
