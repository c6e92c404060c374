/-
  Contracts of the laws' helpers on slices of ints: comparing, marking, copying.
-/
import Derived.Test.YtjfonmaandnbhabChecked
import Derived.Test.YtjfonmaandnbhabIla
import Derived.BigQuiet
namespace Go.Proofs.Ytjfonmaandnbhab
open Go.RowKit
namespace Hlp
open Il

theorem boolPost_drew (b : Bool) (w : World) (d e : Nat) : BoolPost b w (.returned (.bool b)) ((w.drewN d).drewN e) := ⟨rfl, d + e, World.drewN_drewN w d e⟩

theorem eq_of_take {xs ys : List Int} {n : Nat} (hx : xs.length = n) (hy : ys.length = n) (h : xs.take n = ys.take n) : xs = ys := by
  rwa [List.take_of_length_le (by omega), List.take_of_length_le (by omega)] at h

set_option maxRecDepth 20000 in
theorem sameInts (la ha lb hb : Nat) (A B : Option Addr) (n m c d : Nat) (xs ys : List Int) (w : World) (hx : Ints la ha w A n c xs) (hy : Ints lb hb w B m d ys) :
    Calls Try.prog 19 #[.slice A n c, .slice B m d] w (BoolPost (decide (xs = ys)) w) := by
  have hc1 := hx.2.2.1
  have hc2 := hx.2.1
  have hc3 := hy.2.2.1
  have hc4 := hy.2.1
  unfold maxLen at hc1 hc3
  have HX := Lib.hid hx
  have HY := Lib.hid hy
  by_cases hne : n = m
  · subst hne
    have hl : ((n : Int) != (n : Int)) = false := by simp
    clear hx hy
    go_enter Try.func19, Try.ntmps19
    go_wp2
    go_loopw [5] (fun i wr => ∃ k : Nat, k ≤ n ∧ i = .int .i64 k ∧ Hid (xs.take k = ys.take k ∧ ∃ dd, wr = w.drewN dd)) (fun i _ => n - (intOf i).toNat)
    case atStart => exact ⟨0, Nat.zero_le _, rfl, rfl, 0, rfl⟩
    case round =>
      obtain ⟨k, hk, rfl, hT⟩ := hrel
      obtain ⟨hT, dd, rfl⟩ := hT
      have HT := Lib.hid hT
      clear hT
      by_cases hlt : k < n
      · obtain ⟨b, off, rfl, _, _, hcx⟩ := HX.out.at_ hlt
        obtain ⟨b2, off2, rfl, _, _, hcy⟩ := HY.out.at_ hlt
        generalize hxe : xs.getD k 0 = x at hcx
        generalize hye : ys.getD k 0 = y at hcy
        have HXE := Lib.hid hxe
        have HYE := Lib.hid hye
        clear hxe hye
        by_cases hxy : x = y
        · subst hxy
          go_wp2
          go_quiet (fail)
          go_wp2
          refine ⟨⟨k + 1, by omega, by go_num, take_eq_succ (by rw [HX.out.1]; exact hlt) (by rw [HY.out.1]; exact hlt) HT.out (HXE.out.trans HYE.out.symm), _, rfl⟩, ?_⟩
          simp [intOf]
          omega
        · have hb1 : (x != y) = true := by simpa using hxy
          have hfin : decide (xs = ys) = false := by
            simp only [decide_eq_false_iff_not]
            rintro rfl
            exact hxy (HXE.out.symm.trans HYE.out)
          have HF := Lib.hid hfin
          clear hxy hfin
          go_wp2
          go_quiet (fail)
          go_wp2
          go_ret
          rw [HF.out]
          exact boolPost_drew false w _ _
      · have hkn : k = n := by omega
        have hfin : decide (xs = ys) = true := by
          simp only [decide_eq_true_eq]
          exact eq_of_take HX.out.1 HY.out.1 (by rw [← hkn]; exact HT.out)
        have HF := Lib.hid hfin
        clear hfin hkn
        go_wp2
        go_ret
        rw [HF.out]
        exact ⟨rfl, _, rfl⟩
  · have hl : ((n : Int) != (m : Int)) = true := by simp; omega
    have hne2 : decide (xs = ys) = false := by
      simp only [decide_eq_false_iff_not]
      rintro rfl
      exact hne (hx.1.symm.trans hy.1)
    rw [hne2]
    clear hne2 hx hy hne
    go_enter Try.func19, Try.ntmps19
    go_wp2
    go_ret
    exact ⟨rfl, 0, rfl⟩

set_option maxRecDepth 20000 in
theorem eqIntS (la ha lb hb : Nat) (A B : Option Addr) (n m c d : Nat) (xs ys : List Int) (w : World) (hx : Ints la ha w A n c xs) (hy : Ints lb hb w B m d ys) :
    Calls Try.prog 29 #[.slice A n c, .slice B m d] w (BoolPost (decide (xs = ys)) w) := by
  have hc1 := hx.2.2.1
  have hc2 := hx.2.1
  have hc3 := hy.2.2.1
  have hc4 := hy.2.1
  unfold maxLen at hc1 hc3
  have HX := Lib.hid hx
  have HY := Lib.hid hy
  by_cases hne : n = m
  · subst hne
    have hl : ((n : Int) != (n : Int)) = false := by simp
    clear hx hy
    go_enter Try.func29, Try.ntmps29
    go_wp2
    go_loopw [5] (fun i wr => ∃ k : Nat, k ≤ n ∧ i = .int .i64 k ∧ Hid (xs.take k = ys.take k ∧ ∃ dd, wr = w.drewN dd)) (fun i _ => n - (intOf i).toNat)
    case atStart => exact ⟨0, Nat.zero_le _, rfl, rfl, 0, rfl⟩
    case round =>
      obtain ⟨k, hk, rfl, hT⟩ := hrel
      obtain ⟨hT, dd, rfl⟩ := hT
      have HT := Lib.hid hT
      clear hT
      by_cases hlt : k < n
      · obtain ⟨b, off, rfl, _, _, hcx⟩ := HX.out.at_ hlt
        obtain ⟨b2, off2, rfl, _, _, hcy⟩ := HY.out.at_ hlt
        generalize hxe : xs.getD k 0 = x at hcx
        generalize hye : ys.getD k 0 = y at hcy
        have HXE := Lib.hid hxe
        have HYE := Lib.hid hye
        clear hxe hye
        by_cases hxy : x = y
        · subst hxy
          go_wp2
          go_quiet (fail)
          go_wp2
          refine ⟨⟨k + 1, by omega, by go_num, take_eq_succ (by rw [HX.out.1]; exact hlt) (by rw [HY.out.1]; exact hlt) HT.out (HXE.out.trans HYE.out.symm), _, rfl⟩, ?_⟩
          simp [intOf]
          omega
        · have hb1 : (x != y) = true := by simpa using hxy
          have hfin : decide (xs = ys) = false := by
            simp only [decide_eq_false_iff_not]
            rintro rfl
            exact hxy (HXE.out.symm.trans HYE.out)
          have HF := Lib.hid hfin
          clear hxy hfin
          go_wp2
          go_quiet (fail)
          go_wp2
          go_ret
          rw [HF.out]
          exact boolPost_drew false w _ _
      · have hkn : k = n := by omega
        have hfin : decide (xs = ys) = true := by
          simp only [decide_eq_true_eq]
          exact eq_of_take HX.out.1 HY.out.1 (by rw [← hkn]; exact HT.out)
        have HF := Lib.hid hfin
        clear hfin hkn
        go_wp2
        go_ret
        rw [HF.out]
        exact ⟨rfl, _, rfl⟩
  · have hl : ((n : Int) != (m : Int)) = true := by simp; omega
    have hne2 : decide (xs = ys) = false := by
      simp only [decide_eq_false_iff_not]
      rintro rfl
      exact hne (hx.1.symm.trans hy.1)
    rw [hne2]
    clear hne2 hx hy hne
    go_enter Try.func29, Try.ntmps29
    go_wp2
    go_ret
    exact ⟨rfl, 0, rfl⟩

def MarkPost (lo hi : Nat) (A : Option Addr) (n c : Nat) (k0 : Int) (w : World) (e : Ending) (w' : World) : Prop :=
  e = .returned (.int .i64 (k0 + n)) ∧ Own lo hi w' A n c (marks k0 n) ∧ Kept lo hi w w'

set_option maxRecDepth 20000 in
theorem markIntS (lo hi : Nat) (A : Option Addr) (n c : Nat) (xs : List Int) (k0 : Int) (w : World) (hx : Own lo hi w A n c xs) (hn : n ≤ 10000000) (h0 : 0 ≤ k0) (h1 : k0 ≤ 10000000) :
    Calls Try.prog 31 #[.slice A n c, .int .i64 k0] w (MarkPost lo hi A n c k0 w) := by
  have HX := Lib.hid hx
  clear hx
  go_enter Try.func31, Try.ntmps31
  go_wp2
  go_loopw [1, 5] (fun q i wr => ∃ k : Nat, k ≤ n ∧ i = .int .i64 k ∧ q = .int .i64 (k0 + k) ∧ Hid (Own lo hi wr A n c (marks k0 k ++ xs.drop k) ∧ Kept lo hi w wr)) (fun _ i _ => n - (intOf i).toNat)
  case atStart => exact ⟨0, Nat.zero_le _, rfl, by simp, by simpa [marks] using HX.out, Kept.refl _ _ _⟩
  case round =>
    obtain ⟨k, hk, rfl, rfl, hT⟩ := hrel
    by_cases hlt : k < n
    · obtain ⟨b, off, rfl, hb1, hb2, hcx⟩ := hT.out.1.1.at_ hlt
      have hfz := hT.out.1.2 b off (by omega) rfl k hlt
      have hT' := hT.out.1.set_ hlt (k0 + k)
      rw [marks_step k0 xs (by rw [HX.out.1.1]; exact hlt)] at hT'
      have HT := Lib.hid (show _ ∧ _ from ⟨hT', hT.out.2.set (p := ⟨b, off + k, none⟩) hb1 hb2 (.int .i64 (k0 + k))⟩)
      clear hT hT'
      go_wp2
      go_roundw
      case rel => exact ⟨k + 1, by omega, by go_num, by go_num, HT.out⟩
      case measure => simp [intOf]; omega
    · have hkn : k = n := by omega
      subst hkn
      have hT1 := hT.out.1
      have hT2 := hT.out.2
      rw [List.drop_eq_nil_of_le (by rw [HX.out.1.1]; exact Nat.le_refl _), List.append_nil] at hT1
      have HT := Lib.hid (show _ ∧ _ from ⟨hT1, hT2⟩)
      clear hT hT1 hT2
      go_wp2
      go_ret
      exact ⟨rfl, HT.out⟩

set_option maxRecDepth 20000 in
theorem heldIntS (lo hi : Nat) (A : Option Addr) (n c : Nat) (k0 : Int) (w : World) (hx : Ints lo hi w A n c (marks k0 n)) (hn : n ≤ 10000000) (h0 : 0 ≤ k0) (h1 : k0 ≤ 10000000) :
    Calls Try.prog 32 #[.slice A n c, .int .i64 k0] w fun e w' => e = .returned (.int .i64 (k0 + n)) ∧ w = w' := by
  have HX := Lib.hid hx
  clear hx
  go_enter Try.func32, Try.ntmps32
  go_wp2
  go_loop [1, 5] (fun q i => ∃ k : Nat, k ≤ n ∧ i = .int .i64 k ∧ q = .int .i64 (k0 + k)) (fun _ i => n - (intOf i).toNat)
  case atStart => exact ⟨0, Nat.zero_le _, rfl, by simp⟩
  case round =>
    obtain ⟨k, hk, rfl, rfl⟩ := hrel
    by_cases hlt : k < n
    · obtain ⟨b, off, rfl, hb1, hb2, hcx⟩ := HX.out.at_ hlt
      rw [marks_at k0 hlt] at hcx
      go_wp2
      go_round
      case rel => exact ⟨k + 1, by omega, by go_num, by go_num⟩
      case measure => simp [intOf]; omega
    · have hkn : k = n := by omega
      subst hkn
      go_wp2
      go_ret
      exact ⟨rfl, rfl⟩


end Hlp
end Go.Proofs.Ytjfonmaandnbhab
