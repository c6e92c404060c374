/-
  Contracts of the laws' helpers on slices of ints: comparing, marking, copying.
-/
import Derived.Test.YtnjcpbkpcmemeabChecked
import Derived.Test.YtnjcpbkpcmemeabIla
import Derived.BigQuiet
namespace Go.Proofs.Ytnjcpbkpcmemeab
open Go.RowKit
namespace Hlp
open Il

theorem boolPost_drew (b : Bool) (w : World) (d e : Nat) : BoolPost b w (.returned (.bool b)) ((w.drewN d).drewN e) := ⟨rfl, d + e, World.drewN_drewN w d e⟩

theorem eq_of_take {xs ys : List Int} {n : Nat} (hx : xs.length = n) (hy : ys.length = n) (h : xs.take n = ys.take n) : xs = ys := by
  rwa [List.take_of_length_le (by omega), List.take_of_length_le (by omega)] at h

set_option maxRecDepth 20000 in
theorem sameInts (la ha lb hb : Nat) (A B : Option Addr) (n m c d : Nat) (xs ys : List Int) (w : World) (hx : Ints la ha w A n c xs) (hy : Ints lb hb w B m d ys) :
    Calls Try.prog 19 #[.slice A n c, .slice B m d] w (BoolPost (decide (xs = ys)) w) := by
  have hc1 := hx.2.2.1
  have hc2 := hx.2.1
  have hc3 := hy.2.2.1
  have hc4 := hy.2.1
  unfold maxLen at hc1 hc3
  have HX := Lib.hid hx
  have HY := Lib.hid hy
  by_cases hne : n = m
  · subst hne
    have hl : ((n : Int) != (n : Int)) = false := by simp
    clear hx hy
    go_enter Try.func19, Try.ntmps19
    go_wp2
    go_loopw [5] (fun i wr => ∃ k : Nat, k ≤ n ∧ i = .int .i64 k ∧ Hid (xs.take k = ys.take k ∧ ∃ dd, wr = w.drewN dd)) (fun i _ => n - (intOf i).toNat)
    case atStart => exact ⟨0, Nat.zero_le _, rfl, rfl, 0, rfl⟩
    case round =>
      obtain ⟨k, hk, rfl, hT⟩ := hrel
      obtain ⟨hT, dd, rfl⟩ := hT
      have HT := Lib.hid hT
      clear hT
      by_cases hlt : k < n
      · obtain ⟨b, off, rfl, _, _, hcx⟩ := HX.out.at_ hlt
        obtain ⟨b2, off2, rfl, _, _, hcy⟩ := HY.out.at_ hlt
        generalize hxe : xs.getD k 0 = x at hcx
        generalize hye : ys.getD k 0 = y at hcy
        have HXE := Lib.hid hxe
        have HYE := Lib.hid hye
        clear hxe hye
        by_cases hxy : x = y
        · subst hxy
          go_wp2
          go_quiet (fail)
          go_wp2
          refine ⟨⟨k + 1, by omega, by go_num, take_eq_succ (by rw [HX.out.1]; exact hlt) (by rw [HY.out.1]; exact hlt) HT.out (HXE.out.trans HYE.out.symm), _, rfl⟩, ?_⟩
          simp [intOf]
          omega
        · have hb1 : (x != y) = true := by simpa using hxy
          have hfin : decide (xs = ys) = false := by
            simp only [decide_eq_false_iff_not]
            rintro rfl
            exact hxy (HXE.out.symm.trans HYE.out)
          have HF := Lib.hid hfin
          clear hxy hfin
          go_wp2
          go_quiet (fail)
          go_wp2
          go_ret
          rw [HF.out]
          exact boolPost_drew false w _ _
      · have hkn : k = n := by omega
        have hfin : decide (xs = ys) = true := by
          simp only [decide_eq_true_eq]
          exact eq_of_take HX.out.1 HY.out.1 (by rw [← hkn]; exact HT.out)
        have HF := Lib.hid hfin
        clear hfin hkn
        go_wp2
        go_ret
        rw [HF.out]
        exact ⟨rfl, _, rfl⟩
  · have hl : ((n : Int) != (m : Int)) = true := by simp; omega
    have hne2 : decide (xs = ys) = false := by
      simp only [decide_eq_false_iff_not]
      rintro rfl
      exact hne (hx.1.symm.trans hy.1)
    rw [hne2]
    clear hne2 hx hy hne
    go_enter Try.func19, Try.ntmps19
    go_wp2
    go_ret
    exact ⟨rfl, 0, rfl⟩





end Hlp
end Go.Proofs.Ytnjcpbkpcmemeab
