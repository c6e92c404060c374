/-
  Contracts of the laws' helpers on slices of ints: comparing, marking, copying.
-/
import Derived.Test.YtnjcpbkpcmemeacChecked
import Derived.Test.YtnjcpbkpcmemeacIla
import Derived.BigQuiet
namespace Go.Proofs.Ytnjcpbkpcmemeac
open Go.RowKit
namespace Hlp
open Il

theorem boolPost_drew (b : Bool) (w : World) (d e : Nat) : BoolPost b w (.returned (.bool b)) ((w.drewN d).drewN e) := ⟨rfl, d + e, World.drewN_drewN w d e⟩

theorem eq_of_take {xs ys : List Int} {n : Nat} (hx : xs.length = n) (hy : ys.length = n) (h : xs.take n = ys.take n) : xs = ys := by
  rwa [List.take_of_length_le (by omega), List.take_of_length_le (by omega)] at h

set_option maxRecDepth 20000 in
theorem sameInts (la ha lb hb : Nat) (A B : Option Addr) (n m c d : Nat) (xs ys : List Int) (w : World) (hx : Ints la ha w A n c xs) (hy : Ints lb hb w B m d ys) :
    Calls Try.prog 42 #[.slice A n c, .slice B m d] w (BoolPost (decide (xs = ys)) w) := by
  have hc1 := hx.2.2.1
  have hc2 := hx.2.1
  have hc3 := hy.2.2.1
  have hc4 := hy.2.1
  unfold maxLen at hc1 hc3
  have HX := Lib.hid hx
  have HY := Lib.hid hy
  by_cases hne : n = m
  · subst hne
    have hl : ((n : Int) != (n : Int)) = false := by simp
    clear hx hy
    go_enter Try.func42, Try.ntmps42
    go_wp2
    go_loopw [5] (fun i wr => ∃ k : Nat, k ≤ n ∧ i = .int .i64 k ∧ Hid (xs.take k = ys.take k ∧ ∃ dd, wr = w.drewN dd)) (fun i _ => n - (intOf i).toNat)
    case atStart => exact ⟨0, Nat.zero_le _, rfl, rfl, 0, rfl⟩
    case round =>
      obtain ⟨k, hk, rfl, hT⟩ := hrel
      obtain ⟨hT, dd, rfl⟩ := hT
      have HT := Lib.hid hT
      clear hT
      by_cases hlt : k < n
      · obtain ⟨b, off, rfl, _, _, hcx⟩ := HX.out.at_ hlt
        obtain ⟨b2, off2, rfl, _, _, hcy⟩ := HY.out.at_ hlt
        generalize hxe : xs.getD k 0 = x at hcx
        generalize hye : ys.getD k 0 = y at hcy
        have HXE := Lib.hid hxe
        have HYE := Lib.hid hye
        clear hxe hye
        by_cases hxy : x = y
        · subst hxy
          go_wp2
          go_quiet (fail)
          go_wp2
          refine ⟨⟨k + 1, by omega, by go_num, take_eq_succ (by rw [HX.out.1]; exact hlt) (by rw [HY.out.1]; exact hlt) HT.out (HXE.out.trans HYE.out.symm), _, rfl⟩, ?_⟩
          simp [intOf]
          omega
        · have hb1 : (x != y) = true := by simpa using hxy
          have hfin : decide (xs = ys) = false := by
            simp only [decide_eq_false_iff_not]
            rintro rfl
            exact hxy (HXE.out.symm.trans HYE.out)
          have HF := Lib.hid hfin
          clear hxy hfin
          go_wp2
          go_quiet (fail)
          go_wp2
          go_ret
          rw [HF.out]
          exact boolPost_drew false w _ _
      · have hkn : k = n := by omega
        have hfin : decide (xs = ys) = true := by
          simp only [decide_eq_true_eq]
          exact eq_of_take HX.out.1 HY.out.1 (by rw [← hkn]; exact HT.out)
        have HF := Lib.hid hfin
        clear hfin hkn
        go_wp2
        go_ret
        rw [HF.out]
        exact ⟨rfl, _, rfl⟩
  · have hl : ((n : Int) != (m : Int)) = true := by simp; omega
    have hne2 : decide (xs = ys) = false := by
      simp only [decide_eq_false_iff_not]
      rintro rfl
      exact hne (hx.1.symm.trans hy.1)
    rw [hne2]
    clear hne2 hx hy hne
    go_enter Try.func42, Try.ntmps42
    go_wp2
    go_ret
    exact ⟨rfl, 0, rfl⟩

set_option maxRecDepth 20000 in
theorem eqIntS (la ha lb hb : Nat) (A B : Option Addr) (n m c d : Nat) (xs ys : List Int) (w : World) (hx : Ints la ha w A n c xs) (hy : Ints lb hb w B m d ys) :
    Calls Try.prog 54 #[.slice A n c, .slice B m d] w (BoolPost (decide (xs = ys)) w) := by
  have hc1 := hx.2.2.1
  have hc2 := hx.2.1
  have hc3 := hy.2.2.1
  have hc4 := hy.2.1
  unfold maxLen at hc1 hc3
  have HX := Lib.hid hx
  have HY := Lib.hid hy
  by_cases hne : n = m
  · subst hne
    have hl : ((n : Int) != (n : Int)) = false := by simp
    clear hx hy
    go_enter Try.func54, Try.ntmps54
    go_wp2
    go_loopw [5] (fun i wr => ∃ k : Nat, k ≤ n ∧ i = .int .i64 k ∧ Hid (xs.take k = ys.take k ∧ ∃ dd, wr = w.drewN dd)) (fun i _ => n - (intOf i).toNat)
    case atStart => exact ⟨0, Nat.zero_le _, rfl, rfl, 0, rfl⟩
    case round =>
      obtain ⟨k, hk, rfl, hT⟩ := hrel
      obtain ⟨hT, dd, rfl⟩ := hT
      have HT := Lib.hid hT
      clear hT
      by_cases hlt : k < n
      · obtain ⟨b, off, rfl, _, _, hcx⟩ := HX.out.at_ hlt
        obtain ⟨b2, off2, rfl, _, _, hcy⟩ := HY.out.at_ hlt
        generalize hxe : xs.getD k 0 = x at hcx
        generalize hye : ys.getD k 0 = y at hcy
        have HXE := Lib.hid hxe
        have HYE := Lib.hid hye
        clear hxe hye
        by_cases hxy : x = y
        · subst hxy
          go_wp2
          go_quiet (fail)
          go_wp2
          refine ⟨⟨k + 1, by omega, by go_num, take_eq_succ (by rw [HX.out.1]; exact hlt) (by rw [HY.out.1]; exact hlt) HT.out (HXE.out.trans HYE.out.symm), _, rfl⟩, ?_⟩
          simp [intOf]
          omega
        · have hb1 : (x != y) = true := by simpa using hxy
          have hfin : decide (xs = ys) = false := by
            simp only [decide_eq_false_iff_not]
            rintro rfl
            exact hxy (HXE.out.symm.trans HYE.out)
          have HF := Lib.hid hfin
          clear hxy hfin
          go_wp2
          go_quiet (fail)
          go_wp2
          go_ret
          rw [HF.out]
          exact boolPost_drew false w _ _
      · have hkn : k = n := by omega
        have hfin : decide (xs = ys) = true := by
          simp only [decide_eq_true_eq]
          exact eq_of_take HX.out.1 HY.out.1 (by rw [← hkn]; exact HT.out)
        have HF := Lib.hid hfin
        clear hfin hkn
        go_wp2
        go_ret
        rw [HF.out]
        exact ⟨rfl, _, rfl⟩
  · have hl : ((n : Int) != (m : Int)) = true := by simp; omega
    have hne2 : decide (xs = ys) = false := by
      simp only [decide_eq_false_iff_not]
      rintro rfl
      exact hne (hx.1.symm.trans hy.1)
    rw [hne2]
    clear hne2 hx hy hne
    go_enter Try.func54, Try.ntmps54
    go_wp2
    go_ret
    exact ⟨rfl, 0, rfl⟩

def MarkPost (lo hi : Nat) (A : Option Addr) (n c : Nat) (k0 : Int) (w : World) (e : Ending) (w' : World) : Prop :=
  e = .returned (.int .i64 (k0 + n)) ∧ Own lo hi w' A n c (marks k0 n) ∧ Kept lo hi w w'

set_option maxRecDepth 20000 in
theorem markIntS (lo hi : Nat) (A : Option Addr) (n c : Nat) (xs : List Int) (k0 : Int) (w : World) (hx : Own lo hi w A n c xs) (hn : n ≤ 10000000) (h0 : 0 ≤ k0) (h1 : k0 ≤ 10000000) :
    Calls Try.prog 61 #[.slice A n c, .int .i64 k0] w (MarkPost lo hi A n c k0 w) := by
  have HX := Lib.hid hx
  clear hx
  go_enter Try.func61, Try.ntmps61
  go_wp2
  go_loopw [1, 5] (fun q i wr => ∃ k : Nat, k ≤ n ∧ i = .int .i64 k ∧ q = .int .i64 (k0 + k) ∧ Hid (Own lo hi wr A n c (marks k0 k ++ xs.drop k) ∧ Kept lo hi w wr)) (fun _ i _ => n - (intOf i).toNat)
  case atStart => exact ⟨0, Nat.zero_le _, rfl, by simp, by simpa [marks] using HX.out, Kept.refl _ _ _⟩
  case round =>
    obtain ⟨k, hk, rfl, rfl, hT⟩ := hrel
    by_cases hlt : k < n
    · obtain ⟨b, off, rfl, hb1, hb2, hcx⟩ := hT.out.1.1.at_ hlt
      have hfz := hT.out.1.2 b off (by omega) rfl k hlt
      have hT' := hT.out.1.set_ hlt (k0 + k)
      rw [marks_step k0 xs (by rw [HX.out.1.1]; exact hlt)] at hT'
      have HT := Lib.hid (show _ ∧ _ from ⟨hT', hT.out.2.set (p := ⟨b, off + k, none⟩) hb1 hb2 (.int .i64 (k0 + k))⟩)
      clear hT hT'
      go_wp2
      go_roundw
      case rel => exact ⟨k + 1, by omega, by go_num, by go_num, HT.out⟩
      case measure => simp [intOf]; omega
    · have hkn : k = n := by omega
      subst hkn
      have hT1 := hT.out.1
      have hT2 := hT.out.2
      rw [List.drop_eq_nil_of_le (by rw [HX.out.1.1]; exact Nat.le_refl _), List.append_nil] at hT1
      have HT := Lib.hid (show _ ∧ _ from ⟨hT1, hT2⟩)
      clear hT hT1 hT2
      go_wp2
      go_ret
      exact ⟨rfl, HT.out⟩

set_option maxRecDepth 20000 in
theorem heldIntS (lo hi : Nat) (A : Option Addr) (n c : Nat) (k0 : Int) (w : World) (hx : Ints lo hi w A n c (marks k0 n)) (hn : n ≤ 10000000) (h0 : 0 ≤ k0) (h1 : k0 ≤ 10000000) :
    Calls Try.prog 62 #[.slice A n c, .int .i64 k0] w fun e w' => e = .returned (.int .i64 (k0 + n)) ∧ w = w' := by
  have HX := Lib.hid hx
  clear hx
  go_enter Try.func62, Try.ntmps62
  go_wp2
  go_loop [1, 5] (fun q i => ∃ k : Nat, k ≤ n ∧ i = .int .i64 k ∧ q = .int .i64 (k0 + k)) (fun _ i => n - (intOf i).toNat)
  case atStart => exact ⟨0, Nat.zero_le _, rfl, by simp⟩
  case round =>
    obtain ⟨k, hk, rfl, rfl⟩ := hrel
    by_cases hlt : k < n
    · obtain ⟨b, off, rfl, hb1, hb2, hcx⟩ := HX.out.at_ hlt
      rw [marks_at k0 hlt] at hcx
      go_wp2
      go_round
      case rel => exact ⟨k + 1, by omega, by go_num, by go_num⟩
      case measure => simp [intOf]; omega
    · have hkn : k = n := by omega
      subst hkn
      go_wp2
      go_ret
      exact ⟨rfl, rfl⟩

theorem intInfo : (Try.prog.info? 3).map (fun i => (i.zero, i.size, i.bytes)) = some (some (.int .i64 0), 1, 8) := by kernel_rfl

set_option maxRecDepth 20000 in
theorem toIntS (lo hi : Nat) (A : Option Addr) (n c : Nat) (xs : List Int) (w : World) (hx : Ints lo hi w A n c xs) (hn : n ≤ 10000000) :
    Calls Try.prog 49 #[.slice A n c] w (NewInts w xs) := by
  have hl := hx.1
  have HX := Lib.hid hx
  have HL := Lib.hid hl
  have hmk := run_make_row' (P := Try.prog) 23 3 (.int .i64 0) 8 Try.underlying23 intInfo rfl .i64 .i64 n (by omega) (by omega)
  have hown := own_made w 3 n (by unfold maxLen; omega)
  have hbel : Below w.heap.size w (w.alloc (.cells (madeCells #[.int .i64 0] n) 3)) := (Below.refl _ _).alloc (Nat.le_refl _) _
  have hsz : (w.alloc (.cells (madeCells #[.int .i64 0] n) 3)).heap.size = w.heap.size + 1 := by simp
  have HO := Lib.hid hown
  have HB := Lib.hid hbel
  have HS := Lib.hid hsz
  clear hx hl hown hbel hsz
  go_enter Try.func49, Try.ntmps49
  go_wp2
  clear hmk
  go_loopw [4] (fun i wr => ∃ k : Nat, k ≤ n ∧ i = .int .i64 k ∧ Hid (Own w.heap.size (w.heap.size + 1) wr (some ⟨w.heap.size, 0, none⟩) n n (xs.take k ++ List.replicate (n - k) 0) ∧ Below w.heap.size w wr ∧ wr.heap.size = w.heap.size + 1)) (fun i _ => n - (intOf i).toNat)
  case atStart => exact ⟨0, Nat.zero_le _, rfl, by simpa using HO.out, HB.out, HS.out⟩
  case round =>
    obtain ⟨k, hk, rfl, hT⟩ := hrel
    by_cases hlt : k < n
    · obtain ⟨b, off, rfl, hb1, hb2, hcx⟩ := HX.out.at_ hlt
      have hb3 : b < w.heap.size := World.block_lt_of_cell? w _ hcx
      have hcx' := (hT.out.2.1.cell (p := ⟨b, off + k, none⟩) hb3).trans hcx
      obtain ⟨b2, off2, e2, _, _, hcy⟩ := hT.out.1.1.at_ hlt
      simp only [Option.some.injEq, Addr.mk.injEq, and_true] at e2
      obtain ⟨rfl, rfl⟩ := e2
      have hfz := hT.out.1.2 w.heap.size 0 (by omega) rfl k hlt
      have hT' := hT.out.1.set_ hlt (xs.getD k 0)
      rw [copy_step xs HL.out hlt] at hT'
      have hT3 : (wr.setCell ⟨w.heap.size, 0 + k, none⟩ (.int .i64 (xs.getD k 0))).heap.size = w.heap.size + 1 := by rw [← hT.out.2.2]; simp [World.setCell]
      have HT := Lib.hid (show _ ∧ _ ∧ _ from ⟨hT', hT.out.2.1.setCell (p := ⟨w.heap.size, 0 + k, none⟩) (Nat.le_refl _) (.int .i64 (xs.getD k 0)), hT3⟩)
      generalize xs.getD k 0 = x at hcx' HT
      rw [Nat.zero_add] at hcy hfz HT
      clear hT hT' hT3 hcx
      go_wp2
      go_roundw
      case rel => exact ⟨k + 1, by omega, by go_num, HT.out⟩
      case measure => simp [intOf]; omega
    · have hkn : k = n := by omega
      subst hkn
      have hT1 := hT.out.1
      have hT2 := hT.out.2.1
      have hT3 := hT.out.2.2
      rw [List.take_of_length_le (by rw [HL.out]; exact Nat.le_refl _), Nat.sub_self, List.replicate_zero, List.append_nil] at hT1
      have hpost : NewInts w xs (.returned (.slice (some ⟨w.heap.size, 0, none⟩) k k)) wr := ⟨_, k, by rw [HL.out], by rw [hT3, HL.out]; exact hT1, hT2⟩
      have HT := Lib.hid hpost
      clear hT hT1 hT2 hT3 hpost
      go_wp2
      go_ret
      exact HT.out

end Hlp
end Go.Proofs.Ytnjcpbkpcmemeac
