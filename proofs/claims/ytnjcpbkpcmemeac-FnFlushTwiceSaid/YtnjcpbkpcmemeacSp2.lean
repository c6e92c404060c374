/-
  Contracts of the model's chapter 2: streams, masking on and off.
-/
import Derived.Test.YtnjcpbkpcmemeacChecked
import Derived.Test.YtnjcpbkpcmemeacIla
import Derived.Test.YtnjcpbkpcmemeacGmm
import Derived.BigQuiet
import Derived.Deep.RegionLaw
namespace Go.Proofs.Ytnjcpbkpcmemeac
open Go.RowKit
namespace Sp2
open Il Gm Mm

set_option maxRecDepth 20000 in
theorem l1Is_yes (n : Int) (w : World) (h1 : 1 ≤ n) (h2 : n ≤ 996) :
    Calls Try.prog 43 #[.int .i64 n] w fun e w' => e = .returned (.bool true) ∧ w = w' := by
  go_enter Try.func43, Try.ntmps43
  go_wp2
  go_ret
  exact ⟨rfl, rfl⟩
set_option maxRecDepth 20000 in
theorem l1Is_no (n : Int) (w : World) (h : n < 1 ∨ 996 < n) :
    Calls Try.prog 43 #[.int .i64 n] w fun e w' => e = .returned (.bool false) ∧ w = w' := by
  rcases h with h | h
  · go_enter Try.func43, Try.ntmps43
    go_wp2
    go_ret
    exact ⟨rfl, rfl⟩
  · have h0 : 1 ≤ n := by omega
    have h0d : decide (n ≤ 996) = false := by simp; omega
    go_enter Try.func43, Try.ntmps43
    go_wp2
    go_ret
    exact ⟨rfl, rfl⟩
set_option maxRecDepth 20000 in
theorem l1Is (n : Int) (w : World) :
    Calls Try.prog 43 #[.int .i64 n] w fun e w' => e = .returned (.bool (inG n)) ∧ w = w' := by
  by_cases h : 1 ≤ n ∧ n ≤ 996
  · rw [inG_iff.2 h]; exact l1Is_yes n w h.1 h.2
  · rw [inG_no.2 h]; exact l1Is_no n w (by omega)

set_option maxRecDepth 20000 in
theorem l6In (n lo hi : Int) (w : World) :
    Calls Try.prog 74 #[.int .i64 n, .int .i64 lo, .int .i64 hi] w fun e w' => e = .returned (.bool (decide (lo ≤ n ∧ n ≤ hi))) ∧ w = w' := by
  by_cases h1 : lo ≤ n
  · by_cases h2 : n ≤ hi
    · rw [decide_eq_true (And.intro h1 h2)]
      go_enter Try.func74, Try.ntmps74
      go_wp2
      go_ret
      exact ⟨rfl, rfl⟩
    · rw [decide_eq_false (fun h => h2 h.2)]
      have h3 : decide (n ≤ hi) = false := by simpa using h2
      clear h2
      go_enter Try.func74, Try.ntmps74
      go_wp2
      go_ret
      exact ⟨rfl, rfl⟩
  · rw [decide_eq_false (fun h => h1 h.1)]
    have h3 : decide (lo ≤ n) = false := by simpa using h1
    clear h1
    go_enter Try.func74, Try.ntmps74
    go_wp2
    go_ret
    exact ⟨rfl, rfl⟩

set_option maxRecDepth 20000 in
theorem l2List (lo hi : Nat) (A : Option Addr) (n c : Nat) (xs : List Int) (w : World) (hx : Ints lo hi w A n c xs) :
    Calls Try.prog 79 #[.slice A n c] w fun e w' => e = .returned (.bool (okL xs)) ∧ w = w' := by
  have hc1 := hx.2.2.1
  have hc2 := hx.2.1
  have HL := Lib.hid hx.1
  unfold maxLen at hc1
  have HX := Lib.hid hx
  clear hx
  go_enter Try.func79, Try.ntmps79
  go_wp2
  go_loop [3] (fun i => ∃ k : Nat, k ≤ n ∧ i = .int .i64 k ∧ okTo xs k) (fun i => n - (intOf i).toNat)
  case atStart => exact ⟨0, Nat.zero_le _, rfl, okTo_zero _⟩
  case round =>
    obtain ⟨k, hk, rfl, hT⟩ := hrel
    have HT := Lib.hid hT
    clear hT
    by_cases hlt : k < n
    · obtain ⟨b, off, rfl, _, _, hcx⟩ := HX.out.at_ hlt
      generalize hxe : xs.getD k 0 = x at hcx
      have HXE := Lib.hid hxe
      clear hxe
      cases hin : inN x
      · have hno := inN_no.1 hin
        have hfin : okL xs = false := okL_bad (k := k) (by rw [HL.out]; exact hlt) (by rw [HXE.out]; exact hin)
        have HF := Lib.hid hfin
        have hd : decide (0 ≤ x ∧ x ≤ 990) = false := decide_eq_false hno
        clear hfin hin hno
        go_wp2_with fail
        ((with_reducible refine (l6In x 0 990 w).mono ?_); rintro e w' ⟨rfl, rfl⟩)
        rw [hd]
        clear hd
        go_wp2
        go_ret
        rw [HF.out]
        exact ⟨rfl, rfl⟩
      · have hyes := inN_iff.1 hin
        have HN := Lib.hid (okTo_succ HT.out (by rw [HXE.out]; exact hin))
        have hd : decide (0 ≤ x ∧ x ≤ 990) = true := decide_eq_true hyes
        clear hin hyes
        go_wp2_with fail
        ((with_reducible refine (l6In x 0 990 w).mono ?_); rintro e w' ⟨rfl, rfl⟩)
        rw [hd]
        clear hd
        go_wp2
        go_round
        case rel => exact ⟨k + 1, by omega, by go_num, HN.out⟩
        case measure => simp [intOf]; omega
    · have hkn : k = n := by omega
      have hfin : okL xs = decide (n ≤ 24) := by
        rw [← HL.out]
        exact okL_of_to (by rw [HL.out, ← hkn]; exact HT.out)
      have HF := Lib.hid hfin
      clear hfin hkn
      by_cases h24 : n ≤ 24
      · have hd2 : decide ((n : Int) ≤ 24) = true := by simp; omega
        go_wp2
        go_ret
        rw [HF.out, decide_eq_true h24]
        exact ⟨rfl, rfl⟩
      · have hd : decide (n ≤ 24) = false := decide_eq_false h24
        have hd2 : decide ((n : Int) ≤ 24) = false := by simp; omega
        clear h24
        go_wp2
        go_ret
        rw [HF.out, hd]
        exact ⟨rfl, rfl⟩

set_option maxRecDepth 20000 in
theorem l2At (key : Int) (i : Nat) (w : World) (h1 : 1 ≤ key) (h2 : key ≤ 996) (hi : i ≤ 1000) :
    Calls Try.prog 109 #[.int .i64 key, .int .i64 i] w fun e w' => e = .returned (.int .i64 (at2 key i)) ∧ w = w' := by
  have a1 : 0 ≤ key * ((i : Int) + 2) := Int.mul_nonneg (by omega) (by omega)
  have a2 : key * ((i : Int) + 2) ≤ 996 * 1002 := Int.mul_le_mul h2 (by omega) (by omega) (by omega)
  have b1 : 0 ≤ 11 * (i : Int) * (i : Int) := Int.mul_nonneg (by omega) (by omega)
  have b2 : 11 * (i : Int) * (i : Int) ≤ 11000 * 1000 := Int.mul_le_mul (by omega) (by omega) (by omega) (by omega)
  unfold at2
  go_enter Try.func109, Try.ntmps109
  go_wp2
  go_ret
  exact ⟨rfl, rfl⟩


set_option maxRecDepth 20000 in
theorem l2On0 (lo hi : Nat) (A : Option Addr) (n c : Nat) (xs : List Int) (key : Int) (w : World) (hx : Ints lo hi w A n c xs) (hok : okL xs = true) (h1 : 1 ≤ key) (h2 : key ≤ 996) :
    Calls Try.prog 107 #[.slice A n c, .int .i64 key] w (AccPost (onL xs key) w) := by
  have HA := Lib.hid (acc_new w)
  have HL := Lib.hid hx.1
  have HX := Lib.hid hx
  have HK := Lib.hid hok
  have hn : n ≤ 24 := by rw [← hx.1]; exact (okL_iff.1 hok).2
  clear hx hok
  go_enter Try.func107, Try.ntmps107
  go_wp2
  go_loopw [5, 6] (fun v i wr => ∃ k : Nat, k ≤ n ∧ i = .int .i64 k ∧ Hid (Acc w wr v (onL (xs.take k) key))) (fun _ i _ => n - (intOf i).toNat)
  case atStart => exact ⟨0, Nat.zero_le _, rfl, HA.out⟩
  case round =>
    obtain ⟨k, hk, rfl, hT⟩ := hrel
    by_cases hlt : k < n
    · obtain ⟨b, off, rfl, _, _, hcx⟩ := HX.out.at_ hlt
      have hb3 : b < w.heap.size := World.block_lt_of_cell? w _ hcx
      have hcy := ((Il.Acc.below hT.out).cell (p := ⟨b, off + k, none⟩) hb3).trans hcx
      have hbd := okL_at HK.out (k := k) (by rw [HL.out]; exact hlt)
      have hab := at2_bd key k
      have HN := Lib.hid (onL_succ (xs := xs) (k := k) key (by rw [HL.out]; exact hlt))
      generalize xs.getD k 0 = x at hcy hbd HN
      clear hcx
      have ev : (IntKind.i64.wrap (x + at2 key k)).tmod 991 = (x + at2 key k) % 991 := by rw [IntWalk.i64_in _ (by omega), IntWalk.rem_in _ _ (by omega)]
      have EV := Lib.hid ev
      clear ev
      go_wp2_with fail
      go_region_law (first | (refine step_app1 w _ _ _ _ (hT.out.drew) (by rw [onL_len]; simp; omega) _ _ rfl rfl rfl rfl ?_; intro v' w1 hN _) | (go_simp; go_at_call 109; refine (l2At key k _ h1 h2 (by omega)).mono ?_; rintro e w' ⟨rfl, rfl⟩))
      all_goals
        rw [EV.out, ← HN.out] at hN
        have HM := Lib.hid hN
        clear hN hT HN
        go_wp2
        go_roundw
        case rel => exact ⟨k + 1, by omega, by go_num, HM.out⟩
        case measure => simp [intOf]; omega
    · have hkn : k = n := by omega
      subst hkn
      have hT1 := hT.out
      rw [List.take_of_length_le (by rw [HL.out]; exact Nat.le_refl _)] at hT1
      have HT := Lib.hid hT1
      clear hT hT1
      go_wp2
      go_ret
      exact ⟨_, rfl, HT.out⟩

set_option maxRecDepth 20000 in
theorem l2On (lo hi : Nat) (A : Option Addr) (n c : Nat) (xs : List Int) (key : Int) (w : World) (hx : Ints lo hi w A n c xs) (hok : okL xs = true) (h1 : 1 ≤ key) (h2 : key ≤ 996) :
    Calls Try.prog 107 #[.slice A n c, .int .i64 key] w (NewInts w (onL xs key)) := (l2On0 lo hi A n c xs key w hx hok h1 h2).mono fun _ _ h => h.new_

set_option maxRecDepth 20000 in
theorem l2Off0 (lo hi : Nat) (A : Option Addr) (n c : Nat) (xs : List Int) (key : Int) (w : World) (hx : Ints lo hi w A n c xs) (hok : okL xs = true) (h1 : 1 ≤ key) (h2 : key ≤ 996) :
    Calls Try.prog 98 #[.slice A n c, .int .i64 key] w (AccPost (offL xs key) w) := by
  have HA := Lib.hid (acc_new w)
  have HL := Lib.hid hx.1
  have HX := Lib.hid hx
  have HK := Lib.hid hok
  have hn : n ≤ 24 := by rw [← hx.1]; exact (okL_iff.1 hok).2
  clear hx hok
  go_enter Try.func98, Try.ntmps98
  go_wp2
  go_loopw [5, 6] (fun v i wr => ∃ k : Nat, k ≤ n ∧ i = .int .i64 k ∧ Hid (Acc w wr v (offL (xs.take k) key))) (fun _ i _ => n - (intOf i).toNat)
  case atStart => exact ⟨0, Nat.zero_le _, rfl, HA.out⟩
  case round =>
    obtain ⟨k, hk, rfl, hT⟩ := hrel
    by_cases hlt : k < n
    · obtain ⟨b, off, rfl, _, _, hcx⟩ := HX.out.at_ hlt
      have hb3 : b < w.heap.size := World.block_lt_of_cell? w _ hcx
      have hcy := ((Il.Acc.below hT.out).cell (p := ⟨b, off + k, none⟩) hb3).trans hcx
      have hbd := okL_at HK.out (k := k) (by rw [HL.out]; exact hlt)
      have hab := at2_bd key k
      have HN := Lib.hid (offL_succ (xs := xs) (k := k) key (by rw [HL.out]; exact hlt))
      generalize xs.getD k 0 = x at hcy hbd HN
      clear hcx
      have ev : (IntKind.i64.wrap (IntKind.i64.wrap (x + 991) - at2 key k)).tmod 991 = (x + 991 - at2 key k) % 991 := by rw [IntWalk.i64_in (x + 991) (by omega), IntWalk.i64_in _ (by omega), IntWalk.rem_in _ _ (by omega)]
      have EV := Lib.hid ev
      clear ev
      go_wp2_with fail
      go_region_law (first | (refine step_app1 w _ _ _ _ (hT.out.drew) (by rw [offL_len]; simp; omega) _ _ rfl rfl rfl rfl ?_; intro v' w1 hN _) | (go_simp; go_at_call 109; refine (l2At key k _ h1 h2 (by omega)).mono ?_; rintro e w' ⟨rfl, rfl⟩))
      all_goals
        rw [EV.out, ← HN.out] at hN
        have HM := Lib.hid hN
        clear hN hT HN
        go_wp2
        go_roundw
        case rel => exact ⟨k + 1, by omega, by go_num, HM.out⟩
        case measure => simp [intOf]; omega
    · have hkn : k = n := by omega
      subst hkn
      have hT1 := hT.out
      rw [List.take_of_length_le (by rw [HL.out]; exact Nat.le_refl _)] at hT1
      have HT := Lib.hid hT1
      clear hT hT1
      go_wp2
      go_ret
      exact ⟨_, rfl, HT.out⟩

set_option maxRecDepth 20000 in
theorem l2Off (lo hi : Nat) (A : Option Addr) (n c : Nat) (xs : List Int) (key : Int) (w : World) (hx : Ints lo hi w A n c xs) (hok : okL xs = true) (h1 : 1 ≤ key) (h2 : key ≤ 996) :
    Calls Try.prog 98 #[.slice A n c, .int .i64 key] w (NewInts w (offL xs key)) := (l2Off0 lo hi A n c xs key w hx hok h1 h2).mono fun _ _ h => h.new_




end Sp2
end Go.Proofs.Ytnjcpbkpcmemeac
