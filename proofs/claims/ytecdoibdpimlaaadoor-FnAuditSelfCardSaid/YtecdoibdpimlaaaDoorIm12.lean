/-
  Contracts of the program's chapter 31: what is asked of tickets and of spent serial numbers, a made ticket.
-/
import Derived.Test.YtecdoibdpimlaaaDoorSp12
import Derived.Test.YtecdoibdpimlaaaDoorIt
namespace Go.Proofs.YtecdoibdpimlaaaDoor
open Go.RowKit
namespace Im12
open Il Sl Gm Cm Cs Tk Sp12

set_option maxRecDepth 20000 in
theorem times (a b : Int) (w : World) : Calls Tryd.prog 44 #[.int .i64 a, .int .i64 b] w fun e w' => e = .returned (.int .i64 (mulG a b)) ∧ w = w' := by
  cases ha : inG a
  · rw [mulG_out1 ha]
    go_enter Tryd.func44, Tryd.ntmps44
    go_wp2_with fail
    ((with_reducible refine (Sg.inRange a _).mono ?_); rintro e w1 ⟨rfl, rfl⟩)
    rw [ha]
    clear ha
    go_wp2
    go_ret
    exact ⟨rfl, rfl⟩
  cases hb : inG b
  · rw [mulG_out2 hb]
    go_enter Tryd.func44, Tryd.ntmps44
    go_wp2_with fail
    ((with_reducible refine (Sg.inRange a _).mono ?_); rintro e w1 ⟨rfl, rfl⟩)
    rw [ha]
    clear ha
    go_wp2_with fail
    ((with_reducible refine (Sg.inRange b _).mono ?_); rintro e w1 ⟨rfl, rfl⟩)
    rw [hb]
    clear hb
    go_wp2
    go_ret
    exact ⟨rfl, rfl⟩
  rw [mulG_in ha hb]
  obtain ⟨a1, a2⟩ := inG_iff.1 ha
  obtain ⟨b1, b2⟩ := inG_iff.1 hb
  have hm : 0 ≤ a * b ∧ a * b ≤ 992016 := ⟨Int.mul_nonneg (by omega) (by omega), by have := Int.mul_le_mul a2 b2 (by omega) (by omega); omega⟩
  obtain ⟨hm1, hm2⟩ := hm
  go_enter Tryd.func44, Tryd.ntmps44
  go_wp2_with fail
  ((with_reducible refine (Sg.inRange a _).mono ?_); rintro e w1 ⟨rfl, rfl⟩)
  rw [ha]
  clear ha
  go_wp2_with fail
  ((with_reducible refine (Sg.inRange b _).mono ?_); rintro e w1 ⟨rfl, rfl⟩)
  rw [hb]
  clear hb
  go_wp2
  go_ret
  exact ⟨rfl, rfl⟩
theorem serialValid (n : Int) (w : World) : Calls Tryd.prog 27 #[.int .i64 n] w fun e w' => e = .returned (.bool (serB n)) ∧ w = w' := Nv.numberValid n w
set_option maxRecDepth 20000 in
theorem signedSerial (n : Int) (w : World) (h : serB n = true) : Calls Tryd.prog 28 #[.int .i64 n] w fun e w' => e = .returned (.int .i64 (n + 1)) ∧ w = w' := by
  obtain ⟨h1, h2⟩ := serB_iff.1 h
  clear h
  go_enter Tryd.func28, Tryd.ntmps28
  go_wp2
  go_ret
  exact ⟨rfl, rfl⟩
set_option maxRecDepth 20000 in
theorem signedWith (d p g : Int) (w : World) : Calls Tryd.prog 29 #[.int .i64 d, .int .i64 p, .int .i64 g] w fun e w' => e = .returned (.bool (decide (mulG g 5 ≠ 0 ∧ mulG g 5 = mulG p d))) ∧ w = w' := by
  by_cases h0 : mulG g 5 = 0
  · have HV : Hid (decide (mulG g 5 ≠ 0 ∧ mulG g 5 = mulG p d) = false) := decide_eq_false fun h => h.1 h0
    have e0 : (mulG g 5 != 0) = false := by simpa using h0
    clear h0
    go_enter Tryd.func29, Tryd.ntmps29
    go_wp2_with fail
    ((with_reducible refine (times g 5 _).mono ?_); rintro e w1 ⟨rfl, rfl⟩)
    go_wp2
    go_ret
    rw [HV.out]
    exact ⟨rfl, rfl⟩
  have e1 : (mulG g 5 != 0) = true := by simpa using h0
  by_cases h : mulG g 5 = mulG p d
  · have HV : Hid (decide (mulG g 5 ≠ 0 ∧ mulG g 5 = mulG p d) = true) := decide_eq_true ⟨h0, h⟩
    have e0 : (mulG g 5 == mulG p d) = true := by simpa using h
    clear h h0
    go_enter Tryd.func29, Tryd.ntmps29
    go_wp2_with fail
    ((with_reducible refine (times g 5 _).mono ?_); rintro e w1 ⟨rfl, rfl⟩)
    go_wp2_with fail
    ((with_reducible refine (times p d _).mono ?_); rintro e w1 ⟨rfl, rfl⟩)
    go_wp2
    go_ret
    rw [HV.out]
    exact ⟨rfl, rfl⟩
  · have HV : Hid (decide (mulG g 5 ≠ 0 ∧ mulG g 5 = mulG p d) = false) := decide_eq_false fun q => h q.2
    have e0 : (mulG g 5 == mulG p d) = false := by simpa using h
    clear h h0
    go_enter Tryd.func29, Tryd.ntmps29
    go_wp2_with fail
    ((with_reducible refine (times g 5 _).mono ?_); rintro e w1 ⟨rfl, rfl⟩)
    go_wp2_with fail
    ((with_reducible refine (times p d _).mono ?_); rintro e w1 ⟨rfl, rfl⟩)
    go_wp2
    go_ret
    rw [HV.out]
    exact ⟨rfl, rfl⟩
theorem valid_lit {x : Int} {b : Bool} (h : serB x = b) (W : World) : Calls Tryd.prog 27 #[.int .i64 x] W fun e w' => e = .returned (.bool b) ∧ W = w' := by
  rw [← h]; exact serialValid x W
theorem with_lit {d p g : Int} {b : Bool} (h : decide (mulG g 5 ≠ 0 ∧ mulG g 5 = mulG p d) = b) (W : World) : Calls Tryd.prog 29 #[.int .i64 d, .int .i64 p, .int .i64 g] W fun e w' => e = .returned (.bool b) ∧ W = w' := by
  rw [← h]; exact signedWith d p g W
set_option maxRecDepth 20000 in
set_option maxHeartbeats 1000000 in
theorem TicketCheck (p s g : Int) (w : World) : Calls Tryd.prog 14 #[.int .i64 p, .agg #[.int .i64 s, .int .i64 g]] w (BoolB (chkF p s g) w) := by
  have hbx := tick_box w s g 25
  obtain ⟨W, hW, z0, z1, zf, hB⟩ := hbx
  have HB := Lib.hid hB
  clear hB
  go_enter Tryd.func14, Tryd.ntmps14
  go_wp2
  clear hW
  cases hs : serB s
  · have HV : Hid (chkF p s g = false) := by show _ = _; unfold chkF; rw [hs, Bool.false_and]
    have HS := Lib.hid hs
    clear hs
    go_wp2
    go_quiet (((go_at_call 27; exact quiet_eq (valid_lit HS.out _))))
    go_wp2
    go_ret
    rw [HV.out]
    exact ⟨rfl, below_dr HB.out⟩
  have HS := Lib.hid hs
  have HV := Lib.hid (sign_is (p := p) (g := g) hs)
  clear hs
  generalize chkF p s g = b at *
  go_wp2
  go_quiet ((first | (go_at_call 27; exact quiet_eq (valid_lit HS.out _)) | (go_at_call 28; exact quiet_eq (signedSerial s _ HS.out)) | (go_at_call 29; exact quiet_eq (with_lit HV.out _))))
  go_wp2
  go_ret
  exact ⟨rfl, below_dr HB.out⟩
set_option maxRecDepth 20000 in
set_option maxHeartbeats 2000000 in
theorem spentValid (lo hi : Nat) (A : Option Addr) (n c : Nat) (xs : List Int) (w : World) (hx : Ints lo hi w A n c xs) :
    Calls Tryd.prog 19 #[.slice A n c] w fun e w' => e = .returned (.bool (spOk xs)) ∧ w = w' := by
  have hc1 := hx.2.2.1
  have hc2 := hx.2.1
  have HL := Lib.hid hx.1
  unfold maxLen at hc1
  have IB := Lib.hid hx
  clear hx
  by_cases h20 : 20 < n
  · have HV : Hid (spOk xs = false) := by show _ = _; unfold spOk; rw [decide_eq_false (by rw [HL.out]; omega)]; rfl
    go_enter Tryd.func19, Tryd.ntmps19
    go_wp2
    go_ret
    rw [HV.out]
    exact ⟨rfl, rfl⟩
  have h20' : decide (20 < (n : Int)) = false := by simp; omega
  go_enter Tryd.func19, Tryd.ntmps19
  go_wp2
  go_loop [3, 4, 10] (fun _ _ i => ∃ q : Nat, q ≤ n ∧ i = .int .i64 q ∧ Hid (∀ i, i < q → spAt xs i = true)) (fun _ _ i => n - (intOf i).toNat)
  case atStart => exact ⟨0, Nat.zero_le _, rfl, fun i hi => absurd hi (by omega)⟩
  case round =>
    obtain ⟨q, hq, rfl, hT⟩ := hrel
    by_cases hlq : q < n
    · obtain ⟨b2, off2, rfl, _, _, cq⟩ := IB.out.at_ hlq
      have HSA : Hid (spAt xs q = (serB (xs.getD q 0) && (decide (q = 0) || decide (xs.getD (q - 1) 0 < xs.getD q 0)))) := rfl
      have HBAD : Hid (spAt xs q = false → spOk xs = false) := fun h => by
        show _ = _
        unfold spOk; rw [spB_no (by rw [HL.out]; exact hlq) h, Bool.and_false]
      have HGOOD : Hid (spAt xs q = true → ∀ i, i < q + 1 → spAt xs i = true) := fun h => at_succ hT.out h
      clear hT
      cases q with
      | zero =>
        rw [Nat.add_zero] at cq
        rw [show spAt xs 0 = serB (xs.getD 0 0) from by rw [HSA.out]; simp] at HBAD HGOOD
        clear HSA
        cases hin : serB (xs.getD 0 0)
        · have HV := Lib.hid (HBAD.out hin)
          generalize xs.getD 0 0 = y at *
          go_wp2_with fail
          ((with_reducible refine (serialValid y _).mono ?_); rintro e w1 ⟨rfl, rfl⟩)
          rw [hin]
          clear hin
          go_wp2
          go_ret
          rw [HV.out]
          exact ⟨rfl, rfl⟩
        · have HN := Lib.hid (HGOOD.out hin)
          generalize xs.getD 0 0 = y at *
          go_wp2_with fail
          ((with_reducible refine (serialValid y _).mono ?_); rintro e w1 ⟨rfl, rfl⟩)
          rw [hin]
          clear hin
          go_wp2
          go_round
          case rel => exact ⟨0 + 1, by omega, by go_num, HN.out⟩
          case measure => simp [intOf]; omega
      | succ q =>
        obtain ⟨b3, off3, e3, _, _, cp⟩ := IB.out.at_ (k := q) (by omega)
        simp only [Option.some.injEq, Addr.mk.injEq, and_true] at e3
        obtain ⟨rfl, rfl⟩ := e3
        rw [show q + 1 - 1 = q from rfl, show decide (q + 1 = 0) = false from by simp, Bool.false_or] at HSA
        generalize xs.getD (q + 1) 0 = y at *
        generalize xs.getD q 0 = x at *
        have hq1 : (0 : Int) < ((q + 1 : Nat) : Int) := by omega
        cases hin : serB y
        · have HV := Lib.hid (HBAD.out (by rw [HSA.out, hin]; rfl))
          go_wp2_with fail
          ((with_reducible refine (serialValid y _).mono ?_); rintro e w1 ⟨rfl, rfl⟩)
          rw [hin]
          clear hin
          go_wp2
          go_ret
          rw [HV.out]
          exact ⟨rfl, rfl⟩
        by_cases hlt2 : x < y
        · have HN := Lib.hid (HGOOD.out (by rw [HSA.out, hin, decide_eq_true hlt2]; rfl))
          have hge : decide (y ≤ x) = false := by simp; omega
          go_wp2_with fail
          ((with_reducible refine (serialValid y _).mono ?_); rintro e w1 ⟨rfl, rfl⟩)
          rw [hin]
          clear hin
          go_wp2
          go_round
          case rel => exact ⟨q + 1 + 1, by omega, by go_num, HN.out⟩
          case measure => simp [intOf]; omega
        · have HV := Lib.hid (HBAD.out (by rw [HSA.out, hin, decide_eq_false hlt2]; rfl))
          have hge : decide (y ≤ x) = true := by simp; omega
          go_wp2_with fail
          ((with_reducible refine (serialValid y _).mono ?_); rintro e w1 ⟨rfl, rfl⟩)
          rw [hin]
          clear hin
          go_wp2
          go_ret
          rw [HV.out]
          exact ⟨rfl, rfl⟩
    · obtain rfl : q = n := by omega
      have HV : Hid (spOk xs = true) := spOk_iff.2 ⟨by rw [HL.out]; omega, fun i hi => hT.out i (by rw [← HL.out]; exact hi)⟩
      clear hT hlq
      go_wp2
      go_ret
      rw [HV.out]
      exact ⟨rfl, rfl⟩
end Im12
end Go.Proofs.YtecdoibdpimlaaaDoor
