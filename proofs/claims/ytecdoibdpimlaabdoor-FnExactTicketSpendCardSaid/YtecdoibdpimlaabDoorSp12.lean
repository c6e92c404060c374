/-
  Contracts of the model's chapter 31: what is asked of tickets and of spent serial numbers.
-/
import Derived.Test.YtecdoibdpimlaabDoorTk
import Derived.Test.YtecdoibdpimlaabDoorKi
import Derived.Test.YtecdoibdpimlaabDoorSg
import Derived.BigQuiet
import Derived.Deep.RegionLaw
namespace Go.Proofs.YtecdoibdpimlaabDoor
open Go.RowKit
namespace Sp12
open Il Sl Gm Cm Cs Tk

theorem below_dr {K d : Nat} {w w' : World} (h : Below K w w') : Below K w (w'.drewN d) := ⟨h.os, h.tape, h.output, h.size, h.block⟩
theorem at_succ {P : Nat → Prop} {k : Nat} (h : ∀ i, i < k → P i) (h2 : P k) : ∀ i, i < k + 1 → P i := fun i hi => by
  rcases Nat.lt_or_ge i k with h3 | h3
  · exact h i h3
  · obtain rfl : i = k := by omega
    exact h2
theorem drew_cells (w : World) (d : Nat) (p : Addr) : (w.drewN d).cell? p = w.cell? p := rfl
theorem drew_add {w wr : World} (h : ∃ d, wr = w.drewN d) (k : Nat) : ∃ d, wr.drewN k = w.drewN d := by
  obtain ⟨d, rfl⟩ := h
  exact ⟨d + k, World.drewN_drewN ..⟩
set_option maxRecDepth 20000 in
theorem l1Times (a b : Int) (w : World) (ha : inG a = true) (hb : inG b = true) :
    Calls Tryd.prog 21 #[.int .i64 a, .int .i64 b] w fun e w' => e = .returned (.int .i64 (mulG a b)) ∧ w = w' := by
  rw [mulG_in ha hb]
  obtain ⟨a1, a2⟩ := inG_iff.1 ha
  obtain ⟨b1, b2⟩ := inG_iff.1 hb
  have hm : 0 ≤ a * b ∧ a * b ≤ 992016 := ⟨Int.mul_nonneg (by omega) (by omega), by have := Int.mul_le_mul a2 b2 (by omega) (by omega); omega⟩
  obtain ⟨hm1, hm2⟩ := hm
  clear ha hb
  go_enter Tryd.func21, Tryd.ntmps21
  go_wp2
  go_ret
  exact ⟨rfl, rfl⟩
set_option maxRecDepth 20000 in
theorem l31Serial (n : Int) (w : World) : Calls Tryd.prog 19 #[.int .i64 n] w fun e w' => e = .returned (.bool (serB n)) ∧ w = w' := by
  go_enter Tryd.func19, Tryd.ntmps19
  go_wp2_with fail
  ((with_reducible refine (Sg.l6In n 0 990 _).mono ?_); rintro e w1 ⟨rfl, rfl⟩)
  rw [show decide (0 ≤ n ∧ n ≤ 990) = serB n from rfl]
  go_wp2
  go_ret
  exact ⟨rfl, rfl⟩
/-- A ticket and a word on it are returned. -/
def TickB (s g : Int) (b : Bool) (w : World) (e : Ending) (w' : World) : Prop := e = .returned (.tuple #[.agg #[.int .i64 s, .int .i64 g], .bool b]) ∧ Below w.heap.size w w'

/-- The box of a ticket. -/
theorem tick_box (w : World) (s g : Int) (t : TypeId) : ∃ W, w.alloc (.cells #[.int .i64 s, .int .i64 g] t) = W ∧ W.cell? ⟨w.heap.size, 0, none⟩ = some (.int .i64 s) ∧ W.cell? ⟨w.heap.size, 1, none⟩ = some (.int .i64 g) ∧ (∀ j, W.frozen? ⟨w.heap.size, j, none⟩ = false) ∧ Below w.heap.size w W := by
  obtain ⟨a, b, c⟩ := two_cells (blk_new w #[.int .i64 s, .int .i64 g] t)
  exact ⟨_, rfl, a, b, c, (Below.refl _ _).alloc (Nat.le_refl _) _⟩
theorem is_lit {x : Int} {b : Bool} (h : inG x = b) (W : World) : Calls Tryd.prog 20 #[.int .i64 x] W fun e w' => e = .returned (.bool b) ∧ W = w' := by
  rw [← h]; exact Sg.l1Is x W
theorem serial_lit {x : Int} {b : Bool} (h : serB x = b) (W : World) : Calls Tryd.prog 19 #[.int .i64 x] W fun e w' => e = .returned (.bool b) ∧ W = w' := by
  rw [← h]; exact l31Serial x W
theorem times_lit {a b k : Int} (ha : inG a = true) (hb : inG b = true) (h : mulG a b = k) (W : World) : Calls Tryd.prog 21 #[.int .i64 a, .int .i64 b] W fun e w' => e = .returned (.int .i64 k) ∧ W = w' := by
  rw [← h]; exact l1Times a b W ha hb
set_option maxRecDepth 20000 in
set_option maxHeartbeats 2000000 in
theorem TicketCheck (p s g : Int) (w : World) : Calls Tryd.prog 12 #[.int .i64 p, .agg #[.int .i64 s, .int .i64 g]] w (BoolB (chkF p s g) w) := by
  have HD : Hid (chkF p s g = (serB s && (inG p && (inG g && decide (mulG g 5 = mulG p (s + 1)))))) := rfl
  have hbx := tick_box w s g 28
  obtain ⟨W, hW, z0, z1, zf, hB⟩ := hbx
  have HB := Lib.hid hB
  clear hB
  go_enter Tryd.func12, Tryd.ntmps12
  go_wp2
  clear hW
  cases hp : inG p
  · have HV : Hid (chkF p s g = false) := by show _ = _; rw [HD.out, hp, Bool.false_and, Bool.and_false]
    have HP := Lib.hid hp
    clear hp HD
    go_wp2
    go_quiet (((go_at_call 20; exact quiet_eq (is_lit HP.out _))))
    go_wp2
    go_ret
    rw [HV.out]
    exact ⟨rfl, below_dr HB.out⟩
  have HP := Lib.hid hp
  cases hs : serB s
  · have HV : Hid (chkF p s g = false) := by show _ = _; rw [HD.out, hs, Bool.false_and]
    have HS := Lib.hid hs
    clear hp hs HD
    go_wp2
    go_quiet ((first | (go_at_call 20; exact quiet_eq (is_lit HP.out _)) | (go_at_call 19; exact quiet_eq (serial_lit HS.out _))))
    go_wp2
    go_ret
    rw [HV.out]
    exact ⟨rfl, below_dr HB.out⟩
  have HS := Lib.hid hs
  cases hg : inG g
  · have HV : Hid (chkF p s g = false) := by show _ = _; rw [HD.out, hg, Bool.false_and, Bool.and_false, Bool.and_false]
    have HG := Lib.hid hg
    clear hp hs hg HD
    go_wp2
    go_quiet ((first | (go_at_call 20; exact quiet_eq (is_lit HP.out _)) | (go_at_call 19; exact quiet_eq (serial_lit HS.out _)) | (go_at_call 20; exact quiet_eq (is_lit HG.out _))))
    go_wp2
    go_ret
    rw [HV.out]
    exact ⟨rfl, below_dr HB.out⟩
  obtain ⟨s1, s2⟩ := serB_iff.1 hs
  have HI := Lib.hid (ser_in hs)
  have HG := Lib.hid hg
  obtain ⟨l, hl⟩ : ∃ l, mulG g 5 = l := ⟨_, rfl⟩
  obtain ⟨r, hr⟩ : ∃ r, mulG p (s + 1) = r := ⟨_, rfl⟩
  have HL := Lib.hid hl
  have HR := Lib.hid hr
  have HV : Hid (chkF p s g = decide (l = r)) := by show _ = _; rw [HD.out, hs, hp, hg, hl, hr, Bool.true_and, Bool.true_and, Bool.true_and]
  clear hs hp hg hl hr HD
  by_cases he : l = r
  · have e0 : (l == r) = true := by simpa using he
    rw [decide_eq_true he] at HV
    clear he
    go_wp2
    go_quiet ((first | (go_at_call 20; exact quiet_eq (is_lit HP.out _)) | (go_at_call 19; exact quiet_eq (serial_lit HS.out _)) | (go_at_call 20; exact quiet_eq (is_lit HG.out _)) | (go_at_call 21; exact quiet_eq (times_lit HG.out five_in HL.out _)) | (go_at_call 21; exact quiet_eq (times_lit HP.out HI.out HR.out _))))
    go_wp2
    go_ret
    rw [HV.out]
    exact ⟨rfl, below_dr HB.out⟩
  · have e0 : (l == r) = false := by simpa using he
    rw [decide_eq_false he] at HV
    clear he
    go_wp2
    go_quiet ((first | (go_at_call 20; exact quiet_eq (is_lit HP.out _)) | (go_at_call 19; exact quiet_eq (serial_lit HS.out _)) | (go_at_call 20; exact quiet_eq (is_lit HG.out _)) | (go_at_call 21; exact quiet_eq (times_lit HG.out five_in HL.out _)) | (go_at_call 21; exact quiet_eq (times_lit HP.out HI.out HR.out _))))
    go_wp2
    go_ret
    rw [HV.out]
    exact ⟨rfl, below_dr HB.out⟩
theorem sp_bad {xs : List Int} {i : Nat} (hi : i < xs.length) (h : spAt xs i = false) : spOk xs = false := by
  unfold spOk; rw [spB_no hi h, Bool.and_false]
set_option maxRecDepth 20000 in
set_option maxHeartbeats 2000000 in
theorem l31Spent (lo hi : Nat) (A : Option Addr) (n c : Nat) (xs : List Int) (w : World) (hx : Ints lo hi w A n c xs) :
    Calls Tryd.prog 11 #[.slice A n c] w (BoolPost (spOk xs) w) := by
  have hc1 := hx.2.2.1
  have hc2 := hx.2.1
  have HL := Lib.hid hx.1
  unfold maxLen at hc1
  have IB := Lib.hid hx
  clear hx
  go_enter Tryd.func11, Tryd.ntmps11
  go_wp2
  go_loopw [3] (fun i wr => ∃ q : Nat, q ≤ n ∧ i = .int .i64 q ∧ Hid (∀ i, i < q → spAt xs i = true) ∧ Hid (∃ d, wr = w.drewN d)) (fun i _ => n - (intOf i).toNat)
  case atStart => exact ⟨0, Nat.zero_le _, rfl, fun i hi => absurd hi (by omega), 0, rfl⟩
  case round =>
    obtain ⟨q, hq, rfl, hT, hR⟩ := hrel
    have HCE : Hid (∀ p, wr.cell? p = w.cell? p) := by obtain ⟨d, rfl⟩ := hR.out; exact fun p => rfl
    by_cases hlq : q < n
    · obtain ⟨b2, off2, rfl, _, _, cq⟩ := IB.out.at_ hlq
      have HSA : Hid (spAt xs q = (serB (xs.getD q 0) && (decide (q = 0) || decide (xs.getD (q - 1) 0 < xs.getD q 0)))) := rfl
      have HBAD : Hid (spAt xs q = false → spOk xs = false) := fun h => sp_bad (by rw [HL.out]; exact hlq) h
      have HGOOD : Hid (spAt xs q = true → ∀ i, i < q + 1 → spAt xs i = true) := fun h => at_succ hT.out h
      clear hT
      cases q with
      | zero =>
        replace cq := (HCE.out _).trans cq
        rw [Nat.add_zero] at cq
        rw [show spAt xs 0 = serB (xs.getD 0 0) from by rw [HSA.out]; simp] at HBAD HGOOD
        clear HSA
        cases hin : serB (xs.getD 0 0)
        · have HV := Lib.hid (HBAD.out hin)
          generalize xs.getD 0 0 = y at *
          go_wp2
          go_quiet ((go_at_call 19; exact quiet_eq (l31Serial y _)))
          go_wp2
          go_ret
          rw [HV.out]
          exact ⟨rfl, drew_add hR.out _⟩
        · have HN := Lib.hid (HGOOD.out hin)
          generalize xs.getD 0 0 = y at *
          go_wp2
          go_quiet ((go_at_call 19; exact quiet_eq (l31Serial y _)))
          go_wp2
          go_roundw
          case rel => exact ⟨0 + 1, by omega, by go_num, HN.out, drew_add hR.out _⟩
          case measure => simp [intOf]; omega
      | succ q =>
        obtain ⟨b3, off3, e3, _, _, cp⟩ := IB.out.at_ (k := q) (by omega)
        simp only [Option.some.injEq, Addr.mk.injEq, and_true] at e3
        obtain ⟨rfl, rfl⟩ := e3
        replace cq := (HCE.out _).trans cq
        replace cp := (HCE.out _).trans cp
        rw [show q + 1 - 1 = q from rfl, show decide (q + 1 = 0) = false from by simp, Bool.false_or] at HSA
        generalize xs.getD (q + 1) 0 = y at *
        generalize xs.getD q 0 = x at *
        have hq1 : (0 : Int) < ((q + 1 : Nat) : Int) := by omega
        cases hin : serB y
        · have HV := Lib.hid (HBAD.out (by rw [HSA.out, hin]; rfl))
          go_wp2
          go_quiet ((go_at_call 19; exact quiet_eq (l31Serial y _)))
          go_wp2
          go_ret
          rw [HV.out]
          exact ⟨rfl, drew_add hR.out _⟩
        by_cases hlt2 : x < y
        · have HN := Lib.hid (HGOOD.out (by rw [HSA.out, hin, decide_eq_true hlt2]; rfl))
          have hge : decide (y ≤ x) = false := by simp; omega
          go_wp2
          go_quiet ((go_at_call 19; exact quiet_eq (l31Serial y _)))
          go_wp2
          go_roundw
          case rel => exact ⟨q + 1 + 1, by omega, by go_num, HN.out, drew_add hR.out _⟩
          case measure => simp [intOf]; omega
        · have HV := Lib.hid (HBAD.out (by rw [HSA.out, hin, decide_eq_false hlt2]; rfl))
          have hge : decide (y ≤ x) = true := by simp; omega
          go_wp2
          go_quiet ((go_at_call 19; exact quiet_eq (l31Serial y _)))
          go_wp2
          go_ret
          rw [HV.out]
          exact ⟨rfl, drew_add hR.out _⟩
    · obtain rfl : q = n := by omega
      have HT : Hid (spB xs = true) := spB_iff.2 fun i hi => hT.out i (by rw [← HL.out]; exact hi)
      clear hT
      by_cases h20 : q ≤ 20
      · have HV : Hid (spOk xs = true) := by show _ = _; unfold spOk; rw [HT.out, decide_eq_true (by rw [HL.out]; exact h20)]; rfl
        have h20' : decide ((q : Int) ≤ 20) = true := by simp; omega
        go_wp2
        go_ret
        rw [HV.out]
        exact ⟨rfl, hR.out⟩
      · have HV : Hid (spOk xs = false) := by show _ = _; unfold spOk; rw [decide_eq_false (by rw [HL.out]; exact h20)]; rfl
        have h20' : decide ((q : Int) ≤ 20) = false := by simp; omega
        clear h20
        go_wp2
        go_ret
        rw [HV.out]
        exact ⟨rfl, hR.out⟩
end Sp12
end Go.Proofs.YtecdoibdpimlaabDoor
