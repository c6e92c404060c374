/-
  Contracts of the model's chapter 13: valid caches, slots of epochs, copies, new caches.
-/
import Derived.Test.YtmmnpmfkpieoiaaGk
import Derived.Test.YtmmnpmfkpieoiaaSg
import Derived.Deep.QuietTactic
import Derived.BigQuiet
import Derived.Deep.RegionHeld3
import Derived.Deep.Cut
namespace Go.Proofs.Ytmmnpmfkpieoiaa
open Go.RowKit
namespace Sp8
open Il Sl Fo Cm Cs Sg Gm

theorem at_succ {P : Nat → Prop} {k : Nat} (h : ∀ i, i < k → P i) (h2 : P k) : ∀ i, i < k + 1 → P i := fun i hi => by
  rcases Nat.lt_or_ge i k with h3 | h3
  · exact h i h3
  · obtain rfl : i = k := by omega
    exact h2
theorem slots_all {sl : List (List Int)} {n : Nat} (hl : sl.length = n) (h : ∀ i, i < n → slotOk (slAt sl i) = true) : slotsOk sl = true := by
  unfold slotsOk
  rw [List.all_eq_true]
  intro x hx
  obtain ⟨i, hi, e⟩ := List.getElem_of_mem hx
  have := h i (by omega)
  unfold slAt at this
  rw [List.getD_eq_getElem?_getD, List.getElem?_eq_getElem hi, e] at this
  exact this
theorem slots_no {sl : List (List Int)} {i : Nat} (hi : i < sl.length) (h : slotOk (slAt sl i) = false) : slotsOk sl = false := by
  cases hb : slotsOk sl
  · rfl
  · unfold slotsOk at hb
    rw [List.all_eq_true] at hb
    have := hb (sl[i]) (List.getElem_mem hi)
    unfold slAt at h
    rw [List.getD_eq_getElem?_getD, List.getElem?_eq_getElem hi] at h
    rw [show slotOk ((some sl[i]).getD []) = slotOk sl[i] from rfl, this] at h
    cases h
theorem slot_long {xs : List Int} (h : 6 < xs.length) : slotOk xs = false := by
  unfold slotOk
  rw [decide_eq_false (by omega)]; rfl
theorem slot_bad {xs : List Int} {i : Nat} (hi : i < xs.length) (h : slotAt xs i = false) : slotOk xs = false := by
  unfold slotOk
  rw [slotB_no hi h, Bool.and_false]
theorem slot_good {xs : List Int} {n : Nat} (hl : xs.length = n) (h6 : n ≤ 6) (h : ∀ i, i < n → slotAt xs i = true) : slotOk xs = true := slotOk_iff.2 ⟨by omega, fun i hi => h i (by omega)⟩
theorem below_dr {K d : Nat} {w w' : World} (h : Below K w w') : Below K w (w'.drewN d) := ⟨h.os, h.tape, h.output, h.size, h.block⟩

/-- A cache's box and its slots. -/
def VRel (b lo hi : Nat) (w wr : World) (A : Option Addr) (n k : Nat) (c : Ch) : Prop := Blk wr b #[.int .i64 c.ep, .slice A n k] 26 ∧ Sts lo hi wr A n k c.sl ∧ Below w.heap.size w wr
theorem VRel.dr {b lo hi : Nat} {w wr : World} {A : Option Addr} {n k : Nat} {c : Ch} (h : VRel b lo hi w wr A n k c) (d : Nat) : VRel b lo hi w (wr.drewN d) A n k c := ⟨h.1, h.2.1, below_dr h.2.2⟩
set_option maxRecDepth 20000 in
set_option maxHeartbeats 2000000 in
theorem CacheValid (c : Ch) (A : Option Addr) (n k lo hi : Nat) (w : World) (hx : Sts lo hi w A n k c.sl) :
    Calls Try.prog 37 #[.agg #[.int .i64 c.ep, .slice A n k]] w (BoolB (chOk c) w) := by
  have hk1 := hx.max_
  have hk2 := hx.cap_
  have HL := Lib.hid hx.len_
  unfold maxLen at hk1
  have h0 : Below w.heap.size w (w.alloc (.cells #[.int .i64 c.ep, .slice A n k] 26)) := (Below.refl _ _).alloc (Nat.le_refl _) _
  have HR0 : Hid (VRel w.heap.size lo hi w (w.alloc (.cells #[.int .i64 c.ep, .slice A n k] 26)) A n k c) := ⟨blk_new _ _ _, hx.below h0 (Nat.le_refl _), h0⟩
  clear hx h0
  go_enter Try.func37, Try.ntmps37
  go_wp2
  go_loopw [3] (fun i wr => ∃ j : Nat, j ≤ n ∧ i = .int .i64 j ∧ Hid (∀ i, i < j → slotOk (slAt c.sl i) = true) ∧ Hid (VRel w.heap.size lo hi w wr A n k c)) (fun i _ => n - (intOf i).toNat)
  case atStart => exact ⟨0, Nat.zero_le _, rfl, fun i hi => absurd hi (by omega), HR0.out⟩
  case round =>
    obtain ⟨j, hj, rfl, hT, hR⟩ := hrel
    clear HR0
    obtain ⟨z0, z1, zf⟩ := two_cells hR.out.1
    by_cases hlt : j < n
    · obtain ⟨b, off, B, e, rfl, _, _, hbz, cB, iB⟩ := hR.out.2.1.at_ hlt
      have hm1 := iB.2.1
      have hm2 := iB.2.2.1
      unfold maxLen at hm2
      have IB := Lib.hid iB
      have HNO : Hid (slotOk (slAt c.sl j) = false → chOk c = false) := fun h => by
        show chOk c = false
        unfold chOk
        rw [slots_no (by rw [HL.out]; exact hlt) h]; rfl
      have HYES : Hid (slotOk (slAt c.sl j) = true → ∀ i, i < j + 1 → slotOk (slAt c.sl i) = true) := fun h => at_succ hT.out h
      clear iB hT
      generalize slAt c.sl j = xs at *
      by_cases h6 : 6 < xs.length
      · have HV := Lib.hid (HNO.out (slot_long h6))
        go_wp2
        go_ret
        rw [HV.out]
        exact ⟨rfl, hR.out.2.2⟩
      have h6' : decide (6 < (xs.length : Int)) = false := by simp; omega
      go_wp2
      have HB := Lib.hid (show wr.cell? ⟨b, off + j, none⟩ = _ from cB)
      clear cB
      go_loopw [4] (fun i wr' => ∃ q : Nat, q ≤ xs.length ∧ i = .int .i64 q ∧ Hid (∀ i, i < q → slotAt xs i = true) ∧ Hid (VRel w.heap.size lo hi w wr' (some ⟨b, off, none⟩) n k c ∧ ∀ p, wr'.cell? p = wr.cell? p)) (fun i _ => xs.length - (intOf i).toNat)
      case atStart => exact ⟨0, Nat.zero_le _, rfl, fun i hi => absurd hi (by omega), hR.out, fun _ => rfl⟩
      case round =>
        obtain ⟨q, hq, rfl, hT, hR2⟩ := hrel
        rename_i wq
        have HCE := Lib.hid hR2.out.2
        have HR2 := Lib.hid hR2.out.1
        clear hR2
        have cB := (HCE.out _).trans HB.out
        obtain ⟨z0, z1, zf⟩ := two_cells HR2.out.1
        by_cases hlq : q < xs.length
        · obtain ⟨b2, off2, rfl, _, _, cq⟩ := IB.out.at_ hlq
          have HSA : Hid (slotAt xs q = (inG (xs.getD q 0) && (decide (q = 0) || decide (xs.getD (q - 1) 0 < xs.getD q 0)))) := rfl
          have HBAD : Hid (slotAt xs q = false → chOk c = false) := fun h => HNO.out (slot_bad hlq h)
          have HGOOD : Hid (slotAt xs q = true → ∀ i, i < q + 1 → slotAt xs i = true) := fun h => at_succ hT.out h
          clear hT
          cases q with
          | zero =>
            replace cq := (HCE.out _).trans cq
            rw [Nat.add_zero] at cq
            rw [show slotAt xs 0 = inG (xs.getD 0 0) from by rw [HSA.out]; simp] at HBAD HGOOD
            clear HSA
            cases hin : inG (xs.getD 0 0)
            · have HV := Lib.hid (HBAD.out hin)
              generalize xs.getD 0 0 = y at *
              go_wp2
              go_quiet ((go_at_call 53; exact quiet_eq (l1Is y _)))
              go_wp2
              go_ret
              rw [HV.out]
              exact ⟨rfl, below_dr HR2.out.2.2⟩
            · have HN := Lib.hid (HGOOD.out hin)
              generalize xs.getD 0 0 = y at *
              go_wp2
              go_quiet ((go_at_call 53; exact quiet_eq (l1Is y _)))
              go_wp2
              go_roundw
              case rel => exact ⟨0 + 1, by omega, by go_num, HN.out, HR2.out.dr _, HCE.out⟩
              case measure => simp [intOf]; omega
          | succ q =>
            obtain ⟨b3, off3, e3, _, _, cp⟩ := IB.out.at_ (k := q) (by omega)
            simp only [Option.some.injEq, Addr.mk.injEq, and_true] at e3
            obtain ⟨rfl, rfl⟩ := e3
            replace cq := (HCE.out _).trans cq
            replace cp := (HCE.out _).trans cp
            rw [show q + 1 - 1 = q from rfl, show decide (q + 1 = 0) = false from by simp, Bool.false_or] at HSA
            generalize xs.getD (q + 1) 0 = y at *
            generalize xs.getD q 0 = x at *
            have hq1 : (0 : Int) < ((q + 1 : Nat) : Int) := by omega
            cases hin : inG y
            · have HV := Lib.hid (HBAD.out (by rw [HSA.out, hin]; rfl))
              go_wp2
              go_quiet ((go_at_call 53; exact quiet_eq (l1Is y _)))
              go_wp2
              go_ret
              rw [HV.out]
              exact ⟨rfl, below_dr HR2.out.2.2⟩
            by_cases hlt2 : x < y
            · have HN := Lib.hid (HGOOD.out (by rw [HSA.out, hin, decide_eq_true hlt2]; rfl))
              have hge : decide (y ≤ x) = false := by simp; omega
              go_wp2
              go_quiet ((go_at_call 53; exact quiet_eq (l1Is y _)))
              go_wp2
              go_roundw
              case rel => exact ⟨q + 1 + 1, by omega, by go_num, HN.out, HR2.out.dr _, HCE.out⟩
              case measure => simp [intOf]; omega
            · have HV := Lib.hid (HBAD.out (by rw [HSA.out, hin, decide_eq_false hlt2]; rfl))
              have hge : decide (y ≤ x) = true := by simp; omega
              go_wp2
              go_quiet ((go_at_call 53; exact quiet_eq (l1Is y _)))
              go_wp2
              go_ret
              rw [HV.out]
              exact ⟨rfl, below_dr HR2.out.2.2⟩
        · obtain rfl : q = xs.length := by omega
          have HN := Lib.hid (HYES.out (slot_good rfl (by omega) hT.out))
          clear hT hlq
          go_wp2
          go_roundw
          case rel => exact ⟨j + 1, by omega, by go_num, HN.out, HR2.out⟩
          case measure => simp [intOf]; omega
    · obtain rfl : j = n := by omega
      have HS := Lib.hid (slots_all HL.out hT.out)
      have HV : Hid (chOk c = (epOk c.ep && decide ((j : Int) = 3))) := by
        show chOk c = _
        unfold chOk
        rw [HS.out, HL.out, Bool.true_and]
        congr 1
        exact decide_eq_decide.2 (by omega)
      clear hT hlt HS
      cases he : epOk c.ep
      ·
        have HF : Hid (chOk c = false) := by show _ = _; rw [HV.out, he]; rfl
        go_wp2_with fail
        ((with_reducible refine (l6In c.ep 0 99 _).mono ?_); rintro e w1 ⟨rfl, rfl⟩)
        rw [show decide (0 ≤ c.ep ∧ c.ep ≤ 99) = false from he]
        clear he
        go_wp2
        go_ret
        rw [HF.out]
        exact ⟨rfl, hR.out.2.2⟩
      · by_cases h3 : (j : Int) = 3
        ·
          have HF : Hid (chOk c = true) := by show _ = _; rw [HV.out, he, decide_eq_true h3]; rfl
          have h3' : ((j : Int) == 3) = true := by simpa using h3
          clear h3
          go_wp2_with fail
          ((with_reducible refine (l6In c.ep 0 99 _).mono ?_); rintro e w1 ⟨rfl, rfl⟩)
          rw [show decide (0 ≤ c.ep ∧ c.ep ≤ 99) = true from he]
          clear he
          go_wp2
          go_ret
          rw [HF.out]
          exact ⟨rfl, hR.out.2.2⟩
        ·
          have HF : Hid (chOk c = false) := by show _ = _; rw [HV.out, he, decide_eq_false h3]; rfl
          have h3' : ((j : Int) == 3) = false := by simpa using h3
          clear h3
          go_wp2_with fail
          ((with_reducible refine (l6In c.ep 0 99 _).mono ?_); rintro e w1 ⟨rfl, rfl⟩)
          rw [show decide (0 ≤ c.ep ∧ c.ep ≤ 99) = true from he]
          clear he
          go_wp2
          go_ret
          rw [HF.out]
          exact ⟨rfl, hR.out.2.2⟩

set_option maxRecDepth 20000 in
theorem l13Slot (c : Ch) (e : Int) (A : Option Addr) (n k : Nat) (w : World) (hc : 0 ≤ c.ep ∧ c.ep ≤ 99) :
    Calls Try.prog 55 #[.agg #[.int .i64 c.ep, .slice A n k], .int .i64 e] w fun e' w' => e' = .returned (.int .i64 (slotIx c.ep e)) ∧ Below w.heap.size w w' := by
  obtain ⟨hc0, hc1⟩ := hc
  have B0 := Lib.hid ((Below.refl w.heap.size w).alloc (Nat.le_refl _) (.cells #[.int .i64 c.ep, .slice A n k] 26))
  by_cases h1 : 0 ≤ e ∧ e ≤ c.ep
  · have e1 : IntKind.i64.wrap (c.ep - e) = c.ep - e := IntWalk.i64_in _ (by omega)
    have e2 : IntKind.i64.wrap (2 - (c.ep - e)) = 2 - (c.ep - e) := IntWalk.i64_in _ (by omega)
    by_cases h2 : c.ep - e ≤ 2
    · rw [slotIx_yes ⟨h1.1, h1.2, h2⟩]
      go_enter Try.func55, Try.ntmps55
      go_wp2_with fail
      ((with_reducible refine (l6In e 0 c.ep _).mono ?_); rintro e w1 ⟨rfl, rfl⟩)
      rw [decide_eq_true h1]
      generalize hq : 2 - (c.ep - e) = q at *
      have hq0 : decide (q < 0) = false := by simp; omega
      have HQ := Lib.hid hq
      clear hq e1 h1 h2
      go_wp2
      go_ret
      rw [HQ.out]
      exact ⟨rfl, B0.out⟩
    · rw [slotIx_no (by omega)]
      go_enter Try.func55, Try.ntmps55
      go_wp2_with fail
      ((with_reducible refine (l6In e 0 c.ep _).mono ?_); rintro e w1 ⟨rfl, rfl⟩)
      rw [decide_eq_true h1]
      generalize hq : 2 - (c.ep - e) = q at *
      have hq0 : decide (q < 0) = true := by simp; omega
      clear hq e1 h1 h2
      go_wp2
      go_ret
      exact ⟨rfl, B0.out⟩
  · rw [slotIx_no (by omega)]
    generalize hq1 : IntKind.i64.wrap (c.ep - e) = q1
    generalize hq2 : IntKind.i64.wrap (2 - q1) = q2
    go_enter Try.func55, Try.ntmps55
    go_wp2_with fail
    ((with_reducible refine (l6In e 0 c.ep _).mono ?_); rintro e w1 ⟨rfl, rfl⟩)
    rw [decide_eq_false h1]
    clear h1 hq1 hq2
    go_wp2
    go_ret
    exact ⟨rfl, B0.out⟩

end Sp8
end Go.Proofs.Ytmmnpmfkpieoiaa
