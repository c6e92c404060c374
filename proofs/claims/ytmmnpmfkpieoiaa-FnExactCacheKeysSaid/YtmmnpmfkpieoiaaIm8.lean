/-
  Contracts of the program's chapter 13, the first ones: epochs, valid slots and caches, new caches.
-/
import Derived.Test.YtmmnpmfkpieoiaaSp8
import Derived.Test.YtmmnpmfkpieoiaaGk
import Derived.Test.YtmmnpmfkpieoiaaSg
import Derived.Laws.MakeOwn
namespace Go.Proofs.Ytmmnpmfkpieoiaa
open Go.RowKit
namespace Im8
open Il Sl Fo Cm Cs Sg Gm
open Sp8 (at_succ slots_all slots_no slot_long slot_bad slot_good below_dr VRel)

theorem epochValid (e : Int) (w : World) : Calls Try.prog 44 #[.int .i64 e] w fun r w' => r = .returned (.bool (epOk e)) ∧ w = w' := by
  by_cases h1 : 0 ≤ e
  · by_cases h2 : e ≤ 99
    · have hv : epOk e = true := decide_eq_true ⟨h1, h2⟩
      rw [hv]
      clear hv
      go_enter Try.func44, Try.ntmps44
      go_wp2
      go_ret
      exact ⟨rfl, rfl⟩
    · have hv : epOk e = false := decide_eq_false fun h => h2 h.2
      rw [hv]
      have h2' : decide (e ≤ 99) = false := by simpa using h2
      clear hv h2
      go_enter Try.func44, Try.ntmps44
      go_wp2
      go_ret
      exact ⟨rfl, rfl⟩
  · have hv : epOk e = false := decide_eq_false fun h => h1 h.1
    rw [hv]
    have h1' : decide (0 ≤ e) = false := by simpa using h1
    clear hv h1
    go_enter Try.func44, Try.ntmps44
    go_wp2
    go_ret
    exact ⟨rfl, rfl⟩

set_option maxRecDepth 20000 in
theorem slotValid (lo hi : Nat) (A : Option Addr) (n c : Nat) (xs : List Int) (w : World) (hx : Ints lo hi w A n c xs) :
    Calls Try.prog 48 #[.slice A n c] w fun e w' => e = .returned (.bool (slotOk xs)) ∧ w = w' := by
  have hc1 := hx.2.2.1
  have hc2 := hx.2.1
  have HL := Lib.hid hx.1
  unfold maxLen at hc1
  have HX := Lib.hid hx
  clear hx
  by_cases h6 : 6 < n
  · have HV := Lib.hid (slot_long (xs := xs) (by rw [HL.out]; exact h6))
    rw [HV.out]
    go_enter Try.func48, Try.ntmps48
    go_wp2
    go_ret
    exact ⟨rfl, rfl⟩
  have h6' : decide (6 < (n : Int)) = false := by simp; omega
  go_enter Try.func48, Try.ntmps48
  go_wp2
  go_loop [10] (fun i => ∃ k : Nat, k ≤ n ∧ i = .int .i64 k ∧ Hid (∀ i, i < k → slotAt xs i = true)) (fun i => n - (intOf i).toNat)
  case atStart => exact ⟨0, Nat.zero_le _, rfl, fun i hi => absurd hi (by omega)⟩
  case round =>
    obtain ⟨q, hq, rfl, hT⟩ := hrel
    by_cases hlq : q < n
    · obtain ⟨b2, off2, rfl, _, _, cq⟩ := HX.out.at_ hlq
      have HSA : Hid (slotAt xs q = (inG (xs.getD q 0) && (decide (q = 0) || decide (xs.getD (q - 1) 0 < xs.getD q 0)))) := rfl
      have HBAD : Hid (slotAt xs q = false → slotOk xs = false) := fun h => slot_bad (by rw [HL.out]; exact hlq) h
      have HGOOD : Hid (slotAt xs q = true → ∀ i, i < q + 1 → slotAt xs i = true) := fun h => at_succ hT.out h
      clear hT
      cases q with
      | zero =>
        rw [Nat.add_zero] at cq
        rw [show slotAt xs 0 = inG (xs.getD 0 0) from by rw [HSA.out]; simp] at HBAD HGOOD
        clear HSA
        cases hin : inG (xs.getD 0 0)
        · have HV := Lib.hid (HBAD.out hin)
          generalize xs.getD 0 0 = y at *
          go_wp2_with fail
          ((with_reducible refine (inRange y _).mono ?_); rintro e w1 ⟨rfl, rfl⟩)
          rw [hin]
          clear hin
          go_wp2
          go_ret
          rw [HV.out]
          exact ⟨rfl, rfl⟩
        · have HN := Lib.hid (HGOOD.out hin)
          generalize xs.getD 0 0 = y at *
          go_wp2_with fail
          ((with_reducible refine (inRange y _).mono ?_); rintro e w1 ⟨rfl, rfl⟩)
          rw [hin]
          clear hin
          go_wp2
          go_round
          case rel => exact ⟨0 + 1, by omega, by go_num, HN.out⟩
          case measure => simp [intOf]; omega
      | succ q =>
        obtain ⟨b3, off3, e3, _, _, cp⟩ := HX.out.at_ (k := q) (by omega)
        simp only [Option.some.injEq, Addr.mk.injEq, and_true] at e3
        obtain ⟨rfl, rfl⟩ := e3
        rw [show q + 1 - 1 = q from rfl, show decide (q + 1 = 0) = false from by simp, Bool.false_or] at HSA
        generalize xs.getD (q + 1) 0 = y at *
        generalize xs.getD q 0 = x at *
        have hq1 : (0 : Int) < ((q + 1 : Nat) : Int) := by omega
        cases hin : inG y
        · have HV := Lib.hid (HBAD.out (by rw [HSA.out, hin]; rfl))
          go_wp2_with fail
          ((with_reducible refine (inRange y _).mono ?_); rintro e w1 ⟨rfl, rfl⟩)
          rw [hin]
          clear hin
          go_wp2
          go_ret
          rw [HV.out]
          exact ⟨rfl, rfl⟩
        by_cases hlt2 : x < y
        · have HN := Lib.hid (HGOOD.out (by rw [HSA.out, hin, decide_eq_true hlt2]; rfl))
          have hge : decide (y ≤ x) = false := by simp; omega
          go_wp2_with fail
          ((with_reducible refine (inRange y _).mono ?_); rintro e w1 ⟨rfl, rfl⟩)
          rw [hin]
          clear hin hlt2
          go_wp2
          go_round
          case rel => exact ⟨q + 1 + 1, by omega, by go_num, HN.out⟩
          case measure => simp [intOf]; omega
        · have HV := Lib.hid (HBAD.out (by rw [HSA.out, hin, decide_eq_false hlt2]; rfl))
          have hge : decide (y ≤ x) = true := by simp; omega
          go_wp2_with fail
          ((with_reducible refine (inRange y _).mono ?_); rintro e w1 ⟨rfl, rfl⟩)
          rw [hin]
          clear hin hlt2
          go_wp2
          go_ret
          rw [HV.out]
          exact ⟨rfl, rfl⟩
    · obtain rfl : q = n := by omega
      have HN := Lib.hid (slot_good HL.out (by omega) hT.out)
      clear hT hlq
      go_wp2
      go_ret
      rw [HN.out]
      exact ⟨rfl, rfl⟩

set_option maxRecDepth 20000 in
theorem CacheValid (c : Ch) (A : Option Addr) (n k lo hi : Nat) (w : World) (hx : Sts lo hi w A n k c.sl) :
    Calls Try.prog 22 #[.agg #[.int .i64 c.ep, .slice A n k]] w (BoolB (chOk c) w) := by
  have hk1 := hx.max_
  have hk2 := hx.cap_
  have HL := Lib.hid hx.len_
  unfold maxLen at hk1
  have h0 : Below w.heap.size w (w.alloc (.cells #[.int .i64 c.ep, .slice A n k] 26)) := (Below.refl _ _).alloc (Nat.le_refl _) _
  have HX := Lib.hid (hx.below h0 (Nat.le_refl _))
  have HB := Lib.hid h0
  have HV : Hid (chOk c = (slotsOk c.sl && (epOk c.ep && decide ((n : Int) = 3)))) := by
    show chOk c = _
    unfold chOk
    rw [HL.out]
    congr 2
    exact decide_eq_decide.2 (by omega)
  clear hx h0
  cases he : epOk c.ep
  · have HF : Hid (chOk c = false) := by show _ = _; rw [HV.out, he, Bool.false_and, Bool.and_false]
    go_enter Try.func22, Try.ntmps22
    go_wp2_with fail
    ((with_reducible refine (epochValid c.ep _).mono ?_); rintro e w1 ⟨rfl, rfl⟩)
    rw [he]
    clear he
    go_wp2
    go_ret
    rw [HF.out]
    exact ⟨rfl, HB.out⟩
  by_cases h3 : (n : Int) = 3
  case neg =>
    have HF : Hid (chOk c = false) := by show _ = _; rw [HV.out, he, decide_eq_false h3, Bool.and_false, Bool.and_false]
    have h3' : ((n : Int) != 3) = true := by simpa using h3
    clear h3
    go_enter Try.func22, Try.ntmps22
    go_wp2_with fail
    ((with_reducible refine (epochValid c.ep _).mono ?_); rintro e w1 ⟨rfl, rfl⟩)
    rw [he]
    clear he
    go_wp2
    go_ret
    rw [HF.out]
    exact ⟨rfl, HB.out⟩
  have HT3 : Hid (chOk c = slotsOk c.sl) := by show _ = _; rw [HV.out, he, decide_eq_true h3]; simp
  have h3' : ((n : Int) != 3) = false := by simpa using h3
  clear h3 HV
  go_enter Try.func22, Try.ntmps22
  go_wp2_with fail
  ((with_reducible refine (epochValid c.ep _).mono ?_); rintro e w1 ⟨rfl, rfl⟩)
  rw [he]
  clear he
  go_wp2
  go_loop [18] (fun i => ∃ j : Nat, j ≤ n ∧ i = .int .i64 j ∧ Hid (∀ i, i < j → slotOk (slAt c.sl i) = true)) (fun i => n - (intOf i).toNat)
  case atStart => exact ⟨0, Nat.zero_le _, rfl, fun i hi => absurd hi (by omega)⟩
  case round =>
    obtain ⟨j, hj, rfl, hT⟩ := hrel
    by_cases hlt : j < n
    · obtain ⟨b, off, B, e, rfl, _, _, hbz, cB, iB⟩ := HX.out.at_ hlt
      have IB := Lib.hid iB
      have HNO : Hid (slotOk (slAt c.sl j) = false → chOk c = false) := fun h => by
        show chOk c = false
        rw [HT3.out]
        exact slots_no (by rw [HL.out]; exact hlt) h
      have HYES : Hid (slotOk (slAt c.sl j) = true → ∀ i, i < j + 1 → slotOk (slAt c.sl i) = true) := fun h => at_succ hT.out h
      clear iB hT
      generalize slAt c.sl j = xs at *
      cases hs : slotOk xs
      · have HF := Lib.hid (HNO.out hs)
        go_wp2_with fail
        ((with_reducible refine (slotValid _ _ _ _ _ xs _ IB.out).mono ?_); rintro e w1 ⟨rfl, rfl⟩)
        rw [hs]
        clear hs
        go_wp2
        go_ret
        rw [HF.out]
        exact ⟨rfl, HB.out⟩
      · have HN := Lib.hid (HYES.out hs)
        go_wp2_with fail
        ((with_reducible refine (slotValid _ _ _ _ _ xs _ IB.out).mono ?_); rintro e w1 ⟨rfl, rfl⟩)
        rw [hs]
        clear hs
        go_wp2
        go_round
        case rel => exact ⟨j + 1, by omega, by go_num, HN.out⟩
        case measure => simp [intOf]; omega
    · obtain rfl : j = n := by omega
      have HS : Hid (chOk c = true) := by show _ = _; rw [HT3.out]; exact slots_all HL.out hT.out
      clear hT hlt
      go_wp2
      go_ret
      rw [HS.out]
      exact ⟨rfl, HB.out⟩

theorem made_three : (madeCells (Value.cells (.slice none 0 0)) (3 * 1)).toList = [Value.slice none 0 0, .slice none 0 0, .slice none 0 0] := by
  refine List.ext_getElem? fun i => ?_
  by_cases hi : i < 3
  · obtain rfl | rfl | rfl : i = 0 ∨ i = 1 ∨ i = 2 := by omega
    all_goals simp [madeCells, Value.cells]
  · rw [List.getElem?_eq_none (by rw [Array.length_toList, size_madeCells]; omega), List.getElem?_eq_none (by simp; omega)]
set_option maxRecDepth 20000 in
theorem CacheNew (e : Int) (w : World) : Calls Try.prog 18 #[.int .i64 e] w (CacheP (newF e) (.bool (epOk e)) w) := by
  have h0 : Below w.heap.size w (w.alloc (.cells #[.int .i64 0, .slice none 0 0] 26)) := (Below.refl _ _).alloc (Nat.le_refl _) _
  cases he : epOk e
  · have HM : Hid (newF e = Ch.zero) := by show newF e = _; unfold newF; rw [he]; rfl
    rw [HM.out]
    have B0 := Lib.hid h0
    clear h0
    go_enter Try.func18, Try.ntmps18
    go_wp2_with fail
    ((with_reducible refine (epochValid e _).mono ?_); rintro e w1 ⟨rfl, rfl⟩)
    rw [he]
    clear he
    go_wp2
    refine bodyPost_ret (v := .tuple #[.agg #[.int .i64 0, .slice none 0 0], .bool false]) ?_ rfl (cacheP_zero _ ?_)
    · rw [results_cell_tmp rfl]
      go_simp
    · exact B0.out
  · have HM : Hid (newF e = ⟨e, [[], [], []]⟩) := by show newF e = _; unfold newF; rw [he]; rfl
    have k0 := blk_new w #[.int .i64 0, .slice none 0 0] 26
    generalize hw0 : w.alloc (.cells #[.int .i64 0, .slice none 0 0] 26) = w0 at *
    obtain ⟨i0, e1, e2, e3, e4⟩ := el_parts elSk
    obtain ⟨w2, hmk, how, hgr⟩ := run_make_full (P := Try.prog) (w := w0) w0.heap.size 24 30 i0 _ 1 elSk.under e1 e2 e3 .i64 .i64 3 (by rw [e4]; omega) (by unfold maxLen; omega) (Nat.le_refl _)
    rw [made_three] at how
    rw [show ((3 : Nat) : Int) = 3 from rfl] at hmk
    have hac : AccV 30 1 w0.heap.size w2 (.slice (some ⟨w0.heap.size, 0, none⟩) 3 3) 3 [Value.slice none 0 0, .slice none 0 0, .slice none 0 0] := ⟨3, rfl, how⟩
    have hb2 : Below w0.heap.size w0 w2 := ⟨hgr.os, hgr.tape, hgr.output, hgr.size, fun z hz => hgr.block z hz (by simp)⟩
    have hg2 : GatK w0.heap.size w2.heap.size w2 (.slice (some ⟨w0.heap.size, 0, none⟩) 3 3) [⟨[], none, 0, 0⟩, ⟨[], none, 0, 0⟩, ⟨[], none, 0, 0⟩] :=
      ⟨some w0.heap.size, .inr ⟨_, rfl, hac⟩, fun s hs => by simp at hs; subst hs; exact Own.nil_ (Nat.zero_le _), by simp [Foot, Disj, fpk, fp], fun f hf x hx => by
        simp [fpk, fp] at hf
        rcases hf with rfl | rfl
        · simp at hx; have := hac.lt; omega
        · simp at hx⟩
    have hk2 := k0.below hb2 (Nat.le_refl _)
    obtain ⟨y0, y1, yf⟩ := two_cells hk2
    have hw := k0.lt
    obtain ⟨A9, c9, G, e9, ho, hw9⟩ := hg2.own
    simp only [Value.slice.injEq] at e9
    obtain ⟨rfl, _, rfl⟩ := e9
    have hsz : ((w2.setCell ⟨w.heap.size, 0, none⟩ (.int .i64 e)).setCell ⟨w.heap.size, 1, none⟩ (.slice (some ⟨w0.heap.size, 0, none⟩) 3 3)).heap.size = w2.heap.size := by simp [World.setCell]
    have HP : Hid (CacheP (newF e) (.bool true) w (.returned (.tuple #[.agg #[.int .i64 e, .slice (some ⟨w0.heap.size, 0, none⟩) 3 3], .bool true])) ((w2.setCell ⟨w.heap.size, 0, none⟩ (.int .i64 e)).setCell ⟨w.heap.size, 1, none⟩ (.slice (some ⟨w0.heap.size, 0, none⟩) 3 3))) := by
      show CacheP _ _ _ _ _
      rw [HM.out]
      exact ⟨_, 3, G, rfl, ho.keep (by omega) fun f hf x hx => (Below.heap_setCell _ _ _ _ (show x ≠ w.heap.size by have := hw9 f hf x hx; omega)).trans (Below.heap_setCell _ _ _ _ (show x ≠ w.heap.size by have := hw9 f hf x hx; omega)),
        fun f hf x hx => by have := hw9 f hf x hx; omega, ((h0.trans (hb2.mono h0.size)).setCell (p := ⟨w.heap.size, 0, none⟩) (Nat.le_refl _) _).setCell (p := ⟨w.heap.size, 1, none⟩) (Nat.le_refl _) _⟩
    clear how hgr hac hg2 hk2 ho hw9 hsz hb2 k0 e1 e2 e3 e4 h0
    go_enter Try.func18, Try.ntmps18
    go_wp2_with fail
    ((with_reducible refine (epochValid e _).mono ?_); rintro e w1 ⟨rfl, rfl⟩)
    rw [he]
    clear he
    go_wp2
    refine bodyPost_ret (v := .tuple #[.agg #[.int .i64 e, .slice (some ⟨w0.heap.size, 0, none⟩) 3 3], .bool true]) ?_ rfl ?_
    · rw [results_cell_tmp rfl]
      go_simp
    · exact HP.out

end Im8
end Go.Proofs.Ytmmnpmfkpieoiaa
