/-
  Laws of chapter 12, by the contracts of the functions that they call: each returns true and writes nothing that was there.
-/
import Derived.Test.YtdioinibjlgjfaaDr7b
import Derived.Test.YtdioinibjlgjfaaIla
import Derived.Test.YtdioinibjlgjfaaIm7d
import Derived.Test.YtdioinibjlgjfaaSp7e
import Derived.Test.YtdioinibjlgjfaaSp7c
namespace Go.Proofs.Ytdioinibjlgjfaa
open Go.RowKit
namespace Law7
open Il Sl Lc Rd LawB Im7

theorem nz_wf {f t : Int} (h : NearZero f t) : wf f ∧ wf t := by
  have h1 := h.1
  have h2 := h.2
  exact ⟨wf_small (by omega), wf_small (by omega)⟩
set_option maxRecDepth 20000 in
set_option maxHeartbeats 1000000 in
theorem fnLoopRate (A : Option Addr) (n c : Nat) (w : World) (h : CodeIs w A n c) :
    Calls Try.prog 5 #[.slice A n c] w (TruePost w) := by
  have HC := Lib.hid h
  clear h
  by_cases hn : 1048576 < n
  · go_enter Try.func5, Try.ntmps5
    go_wp2
    go_ret
    exact ⟨rfl, Below.refl _ _⟩
  go_enter Try.func5, Try.ntmps5
  go_wp2_with fail
  ((with_reducible refine (DrawLoopRate _ _ _ _ HC.out).mono ?_); rintro e w1 ⟨A1, c1, xs, f, t, rfl, hti, hl, hx, hp, hb⟩)
  have HX := Lib.hid hx.cnts
  have HB := Lib.hid hb
  have HW := Lib.hid (nz_wf hp)
  clear hti hx hp hb
  go_wp2_with fail
  ((with_reducible refine (Im7.LoopRate _ _ _ _ _ xs f t _ HX.out (Nat.le_refl _) HW.out.1 HW.out.2).mono ?_); rintro e w2 ⟨rfl, hb⟩)
  replace HX := Lib.hid (HX.out.below hb (Nat.le_refl _))
  replace HB := Lib.hid (HB.out.trans (hb.mono HB.out.size))
  clear hb
  go_wp2_with fail
  ((with_reducible refine (Sp7.LoopRate _ _ _ _ _ xs f t _ HX.out).mono ?_); rintro e w3 ⟨rfl, hb⟩)
  replace HX := Lib.hid (HX.out.below hb (Nat.le_refl _))
  replace HB := Lib.hid (HB.out.trans (hb.mono HB.out.size))
  clear hb
  have hr1 : ((rateL xs f t).1 != (rateL xs f t).1) = false := by simp
  have hr2 : ((rateL xs f t).2 != (rateL xs f t).2) = false := by simp
  cases hok : loopsOk xs
  · have _h := trivial
    go_wp2_with fail
    ((with_reducible refine (Sp7.LoopsValid _ _ _ _ _ xs _ HX.out).mono ?_); rintro e w4 ⟨rfl, hb⟩)
    rw [hok]
    replace HB := Lib.hid (HB.out.trans (hb.mono HB.out.size))
    clear hb HX
    go_wp2
    go_ret
    exact ⟨rfl, HB.out⟩
  · have _h := trivial
    go_wp2_with fail
    ((with_reducible refine (Sp7.LoopsValid _ _ _ _ _ xs _ HX.out).mono ?_); rintro e w4 ⟨rfl, hb⟩)
    rw [hok]
    have HX0 : Hid (Cnts w.heap.size w1.heap.size w4 A1 xs.length c1 xs ∧ Below w.heap.size w w4) := ⟨HX.out.below hb (Nat.le_refl _), HB.out.trans (hb.mono HB.out.size)⟩
    clear hb HX HB HC HW
    have HAT : Hid (∀ k, k < xs.length → (∀ i, i < k → isL f t (cntAt xs i) = false) → isL f t (cntAt xs k) = true → rateL xs f t = ((cntAt xs k).ba, (cntAt xs k).se) ∧ (cntAt xs k).ba ≤ (cntAt xs k).se) := fun k hk h1 h2 => by
      refine ⟨?_, (okC_iff.1 (ok_at hok (cntAt_mem hk))).2.2.2.2.2⟩
      unfold rateL
      rw [hok, find_at hk h1 h2]
      rfl
    have HNO : Hid ((∀ i, i < xs.length → isL f t (cntAt xs i) = false) → rateL xs f t = (0, 0)) := fun h => by
      show rateL xs f t = _
      unfold rateL
      rw [hok, find_none h]
      rfl
    generalize rateL xs f t = r at *
    obtain ⟨r1, r2⟩ := r
    simp only at hr1 hr2 ⊢
    have hq1 : (r1 == r1) = true := by simp
    have hq2 : (r2 == r2) = true := by simp
    clear hok
    go_wp2
    go_loopw [10] (fun i wr => ∃ k : Nat, k ≤ xs.length ∧ i = .int .i64 k ∧ Hid (∀ i, i < k → isL f t (cntAt xs i) = false) ∧ Hid (Cnts w.heap.size w1.heap.size wr A1 xs.length c1 xs ∧ Below w.heap.size w wr)) (fun i _ => xs.length - (intOf i).toNat)
    case atStart => exact ⟨0, Nat.zero_le _, rfl, fun i hi => absurd hi (by omega), HX0⟩
    case round =>
      obtain ⟨k, hk, rfl, hT, hR⟩ := hrel
      clear HX0
      by_cases hlt : k < xs.length
      · obtain ⟨b, off, rfl, _, _, _, m0, m1, m2, m3⟩ := hR.out.1.at_ hlt
        have HA : Hid (isL f t (cntAt xs k) = true → (r1, r2) = ((cntAt xs k).ba, (cntAt xs k).se) ∧ (cntAt xs k).ba ≤ (cntAt xs k).se) := fun h => HAT.out k hlt hT.out h
        have HN : Hid (isL f t (cntAt xs k) = false → ∀ i, i < k + 1 → isL f t (cntAt xs i) = false) := fun h => noTo_succ hT.out h
        clear hT HAT HNO
        generalize cntAt xs k = x at *
        have HIS : Hid (isL f t x = (decide (x.fr = f) && decide (x.to_ = t))) := rfl
        by_cases h1 : x.fr = f
        · by_cases h2 : x.to_ = t
          · obtain ⟨he, hle⟩ := HA.out (by rw [HIS.out, decide_eq_true h1, decide_eq_true h2]; rfl)
            obtain ⟨rfl, rfl⟩ := Prod.mk.inj he
            have d1 : (x.fr == f) = true := by simpa using h1
            have d2 : (x.to_ == t) = true := by simpa using h2
            have d3 : decide (x.ba ≤ x.se) = true := by simpa using hle
            clear HA HN HIS he h1 h2
            go_wp2
            go_ret
            exact ⟨rfl, hR.out.2⟩
          · have HF := HN.out (by rw [HIS.out, decide_eq_false h2, Bool.and_false])
            have HF := Lib.hid HF
            have d1 : (x.fr == f) = true := by simpa using h1
            have d2 : (x.to_ == t) = false := by simpa using h2
            clear HA HN HIS h1 h2
            go_wp2
            go_roundw
            case rel => exact ⟨k + 1, by omega, by go_num, HF, hR⟩
            case measure => simp [intOf]; omega
        · have HF := HN.out (by rw [HIS.out, decide_eq_false h1, Bool.false_and])
          have HF := Lib.hid HF
          have d1 : (x.fr == f) = false := by simpa using h1
          clear HA HN HIS h1
          go_wp2
          go_roundw
          case rel => exact ⟨k + 1, by omega, by go_num, HF, hR⟩
          case measure => simp [intOf]; omega
      · obtain rfl : k = xs.length := by omega
        obtain ⟨rfl, rfl⟩ := Prod.mk.inj (HNO.out hT.out)
        clear hT HNO HAT hlt
        go_wp2
        go_ret
        exact ⟨rfl, hR.out.2⟩

end Law7
end Go.Proofs.Ytdioinibjlgjfaa
