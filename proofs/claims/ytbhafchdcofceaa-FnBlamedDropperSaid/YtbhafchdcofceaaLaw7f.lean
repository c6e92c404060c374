/-
  Laws of chapter 12 on adding a loop: each returns true and writes nothing that was there.
-/
import Derived.Test.YtbhafchdcofceaaDr7c
import Derived.Test.YtbhafchdcofceaaIla
import Derived.Test.YtbhafchdcofceaaIm7h
import Derived.Test.YtbhafchdcofceaaSp7e
import Derived.Test.YtbhafchdcofceaaHc
import Derived.Test.YtbhafchdcofceaaLt
namespace Go.Proofs.Ytbhafchdcofceaa
open Go.RowKit
namespace Law7
open Il Sl Lc Rd LawB Im7 Hc

theorem first_facts {a b : Int} (ha : 0 ≤ a ∧ a ≤ 7) (hb : 0 ≤ b ∧ b ≤ 7) (hne : a ≠ b) (bk : Bool) : addB [] [a, b] bk = true ∧ addR [] [a, b] bk = [⟨a, b, 1, bif bk then 1 else 0⟩] ∧ rateL (addR [] [a, b] bk) a b = (bif bk then 1 else 0, 1) := by
  have e1 : addL [] [a, b] bk = [⟨a, b, 1, bif bk then 1 else 0⟩] := by
    unfold addL
    cases bk <;> rfl
  have e2 : loopsOk [(⟨a, b, 1, bif bk then 1 else 0⟩ : Cnt)] = true := by
    refine ok_sd.2 ⟨List.pairwise_singleton _ _, fun c hc => ?_⟩
    rw [List.mem_singleton] at hc
    subst hc
    rw [okC_iff]
    cases bk <;> simp <;> omega
  have e3 : lpOk [a, b] = true := by
    refine lpOk_iff.2 ⟨adj_iff.2 fun i hi => ?_, ?_, by simp, by simp⟩
    · obtain rfl : i = 0 := by simp at hi; omega
      exact hne
    · unfold Nm.namesOk
      simp [Nm.inName_iff, ha, hb]
  have e4 : addB [] [a, b] bk = true := addB_iff.2 ⟨rfl, e3, by rw [e1]; exact e2⟩
  refine ⟨e4, by rw [addR_ok e4, e1], ?_⟩
  rw [addR_ok e4, e1, rate_last e2]
  cases bk <;> simp [lastL, isL]
set_option maxRecDepth 20000 in
set_option maxHeartbeats 1000000 in
theorem fnLoopFirst (A : Option Addr) (n c : Nat) (B : Option Addr) (m d : Nat) (w : World) (h : CodeIs w A n c) :
    Calls Try.prog 6 #[.slice A n c, .slice B m d] w (TruePost w) := by
  have HC := Lib.hid h
  clear h
  by_cases hn : 1048576 < n
  · have hd : decide ((1048576 : Int) < (n : Int)) = true := by simp; omega
    go_enter Try.func6, Try.ntmps6
    go_wp2
    go_ret
    exact ⟨rfl, Below.refl _ _⟩
  have hd : decide ((1048576 : Int) < (n : Int)) = false := by simp; omega
  by_cases hm : 1048576 < m
  · have hd2 : decide ((1048576 : Int) < (m : Int)) = true := by simp; omega
    go_enter Try.func6, Try.ntmps6
    go_wp2
    go_ret
    exact ⟨rfl, Below.refl _ _⟩
  have hd2 : decide ((1048576 : Int) < (m : Int)) = false := by simp; omega
  go_enter Try.func6, Try.ntmps6
  go_wp2_with fail
  ((with_reducible refine (DrawLoopAdd _ _ _ _ HC.out).mono ?_); rintro e w1 ⟨A1, c1, xs, B1, d1, p, bk, rfl, hti, hl, hx, hpl, hpx, hp, hb⟩)
  have HX := Lib.hid hx.cnts
  have HP := Lib.hid hp
  have HB := Lib.hid hb
  have hS1 := hb.size
  clear hti hx hb HC hpx hp
  go_wp2_with fail
  ((with_reducible refine (Im7.LoopAdd _ _ _ _ _ _ _ _ _ _ xs p bk _ HX.out HP.out (Nat.le_refl _) (Nat.le_refl _)).mono ?_); rintro e w2 ⟨AR, cR, rfl, ho, hb⟩)
  have HR := Lib.hid ho.cnts
  replace HX := Lib.hid (HX.out.below hb (Nat.le_refl _))
  replace HP := Lib.hid (HP.out.below hb (Nat.le_refl _))
  replace HB := Lib.hid (HB.out.trans (hb.mono HB.out.size))
  have hS2 := hb.size
  clear ho hb
  go_wp2_with fail
  ((with_reducible refine (Sp7.LoopAdd _ _ _ _ _ _ _ _ _ _ xs p bk _ HX.out HP.out (by omega) (by omega)).mono ?_); rintro e w3 ⟨AT, cT, rfl, ho, hb⟩)
  have HT := Lib.hid ho.cnts
  replace HR := Lib.hid (HR.out.below hb (Nat.le_refl _))
  replace HX := Lib.hid (HX.out.below hb (Nat.le_refl _))
  replace HP := Lib.hid (HP.out.below hb (Nat.le_refl _))
  replace HB := Lib.hid (HB.out.trans (hb.mono HB.out.size))
  have hS3 := hb.size
  clear ho hb
  cases hok : addB xs p bk
  · have _h := trivial
    go_wp2_with fail
    ((with_reducible refine (sameCounts _ _ _ _ _ _ _ _ _ _ _ HR.out HT.out).mono ?_); rintro e w4 ⟨rfl, hb⟩)
    replace HR := Lib.hid (HR.out.below hb (Nat.le_refl _))
    replace HT := Lib.hid (HT.out.below hb (Nat.le_refl _))
    replace HB := Lib.hid (HB.out.trans (hb.mono HB.out.size))
    clear hb hok
    go_wp2_with fail
    ((with_reducible refine (sameCounts _ _ _ _ _ _ _ _ _ _ _ HR.out HT.out).mono ?_); rintro e w5 ⟨rfl, hb⟩)
    replace HB := Lib.hid (HB.out.trans (hb.mono HB.out.size))
    clear hb
    go_wp2
    go_ret
    exact ⟨rfl, HB.out⟩
  · have _h := trivial
    go_wp2_with fail
    ((with_reducible refine (sameCounts _ _ _ _ _ _ _ _ _ _ _ HR.out HT.out).mono ?_); rintro e w4 ⟨rfl, hb⟩)
    replace HB := Lib.hid (HB.out.trans (hb.mono HB.out.size))
    clear hb hok HR HT HX HP
    go_wp2_with fail
    have ha : 0 ≤ (m : Int) % 8 ∧ (m : Int) % 8 ≤ 7 := by omega
    have hb : 0 ≤ ((m : Int) % 8 + 1 + (n : Int) % 7) % 8 ∧ ((m : Int) % 8 + 1 + (n : Int) % 7) % 8 ≤ 7 := by omega
    have hne : (m : Int) % 8 ≠ ((m : Int) % 8 + 1 + (n : Int) % 7) % 8 := by omega
    generalize (m : Int) % 8 = a at *
    generalize (a + 1 + (n : Int) % 7) % 8 = b at *
    have hF := first_facts ha hb hne bk
    have hI := ints_two (w4.alloc (.cells #[] 37)) a b
    have hs : (w4.alloc (.cells #[] 37)).heap.size = w4.heap.size + 1 := by simp
    rw [hs] at hI
    have HI := Lib.hid hI
    have HX0 : Hid (Cnts 0 0 ((w4.alloc (.cells #[] 37)).alloc (.cells #[.int .i64 a, .int .i64 b] 3)) (some ⟨w4.heap.size, 0, none⟩) 0 0 []) := Cnts.nil_ (Nat.zero_le _)
    have HB5 : Hid (Below w.heap.size w ((w4.alloc (.cells #[] 37)).alloc (.cells #[.int .i64 a, .int .i64 b] 3))) := (HB.out.alloc HB.out.size _).alloc (by have := HB.out.size; simp; omega) _
    have hz5 : w4.heap.size + 1 + 1 ≤ ((w4.alloc (.cells #[] 37)).alloc (.cells #[.int .i64 a, .int .i64 b] 3)).heap.size := by simp
    have HWA : Hid (wf a ∧ wf b) := ⟨wf_small (by omega), wf_small (by omega)⟩
    generalize (w4.alloc (.cells #[] 37)).alloc (.cells #[.int .i64 a, .int .i64 b] 3) = w5 at *
    have HF := Lib.hid hF
    clear hI hs hF HB ha hb hne
    ((with_reducible refine (Im7.LoopAdd _ _ _ _ _ _ _ _ _ _ [] [a, b] bk _ HX0.out HI.out (Nat.zero_le _) hz5).mono ?_); rintro e w6 ⟨AX, cX, rfl, ho, hb⟩)
    have HX := Lib.hid ho.cnts
    replace HB := Lib.hid (HB5.out.trans (hb.mono HB5.out.size))
    rw [HF.out.1]
    have HE : Hid ((addR [] [a, b] bk).length = 1) := by show List.length _ = 1; rw [HF.out.2.1]; rfl
    have HRT := Lib.hid HF.out.2.2
    rw [HE.out] at HX ⊢
    generalize addR [] [a, b] bk = ys at *
    clear ho hb HX0 HI HB5 hz5 HF
    go_wp2_with fail
    ((with_reducible refine (Im7.LoopRate _ _ _ _ _ ys a b _ HX.out (Nat.le_refl _) HWA.out.1 HWA.out.2).mono ?_); rintro e w7 ⟨rfl, hb⟩)
    replace HB := Lib.hid (HB.out.trans (hb.mono HB.out.size))
    rw [HRT.out]
    clear hb HRT
    cases bk
    · go_wp2
      go_ret
      exact ⟨rfl, HB.out⟩
    · go_wp2
      go_ret
      exact ⟨rfl, HB.out⟩

end Law7
end Go.Proofs.Ytbhafchdcofceaa
