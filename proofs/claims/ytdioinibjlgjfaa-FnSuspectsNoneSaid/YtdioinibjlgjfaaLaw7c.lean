/-
  The law of chapter 12 on links without losses: it returns true and writes nothing that was there.
-/
import Derived.Test.YtdioinibjlgjfaaLaw7b
namespace Go.Proofs.Ytdioinibjlgjfaa
open Go.RowKit
namespace Law7
open Il Sl Lc Rd LawB Im7 Hc

/-- A link without losses. -/
def goodC (c : Cnt) : Cnt := ⟨c.fr, c.to_, c.se, c.se⟩
theorem Qr.lo {w0 wr w' : World} {h1 h2 h3 B : Nat} {A1 A2 A3 : Option Addr} {c1 c2 c3 : Nat} {xs ys : List Cnt} (h : Qr w0 wr h1 h2 h3 A1 A2 A3 c1 c2 c3 xs ys) (hb : Below B wr w') (hB : h1 ≤ B ∧ h2 ≤ B ∧ h3 ≤ B) (h0 : w0.heap.size ≤ B) : Qr w0 w' h1 h2 h3 A1 A2 A3 c1 c2 c3 xs ys :=
  ⟨h.1.below' hb hB.1, h.2.1.below' hb hB.2.1, h.2.2.1.below' hb hB.2.2, ⟨Nat.le_trans h.2.2.2.1.1 hb.size, Nat.le_trans h.2.2.2.1.2.1 hb.size, Nat.le_trans h.2.2.2.1.2.2 hb.size⟩, h.2.2.2.2.trans (hb.mono h0)⟩
theorem good_at {xs : List Cnt} {k : Nat} (h : k < xs.length) : cntAt (xs.map goodC) k = goodC (cntAt xs k) := by
  unfold cntAt
  rw [List.getD_eq_getElem?_getD, List.getD_eq_getElem?_getD, List.getElem?_map, List.getElem?_eq_getElem h]
  rfl
theorem good_ok {xs : List Cnt} (h : loopsOk xs = true) : loopsOk (xs.map goodC) = true := by
  rw [loopsOk_iff]
  intro i hi
  rw [List.length_map] at hi
  have h1 := loopsOk_iff.1 h i hi
  unfold stepOk at h1 ⊢
  rw [Bool.and_eq_true] at h1 ⊢
  rw [good_at hi]
  refine ⟨?_, ?_⟩
  · have h2 := okC_iff.1 h1.1
    rw [okC_iff]
    exact ⟨h2.1, h2.2.1, h2.2.2.1, h2.2.2.2.1, by show 0 ≤ (cntAt xs i).se; omega, Int.le_refl _⟩
  · rcases Nat.eq_zero_or_pos i with h0 | h0
    · subst h0; rfl
    · rw [good_at (show i - 1 < xs.length by omega)]
      exact h1.2
theorem good_none {xs : List Cnt} (h : loopsOk xs = true) {num den : Int} (hp : partOk num den = true) : (xs.map goodC).filter (suspC num den) = [] := by
  rw [List.filter_eq_nil_iff]
  intro c hc
  rw [List.mem_map] at hc
  obtain ⟨x, hx, rfl⟩ := hc
  have h1 := okC_iff.1 (ok_at h hx)
  have h2 := partOk_iff.1 hp
  have h3 := Int.mul_le_mul_of_nonneg_right h2.2.2 (show 0 ≤ x.se by omega)
  rw [Int.mul_comm den x.se] at h3
  unfold suspC goodC
  simp only [decide_eq_true_eq]
  omega
theorem good_susp {xs : List Cnt} (h : loopsOk xs = true) (num den : Int) : suspL (xs.map goodC) num den = [] := by
  cases hp : partOk num den
  · unfold suspL; rw [hp, Bool.and_false]; rfl
  · rw [suspL_yes (good_ok h) hp, good_none h hp]
theorem good_blamed {xs : List Cnt} (h : loopsOk xs = true) (num den : Int) : blamedL (xs.map goodC) num den = [] := by
  unfold blamedL
  cases hp : partOk num den
  · rw [Bool.and_false]; rfl
  · rw [good_ok h]
    show names.filter (blameB _ num den) = []
    rw [List.filter_eq_nil_iff]
    intro n _
    unfold blameB
    rw [good_none h hp]
    have e : cntN [] n = 0 := rfl
    rw [e]
    simp only [Bool.and_eq_true, decide_eq_true_eq]
    omega
theorem zero_susp {xs : List Cnt} (h : loopsOk xs = true) : suspL xs 0 1 = [] := by
  rw [suspL_yes h (by decide), List.filter_eq_nil_iff]
  intro c hc
  have h1 := okC_iff.1 (ok_at h hc)
  unfold suspC
  simp only [decide_eq_true_eq]
  omega
theorem good_wf {xs : List Cnt} (h : Tiny xs) {y : Cnt} (hy : y ∈ xs.map goodC) : wf y.fr ∧ wf y.to_ := by
  rw [List.mem_map] at hy
  obtain ⟨x, hx, rfl⟩ := hy
  have := h x hx
  exact ⟨wf_small (show -1000 ≤ x.fr ∧ x.fr ≤ 1000 by omega), wf_small (show -1000 ≤ x.to_ ∧ x.to_ ≤ 1000 by omega)⟩
set_option maxRecDepth 20000 in
set_option maxHeartbeats 1000000 in
theorem fnSuspectsNone (A : Option Addr) (n c : Nat) (w : World) (h : CodeIs w A n c) :
    Calls Try.prog 7 #[.slice A n c] w (TruePost w) := by
  have HC := Lib.hid h
  clear h
  by_cases hn : 1048576 < n
  · go_enter Try.func7, Try.ntmps7
    go_wp2
    go_ret
    exact ⟨rfl, Below.refl _ _⟩
  go_enter Try.func7, Try.ntmps7
  go_wp2_with fail
  ((with_reducible refine (DrawLoopSuspects _ _ _ _ HC.out).mono ?_); rintro e w1 ⟨A1, c1, xs, num, den, rfl, hti, hl, hx, hp, hb⟩)
  have HTN := Lib.hid hti
  have HX := Lib.hid hx.cnts
  have HB := Lib.hid hb
  clear hti hx hp hb HC
  generalize hys : suspL xs num den = ys
  go_wp2_with fail
  ((with_reducible refine (Im7.LoopSuspects _ _ _ _ _ xs num den _ HX.out (Nat.le_refl _)).mono ?_); rintro e w2 ⟨A2, c2, rfl, h2, hb⟩)
  rw [hys] at h2 ⊢
  have HX2 := Lib.hid (HX.out.below hb (Nat.le_refl _))
  have HY2 := Lib.hid h2.cnts
  have HS2 := Lib.hid hb.size
  have HB2 := Lib.hid (HB.out.trans (hb.mono HB.out.size))
  clear h2 hb HX
  go_wp2_with fail
  ((with_reducible refine (Sp7.LoopSuspects _ _ _ _ _ xs num den _ HX2.out HS2.out).mono ?_); rintro e w3 ⟨A3, c3, rfl, h3, hb⟩)
  rw [hys] at h3 ⊢
  have HQ3 : Hid (Qr w w3 w1.heap.size w2.heap.size w3.heap.size A1 A2 A3 c1 c2 c3 xs ys) :=
    ⟨HX2.out.below hb (Nat.le_refl _), (HY2.out.below hb (Nat.le_refl _)).mono HB.out.size (Nat.le_refl _), h3.cnts.mono HB2.out.size (Nat.le_refl _), ⟨Nat.le_trans HS2.out hb.size, hb.size, Nat.le_refl _⟩, HB2.out.trans (hb.mono HB2.out.size)⟩
  clear h3 hb HX2 HY2 HB2 HS2 HB
  generalize w1.heap.size = k1 at *
  generalize w2.heap.size = k2 at *
  generalize hk3 : w3.heap.size = k3 at *
  clear hk3
  have HYS := Lib.hid hys
  clear hys
  go_wp2_with fail
  ((with_reducible refine (sameCounts _ _ _ _ _ _ _ _ _ ys _ HQ3.out.ys HQ3.out.zs).mono ?_); rintro e w4 ⟨rfl, hb⟩)
  have HQ4 := Lib.hid (HQ3.out.below hb)
  clear hb HQ3
  cases hok : loopsOk xs
  · have _h := trivial
    go_wp2_with fail
    ((with_reducible refine (Sp7.LoopsValid _ _ _ _ _ xs _ HQ4.out.xs).mono ?_); rintro e w5 ⟨rfl, hb⟩)
    rw [hok]
    have HQ5 := Lib.hid (HQ4.out.below hb)
    clear hb HQ4
    go_wp2_with fail
    ((with_reducible refine (sameCounts _ _ _ _ _ _ _ _ _ ys _ HQ5.out.ys HQ5.out.zs).mono ?_); rintro e w6 ⟨rfl, hb⟩)
    have HQ6 := Lib.hid (HQ5.out.below hb)
    clear hb HQ5
    go_wp2
    go_ret
    exact ⟨rfl, HQ6.out.bl⟩
  · have _h := trivial
    go_wp2_with fail
    ((with_reducible refine (Sp7.LoopsValid _ _ _ _ _ xs _ HQ4.out.xs).mono ?_); rintro e w5 ⟨rfl, hb⟩)
    rw [hok]
    have HQ5 := Lib.hid (HQ4.out.below hb)
    clear hb HQ4
    have HG1 := Lib.hid (good_susp hok num den)
    have HG2 := Lib.hid (good_blamed hok num den)
    have HG3 := Lib.hid (zero_susp hok)
    clear hok HYS
    have HR0 : Hid (Qr w (w5.alloc (.cells #[] 39)) k1 k2 k3 A1 A2 A3 c1 c2 c3 xs ys ∧ CAcc w5 (w5.alloc (.cells #[] 39)) (.slice (some ⟨w5.heap.size, 0, none⟩) 0 0) []) :=
      ⟨HQ5.out.below ((Below.refl _ _).alloc (Nat.le_refl _) _), cacc_new w5⟩
    have HKK : Hid ((k1 ≤ w5.heap.size ∧ k2 ≤ w5.heap.size ∧ k3 ≤ w5.heap.size) ∧ w.heap.size ≤ w5.heap.size) := ⟨HQ5.out.2.2.2.1, HQ5.out.bl.size⟩
    clear HQ5
    go_wp2
    go_loopw [8, 9] (fun v i wr => ∃ k : Nat, k ≤ xs.length ∧ i = .int .i64 k ∧ Hid (Qr w wr k1 k2 k3 A1 A2 A3 c1 c2 c3 xs ys ∧ CAcc w5 wr v ((xs.take k).map goodC))) (fun _ i _ => xs.length - (intOf i).toNat)
    case atStart => exact ⟨0, Nat.zero_le _, rfl, HR0.out⟩
    case round =>
      obtain ⟨k, hk, rfl, hR⟩ := hrel
      clear HR0
      by_cases hlt : k < xs.length
      · have HST : Hid ((xs.take (k + 1)).map goodC = (xs.take k).map goodC ++ [goodC (cntAt xs k)]) := by
          show _ = _
          rw [take_cnt hlt, List.map_append]
          rfl
        obtain ⟨b, off, rfl, _, _, hbz, m0, m1, m2, m3⟩ := hR.out.1.xs.at_ hlt
        generalize cntAt xs k = x at *
        have hBL : Below wr.heap.size wr (wr.alloc (.cells #[.int .i64 x.fr, .int .i64 x.to_, .int .i64 x.se, .int .i64 x.se] 39)) :=
          (Below.refl _ _).alloc (Nat.le_refl _) _
        have HAC := Lib.hid (hR.out.2.step hBL (Nat.le_refl _))
        have HQ2 := Lib.hid (hR.out.1.below hBL)
        have HSZ : Hid ((wr.alloc (.cells #[.int .i64 x.fr, .int .i64 x.to_, .int .i64 x.se, .int .i64 x.se] 39)).heap.size = wr.heap.size + 1) := by show _ = _; simp
        have hkl : ((xs.take k).map goodC).length ≤ 64 := by rw [List.length_map, List.length_take]; omega
        clear hBL hR
        go_wp2_with (at_builtin; refine wpList_cApp w5 (wr.alloc (.cells #[.int .i64 x.fr, .int .i64 x.to_, .int .i64 x.se, .int .i64 x.se] 39)) _ _ HAC.out (goodC x) (by omega) (.tmp 54) (.tmp 56) rfl rfl rfl (by rw [HSZ.out]; rfl) ?_; intro v' w2 hN hB)
        have HR2 : Hid (Qr w w2 k1 k2 k3 (some ⟨b, off, none⟩) A2 A3 c1 c2 c3 xs ys ∧ CAcc w5 w2 v' ((xs.take (k + 1)).map goodC)) := ⟨HQ2.out.lo hB HKK.out.1 HKK.out.2, by rw [HST.out]; exact hN⟩
        clear hN hB HQ2 HAC HST HSZ
        go_wp2
        go_roundw
        case rel => exact ⟨k + 1, by omega, by go_num, HR2.out⟩
        case measure => simp [intOf]; omega
      · obtain rfl : k = xs.length := by omega
        rw [List.take_length] at hR
        obtain ⟨A6, c6, rfl, ho, _⟩ := hR.out.2.own
        have HO : Hid (Cnts w5.heap.size wr.heap.size wr A6 (xs.map goodC).length c6 (xs.map goodC)) := ho.cnts
        have HQ := Lib.hid hR.out.1
        have HGW : Hid (∀ y ∈ xs.map goodC, wf y.fr ∧ wf y.to_) := fun y hy => good_wf HTN.out hy
        have hgl : (xs.map goodC).length ≤ 64 := by rw [List.length_map]; omega
        clear ho hR hlt HTN
        generalize hgs : xs.map goodC = gs at *
        clear hgs
        go_wp2_with fail
        ((with_reducible refine (Im7.LoopSuspects _ _ _ _ _ gs num den _ HO.out (Nat.le_refl _)).mono ?_); rintro e w6 ⟨A7, c7, rfl, h7, hb⟩)
        rw [HG1.out]
        have HQ6 := Lib.hid (HQ.out.below hb)
        have HO6 := Lib.hid (HO.out.below hb (Nat.le_refl _))
        have HS6 := Lib.hid hb.size
        clear h7 hb HQ HO
        go_wp2_with fail
        ((with_reducible refine (Im7.LoopBlamed _ _ _ _ _ gs num den _ HO6.out HS6.out HGW.out (by omega)).mono ?_); rintro e w7 ⟨A8, c8, rfl, h8, hb⟩)
        rw [HG2.out]
        have HQ7 := Lib.hid (HQ6.out.below hb)
        clear h8 hb HQ6 HO6 HS6
        go_wp2_with fail
        ((with_reducible refine (Im7.LoopSuspects _ _ _ _ _ xs 0 1 _ HQ7.out.xs HQ7.out.sz).mono ?_); rintro e w8 ⟨A9, c9, rfl, h9, hb⟩)
        rw [HG3.out]
        have HB := Lib.hid (HQ7.out.below hb).bl
        clear h9 hb HQ7
        go_wp2
        go_ret
        exact ⟨rfl, HB.out⟩

end Law7
end Go.Proofs.Ytdioinibjlgjfaa
