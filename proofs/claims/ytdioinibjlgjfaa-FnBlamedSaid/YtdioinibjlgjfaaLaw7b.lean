/-
  Laws of chapter 12 on suspects, by the contracts of the functions that they call: each returns true and writes nothing that was there.
-/
import Derived.Test.YtdioinibjlgjfaaDr7b
import Derived.Test.YtdioinibjlgjfaaIla
import Derived.Test.YtdioinibjlgjfaaIm7d
import Derived.Test.YtdioinibjlgjfaaSp7b
import Derived.Test.YtdioinibjlgjfaaSp7c
import Derived.Test.YtdioinibjlgjfaaSp7e
import Derived.BigQuiet
import Derived.Laws.StructEq
namespace Go.Proofs.Ytdioinibjlgjfaa
open Go.RowKit
namespace Law7
open Il Sl Lc Rd LawB Im7 Hc

/-- Drawn counts and two lists made of them. -/
def Qr (w0 wr : World) (h1 h2 h3 : Nat) (A1 A2 A3 : Option Addr) (c1 c2 c3 : Nat) (xs ys : List Cnt) : Prop :=
  Cnts w0.heap.size h1 wr A1 xs.length c1 xs ∧ Cnts w0.heap.size h2 wr A2 ys.length c2 ys ∧ Cnts w0.heap.size h3 wr A3 ys.length c3 ys ∧ (h1 ≤ wr.heap.size ∧ h2 ≤ wr.heap.size ∧ h3 ≤ wr.heap.size) ∧ Below w0.heap.size w0 wr
theorem Qr.below {w0 wr w' : World} {h1 h2 h3 : Nat} {A1 A2 A3 : Option Addr} {c1 c2 c3 : Nat} {xs ys : List Cnt} (h : Qr w0 wr h1 h2 h3 A1 A2 A3 c1 c2 c3 xs ys) (hb : Below wr.heap.size wr w') : Qr w0 w' h1 h2 h3 A1 A2 A3 c1 c2 c3 xs ys :=
  ⟨h.1.below hb (Nat.le_refl _), h.2.1.below hb (Nat.le_refl _), h.2.2.1.below hb (Nat.le_refl _), ⟨Nat.le_trans h.2.2.2.1.1 hb.size, Nat.le_trans h.2.2.2.1.2.1 hb.size, Nat.le_trans h.2.2.2.1.2.2 hb.size⟩, h.2.2.2.2.trans (hb.mono h.2.2.2.2.size)⟩
theorem Qr.xs {w0 wr : World} {h1 h2 h3 : Nat} {A1 A2 A3 : Option Addr} {c1 c2 c3 : Nat} {xs ys : List Cnt} (h : Qr w0 wr h1 h2 h3 A1 A2 A3 c1 c2 c3 xs ys) : Cnts w0.heap.size h1 wr A1 xs.length c1 xs := h.1
theorem Qr.ys {w0 wr : World} {h1 h2 h3 : Nat} {A1 A2 A3 : Option Addr} {c1 c2 c3 : Nat} {xs ys : List Cnt} (h : Qr w0 wr h1 h2 h3 A1 A2 A3 c1 c2 c3 xs ys) : Cnts w0.heap.size h2 wr A2 ys.length c2 ys := h.2.1
theorem Qr.zs {w0 wr : World} {h1 h2 h3 : Nat} {A1 A2 A3 : Option Addr} {c1 c2 c3 : Nat} {xs ys : List Cnt} (h : Qr w0 wr h1 h2 h3 A1 A2 A3 c1 c2 c3 xs ys) : Cnts w0.heap.size h3 wr A3 ys.length c3 ys := h.2.2.1
theorem Qr.sz {w0 wr : World} {h1 h2 h3 : Nat} {A1 A2 A3 : Option Addr} {c1 c2 c3 : Nat} {xs ys : List Cnt} (h : Qr w0 wr h1 h2 h3 A1 A2 A3 c1 c2 c3 xs ys) : h1 ≤ wr.heap.size := h.2.2.2.1.1
theorem Qr.bl {w0 wr : World} {h1 h2 h3 : Nat} {A1 A2 A3 : Option Addr} {c1 c2 c3 : Nat} {xs ys : List Cnt} (h : Qr w0 wr h1 h2 h3 A1 A2 A3 c1 c2 c3 xs ys) : Below w0.heap.size w0 wr := h.2.2.2.2
theorem Qr.dn {w0 wr : World} {h1 h2 h3 : Nat} {A1 A2 A3 : Option Addr} {c1 c2 c3 : Nat} {xs ys : List Cnt} (h : Qr w0 wr h1 h2 h3 A1 A2 A3 c1 c2 c3 xs ys) (d : Nat) : Qr w0 (wr.drewN d) h1 h2 h3 A1 A2 A3 c1 c2 c3 xs ys :=
  ⟨h.1, h.2.1, h.2.2.1, h.2.2.2.1, h.2.2.2.2.trans ⟨rfl, rfl, rfl, Nat.le_refl _, fun _ _ => rfl⟩⟩
theorem suspL_yes {xs : List Cnt} {num den : Int} (h : loopsOk xs = true) (hp : partOk num den = true) : suspL xs num den = xs.filter (suspC num den) := by
  unfold suspL
  rw [h, hp]
  rfl
theorem filt_at {xs : List Cnt} {p : Cnt → Bool} {k : Nat} (hk : k < xs.length) (hp : p (cntAt xs k) = true) : ((xs.take k).filter p).length < (xs.filter p).length ∧ cntAt (xs.filter p) ((xs.take k).filter p).length = cntAt xs k ∧ ((xs.take (k + 1)).filter p).length = ((xs.take k).filter p).length + 1 := by
  have h1 := filter_take hk p
  rw [hp] at h1
  have h2 : xs.filter p = (xs.take k).filter p ++ (cntAt xs k :: (xs.drop (k + 1)).filter p) := by
    have e : xs = xs.take (k + 1) ++ xs.drop (k + 1) := (List.take_append_drop _ _).symm
    conv => lhs; rw [e]
    rw [List.filter_append, h1]
    simp
  refine ⟨?_, ?_, ?_⟩
  · rw [h2, List.length_append, List.length_cons]; omega
  · unfold cntAt
    rw [h2, List.getD_eq_getElem?_getD, List.getElem?_append_right (Nat.le_refl _), Nat.sub_self]
    rfl
  · rw [h1, List.length_append]; rfl
theorem filt_no {xs : List Cnt} {p : Cnt → Bool} {k : Nat} (hk : k < xs.length) (hp : p (cntAt xs k) = false) : ((xs.take (k + 1)).filter p).length = ((xs.take k).filter p).length := by
  have h1 := filter_take hk p
  rw [hp] at h1
  rw [h1, List.length_append]; rfl
set_option maxRecDepth 20000 in
set_option maxHeartbeats 1000000 in
theorem fnSuspects (A : Option Addr) (n c : Nat) (w : World) (h : CodeIs w A n c) :
    Calls Try.prog 6 #[.slice A n c] w (TruePost w) := by
  have HC := Lib.hid h
  clear h
  by_cases hn : 1048576 < n
  · go_enter Try.func6, Try.ntmps6
    go_wp2
    go_ret
    exact ⟨rfl, Below.refl _ _⟩
  go_enter Try.func6, Try.ntmps6
  go_wp2_with fail
  ((with_reducible refine (DrawLoopSuspects _ _ _ _ HC.out).mono ?_); rintro e w1 ⟨A1, c1, xs, num, den, rfl, hti, hl, hx, hp, hb⟩)
  have HTN := Lib.hid hti
  have HX := Lib.hid hx.cnts
  have HB := Lib.hid hb
  clear hti hx hp hb HC
  generalize hys : suspL xs num den = ys
  go_wp2_with fail
  ((with_reducible refine (Im7.LoopSuspects _ _ _ _ _ xs num den _ HX.out (Nat.le_refl _)).mono ?_); rintro e w2 ⟨A2, c2, rfl, h2, hb⟩)
  rw [hys] at h2 ⊢
  have HX2 := Lib.hid (HX.out.below hb (Nat.le_refl _))
  have HY2 := Lib.hid h2.cnts
  have HS2 := Lib.hid hb.size
  have HB2 := Lib.hid (HB.out.trans (hb.mono HB.out.size))
  clear h2 hb HX
  go_wp2_with fail
  ((with_reducible refine (Sp7.LoopSuspects _ _ _ _ _ xs num den _ HX2.out HS2.out).mono ?_); rintro e w3 ⟨A3, c3, rfl, h3, hb⟩)
  rw [hys] at h3 ⊢
  have HQ3 : Hid (Qr w w3 w1.heap.size w2.heap.size w3.heap.size A1 A2 A3 c1 c2 c3 xs ys) :=
    ⟨HX2.out.below hb (Nat.le_refl _), (HY2.out.below hb (Nat.le_refl _)).mono HB.out.size (Nat.le_refl _), h3.cnts.mono HB2.out.size (Nat.le_refl _), ⟨Nat.le_trans HS2.out hb.size, hb.size, Nat.le_refl _⟩, HB2.out.trans (hb.mono HB2.out.size)⟩
  clear h3 hb HX2 HY2 HB2 HS2 HB
  generalize w1.heap.size = k1 at *
  generalize w2.heap.size = k2 at *
  generalize hk3 : w3.heap.size = k3 at *
  clear hk3
  have HYS := Lib.hid hys
  clear hys
  go_wp2_with fail
  ((with_reducible refine (sameCounts _ _ _ _ _ _ _ _ _ ys _ HQ3.out.ys HQ3.out.zs).mono ?_); rintro e w4 ⟨rfl, hb⟩)
  have HQ4 := Lib.hid (HQ3.out.below hb)
  clear hb HQ3
  cases hok : loopsOk xs
  · have _h := trivial
    go_wp2_with fail
    ((with_reducible refine (Sp7.LoopsValid _ _ _ _ _ xs _ HQ4.out.xs).mono ?_); rintro e w5 ⟨rfl, hb⟩)
    rw [hok]
    have HQ5 := Lib.hid (HQ4.out.below hb)
    clear hb HQ4
    go_wp2_with fail
    ((with_reducible refine (sameCounts _ _ _ _ _ _ _ _ _ ys _ HQ5.out.ys HQ5.out.zs).mono ?_); rintro e w6 ⟨rfl, hb⟩)
    have HQ6 := Lib.hid (HQ5.out.below hb)
    clear hb HQ5
    go_wp2
    go_ret
    exact ⟨rfl, HQ6.out.bl⟩
  · have _h := trivial
    go_wp2_with fail
    ((with_reducible refine (Sp7.LoopsValid _ _ _ _ _ xs _ HQ4.out.xs).mono ?_); rintro e w5 ⟨rfl, hb⟩)
    rw [hok]
    have HQ5 := Lib.hid (HQ4.out.below hb)
    clear hb HQ4
    by_cases d1 : den < 1
    · have d1' : decide (den < 1) = true := by simpa using d1
      go_wp2_with fail
      ((with_reducible refine (sameCounts _ _ _ _ _ _ _ _ _ ys _ HQ5.out.ys HQ5.out.zs).mono ?_); rintro e w6 ⟨rfl, hb⟩)
      have HQ6 := Lib.hid (HQ5.out.below hb)
      clear hb HQ5
      go_wp2
      go_ret
      exact ⟨rfl, HQ6.out.bl⟩
    have d1' : decide (den < 1) = false := by simpa using d1
    by_cases d2 : num < 0
    · have d2' : decide (num < 0) = true := by simpa using d2
      go_wp2_with fail
      ((with_reducible refine (sameCounts _ _ _ _ _ _ _ _ _ ys _ HQ5.out.ys HQ5.out.zs).mono ?_); rintro e w6 ⟨rfl, hb⟩)
      have HQ6 := Lib.hid (HQ5.out.below hb)
      clear hb HQ5
      go_wp2
      go_ret
      exact ⟨rfl, HQ6.out.bl⟩
    have d2' : decide (num < 0) = false := by simpa using d2
    by_cases d3 : den < num
    · have d3' : decide (den < num) = true := by simpa using d3
      go_wp2_with fail
      ((with_reducible refine (sameCounts _ _ _ _ _ _ _ _ _ ys _ HQ5.out.ys HQ5.out.zs).mono ?_); rintro e w6 ⟨rfl, hb⟩)
      have HQ6 := Lib.hid (HQ5.out.below hb)
      clear hb HQ5
      go_wp2
      go_ret
      exact ⟨rfl, HQ6.out.bl⟩
    have d3' : decide (den < num) = false := by simpa using d3
    by_cases d4 : 99 < den
    · have d4' : decide (99 < den) = true := by simpa using d4
      go_wp2_with fail
      ((with_reducible refine (sameCounts _ _ _ _ _ _ _ _ _ ys _ HQ5.out.ys HQ5.out.zs).mono ?_); rintro e w6 ⟨rfl, hb⟩)
      have HQ6 := Lib.hid (HQ5.out.below hb)
      clear hb HQ5
      go_wp2
      go_ret
      exact ⟨rfl, HQ6.out.bl⟩
    have d4' : decide (99 < den) = false := by simpa using d4
    have hpo : partOk num den = true := by rw [partOk_iff]; omega
    have HYF : Hid (ys = xs.filter (suspC num den)) := by show _ = _; rw [← HYS.out, suspL_yes hok hpo]
    have HBD : Hid (∀ c ∈ xs, IntKind.i64.wrap (c.ba * den) = c.ba * den ∧ IntKind.i64.wrap (num * c.se) = num * c.se) := fun c hc => susp_bd (ok_at hok hc) hpo
    clear hok hpo HYS HTN
    go_wp2
    go_loopw [8, 9] (fun q i wr => ∃ k : Nat, k ≤ xs.length ∧ i = .int .i64 k ∧ q = .int .i64 (((xs.take k).filter (suspC num den)).length : Nat) ∧ Hid (Qr w wr k1 k2 k3 A1 A2 A3 c1 c2 c3 xs ys)) (fun _ i _ => xs.length - (intOf i).toNat)
    case atStart => exact ⟨0, Nat.zero_le _, rfl, rfl, HQ5⟩
    case round =>
      obtain ⟨k, hk, rfl, rfl, hR⟩ := hrel
      clear HQ5
      by_cases hlt : k < xs.length
      · obtain ⟨b, off, rfl, _, _, _, m0, m1, m2, m3⟩ := hR.out.xs.at_ hlt
        obtain ⟨e1, e2⟩ := HBD.out _ (cntAt_mem hlt)
        have HIS : Hid (suspC num den (cntAt xs k) = decide ((cntAt xs k).ba * den < num * (cntAt xs k).se)) := rfl
        cases hs : suspC num den (cntAt xs k)
        · have HN := Lib.hid (filt_no hlt hs)
          have d5 : decide ((cntAt xs k).ba * den < num * (cntAt xs k).se) = false := by rw [← HIS.out, hs]
          clear HIS hs
          generalize cntAt xs k = x at *
          go_wp2
          go_quiet (fail)
          go_wp2
          go_roundw
          case rel => exact ⟨k + 1, by omega, by go_num, by rw [HN.out], hR.out.dn _⟩
          case measure => simp [intOf]; omega
        · obtain ⟨f1, f2, f3⟩ := filt_at hlt hs
          rw [← HYF.out] at f1 f2
          have HN := Lib.hid f3
          have d5 : decide ((cntAt xs k).ba * den < num * (cntAt xs k).se) = true := by rw [← HIS.out, hs]
          clear HIS hs f3
          obtain ⟨b2, off2, rfl, _, _, _, q0, q1, q2, q3⟩ := hR.out.ys.at_ f1
          rw [f2] at q0 q1 q2 q3
          generalize cntAt xs k = x at *
          clear f2
          generalize ((xs.take k).filter (suspC num den)).length = j at *
          have hxl : ys.length ≤ 64 := by
            rw [HYF.out]
            exact Nat.le_trans (List.length_filter_le _ _) hl
          have d6 : decide ((ys.length : Int) ≤ (j : Int)) = false := by simp; omega
          go_wp2
          go_quiet (fail)
          go_wp2
          go_quiet (fail)
          go_wp2
          go_roundw
          case rel => exact ⟨k + 1, by omega, by go_num, by rw [HN.out]; go_num, hR.out.dn _⟩
          case measure => simp [intOf]; omega
      · obtain rfl : k = xs.length := by omega
        rw [List.take_length, ← HYF.out]
        clear hlt HYF HBD
        go_wp2
        go_ret
        exact ⟨rfl, hR.out.bl⟩
/-- Who is a suspect at a part is one at the whole. -/
theorem susp_more {xs : List Cnt} {num den : Int} {c : Cnt} (h : c ∈ suspL xs num den) : c ∈ suspL xs 1 1 := by
  unfold suspL at h
  cases h1 : loopsOk xs
  · rw [h1] at h; simp at h
  · cases h2 : partOk num den
    · rw [h1, h2] at h; simp at h
    · rw [h1, h2] at h
      have h3 : c ∈ xs.filter (suspC num den) := h
      rw [List.mem_filter] at h3
      rw [suspL_yes h1 (by decide), List.mem_filter]
      refine ⟨h3.1, ?_⟩
      have h4 := okC_iff.1 (ok_at h1 h3.1)
      have h5 := partOk_iff.1 h2
      have h6 : c.ba * den < num * c.se := by have := h3.2; unfold suspC at this; simpa using this
      unfold suspC
      rw [decide_eq_true_eq]
      rcases Int.lt_or_le c.ba c.se with h7 | h7
      · omega
      · exfalso
        have e : c.ba = c.se := by omega
        rw [e] at h6
        have h8 := Int.mul_le_mul_of_nonneg_right h5.2.2 (show 0 ≤ c.se by omega)
        rw [Int.mul_comm den c.se] at h8
        omega
set_option maxRecDepth 20000 in
set_option maxHeartbeats 1000000 in
theorem fnSuspectsMore (A : Option Addr) (n c : Nat) (w : World) (h : CodeIs w A n c) :
    Calls Try.prog 8 #[.slice A n c] w (TruePost w) := by
  have HC := Lib.hid h
  clear h
  by_cases hn : 1048576 < n
  · go_enter Try.func8, Try.ntmps8
    go_wp2
    go_ret
    exact ⟨rfl, Below.refl _ _⟩
  go_enter Try.func8, Try.ntmps8
  go_wp2_with fail
  ((with_reducible refine (DrawLoopSuspects _ _ _ _ HC.out).mono ?_); rintro e w1 ⟨A1, c1, xs, num, den, rfl, hti, hl, hx, hp, hb⟩)
  have HTN := Lib.hid hti
  have HX := Lib.hid hx.cnts
  have HB := Lib.hid hb
  clear hti hx hp hb HC
  generalize hys : suspL xs num den = ys
  go_wp2_with fail
  ((with_reducible refine (Im7.LoopSuspects _ _ _ _ _ xs num den _ HX.out (Nat.le_refl _)).mono ?_); rintro e w2 ⟨A2, c2, rfl, h2, hb⟩)
  rw [hys] at h2 ⊢
  have HX2 := Lib.hid (HX.out.below hb (Nat.le_refl _))
  have HY2 := Lib.hid h2.cnts
  have HS2 := Lib.hid hb.size
  have HB2 := Lib.hid (HB.out.trans (hb.mono HB.out.size))
  clear h2 hb HX
  go_wp2_with fail
  ((with_reducible refine (Sp7.LoopSuspects _ _ _ _ _ xs num den _ HX2.out HS2.out).mono ?_); rintro e w3 ⟨A3, c3, rfl, h3, hb⟩)
  rw [hys] at h3 ⊢
  have HQ3 : Hid (Qr w w3 w1.heap.size w2.heap.size w3.heap.size A1 A2 A3 c1 c2 c3 xs ys) :=
    ⟨HX2.out.below hb (Nat.le_refl _), (HY2.out.below hb (Nat.le_refl _)).mono HB.out.size (Nat.le_refl _), h3.cnts.mono HB2.out.size (Nat.le_refl _), ⟨Nat.le_trans HS2.out hb.size, hb.size, Nat.le_refl _⟩, HB2.out.trans (hb.mono HB2.out.size)⟩
  clear h3 hb HX2 HY2 HB2 HS2 HB
  generalize w1.heap.size = k1 at *
  generalize w2.heap.size = k2 at *
  generalize hk3 : w3.heap.size = k3 at *
  clear hk3
  have HYS := Lib.hid hys
  clear hys
  go_wp2_with fail
  ((with_reducible refine (sameCounts _ _ _ _ _ _ _ _ _ ys _ HQ3.out.ys HQ3.out.zs).mono ?_); rintro e w4 ⟨rfl, hb⟩)
  have HQ4 := Lib.hid (HQ3.out.below hb)
  clear hb HQ3
  have HMO : Hid (∀ c ∈ ys, c ∈ suspL xs 1 1) := fun c hc => by rw [← HYS.out] at hc; exact susp_more hc
  have hyl : ys.length ≤ 64 := by
    rw [← HYS.out]
    unfold suspL
    cases (loopsOk xs && partOk num den)
    · exact Nat.zero_le _
    · exact Nat.le_trans (List.length_filter_le _ _) hl
  have hzl : (suspL xs 1 1).length ≤ 64 := by
    unfold suspL
    cases (loopsOk xs && partOk 1 1)
    · exact Nat.zero_le _
    · exact Nat.le_trans (List.length_filter_le _ _) hl
  clear HYS HTN
  generalize hz : suspL xs 1 1 = zs at *
  go_wp2_with fail
  ((with_reducible refine (Im7.LoopSuspects _ _ _ _ _ xs 1 1 _ HQ4.out.xs HQ4.out.sz).mono ?_); rintro e w5 ⟨A5, c5, rfl, h5, hb⟩)
  rw [hz] at h5 ⊢
  have HQ5 : Hid (Qr w w5 k1 k2 k3 A1 A2 A3 c1 c2 c3 xs ys ∧ Cnts w.heap.size w5.heap.size w5 A5 zs.length c5 zs) := ⟨HQ4.out.below hb, h5.cnts.mono HQ4.out.bl.size (Nat.le_refl _)⟩
  generalize w5.heap.size = k5 at *
  clear h5 hb HQ4 hz
  go_wp2
  go_loopw [9, 10, 11] (fun i _ _ wr => ∃ k : Nat, k ≤ ys.length ∧ i = .int .i64 k ∧ Hid (Qr w wr k1 k2 k3 A1 A2 A3 c1 c2 c3 xs ys ∧ Cnts w.heap.size k5 wr A5 zs.length c5 zs)) (fun i _ _ _ => ys.length - (intOf i).toNat)
  case atStart => exact ⟨0, Nat.zero_le _, rfl, HQ5⟩
  case round =>
    obtain ⟨k, hk, rfl, hR⟩ := hrel
    clear HQ5
    by_cases hlt : k < ys.length
    · have HM := Lib.hid (HMO.out _ (cntAt_mem hlt))
      have HE : Hid (∀ wr : World, Qr w wr k1 k2 k3 A1 A2 A3 c1 c2 c3 xs ys → ∃ b off, A2 = some ⟨b, off, none⟩ ∧ wr.cell? ⟨b, off + k * 4, none⟩ = some (.int .i64 (cntAt ys k).fr) ∧ wr.cell? ⟨b, off + k * 4 + 1, none⟩ = some (.int .i64 (cntAt ys k).to_) ∧ wr.cell? ⟨b, off + k * 4 + 2, none⟩ = some (.int .i64 (cntAt ys k).se) ∧ wr.cell? ⟨b, off + k * 4 + 3, none⟩ = some (.int .i64 (cntAt ys k).ba)) := fun wr h => by
        obtain ⟨b, off, e, _, _, _, m0, m1, m2, m3⟩ := h.ys.at_ hlt
        exact ⟨b, off, e, m0, m1, m2, m3⟩
      generalize cntAt ys k = x at *
      go_wp2
      go_loopw [10, 11] (fun f j wr => ∃ (m : Nat) (b : Bool), m ≤ zs.length ∧ j = .int .i64 m ∧ f = .bool b ∧ Hid (b = true ∨ ∀ i, i < m → cntAt zs i ≠ x) ∧ Hid (Qr w wr k1 k2 k3 A1 A2 A3 c1 c2 c3 xs ys ∧ Cnts w.heap.size k5 wr A5 zs.length c5 zs)) (fun _ j _ => zs.length - (intOf j).toNat)
      case atStart => exact ⟨0, false, Nat.zero_le _, rfl, rfl, .inr (fun i hi => absurd hi (by omega)), hR⟩
      case round =>
        obtain ⟨m, b, hm, rfl, rfl, hF, hR2⟩ := hrel
        clear hR
        by_cases hlm : m < zs.length
        · obtain ⟨o1, f1, rfl, _, _, _, m0, m1, m2, m3⟩ := hR2.out.2.at_ hlm
          obtain ⟨o2, f2, rfl, q0, q1, q2, q3⟩ := HE.out _ hR2.out.1
          generalize hz : cntAt zs m = z at *
          have HZ := Lib.hid hz
          clear hz
          cases b
          · have HNX : Hid (z ≠ x → ∀ i, i < m + 1 → cntAt zs i ≠ x) := fun hne i hi => by
              rcases hF.out with h | h
              · cases h
              · rcases Nat.lt_or_ge i m with h1 | h1
                · exact h i h1
                · obtain rfl : i = m := by omega
                  rw [HZ.out]
                  exact hne
            clear hF HZ HE HM
            by_cases hzx : z = x
            · subst hzx
              clear HNX
              go_wp2
              go_quiet (fail)
              go_wp2
              go_roundw
              case rel => exact ⟨m + 1, true, by omega, by go_num, by simp, .inl rfl, hR2.out.1.dn _, hR2.out.2⟩
              case measure => simp [intOf]; omega
            · have HN := Lib.hid (HNX.out hzx)
              clear HNX
              cases d0 : (z.fr == x.fr)
              · clear hzx
                go_wp2
                go_quiet (fail)
                go_wp2
                go_roundw
                case rel => exact ⟨m + 1, false, by omega, by go_num, rfl, .inr HN.out, hR2.out.1.dn _, hR2.out.2⟩
                case measure => simp [intOf]; omega
              · cases d1 : (z.to_ == x.to_)
                · clear hzx
                  go_wp2
                  go_quiet (fail)
                  go_wp2
                  go_roundw
                  case rel => exact ⟨m + 1, false, by omega, by go_num, rfl, .inr HN.out, hR2.out.1.dn _, hR2.out.2⟩
                  case measure => simp [intOf]; omega
                · cases d2 : (z.se == x.se)
                  · clear hzx
                    go_wp2
                    go_quiet (fail)
                    go_wp2
                    go_roundw
                    case rel => exact ⟨m + 1, false, by omega, by go_num, rfl, .inr HN.out, hR2.out.1.dn _, hR2.out.2⟩
                    case measure => simp [intOf]; omega
                  · have d3 : (z.ba == x.ba) = false := by
                      simp only [beq_eq_false_iff_ne, ne_eq, beq_iff_eq] at d0 d1 d2 ⊢
                      intro h
                      obtain ⟨a1, a2, a3, a4⟩ := z
                      obtain ⟨b1, b2, b3, b4⟩ := x
                      simp only at d0 d1 d2 h
                      exact hzx (by rw [d0, d1, d2, h])
                    clear hzx
                    go_wp2
                    go_quiet (fail)
                    go_wp2
                    go_roundw
                    case rel => exact ⟨m + 1, false, by omega, by go_num, rfl, .inr HN.out, hR2.out.1.dn _, hR2.out.2⟩
                    case measure => simp [intOf]; omega
          · go_wp2
            go_quiet (fail)
            go_wp2
            go_roundw
            case rel => exact ⟨m + 1, true, by omega, by go_num, rfl, .inl rfl, hR2.out.1.dn _, hR2.out.2⟩
            case measure => simp [intOf]; omega
        · obtain rfl : m = zs.length := by omega
          obtain rfl : b = true := by
            rcases hF.out with h | h
            · exact h
            · exfalso
              obtain ⟨i, hi, e⟩ := List.getElem_of_mem HM.out
              refine h i hi ?_
              rw [← e]
              unfold cntAt
              rw [List.getD_eq_getElem?_getD, List.getElem?_eq_getElem hi]
              rfl
          clear hF hlm HE HM
          go_wp2
          go_roundw
          case rel => exact ⟨k + 1, by omega, by go_num, hR2⟩
          case measure => simp [intOf]; omega
    · obtain rfl : k = ys.length := by omega
      clear hlt
      go_wp2
      go_ret
      exact ⟨rfl, hR.out.1.bl⟩

end Law7
end Go.Proofs.Ytdioinibjlgjfaa
