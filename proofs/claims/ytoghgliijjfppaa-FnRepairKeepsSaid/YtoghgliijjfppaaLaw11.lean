/-
  The laws on pieces: cuts and repairs.
-/
import Derived.Test.YtoghgliijjfppaaIm11f
import Derived.Test.YtoghgliijjfppaaSp11e
import Derived.Test.YtoghgliijjfppaaDr11b
import Derived.Test.YtoghgliijjfppaaH11
import Derived.Test.YtoghgliijjfppaaGk2
import Derived.BigQuiet
import Derived.BigRegion
import Derived.Deep.RegionLaw
namespace Go.Proofs.Ytoghgliijjfppaa
open Go.RowKit
namespace Law11
open Il Sl Fo Cm Cs Gm Mm Pc Rd

theorem int_eq_nat (a b : Nat) : ((a : Int) == (b : Int)) = decide (a = b) := by
  by_cases h : a = b
  · subst h; simp
  · rw [decide_eq_false h]; simpa using (by omega : ¬ (a : Int) = (b : Int))
theorem sts_mem {lo hi : Nat} {w : World} {A : Option Addr} {n c : Nat} {ps : List (List Int)} (h : Sts lo hi w A n c ps) : ps.length = n := h.len_
set_option maxRecDepth 20000 in
set_option maxHeartbeats 4000000 in
theorem fnCut (A : Option Addr) (n c : Nat) (w : World) (h : CodeIs w A n c) : Calls Try.prog 3 #[.slice A n c] w (BoolB true w) := by
  by_cases hbig : (1048576 : Int) < (n : Int)
  · go_enter Try.func3, Try.ntmps3
    go_wp2
    go_ret
    exact ⟨rfl, Below.refl _ _⟩
  go_enter Try.func3, Try.ntmps3
  go_wp2_with fail
  ((with_reducible refine (Rd.DrawPiecesCut A n c w h).mono ?_); rintro e w1 ⟨A1, c1, xs, rfl, hl1, ho1, hb1⟩)
  have HO1 := Lib.hid ho1.ints
  have HB1 := Lib.hid hb1
  clear ho1 hb1
  go_wp2_with fail
  ((with_reducible refine (Im11.PiecesCut _ _ _ _ _ xs _ HO1.out).mono ?_); rintro e w2 ⟨A2, c2, G2, rfl, ho2, hw2, hb2⟩)
  have HB2 := Lib.hid (HB1.out.trans (hb2.mono HB1.out.size))
  have HO2 := Lib.hid (HO1.out.below hb2 (Nat.le_refl _))
  have HS2 := Lib.hid ((ho2.sts hw2).top (Nat.zero_le _))
  clear ho2 hw2 hb2 HO1 HB1
  go_wp2_with fail
  ((with_reducible refine (Sp11.PiecesCut _ _ _ _ _ xs _ HO2.out).mono ?_); rintro e w3 ⟨v3, ss3, rfl, hg3, hs3, hb3⟩)
  obtain ⟨A3, c3, G3, rfl, ho3, hw3⟩ := hg3.own
  have hl3 : ss3.length = (cutF xs).length := by rw [← hs3, List.length_map]
  rw [hs3, hl3] at ho3
  rw [hl3]
  have HB3 := Lib.hid (HB2.out.trans (hb3.mono HB2.out.size))
  have HO3 := Lib.hid (HO2.out.below hb3 (Nat.le_refl _))
  have HS3 := Lib.hid ((ho3.sts hw3).top (Nat.zero_le _))
  have HT3 := Lib.hid (HS2.out.below hb3 (Nat.le_refl _))
  clear hg3 hs3 hb3 ho3 hw3 hl3 HO2 HB2 HS2
  go_wp2_with fail
  ((with_reducible refine (H11.samePieces _ _ _ _ _ _ _ _ _ _ (cutF xs) (cutF xs) _ HT3.out HS3.out).mono ?_); rintro e w4 ⟨rfl, q4, rfl⟩)
  rw [decide_eq_true rfl]
  obtain ⟨w4, hw4⟩ : ∃ W, w3.drewN q4 = W := ⟨_, rfl⟩
  have hb4 : Below w3.heap.size w3 w4 := by rw [← hw4]; exact Ck.below_dr (Below.refl _ _)
  rw [hw4]
  have HB4 := Lib.hid (HB3.out.trans (hb4.mono HB3.out.size))
  have HO4 := Lib.hid (HO3.out.below hb4 (Nat.le_refl _))
  have HS4 := Lib.hid (HS3.out.below hb4 (Nat.le_refl _))
  have HT4 := Lib.hid (HT3.out.below hb4 (Nat.le_refl _))
  clear hb4 hw4 HB3 HO3 HS3 HT3
  by_cases h0 : cutF xs = []
  · have h0l : (cutF xs).length = 0 := by rw [h0]; rfl
    rw [h0l]
    rw [h0l] at HS4 HT4
    clear h0l
    go_wp2_with fail
    ((with_reducible refine (H11.samePieces _ _ _ _ _ _ _ _ _ _ (cutF xs) (cutF xs) _ HT4.out HS4.out).mono ?_); rintro e w5 ⟨rfl, q5, rfl⟩)
    rw [decide_eq_true rfl]
    have HB := Lib.hid (Ck.below_dr (d := q5) HB4.out)
    clear HB4 HO4 HS4 HT4 h0
    generalize w4.drewN q5 = W at *
    go_wp2
    go_ret
    exact ⟨rfl, HB.out⟩
  have hck := cutF_ne h0
  have HCK := Lib.hid hck
  have HCF := Lib.hid (cutF_yes hck)
  have hkl : (cutF xs).length = cnt3 xs.length := by rw [cutF_yes hck, cutL_len]
  have hx14 : xs.length ≤ 14 := (cutOk_iff.1 hck).2
  have hk5 : cnt3 xs.length ≤ 5 := by unfold cnt3; omega
  have hk1 : 1 ≤ cnt3 xs.length := by unfold cnt3; omega
  rw [hkl] at HS4 HT4 ⊢
  rw [HCF.out] at HS4 HT4
  have hk0 : ((cnt3 xs.length : Nat) : Int) ≠ 0 := by omega
  have hk0' : (((cnt3 xs.length : Nat) : Int) == 0) = false := by simpa using hk0
  clear h0 hck hkl HS4 hk0
  obtain ⟨k, hk⟩ : ∃ k, cnt3 xs.length = k := ⟨_, rfl⟩
  have HK := Lib.hid hk
  rw [hk] at hk5 hk1 hk0' HT4 ⊢
  clear hk
  go_wp2_with fail
  ((with_reducible refine (Im11.PiecesJoin _ _ _ _ _ (cutL xs) _ HT4.out).mono ?_); rintro e w5 ⟨A5, c5, rfl, ho5, hb5⟩)
  obtain ⟨hj1, hj2⟩ := cut_join HCK.out
  have hj3 : joinF (cutL xs) = xs := by rw [joinF_yes hj1, hj2]
  rw [hj3] at ho5
  rw [hj3, hj1]
  have HO5 := Lib.hid ho5.ints
  have HO6 := Lib.hid (HO4.out.below hb5 (Nat.le_refl _))
  have HB5 := Lib.hid (HB4.out.trans (hb5.mono HB4.out.size))
  clear ho5 hb5 hj1 hj2 hj3 HO4 HT4 HB4
  go_wp2_with fail
  ((with_reducible refine (Hlp.sameInts _ _ _ _ _ _ _ _ _ _ xs xs _ HO5.out HO6.out).mono ?_); rintro e w6 ⟨rfl, q6, rfl⟩)
  rw [decide_eq_true rfl]
  have HB := Lib.hid (Ck.below_dr (d := q6) HB5.out)
  clear HB5 HO5 HO6
  generalize w5.drewN q6 = W at *
  go_wp2
  go_ret
  exact ⟨rfl, HB.out⟩
set_option maxRecDepth 20000 in
set_option maxHeartbeats 4000000 in
theorem fnCutSize (A : Option Addr) (n c : Nat) (w : World) (h : CodeIs w A n c) : Calls Try.prog 4 #[.slice A n c] w (BoolB true w) := by
  by_cases hbig : (1048576 : Int) < (n : Int)
  · go_enter Try.func4, Try.ntmps4
    go_wp2
    go_ret
    exact ⟨rfl, Below.refl _ _⟩
  go_enter Try.func4, Try.ntmps4
  go_wp2_with fail
  ((with_reducible refine (Rd.DrawPiecesCut A n c w h).mono ?_); rintro e w1 ⟨A1, c1, xs, rfl, hl1, ho1, hb1⟩)
  have HO1 := Lib.hid ho1.ints
  have HB1 := Lib.hid hb1
  clear ho1 hb1
  go_wp2_with fail
  ((with_reducible refine (Im11.PiecesCut _ _ _ _ _ xs _ HO1.out).mono ?_); rintro e w2 ⟨A2, c2, G2, rfl, ho2, hw2, hb2⟩)
  have HB2 := Lib.hid (HB1.out.trans (hb2.mono HB1.out.size))
  have HO2 := Lib.hid (HO1.out.below hb2 (Nat.le_refl _))
  have HS2 := Lib.hid ((ho2.sts hw2).top (Nat.zero_le _))
  clear ho2 hw2 hb2 HO1 HB1
  go_wp2_with fail
  ((with_reducible refine (Sp11.PiecesCut _ _ _ _ _ xs _ HO2.out).mono ?_); rintro e w3 ⟨v3, ss3, rfl, hg3, hs3, hb3⟩)
  obtain ⟨A3, c3, G3, rfl, ho3, hw3⟩ := hg3.own
  have hl3 : ss3.length = (cutF xs).length := by rw [← hs3, List.length_map]
  rw [hs3, hl3] at ho3
  rw [hl3]
  have HB3 := Lib.hid (HB2.out.trans (hb3.mono HB2.out.size))
  have HO3 := Lib.hid (HO2.out.below hb3 (Nat.le_refl _))
  have HS3 := Lib.hid ((ho3.sts hw3).top (Nat.zero_le _))
  have HT3 := Lib.hid (HS2.out.below hb3 (Nat.le_refl _))
  clear hg3 hs3 hb3 ho3 hw3 hl3 HO2 HB2 HS2
  go_wp2_with fail
  ((with_reducible refine (H11.samePieces _ _ _ _ _ _ _ _ _ _ (cutF xs) (cutF xs) _ HT3.out HS3.out).mono ?_); rintro e w4 ⟨rfl, q4, rfl⟩)
  rw [decide_eq_true rfl]
  obtain ⟨w4, hw4⟩ : ∃ W, w3.drewN q4 = W := ⟨_, rfl⟩
  have hb4 : Below w3.heap.size w3 w4 := by rw [← hw4]; exact Ck.below_dr (Below.refl _ _)
  rw [hw4]
  have HB4 := Lib.hid (HB3.out.trans (hb4.mono HB3.out.size))
  have HO4 := Lib.hid (HO3.out.below hb4 (Nat.le_refl _))
  have HS4 := Lib.hid (HS3.out.below hb4 (Nat.le_refl _))
  have HT4 := Lib.hid (HT3.out.below hb4 (Nat.le_refl _))
  clear hb4 hw4 HB3 HO3 HS3 HT3
  by_cases h0 : cutF xs = []
  · have h0l : (cutF xs).length = 0 := by rw [h0]; rfl
    rw [h0l]
    rw [h0l] at HS4 HT4
    clear h0l
    go_wp2_with fail
    ((with_reducible refine (H11.samePieces _ _ _ _ _ _ _ _ _ _ (cutF xs) (cutF xs) _ HT4.out HS4.out).mono ?_); rintro e w5 ⟨rfl, q5, rfl⟩)
    rw [decide_eq_true rfl]
    have HB := Lib.hid (Ck.below_dr (d := q5) HB4.out)
    clear HB4 HO4 HS4 HT4 h0
    generalize w4.drewN q5 = W at *
    go_wp2
    go_ret
    exact ⟨rfl, HB.out⟩
  have hck := cutF_ne h0
  have HCK := Lib.hid hck
  have HCF := Lib.hid (cutF_yes hck)
  have hkl : (cutF xs).length = cnt3 xs.length := by rw [cutF_yes hck, cutL_len]
  have hx14 : xs.length ≤ 14 := (cutOk_iff.1 hck).2
  have hk5 : cnt3 xs.length ≤ 5 := by unfold cnt3; omega
  have hk1 : 1 ≤ cnt3 xs.length := by unfold cnt3; omega
  rw [hkl] at HS4 HT4 ⊢
  rw [HCF.out] at HS4 HT4
  have hk0 : ((cnt3 xs.length : Nat) : Int) ≠ 0 := by omega
  have hk0' : (((cnt3 xs.length : Nat) : Int) == 0) = false := by simpa using hk0
  clear h0 hck hkl HS4 hk0
  obtain ⟨k, hk⟩ : ∃ k, cnt3 xs.length = k := ⟨_, rfl⟩
  have HK := Lib.hid hk
  rw [hk] at hk5 hk1 hk0' HT4 ⊢
  clear hk
  have hpc := cut_pcs HCK.out
  have HPL := Lib.hid (pcs_len hpc)
  have HCL : Hid ((cutL xs).length = k) := by show _ = _; rw [cutL_len, HK.out]
  have hw1 : IntKind.i64.wrap ((xs.length : Int) + 3) = (xs.length : Int) + 3 := IntWalk.i64_in _ (by omega)
  have hw2 : ((xs.length : Int) + 3).tdiv 3 = ((k : Nat) : Int) := by rw [← HK.out]; exact Sp11.tdiv_cnt _
  have hw3 : IntKind.i64.wrap ((k : Nat) : Int) = ((k : Nat) : Int) := IntWalk.i64_in _ (by omega)
  clear hpc
  go_wp2
  go_loop [6] (fun i => ∃ j : Nat, j ≤ k ∧ i = .int .i64 j) (fun i => k - (intOf i).toNat)
  case atStart => exact ⟨0, Nat.zero_le _, rfl⟩
  case round =>
    obtain ⟨j, hj, rfl⟩ := hrel
    by_cases hlt : j < k
    · obtain ⟨b, off, B, e, rfl, _, _, hbz, cB, iB⟩ := HT4.out.at_ hlt
      have hm : slAt (cutL xs) j ∈ cutL xs := by unfold slAt; rw [List.getD_eq_getElem?_getD, List.getElem?_eq_getElem (by rw [HCL.out]; exact hlt)]; exact List.getElem_mem _
      rw [HPL.out _ hm] at cB
      clear hm iB
      go_wp2
      go_round
      case rel => exact ⟨j + 1, by omega, by go_num⟩
      case measure => simp [intOf]; omega
    · obtain rfl : j = k := by omega
      have hk5' : (j : Int) ≤ 5 := by omega
      clear hlt
      go_wp2
      go_ret
      exact ⟨rfl, HB4.out⟩
theorem cut_at {xs : List Int} {p r : Nat} (hp : p < cnt3 xs.length) (hr : r < 3) : (slAt (cutL xs) p).length = 3 ∧ (slAt (cutL xs) p).getD r 0 = (numF xs).getD (3 * p + r) 0 := by
  have e : slAt (cutL xs) p = at3 (numF xs) p := by
    unfold slAt cutL
    rw [List.getD_eq_getElem?_getD, List.getElem?_map, List.getElem?_range hp]
    rfl
  rw [e]
  refine ⟨rfl, ?_⟩
  obtain rfl | rfl | rfl : r = 0 ∨ r = 1 ∨ r = 2 := by omega
  all_goals rfl
theorem tdiv3 (l : Nat) : ((l : Nat) : Int).tdiv 3 = ((l / 3 : Nat) : Int) := by
  rw [Int.tdiv_eq_ediv_of_nonneg (by omega)]
  omega
def LenR (w wr : World) (A1 : Option Addr) (c1 : Nat) (xs : List Int) (A2 : Option Addr) (k c2 : Nat) : Prop := Below w.heap.size w wr ∧ (∃ lo hi, Ints lo hi wr A1 xs.length c1 xs) ∧ ∃ lo hi, Sts lo hi wr A2 k c2 (cutL xs)
theorem LenR.dr {w wr : World} {A1 : Option Addr} {c1 : Nat} {xs : List Int} {A2 : Option Addr} {k c2 : Nat} (h : LenR w wr A1 c1 xs A2 k c2) (d : Nat) : LenR w (wr.drewN d) A1 c1 xs A2 k c2 := ⟨Ck.below_dr h.1, h.2⟩
set_option maxRecDepth 20000 in
set_option maxHeartbeats 4000000 in
theorem fnCutLength (A : Option Addr) (n c : Nat) (w : World) (h : CodeIs w A n c) : Calls Try.prog 5 #[.slice A n c] w (BoolB true w) := by
  by_cases hbig : (1048576 : Int) < (n : Int)
  · go_enter Try.func5, Try.ntmps5
    go_wp2
    go_ret
    exact ⟨rfl, Below.refl _ _⟩
  go_enter Try.func5, Try.ntmps5
  go_wp2_with fail
  ((with_reducible refine (Rd.DrawPiecesCut A n c w h).mono ?_); rintro e w1 ⟨A1, c1, xs, rfl, hl1, ho1, hb1⟩)
  have HO1 := Lib.hid ho1.ints
  have HB1 := Lib.hid hb1
  clear ho1 hb1
  go_wp2_with fail
  ((with_reducible refine (Im11.PiecesCut _ _ _ _ _ xs _ HO1.out).mono ?_); rintro e w2 ⟨A2, c2, G2, rfl, ho2, hw2, hb2⟩)
  have HB2 := Lib.hid (HB1.out.trans (hb2.mono HB1.out.size))
  have HO2 := Lib.hid (HO1.out.below hb2 (Nat.le_refl _))
  have HS2 := Lib.hid ((ho2.sts hw2).top (Nat.zero_le _))
  clear ho2 hw2 hb2 HO1 HB1
  go_wp2_with fail
  ((with_reducible refine (Sp11.PiecesCut _ _ _ _ _ xs _ HO2.out).mono ?_); rintro e w3 ⟨v3, ss3, rfl, hg3, hs3, hb3⟩)
  obtain ⟨A3, c3, G3, rfl, ho3, hw3⟩ := hg3.own
  have hl3 : ss3.length = (cutF xs).length := by rw [← hs3, List.length_map]
  rw [hs3, hl3] at ho3
  rw [hl3]
  have HB3 := Lib.hid (HB2.out.trans (hb3.mono HB2.out.size))
  have HO3 := Lib.hid (HO2.out.below hb3 (Nat.le_refl _))
  have HS3 := Lib.hid ((ho3.sts hw3).top (Nat.zero_le _))
  have HT3 := Lib.hid (HS2.out.below hb3 (Nat.le_refl _))
  clear hg3 hs3 hb3 ho3 hw3 hl3 HO2 HB2 HS2
  go_wp2_with fail
  ((with_reducible refine (H11.samePieces _ _ _ _ _ _ _ _ _ _ (cutF xs) (cutF xs) _ HT3.out HS3.out).mono ?_); rintro e w4 ⟨rfl, q4, rfl⟩)
  rw [decide_eq_true rfl]
  obtain ⟨w4, hw4⟩ : ∃ W, w3.drewN q4 = W := ⟨_, rfl⟩
  have hb4 : Below w3.heap.size w3 w4 := by rw [← hw4]; exact Ck.below_dr (Below.refl _ _)
  rw [hw4]
  have HB4 := Lib.hid (HB3.out.trans (hb4.mono HB3.out.size))
  have HO4 := Lib.hid (HO3.out.below hb4 (Nat.le_refl _))
  have HS4 := Lib.hid (HS3.out.below hb4 (Nat.le_refl _))
  have HT4 := Lib.hid (HT3.out.below hb4 (Nat.le_refl _))
  clear hb4 hw4 HB3 HO3 HS3 HT3
  by_cases h0 : cutF xs = []
  · have h0l : (cutF xs).length = 0 := by rw [h0]; rfl
    rw [h0l]
    rw [h0l] at HS4 HT4
    clear h0l
    go_wp2_with fail
    ((with_reducible refine (H11.samePieces _ _ _ _ _ _ _ _ _ _ (cutF xs) (cutF xs) _ HT4.out HS4.out).mono ?_); rintro e w5 ⟨rfl, q5, rfl⟩)
    rw [decide_eq_true rfl]
    have HB := Lib.hid (Ck.below_dr (d := q5) HB4.out)
    clear HB4 HO4 HS4 HT4 h0
    generalize w4.drewN q5 = W at *
    go_wp2
    go_ret
    exact ⟨rfl, HB.out⟩
  have hck := cutF_ne h0
  have HCK := Lib.hid hck
  have HCF := Lib.hid (cutF_yes hck)
  have hkl : (cutF xs).length = cnt3 xs.length := by rw [cutF_yes hck, cutL_len]
  have hx14 : xs.length ≤ 14 := (cutOk_iff.1 hck).2
  have hk5 : cnt3 xs.length ≤ 5 := by unfold cnt3; omega
  have hk1 : 1 ≤ cnt3 xs.length := by unfold cnt3; omega
  rw [hkl] at HS4 HT4 ⊢
  rw [HCF.out] at HS4 HT4
  have hk0 : ((cnt3 xs.length : Nat) : Int) ≠ 0 := by omega
  have hk0' : (((cnt3 xs.length : Nat) : Int) == 0) = false := by simpa using hk0
  clear h0 hck hkl HS4 hk0
  obtain ⟨k, hk⟩ : ∃ k, cnt3 xs.length = k := ⟨_, rfl⟩
  have HK := Lib.hid hk
  rw [hk] at hk5 hk1 hk0' HT4 ⊢
  clear hk
  have HR0 : Hid (LenR w w4 A1 c1 xs A2 k c2) := ⟨HB4.out, ⟨_, _, HO4.out⟩, _, _, HT4.out⟩
  clear HB4 HO4 HT4
  go_wp2
  go_loopw [6] (fun i wr => ∃ j : Nat, j ≤ xs.length ∧ i = .int .i64 j ∧ Hid (LenR w wr A1 c1 xs A2 k c2)) (fun i _ => xs.length - (intOf i).toNat)
  case atStart => exact ⟨0, Nat.zero_le _, rfl, HR0.out⟩
  case round =>
    obtain ⟨j, hj, rfl, hR⟩ := hrel
    clear HR0
    obtain ⟨hB, ⟨lo1, hi1, hO⟩, lo2, hi2, hT⟩ := hR.out
    by_cases hlt : j < xs.length
    · obtain ⟨p, hp⟩ : ∃ p, (j + 1) / 3 = p := ⟨_, rfl⟩
      obtain ⟨r, hr⟩ : ∃ r, (j + 1) % 3 = r := ⟨_, rfl⟩
      have hpk : p < k := by rw [← HK.out, ← hp]; unfold cnt3; omega
      have hr3 : r < 3 := by omega
      have h1 := cut_at (xs := xs) (p := p) (r := r) (by rw [HK.out]; exact hpk) hr3
      have he : 3 * p + r = j + 1 := by omega
      rw [he] at h1
      obtain ⟨h1, h2⟩ := h1
      have h3 : (numF xs).getD (j + 1) 0 = xs.getD j 0 := rfl
      rw [h3] at h2
      obtain ⟨b, off, B, e, rfl, _, _, hbz, cB, iB⟩ := hT.at_ hpk
      rw [h1] at cB iB
      obtain ⟨b2, off2, rfl, _, _, cC⟩ := iB.at_ hr3
      obtain ⟨b1, off1, rfl, _, _, cX⟩ := hO.at_ hlt
      rw [h2] at cC
      generalize xs.getD j 0 = x at *
      have hw1 : IntKind.i64.wrap ((j : Int) + 1) = (j : Int) + 1 := IntWalk.i64_in _ (by omega)
      have hd1 : ((j : Int) + 1).tdiv 3 = (p : Int) := by rw [← hp]; exact tdiv3 (j + 1)
      have hm1 : ((j : Int) + 1).tmod 3 = (r : Int) := by rw [← hr]; exact Sp11.tmod3 (j + 1)
      have hw2 : IntKind.i64.wrap (p : Int) = (p : Int) := IntWalk.i64_in _ (by omega)
      clear hT hO hB iB h1 h2 h3
      go_wp2_with fail
      go_quiet (fail)
      have HR2 := Lib.hid (hR.out.dr nq)
      clear hR cB cC cX
      generalize wr.drewN nq = W at *
      go_wp2
      go_roundw
      case rel => exact ⟨j + 1, by omega, by go_num, HR2.out⟩
      case measure => simp [intOf]; omega
    · obtain rfl : j = xs.length := by omega
      have h1 := cut_at (xs := xs) (p := 0) (r := 0) (by rw [HK.out]; omega) (by omega)
      obtain ⟨h1, h2⟩ := h1
      have h3 : (numF xs).getD (3 * 0 + 0) 0 = (xs.length : Int) := rfl
      rw [h3] at h2
      obtain ⟨b, off, B, e, rfl, _, _, hbz, cB, iB⟩ := hT.at_ (k := 0) (by omega)
      rw [h1] at cB iB
      obtain ⟨b2, off2, rfl, _, _, cC⟩ := iB.at_ (k := 0) (by omega)
      rw [h2, Nat.add_zero] at cC
      rw [Nat.add_zero] at cB
      have hk1' : (1 : Int) ≤ (k : Int) := by omega
      have HB := Lib.hid hB
      clear hT hO hB iB h1 h2 h3 hR hlt
      go_wp2
      go_ret
      exact ⟨rfl, HB.out⟩
theorem zeros_long : cutF (List.replicate 15 0) = [] := by decide
theorem zeros_fit : (cutF (List.replicate 14 0)).length = 5 := by decide
theorem made_list (n : Nat) : madeCells #[Value.int .i64 0] n = ((List.replicate n (0 : Int)).map (Value.int .i64)).toArray := by
  unfold madeCells
  apply Array.ext
  · simp
  · intro i h1 h2
    simp [Nat.mod_one]
theorem made_ints (w : World) (n : Nat) (hn : n ≤ 1000) : Ints 0 (w.heap.size + 1) (w.alloc (.cells (madeCells #[Value.int .i64 0] n) 3)) (some ⟨w.heap.size, 0, none⟩) n n (List.replicate n 0) := by
  have hh := heap_alloc_new w (.cells (madeCells #[Value.int .i64 0] n) 3)
  refine ⟨by simp, Nat.le_refl _, by unfold maxLen; omega, fun _ => ⟨w.heap.size, 0, rfl, Nat.zero_le _, Nat.lt_succ_self _, by simp, fun j hj => ?_⟩⟩
  rw [cell_of_row _ _ _ _ _ _ hh, made_list]
  simp [hj]
set_option maxRecDepth 20000 in
set_option maxHeartbeats 4000000 in
theorem fnCutLong (A : Option Addr) (n c : Nat) (w : World) (h : CodeIs w A n c) : Calls Try.prog 6 #[.slice A n c] w (BoolB true w) := by
  by_cases hbig : (1048576 : Int) < (n : Int)
  · go_enter Try.func6, Try.ntmps6
    go_wp2
    go_ret
    exact ⟨rfl, Below.refl _ _⟩
  go_enter Try.func6, Try.ntmps6
  go_wp2_with fail
  ((with_reducible refine (Rd.DrawPiecesCut A n c w h).mono ?_); rintro e w1 ⟨A1, c1, xs, rfl, hl1, ho1, hb1⟩)
  have HO1 := Lib.hid ho1.ints
  have HB1 := Lib.hid hb1
  clear ho1 hb1
  go_wp2_with fail
  ((with_reducible refine (Im11.PiecesCut _ _ _ _ _ xs _ HO1.out).mono ?_); rintro e w2 ⟨A2, c2, G2, rfl, ho2, hw2, hb2⟩)
  have HB2 := Lib.hid (HB1.out.trans (hb2.mono HB1.out.size))
  have HO2 := Lib.hid (HO1.out.below hb2 (Nat.le_refl _))
  have HS2 := Lib.hid ((ho2.sts hw2).top (Nat.zero_le _))
  clear ho2 hw2 hb2 HO1 HB1
  go_wp2_with fail
  ((with_reducible refine (Sp11.PiecesCut _ _ _ _ _ xs _ HO2.out).mono ?_); rintro e w3 ⟨v3, ss3, rfl, hg3, hs3, hb3⟩)
  obtain ⟨A3, c3, G3, rfl, ho3, hw3⟩ := hg3.own
  have hl3 : ss3.length = (cutF xs).length := by rw [← hs3, List.length_map]
  rw [hs3, hl3] at ho3
  rw [hl3]
  have HB3 := Lib.hid (HB2.out.trans (hb3.mono HB2.out.size))
  have HO3 := Lib.hid (HO2.out.below hb3 (Nat.le_refl _))
  have HS3 := Lib.hid ((ho3.sts hw3).top (Nat.zero_le _))
  have HT3 := Lib.hid (HS2.out.below hb3 (Nat.le_refl _))
  clear hg3 hs3 hb3 ho3 hw3 hl3 HO2 HB2 HS2
  go_wp2_with fail
  ((with_reducible refine (H11.samePieces _ _ _ _ _ _ _ _ _ _ (cutF xs) (cutF xs) _ HT3.out HS3.out).mono ?_); rintro e w4 ⟨rfl, q4, rfl⟩)
  rw [decide_eq_true rfl]
  obtain ⟨w4, hw4⟩ : ∃ W, w3.drewN q4 = W := ⟨_, rfl⟩
  have hb4 : Below w3.heap.size w3 w4 := by rw [← hw4]; exact Ck.below_dr (Below.refl _ _)
  rw [hw4]
  have HB4 := Lib.hid (HB3.out.trans (hb4.mono HB3.out.size))
  have HO4 := Lib.hid (HO3.out.below hb4 (Nat.le_refl _))
  have HS4 := Lib.hid (HS3.out.below hb4 (Nat.le_refl _))
  have HT4 := Lib.hid (HT3.out.below hb4 (Nat.le_refl _))
  clear hb4 hw4 HB3 HO3 HS3 HT3
  by_cases h0 : cutF xs = []
  · have h0l : (cutF xs).length = 0 := by rw [h0]; rfl
    rw [h0l]
    rw [h0l] at HS4 HT4
    clear h0l
    go_wp2_with fail
    ((with_reducible refine (H11.samePieces _ _ _ _ _ _ _ _ _ _ (cutF xs) (cutF xs) _ HT4.out HS4.out).mono ?_); rintro e w5 ⟨rfl, q5, rfl⟩)
    rw [decide_eq_true rfl]
    have HB := Lib.hid (Ck.below_dr (d := q5) HB4.out)
    clear HB4 HO4 HS4 HT4 h0
    generalize w4.drewN q5 = W at *
    go_wp2
    go_ret
    exact ⟨rfl, HB.out⟩
  have hck := cutF_ne h0
  have HCK := Lib.hid hck
  have HCF := Lib.hid (cutF_yes hck)
  have hkl : (cutF xs).length = cnt3 xs.length := by rw [cutF_yes hck, cutL_len]
  have hx14 : xs.length ≤ 14 := (cutOk_iff.1 hck).2
  have hk5 : cnt3 xs.length ≤ 5 := by unfold cnt3; omega
  have hk1 : 1 ≤ cnt3 xs.length := by unfold cnt3; omega
  rw [hkl] at HS4 HT4 ⊢
  rw [HCF.out] at HS4 HT4
  have hk0 : ((cnt3 xs.length : Nat) : Int) ≠ 0 := by omega
  have hk0' : (((cnt3 xs.length : Nat) : Int) == 0) = false := by simpa using hk0
  clear h0 hck hkl HS4 hk0
  obtain ⟨k, hk⟩ : ∃ k, cnt3 xs.length = k := ⟨_, rfl⟩
  have HK := Lib.hid hk
  rw [hk] at hk5 hk1 hk0' HT4 ⊢
  clear hk
  have hmk0 := fun n h1 h2 => run_make_row' (P := Try.prog) 23 3 (.int .i64 0) 8 Try.underlying23 infoInt rfl .i64 .i64 n h1 h2
  have hmk15 : ∀ w : World, (Instr.makeSlice 23 (.int .i64 15) (.int .i64 15)).run Try.prog w = .ok (.slice (some ⟨w.heap.size, 0, none⟩) 15 15) (w.alloc (.cells (madeCells #[.int .i64 0] 15) 3)) := hmk0 15 (by omega) (by omega)
  have hmk14 : ∀ w : World, (Instr.makeSlice 23 (.int .i64 14) (.int .i64 14)).run Try.prog w = .ok (.slice (some ⟨w.heap.size, 0, none⟩) 14 14) (w.alloc (.cells (madeCells #[.int .i64 0] 14) 3)) := hmk0 14 (by omega) (by omega)
  have hal := HB4.out.alloc HB4.out.size (.cells (madeCells #[.int .i64 0] 15) 3)
  have HAL := Lib.hid hal
  clear hmk0 hal
  go_wp2_with fail
  ((with_reducible refine (Im11.PiecesCut _ _ _ _ _ _ _ (made_ints _ 15 (by omega))).mono ?_); rintro e w5 ⟨A5, c5, G5, rfl, ho5, hw5, hb5⟩)
  rw [zeros_long]
  have HB5 := Lib.hid (HAL.out.trans (hb5.mono HAL.out.size))
  have hal2 := HB5.out.alloc HB5.out.size (.cells (madeCells #[.int .i64 0] 14) 3)
  have HAL2 := Lib.hid hal2
  clear ho5 hw5 hb5 hal2 HAL
  go_wp2_with fail
  ((with_reducible refine (Im11.PiecesCut _ _ _ _ _ _ _ (made_ints _ 14 (by omega))).mono ?_); rintro e w6 ⟨A6, c6, G6, rfl, ho6, hw6, hb6⟩)
  rw [zeros_fit]
  have HB6 := Lib.hid (HAL2.out.trans (hb6.mono HAL2.out.size))
  clear ho6 hw6 hb6 HAL2 hmk14 hmk15
  go_wp2
  go_ret
  exact ⟨rfl, HB6.out⟩
theorem tmod_nat (a b : Nat) : ((a : Nat) : Int).tmod ((b : Nat) : Int) = ((a % b : Nat) : Int) := by
  rw [Int.tmod_eq_emod_of_nonneg (by omega)]
  omega
set_option maxRecDepth 20000 in
set_option maxHeartbeats 4000000 in
theorem fnRepair (A : Option Addr) (n c : Nat) (A9 : Option Addr) (n9 c9 : Nat) (w : World) (h : CodeIs w A n c) : Calls Try.prog 7 #[.slice A n c, .slice A9 n9 c9] w (BoolB true w) := by
  by_cases hbig : (1048576 : Int) < (n : Int)
  · go_enter Try.func7, Try.ntmps7
    go_wp2
    go_ret
    exact ⟨rfl, Below.refl _ _⟩
  by_cases hbig9 : (1048576 : Int) < (n9 : Int)
  · go_enter Try.func7, Try.ntmps7
    go_wp2
    go_ret
    exact ⟨rfl, Below.refl _ _⟩
  go_enter Try.func7, Try.ntmps7
  go_wp2_with fail
  ((with_reducible refine (Rd.DrawPiecesCut A n c w h).mono ?_); rintro e w1 ⟨A1, c1, xs, rfl, hl1, ho1, hb1⟩)
  have HO1 := Lib.hid ho1.ints
  have HB1 := Lib.hid hb1
  clear ho1 hb1
  go_wp2_with fail
  ((with_reducible refine (Im11.PiecesCut _ _ _ _ _ xs _ HO1.out).mono ?_); rintro e w2 ⟨A2, c2, G2, rfl, ho2, hw2, hb2⟩)
  have HB2 := Lib.hid (HB1.out.trans (hb2.mono HB1.out.size))
  have HO2 := Lib.hid (HO1.out.below hb2 (Nat.le_refl _))
  have HS2 := Lib.hid ((ho2.sts hw2).top (Nat.zero_le _))
  clear ho2 hw2 hb2 HO1 HB1
  go_wp2_with fail
  ((with_reducible refine (Sp11.PiecesCut _ _ _ _ _ xs _ HO2.out).mono ?_); rintro e w3 ⟨v3, ss3, rfl, hg3, hs3, hb3⟩)
  obtain ⟨A3, c3, G3, rfl, ho3, hw3⟩ := hg3.own
  have hl3 : ss3.length = (cutF xs).length := by rw [← hs3, List.length_map]
  rw [hs3, hl3] at ho3
  rw [hl3]
  have HB3 := Lib.hid (HB2.out.trans (hb3.mono HB2.out.size))
  have HO3 := Lib.hid (HO2.out.below hb3 (Nat.le_refl _))
  have HS3 := Lib.hid ((ho3.sts hw3).top (Nat.zero_le _))
  have HT3 := Lib.hid (HS2.out.below hb3 (Nat.le_refl _))
  clear hg3 hs3 hb3 ho3 hw3 hl3 HO2 HB2 HS2
  go_wp2_with fail
  ((with_reducible refine (H11.samePieces _ _ _ _ _ _ _ _ _ _ (cutF xs) (cutF xs) _ HT3.out HS3.out).mono ?_); rintro e w4 ⟨rfl, q4, rfl⟩)
  rw [decide_eq_true rfl]
  obtain ⟨w4, hw4⟩ : ∃ W, w3.drewN q4 = W := ⟨_, rfl⟩
  have hb4 : Below w3.heap.size w3 w4 := by rw [← hw4]; exact Ck.below_dr (Below.refl _ _)
  rw [hw4]
  have HB4 := Lib.hid (HB3.out.trans (hb4.mono HB3.out.size))
  have HO4 := Lib.hid (HO3.out.below hb4 (Nat.le_refl _))
  have HS4 := Lib.hid (HS3.out.below hb4 (Nat.le_refl _))
  have HT4 := Lib.hid (HT3.out.below hb4 (Nat.le_refl _))
  clear hb4 hw4 HB3 HO3 HS3 HT3
  by_cases h0 : cutF xs = []
  · have h0l : (cutF xs).length = 0 := by rw [h0]; rfl
    rw [h0l]
    rw [h0l] at HS4 HT4
    clear h0l
    go_wp2_with fail
    ((with_reducible refine (H11.samePieces _ _ _ _ _ _ _ _ _ _ (cutF xs) (cutF xs) _ HT4.out HS4.out).mono ?_); rintro e w5 ⟨rfl, q5, rfl⟩)
    rw [decide_eq_true rfl]
    have HB := Lib.hid (Ck.below_dr (d := q5) HB4.out)
    clear HB4 HO4 HS4 HT4 h0
    generalize w4.drewN q5 = W at *
    go_wp2
    go_ret
    exact ⟨rfl, HB.out⟩
  have hck := cutF_ne h0
  have HCK := Lib.hid hck
  have HCF := Lib.hid (cutF_yes hck)
  have hkl : (cutF xs).length = cnt3 xs.length := by rw [cutF_yes hck, cutL_len]
  have hx14 : xs.length ≤ 14 := (cutOk_iff.1 hck).2
  have hk5 : cnt3 xs.length ≤ 5 := by unfold cnt3; omega
  have hk1 : 1 ≤ cnt3 xs.length := by unfold cnt3; omega
  rw [hkl] at HS4 HT4 ⊢
  rw [HCF.out] at HS4 HT4
  have hk0 : ((cnt3 xs.length : Nat) : Int) ≠ 0 := by omega
  have hk0' : (((cnt3 xs.length : Nat) : Int) == 0) = false := by simpa using hk0
  clear h0 hck hkl HS4 hk0
  obtain ⟨k, hk⟩ : ∃ k, cnt3 xs.length = k := ⟨_, rfl⟩
  have HK := Lib.hid hk
  rw [hk] at hk5 hk1 hk0' HT4 ⊢
  clear hk
  go_wp2_with fail
  ((with_reducible refine (Im11.PiecesParity _ _ _ _ _ (cutL xs) _ HT4.out).mono ?_); rintro e w5 ⟨B5, d5, rfl, ho5, hb5⟩)
  have HB5 := Lib.hid (HB4.out.trans (hb5.mono HB4.out.size))
  have HT5 := Lib.hid ((HT4.out.below hb5 (Nat.le_refl _)).top (Nat.le_refl _))
  have HP5 := Lib.hid ((Il.Ints.mono (lo' := 0) ho5.ints (Nat.zero_le _) (Nat.le_refl _)))
  clear ho5 hb5 HT4 HB4 HO4
  obtain ⟨i, hi⟩ : ∃ i, n9 % k = i := ⟨_, rfl⟩
  have hik : i < k := by rw [← hi]; exact Nat.mod_lt _ (by omega)
  have hmd : ((n9 : Nat) : Int).tmod ((k : Nat) : Int) = ((i : Nat) : Int) := by rw [tmod_nat, hi]
  have hkz : ¬ (k : Int) = 0 := by omega
  have hik' : (i : Int) < (k : Int) := by omega
  obtain ⟨ss, hss, hrow, hin⟩ := HT5.out
  have hssl : ss.length = k := by have h1 := hrow.1; rw [List.length_map, Nat.mul_one] at h1; exact h1
  have hal : Below w5.heap.size w5 (w5.alloc (.cells #[] 23)) := (Below.refl _ _).alloc (Nat.le_refl _) _
  have HD : Hid (Dest 23 1 (some w5.heap.size) (w5.alloc (.cells #[] 23)) (.slice (some ⟨w5.heap.size, 0, none⟩) 0 0) 0 []) := .inr ⟨_, rfl, accV_new w5 _ _⟩
  have HRW := Lib.hid (hrow.keep (w' := w5.alloc (.cells #[] 23)) hal.size fun b _ _ hz => hal.block b hz)
  have HSH : Hid (∀ gg vv ww, Dest 23 1 gg ww vv (0 + k) ([] ++ ss.map Sk.cell) → (gg = some w5.heap.size ∨ ∃ j, gg = some j ∧ (w5.alloc (.cells #[] 23)).heap.size ≤ j) → World.grownBy (w5.alloc (.cells #[] 23)) ww (some w5.heap.size) → H11.ShR w5 ww vv k (cutL xs)) := fun gg vv ww hdd hgg hgr => by
    rw [Nat.zero_add, List.nil_append] at hdd
    rw [← hss]
    refine H11.shR_of (by omega) hssl (fun s hs => (hin s hs).mono (Nat.le_refl _) (Nat.le_refl _)) hdd (fun j hj => ?_) (hal.grown hgr hal.size fun j hj => by cases hj; exact Nat.le_refl _)
    rcases hgg with h | ⟨j', h, hj'⟩
    · rw [h] at hj; cases hj; exact Nat.le_refl _
    · rw [h] at hj; cases hj; have := hal.size; omega
  have hmb : 0 + k ≤ 1000000 := by omega
  clear hss hrow hin hal hssl
  go_wp2_with (at_builtin; refine wpList_appD elSk _ _ _ _ _ HD.out _ _ _ _ _ _ HRW.out (sk_one _) hmb _ _ rfl rfl rfl rfl ?_; intro g6 v6 w6 hd6 hg6 hgr6; obtain ⟨b6, cap6, rfl, ⟨u6, hu6⟩, hf6, hsh6⟩ := (HSH.out g6 v6 w6 hd6 hg6 hgr6).lose hik)
  obtain ⟨A7, c7, e7, hs7, hb7⟩ := hsh6.sts
  cases e7
  have hpc := cut_pcs HCK.out
  obtain ⟨hr1, hr2⟩ := rep_one hpc (k := i) (by rw [cutL_len, HK.out]; exact hik)
  have hrf : repF ((cutL xs).set i []) (parF (cutL xs)) = cutL xs := by rw [repF_yes hr1, hr2]
  have HS7 := Lib.hid hs7
  have HP7 := Lib.hid (HP5.out.below hb7 (Nat.le_refl _))
  have HT7 := Lib.hid (HT5.out.below hb7 (Nat.le_refl _))
  have HB7 := Lib.hid (HB5.out.trans (hb7.mono HB5.out.size))
  clear hs7 hb7 hsh6 hd6 hg6 hgr6 HD HRW HSH HT5 HP5 HB5 hpc hr2 hu6 hf6
  generalize (w6.alloc (.cells #[] 3)).setCell ⟨b6, i, none⟩ (.slice (some ⟨w6.heap.size, 0, none⟩) 0 0) = W7 at *
  go_wp2_with fail
  ((with_reducible refine (Im11.PiecesRepair _ _ _ _ _ _ _ _ _ _ ((cutL xs).set i []) (parF (cutL xs)) _ HS7.out HP7.out).mono ?_); rintro e w8 ⟨A8, c8, G8, rfl, ho8, hw8, hb8⟩)
  rw [hrf] at ho8
  rw [hrf, hr1]
  have HS8 := Lib.hid (ho8.sts hw8)
  have HT8 := Lib.hid (HT7.out.below hb8 (Nat.le_refl _))
  have HB8 := Lib.hid (HB7.out.trans (hb8.mono HB7.out.size))
  clear ho8 hw8 hb8 HS7 HP7 HT7 HB7 hr1 hrf
  go_wp2_with fail
  ((with_reducible refine (H11.samePieces _ _ _ _ _ _ _ _ _ _ (cutL xs) (cutL xs) _ HS8.out HT8.out).mono ?_); rintro e w9 ⟨rfl, q9, rfl⟩)
  rw [decide_eq_true rfl]
  have HB := Lib.hid (Ck.below_dr (d := q9) HB8.out)
  clear HB8 HS8 HT8
  generalize w8.drewN q9 = W at *
  go_wp2
  go_ret
  exact ⟨rfl, HB.out⟩
set_option maxRecDepth 20000 in
set_option maxHeartbeats 4000000 in
theorem fnRepairNone (A : Option Addr) (n c : Nat) (w : World) (h : CodeIs w A n c) : Calls Try.prog 8 #[.slice A n c] w (BoolB true w) := by
  by_cases hbig : (1048576 : Int) < (n : Int)
  · go_enter Try.func8, Try.ntmps8
    go_wp2
    go_ret
    exact ⟨rfl, Below.refl _ _⟩
  go_enter Try.func8, Try.ntmps8
  go_wp2_with fail
  ((with_reducible refine (Rd.DrawPiecesCut A n c w h).mono ?_); rintro e w1 ⟨A1, c1, xs, rfl, hl1, ho1, hb1⟩)
  have HO1 := Lib.hid ho1.ints
  have HB1 := Lib.hid hb1
  clear ho1 hb1
  go_wp2_with fail
  ((with_reducible refine (Im11.PiecesCut _ _ _ _ _ xs _ HO1.out).mono ?_); rintro e w2 ⟨A2, c2, G2, rfl, ho2, hw2, hb2⟩)
  have HB2 := Lib.hid (HB1.out.trans (hb2.mono HB1.out.size))
  have HO2 := Lib.hid (HO1.out.below hb2 (Nat.le_refl _))
  have HS2 := Lib.hid ((ho2.sts hw2).top (Nat.zero_le _))
  clear ho2 hw2 hb2 HO1 HB1
  go_wp2_with fail
  ((with_reducible refine (Sp11.PiecesCut _ _ _ _ _ xs _ HO2.out).mono ?_); rintro e w3 ⟨v3, ss3, rfl, hg3, hs3, hb3⟩)
  obtain ⟨A3, c3, G3, rfl, ho3, hw3⟩ := hg3.own
  have hl3 : ss3.length = (cutF xs).length := by rw [← hs3, List.length_map]
  rw [hs3, hl3] at ho3
  rw [hl3]
  have HB3 := Lib.hid (HB2.out.trans (hb3.mono HB2.out.size))
  have HO3 := Lib.hid (HO2.out.below hb3 (Nat.le_refl _))
  have HS3 := Lib.hid ((ho3.sts hw3).top (Nat.zero_le _))
  have HT3 := Lib.hid (HS2.out.below hb3 (Nat.le_refl _))
  clear hg3 hs3 hb3 ho3 hw3 hl3 HO2 HB2 HS2
  go_wp2_with fail
  ((with_reducible refine (H11.samePieces _ _ _ _ _ _ _ _ _ _ (cutF xs) (cutF xs) _ HT3.out HS3.out).mono ?_); rintro e w4 ⟨rfl, q4, rfl⟩)
  rw [decide_eq_true rfl]
  obtain ⟨w4, hw4⟩ : ∃ W, w3.drewN q4 = W := ⟨_, rfl⟩
  have hb4 : Below w3.heap.size w3 w4 := by rw [← hw4]; exact Ck.below_dr (Below.refl _ _)
  rw [hw4]
  have HB4 := Lib.hid (HB3.out.trans (hb4.mono HB3.out.size))
  have HO4 := Lib.hid (HO3.out.below hb4 (Nat.le_refl _))
  have HS4 := Lib.hid (HS3.out.below hb4 (Nat.le_refl _))
  have HT4 := Lib.hid (HT3.out.below hb4 (Nat.le_refl _))
  clear hb4 hw4 HB3 HO3 HS3 HT3
  by_cases h0 : cutF xs = []
  · have h0l : (cutF xs).length = 0 := by rw [h0]; rfl
    rw [h0l]
    rw [h0l] at HS4 HT4
    clear h0l
    go_wp2_with fail
    ((with_reducible refine (H11.samePieces _ _ _ _ _ _ _ _ _ _ (cutF xs) (cutF xs) _ HT4.out HS4.out).mono ?_); rintro e w5 ⟨rfl, q5, rfl⟩)
    rw [decide_eq_true rfl]
    have HB := Lib.hid (Ck.below_dr (d := q5) HB4.out)
    clear HB4 HO4 HS4 HT4 h0
    generalize w4.drewN q5 = W at *
    go_wp2
    go_ret
    exact ⟨rfl, HB.out⟩
  have hck := cutF_ne h0
  have HCK := Lib.hid hck
  have HCF := Lib.hid (cutF_yes hck)
  have hkl : (cutF xs).length = cnt3 xs.length := by rw [cutF_yes hck, cutL_len]
  have hx14 : xs.length ≤ 14 := (cutOk_iff.1 hck).2
  have hk5 : cnt3 xs.length ≤ 5 := by unfold cnt3; omega
  have hk1 : 1 ≤ cnt3 xs.length := by unfold cnt3; omega
  rw [hkl] at HS4 HT4 ⊢
  rw [HCF.out] at HS4 HT4
  have hk0 : ((cnt3 xs.length : Nat) : Int) ≠ 0 := by omega
  have hk0' : (((cnt3 xs.length : Nat) : Int) == 0) = false := by simpa using hk0
  clear h0 hck hkl HS4 hk0
  obtain ⟨k, hk⟩ : ∃ k, cnt3 xs.length = k := ⟨_, rfl⟩
  have HK := Lib.hid hk
  rw [hk] at hk5 hk1 hk0' HT4 ⊢
  clear hk
  have hpc := cut_pcs HCK.out
  have hrp : repOk (cutL xs) [1, 2, 3] = true := repOk_iff.2 ⟨pcsOk_iff.2 (by have h := pcsOk_iff.1 hpc; exact ⟨h.1, h.2.1, by omega⟩), by decide⟩
  have hrf : repF (cutL xs) [1, 2, 3] = cutL xs := by rw [repF_yes hrp, repL_none hpc]
  have hal := HB4.out.alloc HB4.out.size (.cells #[.int .i64 1, .int .i64 2, .int .i64 3] 3)
  have hal4 : Below w4.heap.size w4 (w4.alloc (.cells #[.int .i64 1, .int .i64 2, .int .i64 3] 3)) := (Below.refl _ _).alloc (Nat.le_refl _) _
  have HQ : Hid (Ints 0 (w4.heap.size + 1) (w4.alloc (.cells #[.int .i64 1, .int .i64 2, .int .i64 3] 3)) (some ⟨w4.heap.size, 0, none⟩) 3 3 [1, 2, 3]) := by
    refine ⟨rfl, Nat.le_refl _, by unfold maxLen; omega, fun _ => ⟨w4.heap.size, 0, rfl, Nat.zero_le _, Nat.lt_succ_self _, by simp, fun j hj => ?_⟩⟩
    rw [cell_of_row _ _ _ _ _ _ (heap_alloc_new w4 _)]
    obtain rfl | rfl | rfl : j = 0 ∨ j = 1 ∨ j = 2 := by omega
    all_goals rfl
  have HT5 := Lib.hid (HT4.out.below hal4 (Nat.le_refl _))
  have HAL := Lib.hid hal
  clear hal hal4 hpc HT4 HB4
  go_wp2_with fail
  ((with_reducible refine (Im11.PiecesRepair _ _ _ _ _ _ _ _ _ _ (cutL xs) [1, 2, 3] _ HT5.out HQ.out).mono ?_); rintro e w6 ⟨A6, c6, G6, rfl, ho6, hw6, hb6⟩)
  rw [hrf] at ho6
  rw [hrf, hrp]
  have HS6 := Lib.hid (ho6.sts hw6)
  have HT6 := Lib.hid (HT5.out.below hb6 (Nat.le_refl _))
  have HB6 := Lib.hid (HAL.out.trans (hb6.mono HAL.out.size))
  clear ho6 hw6 hb6 HT5 HAL HQ hrf hrp
  go_wp2_with fail
  ((with_reducible refine (H11.samePieces _ _ _ _ _ _ _ _ _ _ (cutL xs) (cutL xs) _ HS6.out HT6.out).mono ?_); rintro e w7 ⟨rfl, q7, rfl⟩)
  rw [decide_eq_true rfl]
  have HB := Lib.hid (Ck.below_dr (d := q7) HB6.out)
  clear HB6 HS6 HT6
  generalize w6.drewN q7 = W at *
  go_wp2
  go_ret
  exact ⟨rfl, HB.out⟩
theorem set_two {ps : List (List Int)} {i j : Nat} (hi : i < ps.length) (hj : j < ps.length) (hne : i ≠ j) (q : List Int) : repOk ((ps.set i []).set j []) q = false := by
  refine rep_two (k := i) (j := j) (by simp; exact hi) (by simp; exact hj) hne ?_ ?_ q
  · rw [List.getD_eq_getElem?_getD, List.getElem?_set_ne (Ne.symm hne), List.getElem?_set_self hi]; rfl
  · rw [List.getD_eq_getElem?_getD, List.getElem?_set_self (by rw [List.length_set]; exact hj)]; rfl
set_option maxRecDepth 20000 in
set_option maxHeartbeats 4000000 in
theorem fnRepairTwo (A : Option Addr) (n c : Nat) (A9 : Option Addr) (n9 c9 : Nat) (w : World) (h : CodeIs w A n c) : Calls Try.prog 9 #[.slice A n c, .slice A9 n9 c9] w (BoolB true w) := by
  by_cases hbig : (1048576 : Int) < (n : Int)
  · go_enter Try.func9, Try.ntmps9
    go_wp2
    go_ret
    exact ⟨rfl, Below.refl _ _⟩
  by_cases hbig9 : (1048576 : Int) < (n9 : Int)
  · go_enter Try.func9, Try.ntmps9
    go_wp2
    go_ret
    exact ⟨rfl, Below.refl _ _⟩
  go_enter Try.func9, Try.ntmps9
  go_wp2_with fail
  ((with_reducible refine (Rd.DrawPiecesCut A n c w h).mono ?_); rintro e w1 ⟨A1, c1, xs, rfl, hl1, ho1, hb1⟩)
  have HO1 := Lib.hid ho1.ints
  have HB1 := Lib.hid hb1
  clear ho1 hb1
  go_wp2_with fail
  ((with_reducible refine (Im11.PiecesCut _ _ _ _ _ xs _ HO1.out).mono ?_); rintro e w2 ⟨A2, c2, G2, rfl, ho2, hw2, hb2⟩)
  have HB2 := Lib.hid (HB1.out.trans (hb2.mono HB1.out.size))
  have HO2 := Lib.hid (HO1.out.below hb2 (Nat.le_refl _))
  have HS2 := Lib.hid ((ho2.sts hw2).top (Nat.zero_le _))
  clear ho2 hw2 hb2 HO1 HB1
  go_wp2_with fail
  ((with_reducible refine (Sp11.PiecesCut _ _ _ _ _ xs _ HO2.out).mono ?_); rintro e w3 ⟨v3, ss3, rfl, hg3, hs3, hb3⟩)
  obtain ⟨A3, c3, G3, rfl, ho3, hw3⟩ := hg3.own
  have hl3 : ss3.length = (cutF xs).length := by rw [← hs3, List.length_map]
  rw [hs3, hl3] at ho3
  rw [hl3]
  have HB3 := Lib.hid (HB2.out.trans (hb3.mono HB2.out.size))
  have HO3 := Lib.hid (HO2.out.below hb3 (Nat.le_refl _))
  have HS3 := Lib.hid ((ho3.sts hw3).top (Nat.zero_le _))
  have HT3 := Lib.hid (HS2.out.below hb3 (Nat.le_refl _))
  clear hg3 hs3 hb3 ho3 hw3 hl3 HO2 HB2 HS2
  go_wp2_with fail
  ((with_reducible refine (H11.samePieces _ _ _ _ _ _ _ _ _ _ (cutF xs) (cutF xs) _ HT3.out HS3.out).mono ?_); rintro e w4 ⟨rfl, q4, rfl⟩)
  rw [decide_eq_true rfl]
  obtain ⟨w4, hw4⟩ : ∃ W, w3.drewN q4 = W := ⟨_, rfl⟩
  have hb4 : Below w3.heap.size w3 w4 := by rw [← hw4]; exact Ck.below_dr (Below.refl _ _)
  rw [hw4]
  have HB4 := Lib.hid (HB3.out.trans (hb4.mono HB3.out.size))
  have HO4 := Lib.hid (HO3.out.below hb4 (Nat.le_refl _))
  have HS4 := Lib.hid (HS3.out.below hb4 (Nat.le_refl _))
  have HT4 := Lib.hid (HT3.out.below hb4 (Nat.le_refl _))
  clear hb4 hw4 HB3 HO3 HS3 HT3
  by_cases h0 : (cutF xs).length < 2
  · have h0' : ((cutF xs).length : Int) < 2 := by omega
    go_wp2_with fail
    ((with_reducible refine (H11.samePieces _ _ _ _ _ _ _ _ _ _ (cutF xs) (cutF xs) _ HT4.out HS4.out).mono ?_); rintro e w5 ⟨rfl, q5, rfl⟩)
    rw [decide_eq_true rfl]
    have HB := Lib.hid (Ck.below_dr (d := q5) HB4.out)
    clear HB4 HO4 HS4 HT4 h0
    generalize w4.drewN q5 = W at *
    go_wp2
    go_ret
    exact ⟨rfl, HB.out⟩
  have hck := cutF_ne (xs := xs) (by intro e; rw [e] at h0; simp at h0)
  have HCK := Lib.hid hck
  have HCF := Lib.hid (cutF_yes hck)
  have hkl : (cutF xs).length = cnt3 xs.length := by rw [cutF_yes hck, cutL_len]
  have hx14 : xs.length ≤ 14 := (cutOk_iff.1 hck).2
  have hk5 : cnt3 xs.length ≤ 5 := by unfold cnt3; omega
  rw [hkl] at HS4 HT4 h0 ⊢
  rw [HCF.out] at HS4 HT4
  have hk1 : 2 ≤ cnt3 xs.length := by omega
  have hk0' : ¬ ((cnt3 xs.length : Nat) : Int) < 2 := by omega
  clear h0 hck hkl HS4
  obtain ⟨k, hk⟩ : ∃ k, cnt3 xs.length = k := ⟨_, rfl⟩
  have HK := Lib.hid hk
  rw [hk] at hk5 hk1 hk0' HT4 ⊢
  clear hk
  obtain ⟨i, hi⟩ : ∃ i, n9 % k = i := ⟨_, rfl⟩
  have hik : i < k := by rw [← hi]; exact Nat.mod_lt _ (by omega)
  have hmd : ((n9 : Nat) : Int).tmod ((k : Nat) : Int) = ((i : Nat) : Int) := by rw [tmod_nat, hi]
  obtain ⟨j, hj⟩ : ∃ j, (i + 1) % k = j := ⟨_, rfl⟩
  have hjk : j < k := by rw [← hj]; exact Nat.mod_lt _ (by omega)
  have hne : i ≠ j := by
    rw [← hj]
    rcases Nat.lt_or_ge (i + 1) k with h1 | h1
    · rw [Nat.mod_eq_of_lt h1]; omega
    · have : i + 1 = k := by omega
      rw [this, Nat.mod_self]; omega
  have hmd2 : ((i : Int) + 1).tmod ((k : Nat) : Int) = ((j : Nat) : Int) := by have h := tmod_nat (i + 1) k; rw [hj] at h; exact h
  have hw1 : IntKind.i64.wrap ((i : Int) + 1) = (i : Int) + 1 := IntWalk.i64_in _ (by omega)
  have hkz : ¬ (k : Int) = 0 := by omega
  have hik' : (i : Int) < (k : Int) := by omega
  have hjk' : (j : Int) < (k : Int) := by omega
  have HT5 := Lib.hid (HT4.out.top (Nat.le_refl _))
  clear hi hj HT4 HO4
  obtain ⟨ss, hss, hrow, hin⟩ := HT5.out
  have hssl : ss.length = k := by have h1 := hrow.1; rw [List.length_map, Nat.mul_one] at h1; exact h1
  have hal : Below w4.heap.size w4 (w4.alloc (.cells #[] 23)) := (Below.refl _ _).alloc (Nat.le_refl _) _
  have HD : Hid (Dest 23 1 (some w4.heap.size) (w4.alloc (.cells #[] 23)) (.slice (some ⟨w4.heap.size, 0, none⟩) 0 0) 0 []) := .inr ⟨_, rfl, accV_new w4 _ _⟩
  have HRW := Lib.hid (hrow.keep (w' := w4.alloc (.cells #[] 23)) hal.size fun b _ _ hz => hal.block b hz)
  have HSH : Hid (∀ gg vv ww, Dest 23 1 gg ww vv (0 + k) ([] ++ ss.map Sk.cell) → (gg = some w4.heap.size ∨ ∃ j, gg = some j ∧ (w4.alloc (.cells #[] 23)).heap.size ≤ j) → World.grownBy (w4.alloc (.cells #[] 23)) ww (some w4.heap.size) → H11.ShR w4 ww vv k (cutL xs)) := fun gg vv ww hdd hgg hgr => by
    rw [Nat.zero_add, List.nil_append] at hdd
    rw [← hss]
    refine H11.shR_of (by omega) hssl (fun s hs => (hin s hs).mono (Nat.le_refl _) (Nat.le_refl _)) hdd (fun j hj => ?_) (hal.grown hgr hal.size fun j hj => by cases hj; exact Nat.le_refl _)
    rcases hgg with h | ⟨j', h, hj'⟩
    · rw [h] at hj; cases hj; exact Nat.le_refl _
    · rw [h] at hj; cases hj; have := hal.size; omega
  have hmb : 0 + k ≤ 1000000 := by omega
  clear hss hrow hin hal hssl
  go_wp2_with (at_builtin; refine wpList_appD elSk _ _ _ _ _ HD.out _ _ _ _ _ _ HRW.out (sk_one _) hmb _ _ rfl rfl rfl rfl ?_; intro g6 v6 w6 hd6 hg6 hgr6; obtain ⟨b6, cap6, rfl, ⟨u6, hu6⟩, hf6, hsh6⟩ := (HSH.out g6 v6 w6 hd6 hg6 hgr6).lose hik; obtain ⟨b7, cap7, e7, ⟨u7, hu7⟩, hf7, hsh7⟩ := hsh6.lose hjk; cases e7; rw [H11.size_lose] at hsh7; have HSH7 := Lib.hid hsh7; clear hsh7 hsh6)
  obtain ⟨A7, c7, e7, hs7, hb7⟩ := HSH7.out.sts
  cases e7
  have HS7 := Lib.hid hs7
  have HT7 := Lib.hid (HT5.out.below hb7 (Nat.le_refl _))
  have HB7 := Lib.hid (HB4.out.trans (hb7.mono HB4.out.size))
  clear hs7 hb7 HSH7 hd6 hg6 hgr6 HD HRW HSH HT5 HB4 hu6 hf6 hu7 hf7
  go_wp2_with fail
  ((with_reducible refine (Im11.PiecesParity _ _ _ _ _ (cutL xs) _ HT7.out).mono ?_); rintro e w8 ⟨B8, d8, rfl, ho8, hb8⟩)
  have HS8 := Lib.hid (HS7.out.below hb8 (Nat.le_refl _))
  have HP8 := Lib.hid ho8.ints
  have HB8 := Lib.hid (HB7.out.trans (hb8.mono HB7.out.size))
  have hrno : repOk (((cutL xs).set i []).set j []) (parF (cutL xs)) = false := set_two (by rw [cutL_len, HK.out]; exact hik) (by rw [cutL_len, HK.out]; exact hjk) hne _
  clear ho8 hb8 HS7 HT7 HB7
  go_wp2_with fail
  ((with_reducible refine (Im11.PiecesRepair _ _ _ _ _ _ _ _ _ _ (((cutL xs).set i []).set j []) (parF (cutL xs)) _ HS8.out HP8.out).mono ?_); rintro e w9 ⟨A10, c10, G10, rfl, _, _, hb10⟩)
  rw [hrno]
  have HB := Lib.hid (HB8.out.trans (hb10.mono HB8.out.size))
  clear hb10 HB8 HS8 HP8
  go_wp2
  go_ret
  exact ⟨rfl, HB.out⟩
def KeR (w wr : World) (A1 A2 : Option Addr) (n c1 c2 : Nat) (ps qs : List (List Int)) : Prop := Below w.heap.size w wr ∧ (∃ lo hi, Sts lo hi wr A1 n c1 ps) ∧ ∃ lo hi, Sts lo hi wr A2 n c2 qs
theorem KeR.dr {w wr : World} {A1 A2 : Option Addr} {n c1 c2 : Nat} {ps qs : List (List Int)} (h : KeR w wr A1 A2 n c1 c2 ps qs) (d : Nat) : KeR w (wr.drewN d) A1 A2 n c1 c2 ps qs := ⟨Ck.below_dr h.1, h.2⟩
set_option maxRecDepth 20000 in
set_option maxHeartbeats 4000000 in
theorem fnRepairKeeps (A : Option Addr) (n c : Nat) (w : World) (h : CodeIs w A n c) : Calls Try.prog 10 #[.slice A n c] w (BoolB true w) := by
  by_cases hbig : (1048576 : Int) < (n : Int)
  · go_enter Try.func10, Try.ntmps10
    go_wp2
    go_ret
    exact ⟨rfl, Below.refl _ _⟩
  go_enter Try.func10, Try.ntmps10
  go_wp2_with fail
  ((with_reducible refine (Rd.DrawPiecesRepair A n c w h).mono ?_); rintro e w1 ⟨A1, n1, c1, ps, B1, m1, d1, q, rfl, hn6, hs1, hq1, hb1⟩)
  have HS1 := Lib.hid hs1
  have HQ1 := Lib.hid hq1
  have HB1 := Lib.hid hb1
  clear hs1 hq1 hb1
  go_wp2_with fail
  ((with_reducible refine (Im11.PiecesRepair _ _ _ _ _ _ _ _ _ _ ps q _ HS1.out HQ1.out).mono ?_); rintro e w2 ⟨A2, c2, G2, rfl, ho2, hw2, hb2⟩)
  have HB2 := Lib.hid (HB1.out.trans (hb2.mono HB1.out.size))
  have HS2 := Lib.hid (HS1.out.below hb2 (Nat.le_refl _))
  have HQ2 := Lib.hid (HQ1.out.below hb2 (Nat.le_refl _))
  have HO2 := Lib.hid (ho2.sts hw2)
  clear ho2 hw2 hb2 HS1 HQ1 HB1
  go_wp2_with fail
  ((with_reducible refine (Sp11.PiecesRepair _ _ _ _ _ _ _ _ _ _ ps q _ HS2.out HQ2.out).mono ?_); rintro e w3 ⟨v3, ss3, rfl, hg3, hs3, hb3⟩)
  obtain ⟨A3, c3, G3, rfl, ho3, hw3⟩ := hg3.own
  have hl3 : ss3.length = (repF ps q).length := by rw [← hs3, List.length_map]
  rw [hs3, hl3] at ho3
  rw [hl3]
  have HB3 := Lib.hid (HB2.out.trans (hb3.mono HB2.out.size))
  have HS3 := Lib.hid (HS2.out.below hb3 (Nat.le_refl _))
  have HO3 := Lib.hid (HO2.out.below hb3 (Nat.le_refl _))
  have HW3 := Lib.hid (ho3.sts hw3)
  have HL3 := Lib.hid HS3.out.len_
  clear hg3 hs3 hb3 ho3 hw3 hl3 HS2 HQ2 HB2 HO2
  cases hrp : repOk ps q
  · have hrf : repF ps q = [] := repF_no hrp
    have hrl : (repF ps q).length = 0 := by rw [hrf]; rfl
    rw [hrl] at HO3 HW3 ⊢
    rw [hrf] at HO3 HW3
    clear hrf hrl
    go_wp2_with fail
    ((with_reducible refine (H11.samePieces _ _ _ _ _ _ _ _ _ _ [] [] _ HO3.out HW3.out).mono ?_); rintro e w4 ⟨rfl, q4, rfl⟩)
    rw [decide_eq_true rfl]
    obtain ⟨w4, hw4⟩ : ∃ W, w3.drewN q4 = W := ⟨_, rfl⟩
    have hb4 : Below w3.heap.size w3 w4 := by rw [← hw4]; exact Ck.below_dr (Below.refl _ _)
    rw [hw4]
    have HB4 := Lib.hid (HB3.out.trans (hb4.mono HB3.out.size))
    have HO4 := Lib.hid (HO3.out.below hb4 (Nat.le_refl _))
    have HW4 := Lib.hid (HW3.out.below hb4 (Nat.le_refl _))
    clear hb4 hw4 HB3 HO3 HW3 HS3
    go_wp2_with fail
    ((with_reducible refine (H11.samePieces _ _ _ _ _ _ _ _ _ _ [] [] _ HO4.out HW4.out).mono ?_); rintro e w5 ⟨rfl, q5, rfl⟩)
    rw [decide_eq_true rfl]
    have HB := Lib.hid (Ck.below_dr (d := q5) HB4.out)
    clear HB4 HO4 HW4
    generalize w4.drewN q5 = W at *
    go_wp2
    go_ret
    exact ⟨rfl, HB.out⟩
  have hrf : repF ps q = repL ps q := repF_yes hrp
  have hrl : (repF ps q).length = n1 := by rw [hrf, repL_len]; exact HL3.out
  rw [hrl] at HO3 HW3 ⊢
  rw [hrf] at HO3 HW3
  have HRP := Lib.hid hrp
  have HMY := Lib.hid (pcsOk_iff.1 (repOk_iff.1 hrp).1).2.1
  clear hrf hrl hrp
  go_wp2_with fail
  ((with_reducible refine (H11.samePieces _ _ _ _ _ _ _ _ _ _ (repL ps q) (repL ps q) _ HO3.out HW3.out).mono ?_); rintro e w4 ⟨rfl, q4, rfl⟩)
  rw [decide_eq_true rfl]
  have HR0 : Hid (KeR w (w3.drewN q4) A1 A2 n1 c1 c2 ps (repL ps q)) := ⟨Ck.below_dr HB3.out, ⟨_, _, HS3.out⟩, _, _, HO3.out⟩
  clear HB3 HS3 HO3 HW3
  generalize w3.drewN q4 = W4 at *
  go_wp2
  go_loopw [9] (fun i wr => ∃ j : Nat, j ≤ n1 ∧ i = .int .i64 j ∧ Hid (KeR w wr A1 A2 n1 c1 c2 ps (repL ps q))) (fun i _ => n1 - (intOf i).toNat)
  case atStart => exact ⟨0, Nat.zero_le _, rfl, HR0.out⟩
  case round =>
    obtain ⟨j, hj, rfl, hR⟩ := hrel
    clear HR0
    obtain ⟨hB, ⟨lo1, hi1, hS⟩, lo2, hi2, hO⟩ := hR.out
    by_cases hlt : j < n1
    · obtain ⟨hm, _, _⟩ := Sp11.slice_may (j := j) HMY.out (by rw [HL3.out]; exact hlt)
      obtain ⟨hy3, hyx⟩ := rep_keeps HRP.out (k := j) (by rw [HL3.out]; exact hlt)
      have hy3' : (slAt (repL ps q) j).length = 3 := hy3
      have hyx' : 0 < (slAt ps j).length → slAt (repL ps q) j = slAt ps j := hyx
      obtain ⟨b, off, P, e, rfl, _, _, _, cB, iB⟩ := hS.at_ hlt
      obtain ⟨b2, off2, P2, e2, rfl, _, _, _, cC, iC⟩ := hO.at_ hlt
      rw [hy3'] at cC
      have hw1 : IntKind.i64.wrap ((j : Int) + 1) = (j : Int) + 1 := IntWalk.i64_in _ (by omega)
      rcases hm with h0 | h3
      · rw [h0] at cB
        clear hS hO iB iC hy3 hyx hyx' hy3' hB h0
        go_wp2_with fail
        go_quiet (fail)
        have HR2 := Lib.hid (hR.out.dr nq)
        clear hR cB cC
        generalize wr.drewN nq = W at *
        go_wp2
        go_roundw
        case rel => exact ⟨j + 1, by omega, by go_num, HR2.out⟩
        case measure => simp [intOf]; omega
      · have hxy := hyx' (by omega)
        rw [hxy] at iC
        rw [h3] at cB iB iC
        have IB := Lib.hid iB
        have IC := Lib.hid iC
        clear hS hO iB iC hy3 hyx hyx' hy3' hxy hB h3
        generalize slAt ps j = xs at *
        go_wp2_with fail
        go_quiet ((go_at_call 16; exact Calls.quiet_of (H11.sameT _ _ _ _ _ _ _ _ _ _ xs _ (IC.out.drewN _) (IB.out.drewN _))))
        have HR2 := Lib.hid (hR.out.dr nq)
        clear hR cB cC IB IC
        generalize wr.drewN nq = W at *
        go_wp2
        go_roundw
        case rel => exact ⟨j + 1, by omega, by go_num, HR2.out⟩
        case measure => simp [intOf]; omega
    · obtain rfl : j = n1 := by omega
      have HB := Lib.hid hB
      clear hS hO hR hB hlt
      go_wp2
      go_ret
      exact ⟨rfl, HB.out⟩
end Law11
end Go.Proofs.Ytoghgliijjfppaa
