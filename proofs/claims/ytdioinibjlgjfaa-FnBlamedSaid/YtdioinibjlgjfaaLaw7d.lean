/-
  The law of chapter 12 on blamed mixes: it returns true and writes nothing that was there.
-/
import Derived.Test.YtdioinibjlgjfaaLaw7b
import Derived.Test.YtdioinibjlgjfaaHlp
namespace Go.Proofs.Ytdioinibjlgjfaa
open Go.RowKit
namespace Law7
open Il Sl Lc Rd LawB Im7 Hc

def hasI (xs : List Int) (x : Int) : Bool := xs.contains x
theorem hasI_at {xs : List Int} {x : Int} {k : Nat} (hk : k < xs.length) (h : xs.getD k 0 = x) : hasI xs x = true := by
  unfold hasI
  rw [List.contains_iff_mem, ← h, List.getD_eq_getElem?_getD, List.getElem?_eq_getElem hk]
  exact List.getElem_mem _
theorem hasI_no {xs : List Int} {x : Int} (h : ∀ i, i < xs.length → xs.getD i 0 ≠ x) : hasI xs x = false := by
  cases hb : hasI xs x
  · rfl
  · exfalso
    unfold hasI at hb
    rw [List.contains_iff_mem] at hb
    obtain ⟨i, hi, e⟩ := List.getElem_of_mem hb
    refine h i hi ?_
    rw [List.getD_eq_getElem?_getD, List.getElem?_eq_getElem hi]
    exact e
theorem lackI_succ {xs : List Int} {x : Int} {k : Nat} (h : ∀ i, i < k → xs.getD i 0 ≠ x) (h2 : xs.getD k 0 ≠ x) : ∀ i, i < k + 1 → xs.getD i 0 ≠ x := fun i hi => by
  rcases Nat.lt_or_ge i k with h3 | h3
  · exact h i h3
  · obtain rfl : i = k := by omega
    exact h2
theorem hasInt (lo hi : Nat) (A : Option Addr) (n c : Nat) (xs : List Int) (x : Int) (w : World) (hx : Ints lo hi w A n c xs) :
    Calls Try.prog 35 #[.slice A n c, .int .i64 x] w fun e w' => e = .returned (.bool (hasI xs x)) ∧ w = w' := by
  have hc1 := hx.2.2.1
  have hc2 := hx.2.1
  have HL := Lib.hid hx.1
  unfold maxLen at hc1
  have HX := Lib.hid hx
  clear hx
  go_enter Try.func35, Try.ntmps35
  go_wp2
  go_loop [5] (fun i => ∃ k : Nat, k ≤ n ∧ i = .int .i64 k ∧ Hid (∀ i, i < k → xs.getD i 0 ≠ x)) (fun i => n - (intOf i).toNat)
  case atStart => exact ⟨0, Nat.zero_le _, rfl, fun i hi => absurd hi (by omega)⟩
  case round =>
    obtain ⟨k, hk, rfl, hT⟩ := hrel
    by_cases hlt : k < n
    · obtain ⟨b, off, rfl, _, _, hcx⟩ := HX.out.at_ hlt
      by_cases he : xs.getD k 0 = x
      · have HF := Lib.hid (hasI_at (by rw [HL.out]; exact hlt) he)
        have e0 : (xs.getD k 0 == x) = true := by simpa using he
        clear he
        generalize xs.getD k 0 = y at *
        go_wp2
        go_ret
        rw [HF.out]
        exact ⟨rfl, rfl⟩
      · have HN := Lib.hid (lackI_succ hT.out he)
        have e0 : (xs.getD k 0 == x) = false := by simpa using he
        clear he hT
        generalize xs.getD k 0 = y at *
        go_wp2
        go_round
        case rel => exact ⟨k + 1, by omega, by go_num, HN.out⟩
        case measure => simp [intOf]; omega
    · obtain rfl : k = n := by omega
      have HF := Lib.hid (hasI_no (x := x) (by rw [HL.out]; exact hT.out))
      clear hT
      go_wp2
      go_ret
      rw [HF.out]
      exact ⟨rfl, rfl⟩
/-- Drawn counts and two lists of mixes made of them. -/
def Br (w0 wr : World) (h1 h2 h3 : Nat) (A1 A2 A3 : Option Addr) (c1 c2 c3 : Nat) (xs : List Cnt) (ys : List Int) : Prop :=
  Cnts w0.heap.size h1 wr A1 xs.length c1 xs ∧ Ints w0.heap.size h2 wr A2 ys.length c2 ys ∧ Ints w0.heap.size h3 wr A3 ys.length c3 ys ∧ (h1 ≤ wr.heap.size ∧ h2 ≤ wr.heap.size ∧ h3 ≤ wr.heap.size) ∧ Below w0.heap.size w0 wr
section
variable {w0 wr w' : World} {h1 h2 h3 : Nat} {A1 A2 A3 : Option Addr} {c1 c2 c3 : Nat} {xs : List Cnt} {ys : List Int}
theorem Br.below (h : Br w0 wr h1 h2 h3 A1 A2 A3 c1 c2 c3 xs ys) (hb : Below wr.heap.size wr w') : Br w0 w' h1 h2 h3 A1 A2 A3 c1 c2 c3 xs ys :=
  ⟨h.1.below hb (Nat.le_refl _), h.2.1.below hb (Nat.le_refl _), h.2.2.1.below hb (Nat.le_refl _), ⟨Nat.le_trans h.2.2.2.1.1 hb.size, Nat.le_trans h.2.2.2.1.2.1 hb.size, Nat.le_trans h.2.2.2.1.2.2 hb.size⟩, h.2.2.2.2.trans (hb.mono h.2.2.2.2.size)⟩
theorem Br.cs (h : Br w0 wr h1 h2 h3 A1 A2 A3 c1 c2 c3 xs ys) : Cnts w0.heap.size h1 wr A1 xs.length c1 xs := h.1
theorem Br.is (h : Br w0 wr h1 h2 h3 A1 A2 A3 c1 c2 c3 xs ys) : Ints w0.heap.size h2 wr A2 ys.length c2 ys := h.2.1
theorem Br.js (h : Br w0 wr h1 h2 h3 A1 A2 A3 c1 c2 c3 xs ys) : Ints w0.heap.size h3 wr A3 ys.length c3 ys := h.2.2.1
theorem Br.sz (h : Br w0 wr h1 h2 h3 A1 A2 A3 c1 c2 c3 xs ys) : h1 ≤ wr.heap.size := h.2.2.2.1.1
theorem Br.bl (h : Br w0 wr h1 h2 h3 A1 A2 A3 c1 c2 c3 xs ys) : Below w0.heap.size w0 wr := h.2.2.2.2
theorem Br.dn (h : Br w0 wr h1 h2 h3 A1 A2 A3 c1 c2 c3 xs ys) (d : Nat) : Br w0 (wr.drewN d) h1 h2 h3 A1 A2 A3 c1 c2 c3 xs ys :=
  h.below ⟨rfl, rfl, rfl, Nat.le_refl _, fun _ _ => rfl⟩
end
theorem tiny_wf {xs : List Cnt} (h : Tiny xs) {x : Cnt} (hx : x ∈ xs) : wf x.fr ∧ wf x.to_ := by
  have := h x hx
  exact ⟨wf_small (by omega), wf_small (by omega)⟩
theorem drawn_below {w w' : World} (h : ∃ d, w' = w.drewN d) : Below w.heap.size w w' := drew_below h
theorem cntN_step {xs : List Cnt} {k : Nat} (h : k < xs.length) (n : Int) : cntN (xs.take (k + 1)) n = cntN (xs.take k) n + (bif touch n (cntAt xs k) then 1 else 0) := by
  unfold cntN
  rw [take_cnt h, List.countP_append]
  cases hp : touch n (cntAt xs k) <;> simp [hp]
theorem cntN_le {xs : List Cnt} (n : Int) : cntN xs n ≤ xs.length := List.countP_le_length
theorem blamed_has {xs : List Cnt} {num den : Int} (h : loopsOk xs = true) (hp : partOk num den = true) {k : Nat} (hk : k < 8) : hasI (blamedL xs num den) (k : Int) = (decide (0 < cntN xs k) && decide (cntN (suspL xs num den) k = cntN xs k)) := by
  have e : blamedL xs num den = names.filter (blameB xs num den) := by unfold blamedL; rw [h, hp]; rfl
  rw [e, suspL_yes h hp]
  have hm : (k : Int) ∈ names := by
    unfold names
    obtain rfl | rfl | rfl | rfl | rfl | rfl | rfl | rfl : k = 0 ∨ k = 1 ∨ k = 2 ∨ k = 3 ∨ k = 4 ∨ k = 5 ∨ k = 6 ∨ k = 7 := by omega
    all_goals decide
  rw [Bool.eq_iff_iff]
  unfold hasI
  rw [List.contains_iff_mem, List.mem_filter]
  unfold blameB
  exact ⟨fun h => h.2, fun h => ⟨hm, h⟩⟩
theorem blamed_up {xs : List Cnt} {num den : Int} {k : Nat} (h : k + 1 < (blamedL xs num den).length) : (blamedL xs num den).getD k 0 < (blamedL xs num den).getD (k + 1) 0 := by
  have hp : (blamedL xs num den).Pairwise (· < ·) := by
    unfold blamedL
    cases (loopsOk xs && partOk num den)
    · exact List.Pairwise.nil
    · exact List.Pairwise.filter _ (by unfold names; decide)
  rw [List.pairwise_iff_getElem] at hp
  have := hp k (k + 1) (by omega) h (by omega)
  rw [List.getD_eq_getElem?_getD, List.getD_eq_getElem?_getD, List.getElem?_eq_getElem h, List.getElem?_eq_getElem (by omega)]
  exact this
theorem blamed_len (xs : List Cnt) (num den : Int) : (blamedL xs num den).length ≤ 8 := by
  unfold blamedL
  cases (loopsOk xs && partOk num den)
  · exact Nat.zero_le _
  · exact List.length_filter_le _ _
set_option maxRecDepth 20000 in
set_option maxHeartbeats 1000000 in
theorem fnBlamed (A : Option Addr) (n c : Nat) (w : World) (h : CodeIs w A n c) :
    Calls Try.prog 9 #[.slice A n c] w (TruePost w) := by
  have HC := Lib.hid h
  clear h
  by_cases hn : 1048576 < n
  · go_enter Try.func9, Try.ntmps9
    go_wp2
    go_ret
    exact ⟨rfl, Below.refl _ _⟩
  go_enter Try.func9, Try.ntmps9
  go_wp2_with fail
  ((with_reducible refine (DrawLoopBlamed _ _ _ _ HC.out).mono ?_); rintro e w1 ⟨A1, c1, xs, num, den, rfl, hti, hl, hx, hp, hb⟩)
  have HTN := Lib.hid hti
  have HX := Lib.hid hx.cnts
  have HB := Lib.hid hb
  clear hti hx hp hb HC
  generalize hys : blamedL xs num den = ys
  go_wp2_with fail
  ((with_reducible refine (Im7.LoopBlamed _ _ _ _ _ xs num den _ HX.out (Nat.le_refl _) (fun x hx => tiny_wf HTN.out hx) (by omega)).mono ?_); rintro e w2 ⟨A2, c2, rfl, h2, hb⟩)
  rw [hys] at h2 ⊢
  have HX2 := Lib.hid (HX.out.below hb (Nat.le_refl _))
  have HY2 := Lib.hid h2.ints
  have HS2 := Lib.hid hb.size
  have HB2 := Lib.hid (HB.out.trans (hb.mono HB.out.size))
  clear h2 hb HX
  go_wp2_with fail
  ((with_reducible refine (Sp7.LoopBlamed _ _ _ _ _ xs num den _ HX2.out HS2.out).mono ?_); rintro e w3 ⟨A3, c3, rfl, h3, hb⟩)
  rw [hys] at h3 ⊢
  have HQ3 : Hid (Br w w3 w1.heap.size w2.heap.size w3.heap.size A1 A2 A3 c1 c2 c3 xs ys) :=
    ⟨HX2.out.below hb (Nat.le_refl _), (HY2.out.below hb (Nat.le_refl _)).mono HB.out.size (Nat.le_refl _), h3.ints.mono HB2.out.size (Nat.le_refl _), ⟨Nat.le_trans HS2.out hb.size, hb.size, Nat.le_refl _⟩, HB2.out.trans (hb.mono HB2.out.size)⟩
  clear h3 hb HX2 HY2 HB2 HS2 HB
  generalize w1.heap.size = k1 at *
  generalize w2.heap.size = k2 at *
  generalize hk3 : w3.heap.size = k3 at *
  clear hk3
  have HYS := Lib.hid hys
  clear hys
  go_wp2_with fail
  ((with_reducible refine (Hlp.sameInts _ _ _ _ _ _ _ _ _ _ ys ys _ HQ3.out.is HQ3.out.js).mono ?_); rintro e w4 ⟨rfl, hb⟩)
  rw [decide_eq_true (rfl : ys = ys)]
  have HQ4 := Lib.hid (HQ3.out.below (drawn_below hb))
  clear hb HQ3
  cases hok : loopsOk xs
  · have _h := trivial
    go_wp2_with fail
    ((with_reducible refine (Sp7.LoopsValid _ _ _ _ _ xs _ HQ4.out.cs).mono ?_); rintro e w5 ⟨rfl, hb⟩)
    rw [hok]
    have HQ5 := Lib.hid (HQ4.out.below hb)
    clear hb HQ4
    go_wp2_with fail
    ((with_reducible refine (Hlp.sameInts _ _ _ _ _ _ _ _ _ _ ys ys _ HQ5.out.is HQ5.out.js).mono ?_); rintro e w6 ⟨rfl, hb⟩)
    rw [decide_eq_true (rfl : ys = ys)]
    have HQ6 := Lib.hid (HQ5.out.below (drawn_below hb))
    clear hb HQ5
    go_wp2
    go_ret
    exact ⟨rfl, HQ6.out.bl⟩
  · have _h := trivial
    go_wp2_with fail
    ((with_reducible refine (Sp7.LoopsValid _ _ _ _ _ xs _ HQ4.out.cs).mono ?_); rintro e w5 ⟨rfl, hb⟩)
    rw [hok]
    have HQ5 := Lib.hid (HQ4.out.below hb)
    clear hb HQ4
    by_cases d1 : den < 1
    · have d1' : decide (den < 1) = true := by simpa using d1
      go_wp2_with fail
      ((with_reducible refine (Hlp.sameInts _ _ _ _ _ _ _ _ _ _ ys ys _ HQ5.out.is HQ5.out.js).mono ?_); rintro e w6 ⟨rfl, hb⟩)
      rw [decide_eq_true (rfl : ys = ys)]
      have HQ6 := Lib.hid (HQ5.out.below (drawn_below hb))
      clear hb HQ5
      go_wp2
      go_ret
      exact ⟨rfl, HQ6.out.bl⟩
    have d1' : decide (den < 1) = false := by simpa using d1
    by_cases d2 : num < 0
    · have d2' : decide (num < 0) = true := by simpa using d2
      go_wp2_with fail
      ((with_reducible refine (Hlp.sameInts _ _ _ _ _ _ _ _ _ _ ys ys _ HQ5.out.is HQ5.out.js).mono ?_); rintro e w6 ⟨rfl, hb⟩)
      rw [decide_eq_true (rfl : ys = ys)]
      have HQ6 := Lib.hid (HQ5.out.below (drawn_below hb))
      clear hb HQ5
      go_wp2
      go_ret
      exact ⟨rfl, HQ6.out.bl⟩
    have d2' : decide (num < 0) = false := by simpa using d2
    by_cases d3 : den < num
    · have d3' : decide (den < num) = true := by simpa using d3
      go_wp2_with fail
      ((with_reducible refine (Hlp.sameInts _ _ _ _ _ _ _ _ _ _ ys ys _ HQ5.out.is HQ5.out.js).mono ?_); rintro e w6 ⟨rfl, hb⟩)
      rw [decide_eq_true (rfl : ys = ys)]
      have HQ6 := Lib.hid (HQ5.out.below (drawn_below hb))
      clear hb HQ5
      go_wp2
      go_ret
      exact ⟨rfl, HQ6.out.bl⟩
    have d3' : decide (den < num) = false := by simpa using d3
    by_cases d4 : 99 < den
    · have d4' : decide (99 < den) = true := by simpa using d4
      go_wp2_with fail
      ((with_reducible refine (Hlp.sameInts _ _ _ _ _ _ _ _ _ _ ys ys _ HQ5.out.is HQ5.out.js).mono ?_); rintro e w6 ⟨rfl, hb⟩)
      rw [decide_eq_true (rfl : ys = ys)]
      have HQ6 := Lib.hid (HQ5.out.below (drawn_below hb))
      clear hb HQ5
      go_wp2
      go_ret
      exact ⟨rfl, HQ6.out.bl⟩
    have d4' : decide (99 < den) = false := by simpa using d4
    have hpo : partOk num den = true := by rw [partOk_iff]; omega
    have HHAS : Hid (∀ k : Nat, k < 8 → hasI ys (k : Int) = (decide (0 < cntN xs k) && decide (cntN (suspL xs num den) k = cntN xs k))) := fun k hk => by rw [← HYS.out]; exact blamed_has hok hpo hk
    have HUP : Hid (∀ k : Nat, k + 1 < ys.length → ys.getD k 0 < ys.getD (k + 1) 0) := fun k hk => by rw [← HYS.out] at hk ⊢; exact blamed_up hk
    have hyl : ys.length ≤ 8 := by rw [← HYS.out]; exact blamed_len _ _ _
    have hzl : (suspL xs num den).length ≤ 64 := by
      rw [suspL_yes hok hpo]
      exact Nat.le_trans (List.length_filter_le _ _) hl
    clear hok hpo HYS HTN
    generalize hz : suspL xs num den = zs at *
    go_wp2_with fail
    ((with_reducible refine (Im7.LoopSuspects _ _ _ _ _ xs num den _ HQ5.out.cs HQ5.out.sz).mono ?_); rintro e w6 ⟨A5, c5, rfl, h5, hb⟩)
    rw [hz] at h5 ⊢
    have HQ6 : Hid (Br w w6 k1 k2 k3 A1 A2 A3 c1 c2 c3 xs ys ∧ Cnts w.heap.size w6.heap.size w6 A5 zs.length c5 zs) := ⟨HQ5.out.below hb, h5.cnts.mono HQ5.out.bl.size (Nat.le_refl _)⟩
    generalize w6.heap.size = k5 at *
    clear h5 hb HQ5 hz
    go_wp2
    go_loopw [9, 10, 11, 12, 13] (fun i _ _ _ _ wr => ∃ k : Nat, k ≤ 8 ∧ i = .int .i64 k ∧ Hid (Br w wr k1 k2 k3 A1 A2 A3 c1 c2 c3 xs ys ∧ Cnts w.heap.size k5 wr A5 zs.length c5 zs)) (fun i _ _ _ _ _ => 8 - (intOf i).toNat)
    case atStart => exact ⟨0, by omega, rfl, HQ6⟩
    case round =>
      obtain ⟨k, hk, rfl, hR⟩ := hrel
      clear HQ6
      by_cases hlt : k < 8
      · have HHK := Lib.hid (HHAS.out k hlt)
        have hlk : decide ((k : Int) < 8) = true := by simp; omega
        go_wp2
        go_loopw [10, 12] (fun a i wr => ∃ m : Nat, m ≤ xs.length ∧ i = .int .i64 m ∧ a = .int .i64 (cntN (xs.take m) k : Nat) ∧ Hid (Br w wr k1 k2 k3 A1 A2 A3 c1 c2 c3 xs ys ∧ Cnts w.heap.size k5 wr A5 zs.length c5 zs)) (fun _ i _ => xs.length - (intOf i).toNat)
        case atStart => exact ⟨0, Nat.zero_le _, rfl, rfl, hR⟩
        case round =>
          obtain ⟨m, hm, rfl, rfl, hR2⟩ := hrel
          clear hR
          by_cases hlm : m < xs.length
          · obtain ⟨b, off, rfl, _, _, _, m0, m1, m2, m3⟩ := hR2.out.1.cs.at_ hlm
            have HST := Lib.hid (cntN_step hlm (k : Int))
            have hcl : cntN (xs.take m) k ≤ 64 := Nat.le_trans (cntN_le _) (by rw [List.length_take]; omega)
            generalize cntAt xs m = x at *
            have HIS : Hid (touch (k : Int) x = (decide (x.fr = (k : Int)) || decide (x.to_ = (k : Int)))) := rfl
            generalize cntN (xs.take m) k = g at *
            by_cases h1 : x.fr = (k : Int)
            · have d5 : (x.fr == (k : Int)) = true := by simpa using h1
              have HN : Hid (cntN (xs.take (m + 1)) k = g + 1) := by show _ = _; rw [HST.out, HIS.out, decide_eq_true h1]; rfl
              clear h1 HST HIS
              go_wp2
              go_roundw
              case rel => exact ⟨m + 1, by omega, by go_num, by rw [HN.out]; go_num, hR2⟩
              case measure => simp [intOf]; omega
            · have d5 : (x.fr == (k : Int)) = false := by simpa using h1
              by_cases h2 : x.to_ = (k : Int)
              · have d6 : (x.to_ == (k : Int)) = true := by simpa using h2
                have HN : Hid (cntN (xs.take (m + 1)) k = g + 1) := by show _ = _; rw [HST.out, HIS.out, decide_eq_false h1, decide_eq_true h2]; rfl
                clear h1 h2 HST HIS
                go_wp2
                go_roundw
                case rel => exact ⟨m + 1, by omega, by go_num, by rw [HN.out]; go_num, hR2⟩
                case measure => simp [intOf]; omega
              · have d6 : (x.to_ == (k : Int)) = false := by simpa using h2
                have HN : Hid (cntN (xs.take (m + 1)) k = g) := by show _ = _; rw [HST.out, HIS.out, decide_eq_false h1, decide_eq_false h2]; rfl
                clear h1 h2 HST HIS
                go_wp2
                go_roundw
                case rel => exact ⟨m + 1, by omega, by go_num, by rw [HN.out], hR2⟩
                case measure => simp [intOf]; omega
          · obtain rfl : m = xs.length := by omega
            rw [List.take_length]
            clear hlm
            have hal : cntN xs k ≤ 64 := Nat.le_trans (cntN_le _) hl
            go_wp2
            go_loopw [11, 13] (fun a i wr => ∃ m : Nat, m ≤ zs.length ∧ i = .int .i64 m ∧ a = .int .i64 (cntN (zs.take m) k : Nat) ∧ Hid (Br w wr k1 k2 k3 A1 A2 A3 c1 c2 c3 xs ys ∧ Cnts w.heap.size k5 wr A5 zs.length c5 zs)) (fun _ i _ => zs.length - (intOf i).toNat)
            case atStart => exact ⟨0, Nat.zero_le _, rfl, rfl, hR2⟩
            case round =>
              obtain ⟨m, hm2, rfl, rfl, hR⟩ := hrel
              clear hR2
              by_cases hlm : m < zs.length
              · obtain ⟨b, off, rfl, _, _, _, m0, m1, m2, m3⟩ := hR.out.2.at_ hlm
                have HST := Lib.hid (cntN_step hlm (k : Int))
                have hcl : cntN (zs.take m) k ≤ 64 := Nat.le_trans (cntN_le _) (by rw [List.length_take]; omega)
                generalize cntAt zs m = x at *
                have HIS : Hid (touch (k : Int) x = (decide (x.fr = (k : Int)) || decide (x.to_ = (k : Int)))) := rfl
                generalize cntN (zs.take m) k = g at *
                by_cases h1 : x.fr = (k : Int)
                · have d5 : (x.fr == (k : Int)) = true := by simpa using h1
                  have HN : Hid (cntN (zs.take (m + 1)) k = g + 1) := by show _ = _; rw [HST.out, HIS.out, decide_eq_true h1]; rfl
                  clear h1 HST HIS
                  go_wp2
                  go_roundw
                  case rel => exact ⟨m + 1, by omega, by go_num, by rw [HN.out]; go_num, hR⟩
                  case measure => simp [intOf]; omega
                · have d5 : (x.fr == (k : Int)) = false := by simpa using h1
                  by_cases h2 : x.to_ = (k : Int)
                  · have d6 : (x.to_ == (k : Int)) = true := by simpa using h2
                    have HN : Hid (cntN (zs.take (m + 1)) k = g + 1) := by show _ = _; rw [HST.out, HIS.out, decide_eq_false h1, decide_eq_true h2]; rfl
                    clear h1 h2 HST HIS
                    go_wp2
                    go_roundw
                    case rel => exact ⟨m + 1, by omega, by go_num, by rw [HN.out]; go_num, hR⟩
                    case measure => simp [intOf]; omega
                  · have d6 : (x.to_ == (k : Int)) = false := by simpa using h2
                    have HN : Hid (cntN (zs.take (m + 1)) k = g) := by show _ = _; rw [HST.out, HIS.out, decide_eq_false h1, decide_eq_false h2]; rfl
                    clear h1 h2 HST HIS
                    go_wp2
                    go_roundw
                    case rel => exact ⟨m + 1, by omega, by go_num, by rw [HN.out], hR⟩
                    case measure => simp [intOf]; omega
              · obtain rfl : m = zs.length := by omega
                rw [List.take_length]
                clear hlm
                have hbl : cntN zs k ≤ 64 := Nat.le_trans (cntN_le _) hzl
                go_wp2_with fail
                ((with_reducible refine (hasInt _ _ _ _ _ ys k _ hR.out.1.is).mono ?_); rintro e w7 ⟨rfl, rfl⟩)
                rw [HHK.out]
                generalize cntN xs k = a at *
                generalize cntN zs k = e at *
                clear HHK
                by_cases h1 : 0 < a
                · have d5 : decide (0 < a) = true := by simpa using h1
                  have d5' : decide ((0 : Int) < (a : Int)) = true := by simp; omega
                  by_cases h2 : e = a
                  · subst h2
                    have d6 : ((e : Int) == (e : Int)) = true := by simp
                    rw [d5, decide_eq_true rfl]
                    clear h1
                    go_wp2
                    go_roundw
                    case rel => exact ⟨k + 1, by omega, by go_num, hR⟩
                    case measure => simp [intOf]; omega
                  · have d6 : ((a : Int) == (e : Int)) = false := by simp; omega
                    rw [d5, decide_eq_false h2]
                    clear h1 h2
                    go_wp2
                    go_roundw
                    case rel => exact ⟨k + 1, by omega, by go_num, hR⟩
                    case measure => simp [intOf]; omega
                · have d5 : decide (0 < a) = false := by simpa using h1
                  have d5' : decide ((0 : Int) < (a : Int)) = false := by simp; omega
                  rw [d5, Bool.false_and]
                  clear h1
                  go_wp2
                  go_roundw
                  case rel => exact ⟨k + 1, by omega, by go_num, hR⟩
                  case measure => simp [intOf]; omega
      · obtain rfl : k = 8 := by omega
        clear hlt HHAS
        go_wp2
        go_loopw [14] (fun i wr => ∃ m : Nat, m ≤ ys.length ∧ i = .int .i64 ((m : Int) + 1) ∧ Hid (Br w wr k1 k2 k3 A1 A2 A3 c1 c2 c3 xs ys)) (fun i _ => ys.length + 1 - (intOf i).toNat)
        case atStart => exact ⟨0, Nat.zero_le _, rfl, hR.out.1⟩
        case round =>
          obtain ⟨m, hm, rfl, hR2⟩ := hrel
          clear hR
          by_cases hlm : m + 1 < ys.length
          · obtain ⟨b, off, rfl, _, _, cx⟩ := hR2.out.is.at_ (k := m) (by omega)
            obtain ⟨b', off', eb, _, _, cy⟩ := hR2.out.is.at_ hlm
            simp only [Option.some.injEq, Addr.mk.injEq, and_true] at eb
            obtain ⟨rfl, rfl⟩ := eb
            have hup := HUP.out m hlm
            have hk1 : decide ((m : Int) + 1 < (ys.length : Int)) = true := by simp; omega
            have e1 : IntKind.i64.wrap ((m : Int) + 1 - 1) = (m : Int) := by rw [show (m : Int) + 1 - 1 = (m : Int) by omega]; exact IntWalk.i64_in _ (by omega)
            have hq1 : (0 : Int) ≤ (m : Int) + 1 := by omega
            have hq2 : (m : Int) + 1 < (ys.length : Int) := by omega
            have e3 : ((m : Int) + 1).toNat = m + 1 := by omega
            have hmy : m < ys.length := by omega
            generalize ys.getD m 0 = u at *
            generalize ys.getD (m + 1) 0 = v at *
            have d5 : decide (v ≤ u) = false := by simp; omega
            clear hup
            go_wp2
            go_quiet (fail)
            go_wp2
            go_roundw
            case rel => exact ⟨m + 1, by omega, by go_num, hR2.out.dn _⟩
            case measure => simp [intOf]; omega
          · have hk1 : decide ((m : Int) + 1 < (ys.length : Int)) = false := by simp; omega
            clear hlm
            go_wp2
            go_ret
            exact ⟨rfl, hR2.out.bl⟩

end Law7
end Go.Proofs.Ytdioinibjlgjfaa
