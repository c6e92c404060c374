/-
  Contracts of the model's chapter 12: rates, blamed mixes.
-/
import Derived.Test.YtdioinibjlgjfaaSp7b
import Derived.Test.YtdioinibjlgjfaaLq
namespace Go.Proofs.Ytdioinibjlgjfaa
open Go.RowKit
namespace Sp7
open Il Sl Lc Sp2 Nm

set_option maxRecDepth 20000 in
set_option maxHeartbeats 1000000 in
theorem LoopRate (lo hi : Nat) (A : Option Addr) (n c : Nat) (xs : List Cnt) (f t : Int) (w : World) (hx : Cnts lo hi w A n c xs) :
    Calls Try.prog 26 #[.slice A n c, .int .i64 f, .int .i64 t] w (RatePost (rateL xs f t) w) := by
  have hc1 := hx.max_
  have hc2 := hx.cap_
  have HL := Lib.hid hx.len_
  have HX0 : Hid (LvRel lo hi w w A n c xs) := ⟨hx, Below.refl _ _⟩
  clear hx
  cases ho : loopsOk xs
  · have HV : Hid (rateL xs f t = (0, 0)) := by show rateL xs f t = _; unfold rateL; rw [ho]; rfl
    rw [HV.out]
    go_enter Try.func26, Try.ntmps26
    go_wp2
    go_loopw [8] (fun i wr => i = .int .i64 0 ∧ Hid (LvRel lo hi w wr A n c xs)) (fun _ _ => 0)
    case atStart => exact ⟨rfl, HX0.out⟩
    case round =>
      obtain ⟨rfl, hR⟩ := hrel
      clear HX0
      rcases Nat.eq_zero_or_pos n with h0 | h0
      · have e0 : decide ((0 : Int) < (n : Int)) = false := by simp; omega
        have e0' : decide (0 < n) = false := by simp; omega
        clear h0
        go_wp2
        go_ret2
        exact ⟨rfl, hR.out.2⟩
      · have e0 : decide ((0 : Int) < (n : Int)) = true := by simp; omega
        have e0' : decide (0 < n) = true := by simp; omega
        go_wp2_with fail
        ((with_reducible refine (LoopsValid _ _ _ _ _ xs _ hR.out.c1).mono ?_); rintro e w1 ⟨rfl, hb⟩)
        rw [ho]
        have HR2 := Lib.hid (hR.out.below hb)
        clear ho hb hR
        go_wp2
        go_ret2
        exact ⟨rfl, HR2.out.2⟩
  · have HV : Hid (rateL xs f t = match xs.find? (isL f t) with | some c => (c.ba, c.se) | none => (0, 0)) := by show rateL xs f t = _; unfold rateL; rw [ho]; rfl
    go_enter Try.func26, Try.ntmps26
    go_wp2
    go_loopw [8] (fun i wr => ∃ k : Nat, k ≤ n ∧ i = .int .i64 k ∧ Hid (∀ i, i < k → isL f t (cntAt xs i) = false) ∧ Hid (LvRel lo hi w wr A n c xs)) (fun i _ => n - (intOf i).toNat)
    case atStart => exact ⟨0, Nat.zero_le _, rfl, fun i hi => absurd hi (by omega), HX0.out⟩
    case round =>
      obtain ⟨k, hk, rfl, hT, hR⟩ := hrel
      clear HX0
      by_cases hlt : k < n
      · have _hh := trivial
        go_wp2_with fail
        ((with_reducible refine (LoopsValid _ _ _ _ _ xs _ hR.out.c1).mono ?_); rintro e w1 ⟨rfl, hb⟩)
        rw [ho]
        have HR2 := Lib.hid (hR.out.below hb)
        clear hb hR
        obtain ⟨b, off, rfl, _, _, hbz, c0, c1, c2, c3⟩ := HR2.out.1.at_ hlt
        have HAT : Hid (isL f t (cntAt xs k) = true → xs.find? (isL f t) = some (cntAt xs k)) := fun h => find_at (by rw [HL.out]; exact hlt) hT.out h
        have HNX : Hid (isL f t (cntAt xs k) = false → ∀ i, i < k + 1 → isL f t (cntAt xs i) = false) := fun h => noTo_succ hT.out h
        clear hT
        generalize cntAt xs k = x at *
        have HIS : Hid (isL f t x = (decide (x.fr = f) && decide (x.to_ = t))) := rfl
        by_cases h1 : x.fr = f
        · by_cases h2 : x.to_ = t
          · have HF := Lib.hid (HAT.out (by rw [HIS.out, decide_eq_true h1, decide_eq_true h2]; rfl))
            have d1 : (x.fr == f) = true := by simpa using h1
            have d2 : (x.to_ == t) = true := by simpa using h2
            clear h1 h2 HAT HNX HIS
            go_wp2
            go_quiet (fail)
            go_wp2
            go_ret2
            rw [HV.out, HF.out]
            exact ⟨rfl, below_dr HR2.out.2⟩
          · have HN := Lib.hid (HNX.out (by rw [HIS.out, decide_eq_true h1, decide_eq_false h2]; rfl))
            have d1 : (x.fr == f) = true := by simpa using h1
            have d2 : (x.to_ == t) = false := by simpa using h2
            clear h1 h2 HAT HNX HIS
            go_wp2
            go_roundw
            case rel => exact ⟨k + 1, by omega, by go_num, HN.out, HR2.out⟩
            case measure => simp [intOf]; omega
        · have HN := Lib.hid (HNX.out (by rw [HIS.out, decide_eq_false h1]; rfl))
          have d1 : (x.fr == f) = false := by simpa using h1
          clear h1 HAT HNX HIS
          go_wp2
          go_roundw
          case rel => exact ⟨k + 1, by omega, by go_num, HN.out, HR2.out⟩
          case measure => simp [intOf]; omega
      · obtain rfl : k = n := by omega
        have HF := Lib.hid (find_none (xs := xs) (by rw [HL.out]; exact hT.out))
        clear hlt ho hT
        go_wp2
        go_ret2
        rw [HV.out, HF.out]
        exact ⟨rfl, hR.out.2⟩

/-- What the loops of LoopBlamed hold. -/
def BlRel (lo hi : Nat) (w wr : World) (A : Option Addr) (n c : Nat) (xs : List Cnt) (v : Value) (ys : List Int) : Prop := Cnts lo hi wr A n c xs ∧ Acc w wr v ys
theorem BlRel.c1 {lo hi : Nat} {w wr : World} {A : Option Addr} {n c : Nat} {xs : List Cnt} {v : Value} {ys : List Int} (h : BlRel lo hi w wr A n c xs v ys) : Cnts lo hi wr A n c xs := h.1
theorem BlRel.dr {lo hi d : Nat} {w wr : World} {A : Option Addr} {n c : Nat} {xs : List Cnt} {v : Value} {ys : List Int} (h : BlRel lo hi w wr A n c xs v ys) : BlRel lo hi w (wr.drewN d) A n c xs v ys := ⟨h.1, h.2.drewN d⟩
theorem BlRel.below {lo hi : Nat} {w wr w2 : World} {A : Option Addr} {n c : Nat} {xs : List Cnt} {v : Value} {ys : List Int} (h : BlRel lo hi w wr A n c xs v ys) (hb : Below wr.heap.size wr w2) : BlRel lo hi w w2 A n c xs v ys :=
  ⟨h.1.below hb (Nat.le_refl _), h.2.step (grown_of_below hb) (fun g hg => by cases hg)⟩

set_option maxRecDepth 20000 in
set_option maxHeartbeats 1000000 in
theorem LoopBlamed (lo hi : Nat) (A : Option Addr) (n c : Nat) (xs : List Cnt) (num den : Int) (w : World) (hx : Cnts lo hi w A n c xs) (hh : hi ≤ w.heap.size) :
    Calls Try.prog 33 #[.slice A n c, .int .i64 num, .int .i64 den] w (NewInts w (blamedL xs num den)) := by
  have hc1 := hx.max_
  have hc2 := hx.cap_
  have HL := Lib.hid hx.len_
  have HH := Lib.hid hh
  have HX0 : Hid (BlRel lo hi w (w.alloc (.cells #[] 3)) A n c xs (.slice (some ⟨w.heap.size, 0, none⟩) 0 0) []) := ⟨hx.below ((Below.refl _ _).alloc (Nat.le_refl _) _) (Nat.le_refl _), acc_new w⟩
  clear hx hh
  cases ho : (loopsOk xs && partOk num den)
  · have HV : Hid (blamedL xs num den = []) := by show blamedL xs num den = _; unfold blamedL; rw [ho]; rfl
    rw [HV.out]
    go_enter Try.func33, Try.ntmps33
    go_wp2
    go_loopw [7, 8] (fun v i wr => i = .int .i64 0 ∧ Hid (BlRel lo hi w wr A n c xs v [])) (fun _ _ _ => 0)
    case atStart => exact ⟨rfl, HX0.out⟩
    case round =>
      obtain ⟨rfl, hR⟩ := hrel
      clear HX0
      go_wp2_with fail
      ((with_reducible refine (l12Ok _ _ _ _ _ xs num den _ hR.out.c1).mono ?_); rintro e w1 ⟨rfl, hb⟩)
      rw [ho]
      have HR2 := Lib.hid (hR.out.below hb)
      clear ho hb hR
      go_wp2
      go_ret
      exact HR2.out.2.post
  · have ho2 := ho
    rw [Bool.and_eq_true] at ho2
    have HOK := Lib.hid ho2.1
    have HPO := Lib.hid ho2.2
    have HN64 : Hid (n ≤ 64) := by show n ≤ 64; have := ok_len ho2.1; have := HL.out; omega
    have HV : Hid (blamedL xs num den = names.filter (blameB xs num den)) := by show blamedL xs num den = _; unfold blamedL; rw [ho]; rfl
    rw [HV.out]
    clear ho2
    go_enter Try.func33, Try.ntmps33
    go_wp2
    go_loopw [7, 8] (fun v i wr => ∃ k : Nat, k ≤ 8 ∧ i = .int .i64 k ∧ Hid (BlRel lo hi w wr A n c xs v ((nTo k).filter (blameB xs num den)))) (fun _ i _ => 8 - (intOf i).toNat)
    case atStart => exact ⟨0, by omega, rfl, HX0.out⟩
    case round =>
      obtain ⟨k, hk, rfl, hR⟩ := hrel
      clear HX0
      by_cases hlt : k < 8
      · have HST := Lib.hid (nTo_filter k (blameB xs num den))
        have HFL := Lib.hid (nTo_flen k (blameB xs num den))
        generalize (nTo k).filter (blameB xs num den) = ys at *
        have e8 : decide ((k : Int) < 8) = true := by simp; omega
        go_wp2_with fail
        ((with_reducible refine (l12Ok _ _ _ _ _ xs num den _ hR.out.c1).mono ?_); rintro e w1 ⟨rfl, hb⟩)
        rw [ho]
        have HR2 := Lib.hid (hR.out.below hb)
        clear hb hR
        go_wp2
        go_loopw [9, 10, 11] (fun a b i wr => ∃ j : Nat, j ≤ n ∧ i = .int .i64 j ∧ a = .int .i64 (cntN (xs.take j) k) ∧ b = .int .i64 (cntN ((xs.take j).filter (suspC num den)) k) ∧ Hid (BlRel lo hi w wr A n c xs u7 ys)) (fun _ _ i _ => n - (intOf i).toNat)
        case atStart => exact ⟨0, Nat.zero_le _, rfl, rfl, rfl, HR2.out⟩
        case round =>
          obtain ⟨j, hj, rfl, rfl, rfl, hR⟩ := hrel
          clear HR2
          by_cases hjl : j < n
          · have HPA := Lib.hid (cntN_take (xs := xs) (j := j) (by rw [HL.out]; exact hjl) k)
            have HPB := Lib.hid (cntN_ftake (xs := xs) (j := j) (by rw [HL.out]; exact hjl) (suspC num den) k)
            have ba := cntN_tlen (xs := xs) (j := j) (by rw [HL.out]; exact hj) k
            have bb := cntN_flen (xs := xs) (j := j) (by rw [HL.out]; exact hj) (suspC num den) k
            have b64 := HN64.out
            obtain ⟨q1, q2⟩ := susp_bd (c := cntAt xs j) (ok_ix HOK.out (k := j) (by rw [HL.out]; exact hjl)) HPO.out
            obtain ⟨b, off, rfl, _, _, hbz, c0, c1, c2, c3⟩ := hR.out.1.at_ hjl
            have HSU : Hid (suspC num den (cntAt xs j) = decide ((cntAt xs j).ba * den < num * (cntAt xs j).se)) := rfl
            have HTC : Hid (touch k (cntAt xs j) = (decide ((cntAt xs j).fr = k) || decide ((cntAt xs j).to_ = k))) := rfl
            generalize cntAt xs j = x at *
            generalize cntN (xs.take j) k = pa at *
            generalize cntN ((xs.take j).filter (suspC num den)) k = pb at *
            have HR3 := Lib.hid hR.out
            clear hR
            by_cases t1 : x.fr = (k : Int)
            · have f1 : (x.fr == (k : Int)) = true := by simpa using t1
              have HT1 : Hid (touch k x = true) := by show touch k x = _; rw [HTC.out, decide_eq_true t1]; rfl
              clear t1
              cases hsu : suspC num den x
              · skip
                have HPA2 : Hid (cntN (xs.take (j + 1)) k = pa + 1) := by show cntN (xs.take (j + 1)) k = _; rw [HPA.out, HT1.out]; rfl
                have HPB2 : Hid (cntN ((xs.take (j + 1)).filter (suspC num den)) k = pb) := by show cntN ((xs.take (j + 1)).filter (suspC num den)) k = _; rw [HPB.out, HT1.out, hsu]; rfl
                have d0 : decide (x.ba * den < num * x.se) = false := by rw [← HSU.out]; exact hsu
                clear hsu HSU HPA HPB HT1 HTC
                go_wp2
                go_quiet (fail)
                go_wp2
                go_roundw
                case rel => exact ⟨j + 1, by omega, by go_num, by rw [HPA2.out]; go_num, by rw [HPB2.out], HR3.out.dr⟩
                case measure => simp [intOf]; omega
              · skip
                have HPA2 : Hid (cntN (xs.take (j + 1)) k = pa + 1) := by show cntN (xs.take (j + 1)) k = _; rw [HPA.out, HT1.out]; rfl
                have HPB2 : Hid (cntN ((xs.take (j + 1)).filter (suspC num den)) k = pb + 1) := by show cntN ((xs.take (j + 1)).filter (suspC num den)) k = _; rw [HPB.out, HT1.out, hsu]; rfl
                have d0 : decide (x.ba * den < num * x.se) = true := by rw [← HSU.out]; exact hsu
                clear hsu HSU HPA HPB HT1 HTC
                go_wp2
                go_quiet (fail)
                go_wp2
                go_roundw
                case rel => exact ⟨j + 1, by omega, by go_num, by rw [HPA2.out]; go_num, by rw [HPB2.out]; go_num, HR3.out.dr⟩
                case measure => simp [intOf]; omega
            · have f1 : (x.fr == (k : Int)) = false := by simpa using t1
              by_cases t2 : x.to_ = (k : Int)
              · have f2 : (x.to_ == (k : Int)) = true := by simpa using t2
                have HT1 : Hid (touch k x = true) := by show touch k x = _; rw [HTC.out, decide_eq_false t1, decide_eq_true t2]; rfl
                clear t1 t2
                cases hsu : suspC num den x
                · skip
                  have HPA2 : Hid (cntN (xs.take (j + 1)) k = pa + 1) := by show cntN (xs.take (j + 1)) k = _; rw [HPA.out, HT1.out]; rfl
                  have HPB2 : Hid (cntN ((xs.take (j + 1)).filter (suspC num den)) k = pb) := by show cntN ((xs.take (j + 1)).filter (suspC num den)) k = _; rw [HPB.out, HT1.out, hsu]; rfl
                  have d0 : decide (x.ba * den < num * x.se) = false := by rw [← HSU.out]; exact hsu
                  clear hsu HSU HPA HPB HT1 HTC
                  go_wp2
                  go_quiet (fail)
                  go_wp2
                  go_roundw
                  case rel => exact ⟨j + 1, by omega, by go_num, by rw [HPA2.out]; go_num, by rw [HPB2.out], HR3.out.dr⟩
                  case measure => simp [intOf]; omega
                · skip
                  have HPA2 : Hid (cntN (xs.take (j + 1)) k = pa + 1) := by show cntN (xs.take (j + 1)) k = _; rw [HPA.out, HT1.out]; rfl
                  have HPB2 : Hid (cntN ((xs.take (j + 1)).filter (suspC num den)) k = pb + 1) := by show cntN ((xs.take (j + 1)).filter (suspC num den)) k = _; rw [HPB.out, HT1.out, hsu]; rfl
                  have d0 : decide (x.ba * den < num * x.se) = true := by rw [← HSU.out]; exact hsu
                  clear hsu HSU HPA HPB HT1 HTC
                  go_wp2
                  go_quiet (fail)
                  go_wp2
                  go_roundw
                  case rel => exact ⟨j + 1, by omega, by go_num, by rw [HPA2.out]; go_num, by rw [HPB2.out]; go_num, HR3.out.dr⟩
                  case measure => simp [intOf]; omega
              · have f2 : (x.to_ == (k : Int)) = false := by simpa using t2
                have HT1 : Hid (touch k x = false) := by show touch k x = _; rw [HTC.out, decide_eq_false t1, decide_eq_false t2]; rfl
                clear t1 t2
                have HPA2 : Hid (cntN (xs.take (j + 1)) k = pa) := by show cntN (xs.take (j + 1)) k = _; rw [HPA.out, HT1.out]; rfl
                have HPB2 : Hid (cntN ((xs.take (j + 1)).filter (suspC num den)) k = pb) := by show cntN ((xs.take (j + 1)).filter (suspC num den)) k = _; rw [HPB.out, HT1.out, Bool.and_false]; rfl
                clear HSU HPA HPB HT1 HTC
                go_wp2
                go_roundw
                case rel => exact ⟨j + 1, by omega, by go_num, by rw [HPA2.out], by rw [HPB2.out], HR3.out⟩
                case measure => simp [intOf]; omega
          · obtain rfl : j = n := by omega
            have HTA : Hid (xs.take j = xs) := List.take_of_length_le (by rw [HL.out]; exact Nat.le_refl _)
            rw [HTA.out]
            have HBL : Hid (blameB xs num den k = (decide (0 < cntN xs k) && decide (cntN (xs.filter (suspC num den)) k = cntN xs k))) := rfl
            have ba := cntN_tlen (xs := xs) (j := j) (by rw [HL.out]; exact hj) k
            have bb := cntN_flen (xs := xs) (j := j) (by rw [HL.out]; exact hj) (suspC num den) k
            have b64 := HN64.out
            rw [HTA.out] at ba bb
            generalize cntN xs k = pa at *
            generalize cntN (xs.filter (suspC num den)) k = pb at *
            clear hjl
            rcases Nat.eq_zero_or_pos pa with h0 | h0
            · have e0 : decide (0 < pa) = false := by simp; omega
              have HB := Lib.hid (HBL.out.trans (by rw [e0, Bool.false_and]))
              rw [HB.out] at HST
              simp only [cond_false, List.append_nil] at HST
              clear HBL HB h0
              go_wp2
              go_roundw
              case rel => exact ⟨k + 1, by omega, by go_num, by show BlRel _ _ _ _ _ _ _ _ _ _; rw [HST.out]; exact hR.out⟩
              case measure => simp [intOf]; omega
            · have e0 : decide (0 < pa) = true := by simp; omega
              by_cases hab : pb = pa
              · have HB := Lib.hid (HBL.out.trans (by rw [e0, decide_eq_true hab, Bool.true_and]))
                rw [HB.out] at HST
                simp only [cond_true] at HST
                subst hab
                clear HBL HB h0
                go_wp2_with (at_builtin; refine wpList_app1 w _ _ _ _ hR.out.2 (by have := HFL.out; omega) _ _ rfl rfl rfl rfl ?_; intro v' w2 hN hB)
                have HR4 : Hid (BlRel lo hi w w2 A j c xs v' (ys ++ [(k : Int)])) := ⟨hR.out.1.below' hB HH.out, hN⟩
                clear hN hB hR
                go_wp2
                go_roundw
                case rel => exact ⟨k + 1, by omega, by go_num, by show BlRel _ _ _ _ _ _ _ _ _ _; rw [HST.out]; exact HR4.out⟩
                case measure => simp [intOf]; omega
              · have HB := Lib.hid (HBL.out.trans (by rw [e0, decide_eq_false hab, Bool.and_false]))
                rw [HB.out] at HST
                simp only [cond_false, List.append_nil] at HST
                have e1 : (pb == pa) = false := by simpa using hab
                have e2 : ((pb : Int) == (pa : Int)) = false := by simp; omega
                clear HBL HB h0
                go_wp2
                go_roundw
                case rel => exact ⟨k + 1, by omega, by go_num, by show BlRel _ _ _ _ _ _ _ _ _ _; rw [HST.out]; exact hR.out⟩
                case measure => simp [intOf]; omega
      · obtain rfl : k = 8 := by omega
        rw [nTo_8] at hR
        clear hlt ho
        go_wp2
        go_ret
        exact hR.out.2.post

end Sp7
end Go.Proofs.Ytdioinibjlgjfaa
