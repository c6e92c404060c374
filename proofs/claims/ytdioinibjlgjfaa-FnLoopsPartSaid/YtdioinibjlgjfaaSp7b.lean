/-
  Contracts of the model's chapter 12: parts, suspects, rates.
-/
import Derived.Test.YtdioinibjlgjfaaSp7a
namespace Go.Proofs.Ytdioinibjlgjfaa
open Go.RowKit
namespace Sp7
open Il Sl Lc Sp2 Nm

theorem l6P (x y : Int) (w : World) : Calls Try.prog 59 #[.int .i64 x, .int .i64 0, .int .i64 y] w fun e w' => e = .returned (.bool (decide (0 ≤ x ∧ x ≤ y))) ∧ w = w' := l6In x 0 y w
theorem l12Ok (lo hi : Nat) (A : Option Addr) (n c : Nat) (xs : List Cnt) (num den : Int) (w : World) (hx : Cnts lo hi w A n c xs) :
    Calls Try.prog 63 #[.slice A n c, .int .i64 num, .int .i64 den] w (BoolB (loopsOk xs && partOk num den) w) := by
  have HX := Lib.hid hx
  clear hx
  cases h1 : loopsOk xs
  · go_enter Try.func63, Try.ntmps63
    go_wp2_with fail
    ((with_reducible refine (LoopsValid _ _ _ _ _ xs _ HX.out).mono ?_); rintro e w1 ⟨rfl, hb⟩)
    rw [h1]
    clear h1
    go_wp2
    go_ret
    exact ⟨rfl, hb⟩
  · cases h2 : decide (1 ≤ den ∧ den ≤ 99)
    · have HV : Hid ((true && partOk num den) = false) := by show (true && partOk num den) = false; unfold partOk; rw [h2]; rfl
      rw [HV.out]
      go_enter Try.func63, Try.ntmps63
      go_wp2_with fail
      ((with_reducible refine (LoopsValid _ _ _ _ _ xs _ HX.out).mono ?_); rintro e w1 ⟨rfl, hb⟩)
      rw [h1]
      clear h1
      go_wp2_with fail
      ((with_reducible refine (l6S den _).mono ?_); rintro e w2 ⟨rfl, rfl⟩)
      rw [show seB den = false from h2]
      clear h2
      go_wp2
      go_ret
      exact ⟨rfl, hb⟩
    · have HV : Hid ((true && partOk num den) = baB num den) := by show (true && partOk num den) = _; unfold partOk; rw [h2]; rfl
      rw [HV.out]
      go_enter Try.func63, Try.ntmps63
      go_wp2_with fail
      ((with_reducible refine (LoopsValid _ _ _ _ _ xs _ HX.out).mono ?_); rintro e w1 ⟨rfl, hb⟩)
      rw [h1]
      clear h1
      go_wp2_with fail
      ((with_reducible refine (l6S den _).mono ?_); rintro e w2 ⟨rfl, rfl⟩)
      rw [show seB den = true from h2]
      clear h2
      go_wp2_with fail
      ((with_reducible refine (l6B num den _).mono ?_); rintro e w3 ⟨rfl, rfl⟩)
      go_wp2
      go_ret
      exact ⟨rfl, hb⟩

def SuRel (lo hi : Nat) (w wr : World) (A : Option Addr) (n c : Nat) (xs : List Cnt) (v : Value) (ys : List Cnt) : Prop := Cnts lo hi wr A n c xs ∧ CAcc w wr v ys
theorem SuRel.c1 {lo hi : Nat} {w wr : World} {A : Option Addr} {n c : Nat} {xs : List Cnt} {v : Value} {ys : List Cnt} (h : SuRel lo hi w wr A n c xs v ys) : Cnts lo hi wr A n c xs := h.1
theorem SuRel.below {lo hi : Nat} {w wr w2 : World} {A : Option Addr} {n c : Nat} {xs : List Cnt} {v : Value} {ys : List Cnt} (h : SuRel lo hi w wr A n c xs v ys) (hb : Below wr.heap.size wr w2) : SuRel lo hi w w2 A n c xs v ys :=
  ⟨h.1.below hb (Nat.le_refl _), h.2.step hb (Nat.le_refl _)⟩
theorem SuRel.dr {lo hi d : Nat} {w wr : World} {A : Option Addr} {n c : Nat} {xs : List Cnt} {v : Value} {ys : List Cnt} (h : SuRel lo hi w wr A n c xs v ys) : SuRel lo hi w (wr.drewN d) A n c xs v ys := ⟨h.1, h.2.drewN d⟩

set_option maxRecDepth 20000 in
set_option maxHeartbeats 1000000 in
theorem LoopSuspects (lo hi : Nat) (A : Option Addr) (n c : Nat) (xs : List Cnt) (num den : Int) (w : World) (hx : Cnts lo hi w A n c xs) (hh : hi ≤ w.heap.size) :
    Calls Try.prog 30 #[.slice A n c, .int .i64 num, .int .i64 den] w (CntsPost (suspL xs num den) w) := by
  have hc1 := hx.max_
  have hc2 := hx.cap_
  have HL := Lib.hid hx.len_
  have HH := Lib.hid hh
  have HX0 : Hid (SuRel lo hi w (w.alloc (.cells #[] 39)) A n c xs (.slice (some ⟨w.heap.size, 0, none⟩) 0 0) []) := ⟨hx.below ((Below.refl _ _).alloc (Nat.le_refl _) _) (Nat.le_refl _), cacc_new w⟩
  clear hx hh
  cases ho : (loopsOk xs && partOk num den)
  · have HV : Hid (suspL xs num den = []) := by show suspL xs num den = _; unfold suspL; rw [ho]; rfl
    rw [HV.out]
    go_enter Try.func30, Try.ntmps30
    go_wp2
    go_loopw [7, 8] (fun v i wr => i = .int .i64 0 ∧ Hid (SuRel lo hi w wr A n c xs v [])) (fun _ _ _ => 0)
    case atStart => exact ⟨rfl, HX0.out⟩
    case round =>
      obtain ⟨rfl, hR⟩ := hrel
      clear HX0
      rcases Nat.eq_zero_or_pos n with h0 | h0
      · have e0 : decide ((0 : Int) < (n : Int)) = false := by simp; omega
        have e0' : decide (0 < n) = false := by simp; omega
        clear h0
        go_wp2
        go_ret
        exact hR.out.2.post
      · have e0 : decide ((0 : Int) < (n : Int)) = true := by simp; omega
        have e0' : decide (0 < n) = true := by simp; omega
        go_wp2_with fail
        ((with_reducible refine (l12Ok _ _ _ _ _ xs num den _ hR.out.c1).mono ?_); rintro e w1 ⟨rfl, hb⟩)
        rw [ho]
        have HR2 := Lib.hid (hR.out.below hb)
        clear ho hb hR
        go_wp2
        go_ret
        exact HR2.out.2.post
  · have ho2 := ho
    rw [Bool.and_eq_true] at ho2
    have HOK := Lib.hid ho2.1
    have HPO := Lib.hid ho2.2
    have HN64 : Hid (n ≤ 64) := by show n ≤ 64; have := ok_len ho2.1; have := HL.out; omega
    have HV : Hid (suspL xs num den = xs.filter (suspC num den)) := by show suspL xs num den = _; unfold suspL; rw [ho]; rfl
    rw [HV.out]
    clear ho2
    go_enter Try.func30, Try.ntmps30
    go_wp2
    go_loopw [7, 8] (fun v i wr => ∃ k : Nat, k ≤ n ∧ i = .int .i64 k ∧ Hid (SuRel lo hi w wr A n c xs v ((xs.take k).filter (suspC num den)))) (fun _ i _ => n - (intOf i).toNat)
    case atStart => exact ⟨0, Nat.zero_le _, rfl, HX0.out⟩
    case round =>
      obtain ⟨k, hk, rfl, hR⟩ := hrel
      clear HX0
      by_cases hlt : k < n
      · have HST := Lib.hid (filter_take (xs := xs) (k := k) (by rw [HL.out]; exact hlt) (suspC num den))
        have HFL := Lib.hid (filter_len (xs := xs) (k := k) (by rw [HL.out]; exact hk) (suspC num den))
        obtain ⟨q1, q2⟩ := susp_bd (c := cntAt xs k) (ok_ix HOK.out (k := k) (by rw [HL.out]; exact hlt)) HPO.out
        have HSU : Hid (suspC num den (cntAt xs k) = decide ((cntAt xs k).ba * den < num * (cntAt xs k).se)) := rfl
        generalize (xs.take k).filter (suspC num den) = ys at *
        go_wp2_with fail
        ((with_reducible refine (l12Ok _ _ _ _ _ xs num den _ hR.out.c1).mono ?_); rintro e w1 ⟨rfl, hb⟩)
        rw [ho]
        have HR2 := Lib.hid (hR.out.below hb)
        clear hb hR
        obtain ⟨b, off, rfl, _, _, hbz, c0, c1, c2, c3⟩ := HR2.out.1.at_ hlt
        generalize cntAt xs k = x at *
        cases hsu : suspC num den x
        · have d0 : decide (x.ba * den < num * x.se) = false := by rw [← HSU.out]; exact hsu
          rw [hsu] at HST
          simp only [cond_false, List.append_nil] at HST
          clear HSU hsu
          go_wp2
          go_quiet (fail)
          go_wp2
          go_roundw
          case rel => exact ⟨k + 1, by omega, by go_num, by show SuRel _ _ _ _ _ _ _ _ _ _; rw [HST.out]; exact HR2.out.dr⟩
          case measure => simp [intOf]; omega
        · have d0 : decide (x.ba * den < num * x.se) = true := by rw [← HSU.out]; exact hsu
          rw [hsu] at HST
          simp only [cond_true] at HST
          clear HSU hsu
          go_wp2
          go_quiet (fail)
          have HR3 : Hid (SuRel lo hi w (w1.drewN nq) _ n c xs _ ys) := HR2.out.dr
          go_wp2_with (at_builtin; refine wpList_cApp w _ _ _ HR3.out.2 x (by have := HFL.out; have := HN64.out; omega) _ _ rfl rfl rfl rfl ?_; intro v' w2 hN hB)
          have HR4 : Hid (SuRel lo hi w w2 (some ⟨b, off, none⟩) n c xs v' (ys ++ [x])) := ⟨HR3.out.1.below' hB HH.out, hN⟩
          clear hN hB HR3 HR2 c0 c1 c2 c3
          go_wp2
          go_roundw
          case rel => exact ⟨k + 1, by omega, by go_num, by show SuRel _ _ _ _ _ _ _ _ _ _; rw [HST.out]; exact HR4.out⟩
          case measure => simp [intOf]; omega
      · obtain rfl : k = n := by omega
        have HF : Hid ((xs.take k).filter (suspC num den) = xs.filter (suspC num den)) := by show (xs.take k).filter _ = _; rw [List.take_of_length_le (by rw [HL.out]; exact Nat.le_refl _)]
        rw [HF.out] at hR
        clear hlt ho
        go_wp2
        go_ret
        exact hR.out.2.post

end Sp7
end Go.Proofs.Ytdioinibjlgjfaa
