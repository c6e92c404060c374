/-
  Contract of the model's LoopAdd.
-/
import Derived.Test.YtbhafchdcofceaaSp7d
namespace Go.Proofs.Ytbhafchdcofceaa
open Go.RowKit
namespace Sp7
open Il Sl Lc Sp2 Nm

/-- What the loop of LoopAdd holds. -/
def LaRel (lo hi l2 h2 : Nat) (w wr : World) (A : Option Addr) (n c : Nat) (xs : List Cnt) (B : Option Addr) (m d : Nat) (p : List Int) (v : Value) (ys : List Cnt) : Prop :=
  Cnts lo hi wr A n c xs ∧ Ints l2 h2 wr B m d p ∧ (∃ A2 c2, v = .slice A2 ys.length c2 ∧ CntsO w.heap.size wr.heap.size wr A2 ys.length c2 ys) ∧ Below w.heap.size w wr
theorem small_mono {m k : Int} {xs : List Cnt} (h : Small m xs) (hm : m ≤ k) : Small k xs := fun c hc => by
  have := h c hc
  omega
theorem cacc_new2 {w wr : World} (hb : Below w.heap.size w wr) : CAcc w (wr.alloc (.cells #[] 37)) (.slice (some ⟨wr.heap.size, 0, none⟩) 0 0) [] :=
  ⟨wr.heap.size, hb.size, accV_new wr _ _, hb.alloc hb.size _⟩
theorem pair_post {xs : List Cnt} {b : Bool} {w wr : World} {A : Option Addr} {c : Nat} (h : CntsO w.heap.size wr.heap.size wr A xs.length c xs) (hb : Below w.heap.size w wr) : CntsPairPost xs b w (.returned (.tuple #[.slice A xs.length c, .bool b])) wr := ⟨A, c, rfl, h, hb⟩
set_option maxRecDepth 20000 in
set_option maxHeartbeats 1000000 in
theorem LoopAdd (lo hi l2 h3 : Nat) (A B : Option Addr) (n c m d : Nat) (xs : List Cnt) (p : List Int) (bk : Bool) (w : World) (hx : Cnts lo hi w A n c xs) (hp : Ints l2 h3 w B m d p) (hh : hi ≤ w.heap.size) (hh2 : h3 ≤ w.heap.size) :
    Calls Try.prog 10 #[.slice A n c, .slice B m d, .bool bk] w (CntsPairPost (addR xs p bk) (addB xs p bk) w) := by
  have hd1 := hp.2.2.1
  have hd2 := hp.2.1
  have HLP := Lib.hid hp.1
  unfold maxLen at hd1
  have HL := Lib.hid hx.len_
  have HX := Lib.hid hx
  have HP := Lib.hid hp
  have HH := Lib.hid hh
  have HH2 := Lib.hid hh2
  clear hx hp hh hh2
  cases h1 : loopsOk xs
  · have HV : Hid (addR xs p bk = [] ∧ addB xs p bk = false) := by show _ ∧ _; unfold addR addB; rw [h1]; exact ⟨rfl, rfl⟩
    go_enter Try.func10, Try.ntmps10
    go_wp2_with fail
    ((with_reducible refine (LoopsValid _ _ _ _ _ xs _ HX.out).mono ?_); rintro e w1 ⟨rfl, hb⟩)
    rw [h1]
    have HC := Lib.hid (cacc_new2 hb)
    clear h1 hb
    go_wp2
    go_ret2
    rw [HV.out.1, HV.out.2]
    obtain ⟨A2, c2, e, ho, hb⟩ := HC.out.own
    simp only [Value.slice.injEq] at e
    obtain ⟨rfl, _, rfl⟩ := e
    exact pair_post ho hb
  · cases h2 : lpOk p
    · have HV : Hid (addR xs p bk = [] ∧ addB xs p bk = false) := by show _ ∧ _; unfold addR addB; rw [h1, h2]; exact ⟨rfl, rfl⟩
      go_enter Try.func10, Try.ntmps10
      go_wp2_with fail
      ((with_reducible refine (LoopsValid _ _ _ _ _ xs _ HX.out).mono ?_); rintro e w1 ⟨rfl, hb⟩)
      rw [h1]
      have HP1 : Hid (Ints l2 h3 w1 B m d p) := HP.out.below' hb HH2.out
      go_wp2_with fail
      ((with_reducible refine (l12Path _ _ _ _ _ p _ HP1.out).mono ?_); rintro e w2 ⟨rfl, q, rfl⟩)
      rw [h2]
      have HC := Lib.hid (cacc_new2 (below_dr (d := q) hb))
      clear h1 h2 hb
      go_wp2
      go_ret2
      rw [HV.out.1, HV.out.2]
      obtain ⟨A2, c2, e, ho, hb⟩ := HC.out.own
      simp only [Value.slice.injEq] at e
      obtain ⟨rfl, _, rfl⟩ := e
      exact pair_post ho hb
    · have HOK := Lib.hid h1
      have HN64 : Hid (n ≤ 64) := by show n ≤ 64; have := ok_len h1; have := HL.out; omega
      have HPK := Lib.hid (lpOk_iff.1 h2)
      have hm2 : 2 ≤ m := by have := HPK.out.2.2.1; have := HLP.out; omega
      have hm4 : m ≤ 4 := by have := HPK.out.2.2.2; have := HLP.out; omega
      have HAD : Hid (addL xs p bk = addP xs p bk (m - 1)) := by show _ = _; unfold addL; rw [HLP.out]
      have HV : Hid (addR xs p bk = (bif loopsOk (addL xs p bk) then addL xs p bk else xs) ∧ addB xs p bk = loopsOk (addL xs p bk)) := by show _ ∧ _; unfold addR addB; rw [h1, h2]; exact ⟨rfl, rfl⟩
      go_enter Try.func10, Try.ntmps10
      go_wp2_with fail
      ((with_reducible refine (LoopsValid _ _ _ _ _ xs _ HX.out).mono ?_); rintro e w1 ⟨rfl, hb⟩)
      rw [h1]
      have HP1 : Hid (Ints l2 h3 w1 B m d p) := HP.out.below' hb HH2.out
      have HX1 : Hid (Cnts lo hi w1 A n c xs) := HX.out.below' hb HH.out
      have HB1 := Lib.hid hb
      clear hb h1
      go_wp2_with fail
      ((with_reducible refine (l12Path _ _ _ _ _ p _ HP1.out).mono ?_); rintro e w2 ⟨rfl, q, rfl⟩)
      rw [h2]
      clear h2
      have hba : Below (w1.drewN q).heap.size (w1.drewN q) ((w1.drewN q).alloc (.cells #[] 37)) := (Below.refl _ _).alloc (Nat.le_refl _) _
      have HC := Lib.hid (cacc_new2 (below_dr (d := q) HB1.out))
      have HX2 : Hid (Cnts lo hi ((w1.drewN q).alloc (.cells #[] 37)) A n c xs) := (HX1.out.drewN q).below hba (Nat.le_refl _)
      have HP2 : Hid (Ints l2 h3 ((w1.drewN q).alloc (.cells #[] 37)) B m d p) := (HP1.out.drewN q).below hba (Nat.le_refl _)
      clear hba HX1 HP1 HB1
      go_wp2_with (at_builtin; refine wpList_cAppL w _ _ [] HC.out _ _ _ _ _ xs HX2.out (by have := HN64.out; simp; omega) _ _ rfl rfl rfl rfl ?_; intro v3 w3 hN hB)
      rw [List.nil_append] at hN
      obtain ⟨A3, c3, rfl, ho3, hb3⟩ := hN.own
      have HR0 : Hid (LaRel lo hi l2 h3 w w3 A n c xs B m d p (.slice A3 xs.length c3) (addP xs p bk 0)) := ⟨HX2.out.below' hB HH.out, HP2.out.below' hB HH2.out, ⟨A3, c3, rfl, ho3⟩, hb3⟩
      clear hN hB ho3 hb3 HX2 HP2 HC
      go_wp2
      go_loopw [8, 9] (fun v i wr => ∃ k : Nat, k + 1 ≤ m ∧ i = .int .i64 ((k : Int) + 1) ∧ Hid (LaRel lo hi l2 h3 w wr A n c xs B m d p v (addP xs p bk k))) (fun _ i _ => m - (intOf i).toNat)
      case atStart => exact ⟨0, by omega, by simp, HR0.out⟩
      case round =>
        obtain ⟨k, hk, rfl, hR⟩ := hrel
        clear HR0
        by_cases hlt : k + 1 < m
        · obtain ⟨b, off, rfl, _, _, cy⟩ := hR.out.2.1.at_ (k := k) (by omega)
          obtain ⟨b', off', eb, _, _, cx⟩ := hR.out.2.1.at_ (k := k + 1) hlt
          simp only [Option.some.injEq, Addr.mk.injEq, and_true] at eb
          obtain ⟨rfl, rfl⟩ := eb
          have HST : Hid (addP xs p bk (k + 1) = cntOne (addP xs p bk k) (p.getD k 0) (p.getD (k + 1) 0) bk) := rfl
          have HLN := Lib.hid (addP_len HOK.out p bk k (by omega))
          have HSM := Lib.hid (small_mono (addP_small HOK.out p bk k) (show 99 + (k : Int) ≤ 1000 by omega))
          generalize addP xs p bk k = ys at *
          generalize p.getD k 0 = f at *
          generalize p.getD (k + 1) 0 = t at *
          obtain ⟨A2, c2, rfl, ho⟩ := hR.out.2.2.1
          have hk1 : decide ((k : Int) + 1 < (m : Int)) = true := by simp; omega
          have e1 : IntKind.i64.wrap (k : Int) = (k : Int) := IntWalk.i64_in _ (by omega)
          have hkm : k < m := by omega
          have hq1 : (0 : Int) ≤ (k : Int) + 1 := by omega
          have hq2 : (k : Int) + 1 < (m : Int) := by omega
          have e3 : ((k : Int) + 1).toNat = k + 1 := by omega
          have hoD : Hid (Cnts w.heap.size wr.heap.size wr.drew A2 ys.length c2 ys) := ho.cnts
          clear ho
          go_wp2
          go_still_tail 11, (by kernel_rfl)
          change wpList _ _ _ _ _ wr.drew
          go_wp2_with fail
          ((with_reducible refine (l12Count _ _ _ _ _ ys f t bk _ hoD.out (Nat.le_refl _) (by have := HLN.out; omega) HSM.out).mono ?_); rintro e w5 ⟨A5, c5, rfl, ho5, hb5⟩)
          have hbw := below_drew hb5
          rw [← HST.out] at ho5
          have HLEN : Hid ((cntOne ys f t bk).length = (addP xs p bk (k + 1)).length) := by show _ = _; rw [HST.out]
          rw [HLEN.out]
          have HR5 : Hid (LaRel lo hi l2 h3 w w5 A n c xs (some ⟨b, off, none⟩) m d p (.slice A5 (addP xs p bk (k + 1)).length c5) (addP xs p bk (k + 1))) :=
            ⟨hR.out.1.below hbw (Nat.le_refl _), hR.out.2.1.below hbw (Nat.le_refl _), ⟨A5, c5, rfl, ho5.mono (by have := hR.out.2.2.2.size; exact this) (Nat.le_refl _)⟩, hR.out.2.2.2.trans (hbw.mono hR.out.2.2.2.size)⟩
          clear ho5 hb5 hbw hR hoD HST HLEN cx cy
          go_wp2
          go_roundw
          case rel => exact ⟨k + 1, by omega, by go_num, HR5.out⟩
          case measure => simp [intOf]; omega
        · obtain rfl : m = k + 1 := by omega
          have HAD2 : Hid (addP xs p bk k = addL xs p bk) := by show _ = _; rw [HAD.out]; rfl
          rw [HAD2.out] at hR
          have hk1 : decide ((k : Int) + 1 < ((k + 1 : Nat) : Int)) = false := by simp
          obtain ⟨A2, c2, rfl, ho⟩ := hR.out.2.2.1
          have HO := Lib.hid ho
          generalize addL xs p bk = ys at *
          clear ho hlt
          cases h3 : loopsOk ys
          · have HV2 : Hid (addR xs p bk = xs ∧ addB xs p bk = false) := by show _ ∧ _; rw [HV.out.1, HV.out.2, h3]; exact ⟨rfl, rfl⟩
            go_wp2_with fail
            ((with_reducible refine (LoopsValid _ _ _ _ _ ys _ HO.out.cnts).mono ?_); rintro e w6 ⟨rfl, hb⟩)
            rw [h3]
            have hb2 := hR.out.2.2.2.trans (hb.mono hR.out.2.2.2.size)
            have hba : Below w6.heap.size w6 (w6.alloc (.cells #[] 37)) := (Below.refl _ _).alloc (Nat.le_refl _) _
            have HC := Lib.hid (cacc_new2 hb2)
            have HX2 := Lib.hid ((hR.out.1.below hb (Nat.le_refl _)).below hba (Nat.le_refl _))
            clear hb hb2 hba hR HO h3
            go_wp2_with (at_builtin; refine wpList_cAppL w _ _ [] HC.out _ _ _ _ _ xs HX2.out (by have := HN64.out; simp; omega) _ _ rfl rfl rfl rfl ?_; intro v7 w7 hN hB)
            rw [List.nil_append] at hN
            obtain ⟨A7, c7, rfl, ho7, hb7⟩ := hN.own
            have HO7 := Lib.hid ho7
            have HB7 := Lib.hid hb7
            clear hN hB ho7 hb7 HX2 HC
            go_wp2
            go_ret2
            rw [HV2.out.1, HV2.out.2]
            exact pair_post HO7.out HB7.out
          · have HV2 : Hid (addR xs p bk = ys ∧ addB xs p bk = true) := by show _ ∧ _; rw [HV.out.1, HV.out.2, h3]; exact ⟨rfl, rfl⟩
            go_wp2_with fail
            ((with_reducible refine (LoopsValid _ _ _ _ _ ys _ HO.out.cnts).mono ?_); rintro e w6 ⟨rfl, hb⟩)
            rw [h3]
            have HB2 := Lib.hid (hR.out.2.2.2.trans (hb.mono hR.out.2.2.2.size))
            have HO2 := Lib.hid ((HO.out.below hb (Nat.le_refl _)).mono (Nat.le_refl _) hb.size)
            clear hb hR HO h3
            go_wp2
            go_ret2
            rw [HV2.out.1, HV2.out.2]
            exact pair_post HO2.out HB2.out

end Sp7
end Go.Proofs.Ytbhafchdcofceaa
