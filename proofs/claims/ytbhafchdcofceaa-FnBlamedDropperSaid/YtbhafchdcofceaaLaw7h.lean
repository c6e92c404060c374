/-
  The law of chapter 12 on who drops everything: it returns true and writes nothing that was there.
-/
import Derived.Test.YtbhafchdcofceaaLaw7g
import Derived.Test.YtbhafchdcofceaaLaw7d
namespace Go.Proofs.Ytbhafchdcofceaa
open Go.RowKit
namespace Law7
open Il Sl Lc Rd LawB Im7 Hc

theorem cntAt_map {xs : List Cnt} {f : Cnt → Cnt} {k : Nat} (h : k < xs.length) : cntAt (xs.map f) k = f (cntAt xs k) := by
  rw [cntAt_eq h, cntAt_eq (by rw [List.length_map]; exact h), List.getElem_map]
theorem any_take {xs : List Cnt} {k : Nat} (h : k < xs.length) (p : Cnt → Bool) : (xs.take (k + 1)).any p = ((xs.take k).any p || p (cntAt xs k)) := by
  rw [take_cnt h, List.any_append]
  simp
theorem drop_wf {xs : List Cnt} (h : loopsOk xs = true) (n : Int) : ∀ y ∈ xs.map (dropC n), wf y.fr ∧ wf y.to_ := fun y hy => by
  have := okC_iff.1 (ok_at (drop_ok n h) hy)
  exact ⟨wf_small (by omega), wf_small (by omega)⟩
theorem hasI_mem {xs : List Int} {x : Int} : hasI xs x = true ↔ x ∈ xs := by
  unfold hasI
  exact List.contains_iff_mem
theorem not_blamed {xs : List Cnt} (h : loopsOk xs = true) {n m : Int} {c : Cnt} (hc : c ∈ xs) (h1 : touch m c = true) (h2 : touch n c = false) : hasI (blamedL (xs.map (dropC n)) 1 1) m = false := by
  cases hb : hasI (blamedL (xs.map (dropC n)) 1 1) m
  · rfl
  · have := ((drop_blame h n m).1 (hasI_mem.1 hb)).2.2 c hc h1
    rw [h2] at this; cases this
theorem is_blamed {xs : List Cnt} (h : loopsOk xs = true) {n : Int} (hn : 0 ≤ n ∧ n ≤ 7) : hasI (blamedL (xs.map (dropC n)) 1 1) n = xs.any (touch n) := by
  apply Bool.eq_iff_iff.2
  rw [hasI_mem, drop_blame h n n, List.any_eq_true]
  constructor
  · rintro ⟨_, h2, _⟩; exact h2
  · intro h2
    refine ⟨?_, h2, fun c _ hc => hc⟩
    unfold names
    obtain rfl | rfl | rfl | rfl | rfl | rfl | rfl | rfl : n = 0 ∨ n = 1 ∨ n = 2 ∨ n = 3 ∨ n = 4 ∨ n = 5 ∨ n = 6 ∨ n = 7 := by omega
    all_goals decide
/-- What the second loop holds. -/
def B2Rel (w wr : World) (k1 k2 k3 : Nat) (A B : Option Addr) (n c d : Nat) (zs : List Cnt) (bs : List Int) : Prop :=
  Cnts k1 k2 wr A n c zs ∧ Ints w.heap.size k3 wr B bs.length d bs ∧ Below w.heap.size w wr
theorem B2Rel.c {w wr : World} {k1 k2 k3 : Nat} {A B : Option Addr} {n c d : Nat} {zs : List Cnt} {bs : List Int} (h : B2Rel w wr k1 k2 k3 A B n c d zs bs) : Cnts k1 k2 wr A n c zs := h.1
theorem B2Rel.i {w wr : World} {k1 k2 k3 : Nat} {A B : Option Addr} {n c d : Nat} {zs : List Cnt} {bs : List Int} (h : B2Rel w wr k1 k2 k3 A B n c d zs bs) : Ints w.heap.size k3 wr B bs.length d bs := h.2.1
theorem B2Rel.b {w wr : World} {k1 k2 k3 : Nat} {A B : Option Addr} {n c d : Nat} {zs : List Cnt} {bs : List Int} (h : B2Rel w wr k1 k2 k3 A B n c d zs bs) : Below w.heap.size w wr := h.2.2
/-- What the first loop holds. -/
def BdRel (w w1 w2 w5 wr : World) (AR : Option Addr) (cR : Nat) (ys zs : List Cnt) (v : Value) : Prop :=
  Cnts w1.heap.size w2.heap.size wr AR ys.length cR ys ∧ CAcc w5 wr v zs ∧ Below w.heap.size w wr ∧ w2.heap.size ≤ w5.heap.size ∧ w.heap.size ≤ w5.heap.size
theorem BdRel.r {w w1 w2 w5 wr : World} {AR : Option Addr} {cR : Nat} {ys zs : List Cnt} {v : Value} (h : BdRel w w1 w2 w5 wr AR cR ys zs v) : Cnts w1.heap.size w2.heap.size wr AR ys.length cR ys := h.1
theorem BdRel.acc {w w1 w2 w5 wr : World} {AR : Option Addr} {cR : Nat} {ys zs : List Cnt} {v : Value} (h : BdRel w w1 w2 w5 wr AR cR ys zs v) : CAcc w5 wr v zs := h.2.1
theorem BdRel.app {w w1 w2 w5 wr w6 : World} {AR : Option Addr} {cR : Nat} {ys zs zs' : List Cnt} {v v' : Value} (h : BdRel w w1 w2 w5 wr AR cR ys zs v) (hN : CAcc w5 w6 v' zs') (hB : Below w5.heap.size wr w6) : BdRel w w1 w2 w5 w6 AR cR ys zs' v' :=
  ⟨h.1.below' hB h.2.2.2.1, hN, h.2.2.1.trans (hB.mono h.2.2.2.2), h.2.2.2⟩
set_option maxRecDepth 20000 in
set_option maxHeartbeats 2000000 in
theorem fnBlamedDropper (A : Option Addr) (n c : Nat) (B : Option Addr) (m d : Nat) (w : World) (h : CodeIs w A n c) :
    Calls Try.prog 5 #[.slice A n c, .slice B m d] w (TruePost w) := by
  have HC := Lib.hid h
  clear h
  by_cases hn : 1048576 < n
  · have hd : decide ((1048576 : Int) < (n : Int)) = true := by simp; omega
    go_enter Try.func5, Try.ntmps5
    go_wp2
    go_ret
    exact ⟨rfl, Below.refl _ _⟩
  have hd : decide ((1048576 : Int) < (n : Int)) = false := by simp; omega
  by_cases hm : 1048576 < m
  · have hd2 : decide ((1048576 : Int) < (m : Int)) = true := by simp; omega
    go_enter Try.func5, Try.ntmps5
    go_wp2
    go_ret
    exact ⟨rfl, Below.refl _ _⟩
  have hd2 : decide ((1048576 : Int) < (m : Int)) = false := by simp; omega
  go_enter Try.func5, Try.ntmps5
  go_wp2_with fail
  ((with_reducible refine (DrawLoopAdd _ _ _ _ HC.out).mono ?_); rintro e w1 ⟨A1, c1, xs, B1, d1, p, bk, rfl, hti, hl, hx, hpl, hpx, hp, hb⟩)
  have HX := Lib.hid hx.cnts
  have HP := Lib.hid hp
  have HB := Lib.hid hb
  have hS1 := hb.size
  clear hti hx hb HC hpx hp
  go_wp2_with fail
  ((with_reducible refine (Im7.LoopAdd _ _ _ _ _ _ _ _ _ _ xs p bk _ HX.out HP.out (Nat.le_refl _) (Nat.le_refl _)).mono ?_); rintro e w2 ⟨AR, cR, rfl, ho, hb⟩)
  have HR := Lib.hid ho.cnts
  replace HX := Lib.hid (HX.out.below hb (Nat.le_refl _))
  replace HP := Lib.hid (HP.out.below hb (Nat.le_refl _))
  replace HB := Lib.hid (HB.out.trans (hb.mono HB.out.size))
  have hS2 := hb.size
  clear ho hb
  go_wp2_with fail
  ((with_reducible refine (Sp7.LoopAdd _ _ _ _ _ _ _ _ _ _ xs p bk _ HX.out HP.out (by omega) (by omega)).mono ?_); rintro e w3 ⟨AT, cT, rfl, ho, hb⟩)
  have HT := Lib.hid ho.cnts
  replace HR := Lib.hid (HR.out.below hb (Nat.le_refl _))
  replace HX := Lib.hid (HX.out.below hb (Nat.le_refl _))
  replace HP := Lib.hid (HP.out.below hb (Nat.le_refl _))
  replace HB := Lib.hid (HB.out.trans (hb.mono HB.out.size))
  have hS3 := hb.size
  clear ho hb
  cases hok : addB xs p bk
  · have _h := trivial
    go_wp2_with fail
    ((with_reducible refine (sameCounts _ _ _ _ _ _ _ _ _ _ _ HR.out HT.out).mono ?_); rintro e w4 ⟨rfl, hb⟩)
    replace HR := Lib.hid (HR.out.below hb (Nat.le_refl _))
    replace HT := Lib.hid (HT.out.below hb (Nat.le_refl _))
    replace HB := Lib.hid (HB.out.trans (hb.mono HB.out.size))
    clear hb hok
    go_wp2_with fail
    ((with_reducible refine (sameCounts _ _ _ _ _ _ _ _ _ _ _ HR.out HT.out).mono ?_); rintro e w5 ⟨rfl, hb⟩)
    replace HB := Lib.hid (HB.out.trans (hb.mono HB.out.size))
    clear hb
    go_wp2
    go_ret
    exact ⟨rfl, HB.out⟩
  · have _h := trivial
    go_wp2_with fail
    ((with_reducible refine (sameCounts _ _ _ _ _ _ _ _ _ _ _ HR.out HT.out).mono ?_); rintro e w4 ⟨rfl, hb⟩)
    replace HR := Lib.hid (HR.out.below hb (Nat.le_refl _))
    replace HX := Lib.hid (HX.out.below hb (Nat.le_refl _))
    replace HP := Lib.hid (HP.out.below hb (Nat.le_refl _))
    replace HB := Lib.hid (HB.out.trans (hb.mono HB.out.size))
    have hS4 := hb.size
    have HOK := Lib.hid hok
    clear hb hok HT
    have HF := Lib.hid (addB_iff.1 HOK.out)
    have HE := Lib.hid (addR_ok HOK.out)
    rw [HE.out] at HR ⊢
    have HYO := Lib.hid HF.out.2.2
    generalize addL xs p bk = ys at *
    have hyl : ys.length ≤ 64 := ok_len HYO.out
    have ha : 0 ≤ (m : Int) % 4 ∧ (m : Int) % 4 ≤ 7 := by omega
    have HHAS := Lib.hid (is_blamed HYO.out ha)
    have HNB : Hid (∀ k, k < ys.length → touch ((m : Int) % 4) (cntAt ys k) = false → hasI (blamedL (ys.map (dropC ((m : Int) % 4))) 1 1) (cntAt ys k).fr = false ∧ hasI (blamedL (ys.map (dropC ((m : Int) % 4))) 1 1) (cntAt ys k).to_ = false) := fun k hk h2 =>
      ⟨not_blamed HYO.out (cntAt_mem hk) (by unfold touch; simp) h2, not_blamed HYO.out (cntAt_mem hk) (by unfold touch; simp) h2⟩
    have HDW := Lib.hid (drop_wf HYO.out ((m : Int) % 4))
    have hRm := HR.out.max_
    have hRc := HR.out.cap_
    have HR0 : Hid (BdRel w w1 w2 w4 (w4.alloc (.cells #[] 37)) AR cR ys ((ys.take 0).map (dropC ((m : Int) % 4))) (.slice (some ⟨w4.heap.size, 0, none⟩) 0 0)) :=
      ⟨HR.out.below ((Below.refl _ _).alloc (Nat.le_refl _) _) (Nat.le_refl _), cacc_new w4, HB.out.alloc HB.out.size _, by omega, HB.out.size⟩
    clear HX HR HP HB HF HE HOK
    go_wp2
    generalize (m : Int) % 4 = nn at *
    go_loopw [13, 14] (fun v i wr => ∃ k : Nat, k ≤ ys.length ∧ i = .int .i64 k ∧ Hid (BdRel w w1 w2 w4 wr AR cR ys ((ys.take k).map (dropC nn)) v)) (fun _ i _ => ys.length - (intOf i).toNat)
    case atStart => exact ⟨0, Nat.zero_le _, rfl, HR0.out⟩
    case round =>
      obtain ⟨k, hk, rfl, hR⟩ := hrel
      clear HR0
      by_cases hlt : k < ys.length
      · have HST : Hid ((ys.take (k + 1)).map (dropC nn) = (ys.take k).map (dropC nn) ++ [dropC nn (cntAt ys k)]) := by
          show _ = _
          rw [take_cnt hlt, List.map_append]
          rfl
        have hkl : ((ys.take k).map (dropC nn)).length ≤ 64 := by rw [List.length_map, List.length_take]; omega
        obtain ⟨b, off, rfl, _, _, _, m0, m1, m2, m3⟩ := hR.out.r.at_ hlt
        generalize (ys.take k).map (dropC nn) = zs at *
        generalize cntAt ys k = x at *
        by_cases h1 : x.fr = nn
        · have e1 : (x.fr == nn) = true := by simpa using h1
          have HDC : Hid (dropC nn x = ⟨x.fr, x.to_, x.se, 0⟩) := by show _ = _; unfold dropC touch; simp [h1]
          have hBL : Below wr.heap.size wr (wr.alloc (.cells #[.int .i64 x.fr, .int .i64 x.to_, .int .i64 x.se, .int .i64 (0)] 37)) := (Below.refl _ _).alloc (Nat.le_refl _) _
          have HAC := Lib.hid (hR.out.acc.step hBL (Nat.le_refl _))
          have HRB := Lib.hid (hR.out.app (hR.out.acc.step hBL (Nat.le_refl _)) (hBL.mono (by have := hR.out.acc.below.size; omega)))
          have HSZ : Hid ((wr.alloc (.cells #[.int .i64 x.fr, .int .i64 x.to_, .int .i64 x.se, .int .i64 (0)] 37)).heap.size = wr.heap.size + 1) := by show _ = _; simp
          clear hBL h1
          go_wp2_with (at_builtin; refine wpList_cApp w4 (wr.alloc (.cells #[.int .i64 x.fr, .int .i64 x.to_, .int .i64 x.se, .int .i64 (0)] 37)) _ _ HAC.out ⟨x.fr, x.to_, x.se, 0⟩ (by omega) (.tmp 96) (.tmp 98) rfl rfl rfl (by rw [HSZ.out]; rfl) ?_; intro v' w6 hN hB)
          rw [← HDC.out] at hN
          have HR2 := Lib.hid (HRB.out.app hN hB)
          clear hN hB HRB HAC HDC HSZ hR
          go_wp2
          go_roundw
          case rel => exact ⟨k + 1, by omega, by go_num, by show BdRel _ _ _ _ _ _ _ _ _ _; rw [HST.out]; exact HR2.out⟩
          case measure => simp [intOf]; omega
        · have e1 : (x.fr == nn) = false := by simpa using h1
          by_cases h2 : x.to_ = nn
          · have e2 : (x.to_ == nn) = true := by simpa using h2
            have HDC : Hid (dropC nn x = ⟨x.fr, x.to_, x.se, 0⟩) := by show _ = _; unfold dropC touch; simp [h2]
            have hBL : Below wr.heap.size wr (wr.alloc (.cells #[.int .i64 x.fr, .int .i64 x.to_, .int .i64 x.se, .int .i64 (0)] 37)) := (Below.refl _ _).alloc (Nat.le_refl _) _
            have HAC := Lib.hid (hR.out.acc.step hBL (Nat.le_refl _))
            have HRB := Lib.hid (hR.out.app (hR.out.acc.step hBL (Nat.le_refl _)) (hBL.mono (by have := hR.out.acc.below.size; omega)))
            have HSZ : Hid ((wr.alloc (.cells #[.int .i64 x.fr, .int .i64 x.to_, .int .i64 x.se, .int .i64 (0)] 37)).heap.size = wr.heap.size + 1) := by show _ = _; simp
            clear hBL h1 h2
            go_wp2_with (at_builtin; refine wpList_cApp w4 (wr.alloc (.cells #[.int .i64 x.fr, .int .i64 x.to_, .int .i64 x.se, .int .i64 (0)] 37)) _ _ HAC.out ⟨x.fr, x.to_, x.se, 0⟩ (by omega) (.tmp 96) (.tmp 98) rfl rfl rfl (by rw [HSZ.out]; rfl) ?_; intro v' w6 hN hB)
            rw [← HDC.out] at hN
            have HR2 := Lib.hid (HRB.out.app hN hB)
            clear hN hB HRB HAC HDC HSZ hR
            go_wp2
            go_roundw
            case rel => exact ⟨k + 1, by omega, by go_num, by show BdRel _ _ _ _ _ _ _ _ _ _; rw [HST.out]; exact HR2.out⟩
            case measure => simp [intOf]; omega
          · have e2 : (x.to_ == nn) = false := by simpa using h2
            have HDC : Hid (dropC nn x = ⟨x.fr, x.to_, x.se, x.se⟩) := by show _ = _; unfold dropC touch; simp [h1, h2]
            have hBL : Below wr.heap.size wr (wr.alloc (.cells #[.int .i64 x.fr, .int .i64 x.to_, .int .i64 x.se, .int .i64 (x.se)] 37)) := (Below.refl _ _).alloc (Nat.le_refl _) _
            have HAC := Lib.hid (hR.out.acc.step hBL (Nat.le_refl _))
            have HRB := Lib.hid (hR.out.app (hR.out.acc.step hBL (Nat.le_refl _)) (hBL.mono (by have := hR.out.acc.below.size; omega)))
            have HSZ : Hid ((wr.alloc (.cells #[.int .i64 x.fr, .int .i64 x.to_, .int .i64 x.se, .int .i64 (x.se)] 37)).heap.size = wr.heap.size + 1) := by show _ = _; simp
            clear hBL h1 h2
            go_wp2_with (at_builtin; refine wpList_cApp w4 (wr.alloc (.cells #[.int .i64 x.fr, .int .i64 x.to_, .int .i64 x.se, .int .i64 (x.se)] 37)) _ _ HAC.out ⟨x.fr, x.to_, x.se, x.se⟩ (by omega) (.tmp 96) (.tmp 98) rfl rfl rfl (by rw [HSZ.out]; rfl) ?_; intro v' w6 hN hB)
            rw [← HDC.out] at hN
            have HR2 := Lib.hid (HRB.out.app hN hB)
            clear hN hB HRB HAC HDC HSZ hR
            go_wp2
            go_roundw
            case rel => exact ⟨k + 1, by omega, by go_num, by show BdRel _ _ _ _ _ _ _ _ _ _; rw [HST.out]; exact HR2.out⟩
            case measure => simp [intOf]; omega
      · obtain rfl : k = ys.length := by omega
        rw [List.take_length] at hR
        obtain ⟨AX, cX, rfl, ho, _⟩ := hR.out.acc.own
        have HXL : Hid ((ys.map (dropC nn)).length = ys.length) := List.length_map ..
        have HO : Hid (Cnts w4.heap.size wr.heap.size wr AX ys.length cX (ys.map (dropC nn))) := by have h := ho.cnts; rw [HXL.out] at h; exact h
        have HB := Lib.hid hR.out.2.2.1
        have hxl : ys.length ≤ 10000000 := by omega
        clear ho hR hlt
        go_wp2_with fail
        ((with_reducible refine (Im7.LoopBlamed _ _ _ _ _ (ys.map (dropC nn)) 1 1 _ HO.out (Nat.le_refl _) HDW.out hxl).mono ?_); rintro e w6 ⟨AB, cB, rfl, h8, hb⟩)
        have HAT : Hid (∀ k, k < ys.length → cntAt (ys.map (dropC nn)) k = dropC nn (cntAt ys k)) := fun k hk => cntAt_map hk
        generalize blamedL (ys.map (dropC nn)) 1 1 = bs at *
        have hzc := HO.out.max_
        have hzd := HO.out.cap_
        have HQ : Hid (B2Rel w w6 w4.heap.size wr.heap.size w6.heap.size AX AB ys.length cX cB (ys.map (dropC nn)) bs) := ⟨HO.out.below hb (Nat.le_refl _), h8.ints.mono HB.out.size (Nat.le_refl _), HB.out.trans (hb.mono HB.out.size)⟩
        clear h8 hb HO HB
        generalize hk6 : w6.heap.size = k6 at *
        clear hk6
        generalize ys.map (dropC nn) = zs at *
        rw [HXL.out]
        go_wp2
        go_loopw [17, 18] (fun h i wr2 => ∃ k : Nat, k ≤ ys.length ∧ i = .int .i64 k ∧ h = .bool ((ys.take k).any (touch nn)) ∧ Hid (B2Rel w wr2 w4.heap.size wr.heap.size k6 AX AB ys.length cX cB zs bs)) (fun _ i _ => ys.length - (intOf i).toNat)
        case atStart => exact ⟨0, Nat.zero_le _, rfl, rfl, HQ⟩
        case round =>
          obtain ⟨k, hk, rfl, rfl, hR⟩ := hrel
          clear HQ
          by_cases hlt : k < ys.length
          · have HST := Lib.hid (any_take hlt (touch nn))
            have HNK := Lib.hid (HNB.out k hlt)
            obtain ⟨b, off, rfl, _, _, _, m0, m1, _, _⟩ := hR.out.c.at_ hlt
            rw [HAT.out k hlt] at m0 m1
            generalize cntAt ys k = x at *
            change _ = some (Value.int .i64 x.fr) at m0
            change _ = some (Value.int .i64 x.to_) at m1
            generalize (ys.take k).any (touch nn) = g at *
            have HTO : Hid (touch nn x = (decide (x.fr = nn) || decide (x.to_ = nn))) := rfl
            by_cases h1 : x.fr = nn
            · have e1 : (x.fr == nn) = true := by simpa using h1
              have e1' : (x.fr != nn) = false := by simpa using h1
              have HG : Hid ((ys.take (k + 1)).any (touch nn) = true) := by show (ys.take (k + 1)).any (touch nn) = _; rw [HST.out, HTO.out, decide_eq_true h1]; simp
              clear h1 HST HNK HTO
              cases g
              all_goals
                go_wp2
                go_roundw
                case rel => exact ⟨k + 1, by omega, by go_num, congrArg Value.bool HG.out.symm, hR⟩
                case measure => simp [intOf]; omega
            · have e1 : (x.fr == nn) = false := by simpa using h1
              have e1' : (x.fr != nn) = true := by simpa using h1
              by_cases h2 : x.to_ = nn
              · have e2 : (x.to_ == nn) = true := by simpa using h2
                have e2' : (x.to_ != nn) = false := by simpa using h2
                have HG : Hid ((ys.take (k + 1)).any (touch nn) = true) := by show (ys.take (k + 1)).any (touch nn) = _; rw [HST.out, HTO.out, decide_eq_true h2]; simp
                clear h1 h2 HST HNK HTO
                cases g
                all_goals
                  go_wp2
                  go_roundw
                  case rel => exact ⟨k + 1, by omega, by go_num, congrArg Value.bool HG.out.symm, hR⟩
                  case measure => simp [intOf]; omega
              · have e2 : (x.to_ == nn) = false := by simpa using h2
                have e2' : (x.to_ != nn) = true := by simpa using h2
                have HTF : Hid (touch nn x = false) := by show touch nn x = _; rw [HTO.out, decide_eq_false h1, decide_eq_false h2]; rfl
                have HG : Hid ((ys.take (k + 1)).any (touch nn) = g) := by show (ys.take (k + 1)).any (touch nn) = _; rw [HST.out, HTF.out, Bool.or_false]
                have HN1 := Lib.hid (HNK.out HTF.out).1
                have HN2 := Lib.hid (HNK.out HTF.out).2
                clear h1 h2 HST HNK HTO HTF
                cases g
                all_goals
                  go_wp2_with fail
                  ((with_reducible refine (hasInt _ _ _ _ _ bs x.fr _ hR.out.i).mono ?_); rintro e w7 ⟨rfl, rfl⟩)
                  rw [HN1.out]
                  go_wp2_with fail
                  ((with_reducible refine (hasInt _ _ _ _ _ bs x.to_ _ hR.out.i).mono ?_); rintro e w7 ⟨rfl, rfl⟩)
                  rw [HN2.out]
                  go_wp2
                  go_roundw
                  case rel => exact ⟨k + 1, by omega, by go_num, congrArg Value.bool HG.out.symm, hR⟩
                  case measure => simp [intOf]; omega
          · obtain rfl : k = ys.length := by omega
            rw [List.take_length]
            have HBL := Lib.hid hR.out.b
            clear hlt
            go_wp2_with fail
            ((with_reducible refine (hasInt _ _ _ _ _ bs nn _ hR.out.i).mono ?_); rintro e w7 ⟨rfl, rfl⟩)
            rw [HHAS.out]
            have hq : (ys.any (touch nn) == ys.any (touch nn)) = true := by simp
            generalize ys.any (touch nn) = g at *
            go_wp2
            go_ret
            exact ⟨rfl, HBL.out⟩

end Law7
end Go.Proofs.Ytbhafchdcofceaa
