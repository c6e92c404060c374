/-
  Contracts of the model's chapter 32: BatchFlows.
-/
import Derived.Test.YtcbhjnjallnidabSp13
namespace Go.Proofs.Ytcbhjnjallnidab
open Go.RowKit
namespace Sp13
open Il Sl Fc Fp Pm

/-- Names that are all in range. -/
def nmsTo (xs : List Int) (k : Nat) : Prop := ∀ i, i < k → inName (xs.getD i 0) = true
theorem nmsTo_zero (xs : List Int) : nmsTo xs 0 := fun i hi => absurd hi (by omega)
theorem nmsTo_succ {xs : List Int} {k : Nat} (h : nmsTo xs k) (hk : inName (xs.getD k 0) = true) : nmsTo xs (k + 1) := fun i hi => by
  by_cases e : i = k
  · rw [e]; exact hk
  · exact h i (by omega)
theorem nms_all {xs : List Int} (h : nmsTo xs xs.length) : xs.all inName = true := by
  rw [List.all_eq_true]
  intro x hx
  obtain ⟨i, hi, rfl⟩ := List.getElem_of_mem hx
  have := h i hi
  rwa [List.getD_eq_getElem?_getD, List.getElem?_eq_getElem hi] at this
theorem nms_bad {xs : List Int} {k : Nat} (hk : k < xs.length) (h : inName (xs.getD k 0) = false) : xs.all inName = false := by
  cases e : xs.all inName
  · rfl
  · have := all_at e hk
    rw [inName_iff.2 this] at h
    cases h
set_option maxRecDepth 20000 in
theorem l5Names (lo hi : Nat) (A : Option Addr) (n c : Nat) (xs : List Int) (w : World) (hx : Ints lo hi w A n c xs) :
    Calls Try.prog 30 #[.slice A n c] w fun e w' => e = .returned (.bool (xs.all inName)) ∧ w = w' := by
  have hc1 := hx.2.2.1
  have hc2 := hx.2.1
  have HL := Lib.hid hx.1
  unfold maxLen at hc1
  have HX := Lib.hid hx
  clear hx
  go_enter Try.func30, Try.ntmps30
  go_wp2
  go_loop [3] (fun i => ∃ k : Nat, k ≤ n ∧ i = .int .i64 k ∧ Hid (nmsTo xs k)) (fun i => n - (intOf i).toNat)
  case atStart => exact ⟨0, Nat.zero_le _, rfl, nmsTo_zero _⟩
  case round =>
    obtain ⟨k, hk, rfl, hT⟩ := hrel
    by_cases hlt : k < n
    · obtain ⟨b, off, rfl, _, _, hcx⟩ := HX.out.at_ hlt
      have HF : Hid (inName (xs.getD k 0) = false → xs.all inName = false) := nms_bad (by rw [HL.out]; exact hlt)
      have HN : Hid (inName (xs.getD k 0) = true → nmsTo xs (k + 1)) := nmsTo_succ hT.out
      clear hT
      generalize xs.getD k 0 = x at *
      cases hin : inName x
      · have HF2 := Lib.hid (HF.out hin)
        go_wp2_with fail
        ((with_reducible refine (Sp2.l6In x 0 7 w).mono ?_); rintro e w' ⟨rfl, rfl⟩)
        rw [show decide (0 ≤ x ∧ x ≤ 7) = _ from hin]
        clear hin HF HN
        go_wp2
        go_ret
        rw [HF2.out]
        exact ⟨rfl, rfl⟩
      · have HN2 := Lib.hid (HN.out hin)
        go_wp2_with fail
        ((with_reducible refine (Sp2.l6In x 0 7 w).mono ?_); rintro e w' ⟨rfl, rfl⟩)
        rw [show decide (0 ≤ x ∧ x ≤ 7) = _ from hin]
        clear hin HF HN
        go_wp2
        go_round
        case rel => exact ⟨k + 1, by omega, by go_num, HN2.out⟩
        case measure => simp [intOf]; omega
    · obtain rfl : k = n := by omega
      have HF : Hid (xs.all inName = true) := nms_all (by rw [HL.out]; exact hT.out)
      clear hT hlt
      go_wp2
      go_ret
      rw [HF.out]
      exact ⟨rfl, rfl⟩
theorem bat_no1 {ss rs : List Int} {nm : Int} (h : ss.all inName = false) : batOk ss rs nm = false := by unfold batOk; rw [h]; rfl
theorem bat_no2 {ss rs : List Int} {nm : Int} (h : rs.all inName = false) : batOk ss rs nm = false := by unfold batOk; rw [h]; simp
theorem bat_no3 {ss rs : List Int} {nm : Int} (h : ¬ ss.length = rs.length) : batOk ss rs nm = false := by
  cases e : batOk ss rs nm
  · rfl
  · exact absurd (batOk_iff.1 e).2.2.1 h
theorem bat_no4 {ss rs : List Int} {nm : Int} (h : ¬ ss.length ≤ 8) : batOk ss rs nm = false := by
  cases e : batOk ss rs nm
  · rfl
  · exact absurd (batOk_iff.1 e).2.2.2.1 h
theorem bat_no5 {ss rs : List Int} {nm : Int} (h : decide (0 ≤ nm ∧ nm ≤ 990) = false) : batOk ss rs nm = false := by unfold batOk; rw [h]; simp
theorem bat_all {ss rs : List Int} {nm : Int} (h1 : ss.all inName = true) (h2 : rs.all inName = true) (h3 : ss.length = rs.length) (h4 : ss.length ≤ 8) (h5 : decide (0 ≤ nm ∧ nm ≤ 990) = true) : batOk ss rs nm = true :=
  batOk_iff.2 ⟨h1, h2, h3, h4, by simpa using h5⟩
/-- The flows of the first k senders. -/
def sentTo (ss : List Int) (nm : Int) (k : Nat) : List Fl := (List.range k).map (sentAt ss nm)
theorem sentTo_succ (ss : List Int) (nm : Int) (k : Nat) : sentTo ss nm (k + 1) = sentTo ss nm k ++ [⟨ss.getD k 0, -1, nm + k⟩] := range_snoc _ _
theorem sentTo_len (ss : List Int) (nm : Int) (k : Nat) : (sentTo ss nm k).length = k := by unfold sentTo; rw [List.length_map, List.length_range]
theorem passR_len (rs : List Int) (base : Int) (r k : Nat) : (passR rs base r k).length ≤ k := by
  unfold passR
  rw [List.length_map]
  exact Nat.le_trans (List.length_filter_le ..) (by rw [List.length_range]; exact Nat.le_refl _)
theorem passTo_len (rs : List Int) (base : Int) : ∀ R, (passTo rs base R).length ≤ R * rs.length
  | 0 => Nat.zero_le _
  | R + 1 => by
    rw [passTo_succ, List.length_append, Nat.add_mul, Nat.one_mul]
    have := passTo_len rs base R
    have := passR_len rs base R rs.length
    omega
set_option maxRecDepth 20000 in
set_option maxHeartbeats 4000000 in
theorem sBatchFlows (la ha lb hb : Nat) (A B : Option Addr) (n m c d : Nat) (ss rs : List Int) (nm : Int) (w : World) (hx : Ints la ha w A n c ss) (hy : Ints lb hb w B m d rs) (hn : n ≤ 2000000) :
    Calls Try.prog 12 #[.slice A n c, .slice B m d, .int .i64 nm] w (FlsPost (batF ss rs nm) w) := by
  have hc2 := hx.2.1
  have hd2 := hy.2.1
  have hc1 := hx.2.2.1
  have hd1 := hy.2.2.1
  unfold maxLen at hc1 hd1
  have HL := Lib.hid hx.1
  have HM := Lib.hid hy.1
  have HX : Hid (∀ wr, Below w.heap.size w wr → Ints la ha wr A n c ss) := fun wr h => hx.below h (Nat.le_refl _)
  have HY : Hid (∀ wr, Below w.heap.size w wr → Ints lb hb wr B m d rs) := fun wr h => hy.below h (Nat.le_refl _)
  have HA := Lib.hid (Fc.acc_new w)
  have X0 := Lib.hid (HX.out _ HA.out.below)
  have Y0 := Lib.hid (HY.out _ HA.out.below)
  have HNO : Hid (batOk ss rs nm = false → FlsPost (batF ss rs nm) w (.returned (.slice (some ⟨w.heap.size, 0, none⟩) 0 0)) (w.alloc (.cells #[] 30))) := fun h => by
    rw [batF_no h]; exact (Fc.acc_new w).post
  clear hx hy
  cases h1 : ss.all inName
  · have HP := Lib.hid (HNO.out (bat_no1 h1))
    go_enter Try.func12, Try.ntmps12
    go_wp2_with fail
    ((with_reducible refine (l5Names _ _ _ _ _ ss _ X0.out).mono ?_); rintro e w1 ⟨rfl, rfl⟩)
    rw [h1]
    clear h1
    go_wp2
    go_ret
    exact HP.out
  cases h2 : rs.all inName
  · have HP := Lib.hid (HNO.out (bat_no2 h2))
    go_enter Try.func12, Try.ntmps12
    go_wp2_with fail
    ((with_reducible refine (l5Names _ _ _ _ _ ss _ X0.out).mono ?_); rintro e w1 ⟨rfl, rfl⟩)
    rw [h1]
    go_wp2_with fail
    ((with_reducible refine (l5Names _ _ _ _ _ rs _ Y0.out).mono ?_); rintro e w1 ⟨rfl, rfl⟩)
    rw [h2]
    clear h1 h2
    go_wp2
    go_ret
    exact HP.out
  by_cases h3 : n = m
  case neg =>
    have HP := Lib.hid (HNO.out (bat_no3 (by rw [HL.out, HM.out]; exact h3)))
    have hne : ((n : Int) != (m : Int)) = true := by simpa using (by omega : ¬ (n : Int) = m)
    clear h3
    go_enter Try.func12, Try.ntmps12
    go_wp2_with fail
    ((with_reducible refine (l5Names _ _ _ _ _ ss _ X0.out).mono ?_); rintro e w1 ⟨rfl, rfl⟩)
    rw [h1]
    go_wp2_with fail
    ((with_reducible refine (l5Names _ _ _ _ _ rs _ Y0.out).mono ?_); rintro e w1 ⟨rfl, rfl⟩)
    rw [h2]
    clear h1 h2
    go_wp2
    go_ret
    exact HP.out
  subst h3
  have hne : ((n : Int) != (n : Int)) = false := by simp
  have ew : IntKind.i64.wrap (2 * (n : Int)) = 2 * (n : Int) := IntWalk.i64_in _ (by omega)
  by_cases h4 : n ≤ 8
  case neg =>
    have HP := Lib.hid (HNO.out (bat_no4 (by rw [HL.out]; exact h4)))
    have d16 : decide (16 < 2 * (n : Int)) = true := by simp; omega
    clear h4
    go_enter Try.func12, Try.ntmps12
    go_wp2_with fail
    ((with_reducible refine (l5Names _ _ _ _ _ ss _ X0.out).mono ?_); rintro e w1 ⟨rfl, rfl⟩)
    rw [h1]
    go_wp2_with fail
    ((with_reducible refine (l5Names _ _ _ _ _ rs _ Y0.out).mono ?_); rintro e w1 ⟨rfl, rfl⟩)
    rw [h2]
    clear h1 h2
    go_wp2
    go_ret
    exact HP.out
  have d16 : decide (16 < 2 * (n : Int)) = false := by simp; omega
  cases h5 : decide (0 ≤ nm ∧ nm ≤ 990)
  · have HP := Lib.hid (HNO.out (bat_no5 h5))
    go_enter Try.func12, Try.ntmps12
    go_wp2_with fail
    ((with_reducible refine (l5Names _ _ _ _ _ ss _ X0.out).mono ?_); rintro e w1 ⟨rfl, rfl⟩)
    rw [h1]
    go_wp2_with fail
    ((with_reducible refine (l5Names _ _ _ _ _ rs _ Y0.out).mono ?_); rintro e w1 ⟨rfl, rfl⟩)
    rw [h2]
    go_wp2_with fail
    ((with_reducible refine (Sp2.l6In nm 0 990 _).mono ?_); rintro e w1 ⟨rfl, rfl⟩)
    rw [h5]
    clear h1 h2 h5
    go_wp2
    go_ret
    exact HP.out
  have HV : Hid (batF ss rs nm = sentTo ss nm n ++ passTo rs (nm + n) 8) := by
    show _ = _
    rw [batF_yes (bat_all h1 h2 (by rw [HL.out, HM.out]) (by rw [HL.out]; exact h4) h5)]
    unfold batL sentL passL sentTo
    rw [HL.out]
  have hnm : 0 ≤ nm ∧ nm ≤ 990 := by simpa using h5
  have H0 : Hid (Fc.Acc w (w.alloc (.cells #[] 30)) (.slice (some ⟨w.heap.size, 0, none⟩) 0 0) (sentTo ss nm 0)) := HA.out
  go_enter Try.func12, Try.ntmps12
  go_wp2_with fail
  ((with_reducible refine (l5Names _ _ _ _ _ ss _ X0.out).mono ?_); rintro e w1 ⟨rfl, rfl⟩)
  rw [h1]
  go_wp2_with fail
  ((with_reducible refine (l5Names _ _ _ _ _ rs _ Y0.out).mono ?_); rintro e w1 ⟨rfl, rfl⟩)
  rw [h2]
  go_wp2_with fail
  ((with_reducible refine (Sp2.l6In nm 0 990 _).mono ?_); rintro e w1 ⟨rfl, rfl⟩)
  rw [h5]
  clear h1 h2 h5 HNO HA X0 Y0
  go_wp2
  clear d16 hne ew
  go_loopw [7, 8] (fun v i wr => ∃ k : Nat, k ≤ n ∧ i = .int .i64 (k : Int) ∧ Hid (Fc.Acc w wr v (sentTo ss nm k))) (fun _ i _ => n - (intOf i).toNat)
  case atStart => exact ⟨0, Nat.zero_le _, rfl, H0.out⟩
  case round =>
    obtain ⟨k, hk, rfl, hR⟩ := hrel
    clear H0
    by_cases hlt : k < n
    · obtain ⟨b, off, rfl, _, _, c0⟩ := (HX.out _ hR.out.below).at_ hlt
      have HST := Lib.hid (sentTo_succ ss nm k)
      have hl : (sentTo ss nm k).length ≤ 100000 := by rw [sentTo_len]; omega
      have ew : IntKind.i64.wrap (nm + k) = nm + k := IntWalk.i64_in _ (by omega)
      generalize ss.getD k 0 = x at *
      generalize sentTo ss nm k = vs at *
      go_wp2_with (at_builtin; refine Fc.wpList_cApp w _ _ vs hR.out (⟨x, -1, nm + k⟩ : Fl) hl _ _ rfl rfl rfl rfl ?_; intro v9 w9 hN9 hB9 hO9)
      have HN := Lib.hid hN9
      clear hN9 hB9 hO9 hR c0 hl ew
      go_wp2
      go_roundw
      case rel => exact ⟨k + 1, by omega, by go_num, by show Fc.Acc _ _ _ _; rw [HST.out]; exact HN.out⟩
      case measure => simp [intOf]; omega
    · obtain rfl : k = n := by omega
      clear hlt
      have H0 : Hid (Fc.Acc w wr u7 (sentTo ss nm k ++ passTo rs (nm + k) 0)) := by
        show Fc.Acc _ _ _ _
        rw [show passTo rs (nm + k) 0 = [] from rfl, List.append_nil]; exact hR.out
      clear hR
      go_wp2
      go_loopw [7, 9, 10] (fun v r _ wr => ∃ R : Nat, R ≤ 8 ∧ r = .int .i64 (R : Int) ∧ Hid (Fc.Acc w wr v (sentTo ss nm k ++ passTo rs (nm + k) R))) (fun _ r _ _ => 8 - (intOf r).toNat)
      case atStart => exact ⟨0, Nat.zero_le _, rfl, H0.out⟩
      case round =>
        obtain ⟨R, hR8, rfl, hR⟩ := hrel
        clear H0
        by_cases hRl : R < 8
        · have dR : decide ((R : Int) < 8) = true := by simp; omega
          have H0 : Hid (Fc.Acc w wr u7 (sentTo ss nm k ++ passTo rs (nm + k) R ++ passR rs (nm + k) R 0)) := by
            show Fc.Acc _ _ _ _
            rw [passR_zero, List.append_nil]; exact hR.out
          clear hR
          go_wp2
          clear dR
          go_loopw [7, 10] (fun v i wr => ∃ t : Nat, t ≤ k ∧ i = .int .i64 (t : Int) ∧ Hid (Fc.Acc w wr v (sentTo ss nm k ++ passTo rs (nm + k) R ++ passR rs (nm + k) R t))) (fun _ i _ => k - (intOf i).toNat)
          case atStart => exact ⟨0, Nat.zero_le _, rfl, H0.out⟩
          case round =>
            obtain ⟨t, ht, rfl, hT⟩ := hrel
            clear H0
            by_cases htl : t < k
            · obtain ⟨b, off, rfl, _, _, c0⟩ := (HY.out _ hT.out.below).at_ htl
              have hl : (sentTo ss nm k ++ passTo rs (nm + k) R ++ passR rs (nm + k) R t).length ≤ 100000 := by
                rw [List.length_append, List.length_append, sentTo_len]
                have q1 := passTo_len rs (nm + k) R
                have q2 := passR_len rs (nm + k) R t
                rw [HM.out] at q1
                have : R * k ≤ 8 * 8 := Nat.mul_le_mul hR8 h4
                omega
              by_cases he : rs.getD t 0 = (R : Int)
              · have HST : Hid (sentTo ss nm k ++ passTo rs (nm + k) R ++ passR rs (nm + k) R (t + 1) = (sentTo ss nm k ++ passTo rs (nm + k) R ++ passR rs (nm + k) R t) ++ [⟨-1, R, nm + k + t⟩]) := by
                  show _ = _
                  rw [passR_yes he, List.append_assoc _ _ [_]]
                rw [he] at c0
                have ew1 : IntKind.i64.wrap (nm + k) = nm + k := IntWalk.i64_in _ (by omega)
                have ew2 : IntKind.i64.wrap (nm + k + t) = nm + k + t := IntWalk.i64_in _ (by omega)
                have hbe : ((R : Int) == (R : Int)) = true := beq_self_eq_true _
                clear he
                generalize sentTo ss nm k ++ passTo rs (nm + k) R ++ passR rs (nm + k) R t = vs at *
                go_wp2_with (at_builtin; refine Fc.wpList_cApp w _ _ vs hT.out (⟨-1, R, nm + k + t⟩ : Fl) hl _ _ rfl rfl rfl rfl ?_; intro v9 w9 hN9 hB9 hO9)
                have HN := Lib.hid hN9
                clear hN9 hB9 hO9 hT c0 hl ew1 ew2 hbe
                go_wp2
                go_roundw
                case rel => exact ⟨t + 1, by omega, by go_num, by show Fc.Acc _ _ _ _; rw [HST.out]; exact HN.out⟩
                case measure => simp [intOf]; omega
              · have HST := Lib.hid (passR_no (base := nm + k) he)
                have hbe : (rs.getD t 0 == (R : Int)) = false := by simpa using he
                clear he hl
                generalize rs.getD t 0 = x at *
                go_wp2
                go_roundw
                case rel => exact ⟨t + 1, by omega, by go_num, by show Fc.Acc _ _ _ _; rw [HST.out]; exact hT.out⟩
                case measure => simp [intOf]; omega
            · obtain rfl : t = k := by omega
              have HST : Hid (sentTo ss nm t ++ passTo rs (nm + t) (R + 1) = sentTo ss nm t ++ passTo rs (nm + t) R ++ passR rs (nm + t) R t) := by
                show _ = _
                rw [passTo_succ, HM.out, List.append_assoc]
              clear htl
              go_wp2
              go_roundw
              case rel => exact ⟨R + 1, by omega, by go_num, by show Fc.Acc _ _ _ _; rw [HST.out]; exact hT.out⟩
              case measure => simp [intOf]; omega
        · obtain rfl : R = 8 := by omega
          have dR : decide (((8 : Nat) : Int) < 8) = false := by simp
          have HP := Lib.hid hR.out.post
          clear hRl hR
          go_wp2
          go_ret
          rw [HV.out]
          exact HP.out
end Sp13
end Go.Proofs.Ytcbhjnjallnidab
