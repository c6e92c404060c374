/-
  Contracts of the program's chapter 23: pieces joined.
-/
import Derived.Test.YtoghgliijjfppabIm11e
namespace Go.Proofs.Ytoghgliijjfppab
open Go.RowKit
namespace Im11
open Il Sl Fo Cm Cs Gm Mm Pc Im2 Im4 Chn Lb

theorem own_sub {lo hi : Nat} {w : World} {b off n c k m : Nat} {xs : List Int} (h : Il.Own lo hi w (some ⟨b, off, none⟩) n c xs) (hk : k + m ≤ n) : Il.Own lo hi w (some ⟨b, off + k, none⟩) m (c - k) ((xs.drop k).take m) := by
  refine ⟨h.1.sub_ hk, fun b' off' hm e j hj => ?_⟩
  simp only [Option.some.injEq, Addr.mk.injEq, and_true] at e
  obtain ⟨rfl, rfl⟩ := e
  rw [Nat.add_assoc]
  exact h.2 _ _ (by omega) rfl _ (by omega)
theorem tot_pcs {ps : List (List Int)} (h : ∀ x ∈ ps, x.length = 3) : tot ps = 3 * ps.length := by rw [← flat_tot, flat_len h]
set_option maxRecDepth 20000 in
set_option maxHeartbeats 1000000 in
theorem PiecesJoin (lo hi : Nat) (A : Option Addr) (n c : Nat) (ps : List (List Int)) (w : World) (hx : Sts lo hi w A n c ps) :
    Calls Try.prog 26 #[.slice A n c] w (PairB (joinF ps) (joinOk ps) w) := by
  have HX := Lib.hid hx
  have HL := Lib.hid hx.len_
  have HNIL : Hid (joinOk ps = false → ∀ W b, Below w.heap.size w W → PairB (joinF ps) (joinOk ps) w (.returned (.tuple #[.slice (some ⟨b, 0, none⟩) 0 0, .bool false])) W) := fun h W b hb => by rw [joinF_no h, h]; exact ⟨_, 0, rfl, Own.nil_ (Nat.zero_le _), hb⟩
  clear hx
  cases hok : pcsOk ps 0
  · have HV := Lib.hid (HNIL.out (by unfold joinOk; rw [hok]; rfl) (w.alloc (.cells #[] 3)) w.heap.size ((Below.refl _ _).alloc (Nat.le_refl _) _))
    go_enter Try.func26, Try.ntmps26
    go_wp2_with fail
    ((with_reducible refine (piecesValid0 _ _ _ _ _ ps _ HX.out).mono ?_); rintro e w1 ⟨rfl, rfl⟩)
    rw [hok]
    clear hok
    go_wp2
    go_ret2
    exact HV.out
  have HOK := Lib.hid hok
  have HJ := Lib.hid (join_is hok)
  have h5 := (pcs0.1 hok).1
  have hfl := flat_len (pcs_len hok)
  have htt := tot_pcs (pcs_len hok)
  obtain ⟨hd1, hd2⟩ := hdN_eq hok
  have HD := Lib.hid hd1
  rw [HL.out] at h5 hfl htt HJ
  have HT := Lib.hid htt
  clear hd1 htt
  go_enter Try.func26, Try.ntmps26
  go_wp2_with fail
  ((with_reducible refine (piecesValid0 _ _ _ _ _ ps _ HX.out).mono ?_); rintro e w1 ⟨rfl, rfl⟩)
  rw [hok]
  clear hok
  go_wp2_with fail
  ((with_reducible refine (concat _ _ _ _ _ ps _ HX.out (by omega) (by rw [HT.out]; omega)).mono ?_); rintro e w2 ⟨A2, c2, rfl, ho2, hb2⟩)
  rw [hfl] at ho2 ⊢
  clear hfl
  obtain ⟨b2, off2, rfl, _, _, hz2, hc2⟩ := ho2.1.2.2.2 (by omega)
  have c0 := hc2 0 (by omega)
  rw [HD.out, Nat.add_zero] at c0
  have HO2 := Lib.hid ho2
  have HB2 := Lib.hid hb2
  have hcn := ho2.1.2.1
  have hcm := ho2.1.2.2.1
  unfold maxLen at hcm
  clear ho2 hb2 hc2
  have hc1 : ¬ c2 = 1 := by omega
  obtain ⟨h, hh⟩ : ∃ h, hdN ps = h := ⟨_, rfl⟩
  have HH := Lib.hid hh
  rw [hh] at c0 hd2 HJ
  clear hh
  have hw0 : IntKind.i64.wrap (((3 * n : Nat) : Int) - 1) = ((3 * n : Nat) : Int) - 1 := IntWalk.i64_in _ (by omega)
  have hw1 : IntKind.i64.wrap (1 + (h : Int)) = 1 + (h : Int) := IntWalk.i64_in _ (by omega)
  have h31 : 1 ≤ 3 * n := by omega
  by_cases hlong : 3 * n - 1 < h
  · have hF : joinOk ps = false := by rw [HJ.out, decide_eq_false (by omega)]; rfl
    have HV := Lib.hid (HNIL.out hF)
    have hgt : ((3 * n : Nat) : Int) - 1 < (h : Int) := by omega
    clear hF hlong HJ
    generalize 3 * n = m at *
    go_wp2
    go_ret2
    exact HV.out _ _ (HB2.out.alloc HB2.out.size _)
  have hle : ¬ ((3 * n : Nat) : Int) - 1 < (h : Int) := by omega
  have HJ2 : Hid (joinOk ps = decide (cutF (joinL ps) = ps)) := by show _ = _; rw [HJ.out, decide_eq_true (by omega), Bool.true_and]
  have hsub := own_sub HO2.out (k := 1) (m := h) (by omega)
  have HJL : Hid (((flat ps).drop 1).take h = joinL ps) := by show _ = _; unfold joinL; rw [HH.out]
  rw [HJL.out] at hsub
  have HS := Lib.hid hsub
  have hjl : (joinL ps).length = h := hsub.1.1
  have hm1 : 1 + h ≤ 3 * n := by omega
  clear hsub hlong HJ HJL
  generalize 3 * n = m at *
  have hh1 : 1 + h - 1 = h := by omega
  go_wp2_with fail
  ((with_reducible refine (PiecesCut _ _ _ _ _ (joinL ps) _ HS.out.ints).mono ?_); rintro e w3 ⟨A3, c3, G3, rfl, ho3, hw3, hb3⟩)
  have HB3 := Lib.hid (HB2.out.trans (hb3.mono HB2.out.size))
  have HS3 := Lib.hid (ho3.sts hw3)
  have HX3 := Lib.hid (HX.out.below HB3.out (Nat.le_refl _))
  have HO3 := Lib.hid (HS.out.below hb3 (Nat.le_refl _))
  have hs3 := hb3.size
  clear ho3 hw3 hb3
  go_wp2_with fail
  ((with_reducible refine (equalFunc _ _ _ _ _ _ _ _ _ _ (cutF (joinL ps)) ps _ HS3.out HX3.out).mono ?_); rintro e w4 ⟨rfl, hb4⟩)
  have HB4 := Lib.hid (HB3.out.trans (hb4.mono HB3.out.size))
  have HO4 := Lib.hid (HO3.out.below hb4 (Nat.le_refl _))
  have hs4 := hb4.size
  clear hb4
  cases hd : decide (cutF (joinL ps) = ps)
  · have HV := Lib.hid (HNIL.out (HJ2.out.trans hd))
    clear hd
    go_wp2
    go_ret2
    exact HV.out _ _ (HB4.out.alloc HB4.out.size _)
  · have HP : Hid (PairB (joinF ps) (joinOk ps) w (.returned (.tuple #[.slice (some ⟨b2, off2 + 1, none⟩) h (c2 - 1), .bool true])) w4) := by
      have hj : joinOk ps = true := HJ2.out.trans hd
      rw [joinF_yes hj, hj]
      refine ⟨some ⟨b2, off2 + 1, none⟩, c2 - 1, ?_, ?_, HB4.out⟩
      · rw [hjl]
      · rw [hjl]; exact HO4.out.mono (Nat.le_refl _) (by have := HB3.out.size; omega)
    clear hd
    go_wp2
    go_ret2
    exact HP.out

end Im11
end Go.Proofs.Ytoghgliijjfppab
