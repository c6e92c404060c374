/-
  Contracts of the model's chapter 23: pieces joined.
-/
import Derived.Test.YtoghgliijjfppabSp11d
namespace Go.Proofs.Ytoghgliijjfppab
open Go.RowKit
namespace Sp11
open Il Sl Fo Cm Cs Gm Mm Pc Sp2

theorem flat_take {ps : List (List Int)} {j : Nat} (h : j < ps.length) : flat (ps.take (j + 1)) = flat (ps.take j) ++ slAt ps j := by
  rw [← Ck.take_slot h]
  unfold flat
  rw [List.flatten_append]
  simp
/-- What is put together. -/
def AllR (w wr : World) (A : Option Addr) (n c : Nat) (ps : List (List Int)) (v : Value) (j : Nat) : Prop :=
  ∃ g, Dest 3 1 g wr v (3 * j) ((flat (ps.take j)).map (Value.int .i64)) ∧ (∀ k, g = some k → w.heap.size ≤ k) ∧ Sts 0 w.heap.size wr A n c ps ∧ Below w.heap.size w wr
set_option maxRecDepth 20000 in
set_option maxHeartbeats 4000000 in
theorem PiecesJoin (lo hi : Nat) (A : Option Addr) (n c : Nat) (ps : List (List Int)) (w : World) (hx : Sts lo hi w A n c ps) :
    Calls Try.prog 25 #[.slice A n c] w (PairB (joinF ps) (joinOk ps) w) := by
  have hk1 := hx.max_
  have hk2 := hx.cap_
  have HL := Lib.hid hx.len_
  have HX := Lib.hid hx
  unfold maxLen at hk1
  have hpm := pcs_miss ps 0
  have HNIL : Hid (joinOk ps = false → ∀ W b, Below w.heap.size w W → PairB (joinF ps) (joinOk ps) w (.returned (.tuple #[.slice (some ⟨b, 0, none⟩) 0 0, .bool false])) W) := fun h W b hb => by rw [joinF_no h, h]; exact ⟨_, 0, rfl, Own.nil_ (Nat.zero_le _), hb⟩
  have hal : Below w.heap.size w (w.alloc (.cells #[] 3)) := (Below.refl _ _).alloc (Nat.le_refl _) _
  cases hok : pcsOk ps 0
  · have hne : (missF ps != 0) = true := by
      rw [hok] at hpm
      have := of_decide_eq_false hpm.symm
      simpa using (by omega : ¬ missF ps = 0)
    have HV := Lib.hid (HNIL.out (by unfold joinOk; rw [hok]; rfl) _ w.heap.size hal)
    clear hx hpm hok hal
    go_enter Try.func25, Try.ntmps25
    go_wp2_with fail
    ((with_reducible refine (l23Missing _ _ _ _ _ ps _ HX.out).mono ?_); rintro e w1 ⟨rfl, rfl⟩)
    generalize missF ps = m at *
    go_wp2
    go_ret2
    exact HV.out
  have hm0 : missF ps = 0 := by
    rw [hok] at hpm
    have := of_decide_eq_true hpm.symm
    omega
  have HPO := Lib.hid (pcs0.1 hok).2
  have h5 := (pcs0.1 hok).1
  rw [HL.out] at h5
  have hfl := flat_len (pcs_len hok)
  rw [HL.out] at hfl
  obtain ⟨hd1, hd2⟩ := hdN_eq hok
  have HD1 := Lib.hid hd1
  have HFN := Lib.hid (flat_in hok)
  have HJ : Hid (joinOk ps = (decide (cnt3 (hdN ps) = n) && zeroB (flat ps) (hdN ps + 1))) := by show _ = _; unfold joinOk; rw [hok, HL.out, Bool.true_and]
  have HR0 : Hid (AllR w (w.alloc (.cells #[] 3)) A n c ps (.slice (some ⟨w.heap.size, 0, none⟩) 0 0) 0) := ⟨some w.heap.size, .inr ⟨_, rfl, accV_new w _ _⟩, fun k e => by cases e; exact Nat.le_refl _, (hx.top (Nat.zero_le _)).below hal (Nat.le_refl _), hal⟩
  clear hx hpm hok hd1 hal
  go_enter Try.func25, Try.ntmps25
  go_wp2_with fail
  ((with_reducible refine (l23Missing _ _ _ _ _ ps _ HX.out).mono ?_); rintro e w1 ⟨rfl, rfl⟩)
  rw [hm0]
  clear hm0
  go_wp2
  go_loopw [4, 5] (fun v i wr => ∃ j : Nat, j ≤ n ∧ i = .int .i64 j ∧ Hid (AllR w wr A n c ps v j)) (fun _ i _ => n - (intOf i).toNat)
  case atStart => exact ⟨0, Nat.zero_le _, rfl, HR0.out⟩
  case round =>
    obtain ⟨j, hj, rfl, hR⟩ := hrel
    clear HR0
    obtain ⟨g, k1, k2, k3, k4⟩ := hR.out
    by_cases hlt : j < n
    · obtain ⟨b, off, B, e, rfl, _, _, hbz, cB, iB⟩ := k3.at_ hlt
      have hlj : j < ps.length := by rw [HL.out]; exact hlt
      have hx3 := (slice_pos HPO.out hlj).1
      rw [hx3] at cB iB
      have HFT := Lib.hid (flat_take hlj)
      have HRW := Lib.hid (ints_row iB)
      have HD := Lib.hid k1
      have HK2 := Lib.hid k2
      have HK3 := Lib.hid k3
      have HK4 := Lib.hid k4
      have hw2 : IntKind.i64.wrap ((j : Int) + 1) = (j : Int) + 1 := IntWalk.i64_in _ (by omega)
      clear k1 k2 k3 k4 iB hR hx3
      generalize slAt ps j = xs at *
      go_wp2_with (at_builtin; refine wpList_appD elInt _ _ _ _ _ HD.out _ _ _ _ _ _ HRW.out (ints_one_cell _) (by omega) _ _ rfl rfl rfl rfl ?_; intro g5 v5 w5 hd5 hg5 hgr5)
      have hb5 : Below w.heap.size wr w5 := (Below.refl _ _).grown hgr5 HK4.out.size HK2.out
      have HN : Hid (AllR w w5 (some ⟨b, off, none⟩) n c ps v5 (j + 1)) := by
        refine ⟨g5, ?_, ?_, HK3.out.below' hb5 (Nat.le_refl _), HK4.out.trans hb5⟩
        · rw [HFT.out, List.map_append, Nat.mul_succ]; exact hd5
        · rintro k' rfl
          rcases hg5 with e | ⟨k2, e, h2⟩
          · exact HK2.out k' e.symm
          · cases e; have := HK4.out.size; omega
      clear hd5 hg5 hgr5 hb5 HD HRW HK2 HK3 HK4
      go_wp2
      go_roundw
      case rel => exact ⟨j + 1, by omega, by go_num, HN.out⟩
      case measure => simp [intOf]; omega
    · obtain rfl : j = n := by omega
      have hps : ps.take j = ps := List.take_of_length_le (by rw [HL.out]; exact Nat.le_refl _)
      rw [hps] at k1
      have hown := Lb.dest_new (w := w) (g := g) (xs := flat ps) (by rw [hfl]; exact k1) k2 k4
      obtain ⟨A2, c2, e2, ho2, hb2⟩ := hown
      simp only [Ending.returned.injEq] at e2
      subst e2
      rw [hfl] at ho2 ⊢
      obtain ⟨b2, off2, rfl, q1, q2, hz2, hc2⟩ := ho2.1.2.2.2 (by omega)
      have c0 := hc2 0 (by omega)
      rw [HD1.out, Nat.add_zero] at c0
      have HO2 := Lib.hid ho2
      have HB2 := Lib.hid hb2
      have hcn := ho2.1.2.1
      have hcm := ho2.1.2.2.1
      unfold maxLen at hcm
      clear ho2 hb2 hc2 k1 k2 k3 k4 hR hlt
      obtain ⟨h, hh⟩ : ∃ h, hdN ps = h := ⟨_, rfl⟩
      have HH := Lib.hid hh
      rw [hh] at c0 hd2 HJ
      clear hh
      go_wp2_with fail
      ((with_reducible refine (l23Count h _ (by omega)).mono ?_); rintro e w1 ⟨rfl, rfl⟩)
      by_cases hcnt : cnt3 h = j
      case neg =>
        have hne : (((cnt3 h : Nat) : Int) != (j : Int)) = true := by simpa using (by omega : ¬ ((cnt3 h : Nat) : Int) = (j : Int))
        have hF : joinOk ps = false := by rw [HJ.out, decide_eq_false hcnt]; rfl
        have HV := Lib.hid (HNIL.out hF)
        clear hcnt hF HJ
        generalize cnt3 h = kk at *
        go_wp2
        go_ret2
        exact HV.out _ _ (HB2.out.alloc HB2.out.size _)
      have h3j : h + 1 ≤ 3 * j := by unfold cnt3 at hcnt; omega
      have HJ2 : Hid (joinOk ps = zeroB (flat ps) (h + 1)) := by show _ = _; rw [HJ.out, decide_eq_true hcnt, Bool.true_and]
      have hw1 : IntKind.i64.wrap ((h : Int) + 1) = (h : Int) + 1 := IntWalk.i64_in _ (by omega)
      rw [hcnt]
      clear HJ hcnt
      have hj15 : 3 * j ≤ 15 := by omega
      have hj3 : 3 ≤ 3 * j := by omega
      generalize hm : 3 * j = m at *
      clear hm
      have hfm : (flat ps).length = m := hfl
      go_wp2
      go_loop [7] (fun i => ∃ k : Nat, h + 1 ≤ k ∧ k ≤ m ∧ i = .int .i64 k ∧ Hid (∀ i, h + 1 ≤ i → i < k → (flat ps).getD i 0 = 0)) (fun i => m - (intOf i).toNat)
      case atStart => exact ⟨h + 1, Nat.le_refl _, h3j, by go_num, fun i h1 h2 => absurd h2 (by omega)⟩
      case round =>
        obtain ⟨k, hk1', hk, rfl, hZ⟩ := hrel
        by_cases hlt : k < m
        · obtain ⟨b3, off3, e3, _, _, c3⟩ := HO2.out.1.at_ hlt
          simp only [Option.some.injEq, Addr.mk.injEq, and_true] at e3
          obtain ⟨rfl, rfl⟩ := e3
          have hw3 : IntKind.i64.wrap ((k : Int) + 1) = (k : Int) + 1 := IntWalk.i64_in _ (by omega)
          have HNO : Hid ((flat ps).getD k 0 ≠ 0 → joinOk ps = false) := fun hn => by
            rw [HJ2.out]
            cases hz : zeroB (flat ps) (h + 1)
            · rfl
            · exact absurd (zeroB_iff.1 hz k hk1' (by rw [hfm]; exact hlt)) hn
          have HYES : Hid ((flat ps).getD k 0 = 0 → ∀ i, h + 1 ≤ i → i < k + 1 → (flat ps).getD i 0 = 0) := fun hn i h1 h2 => by
            rcases Nat.lt_or_ge i k with q | q
            · exact hZ.out i h1 q
            · obtain rfl : i = k := by omega
              exact hn
          clear hZ
          generalize (flat ps).getD k 0 = y at *
          by_cases hy : y = 0
          · have HN := Lib.hid (HYES.out hy)
            subst hy
            clear HYES HNO
            go_wp2
            go_round
            case rel => exact ⟨k + 1, by omega, by omega, by go_num, HN.out⟩
            case measure => simp [intOf]; omega
          · have HV := Lib.hid (HNIL.out (HNO.out hy))
            have hne : (y != 0) = true := by simpa using hy
            clear HYES HNO hy
            go_wp2
            go_ret2
            exact HV.out _ _ (HB2.out.alloc HB2.out.size _)
        · obtain rfl : k = m := by omega
          have hz : zeroB (flat ps) (h + 1) = true := zeroB_iff.2 fun i h1 h2 => hZ.out i h1 (by rw [← hfm]; exact h2)
          have hj : joinOk ps = true := by rw [HJ2.out]; exact hz
          have hsub := HO2.out.1.sub_ (k := 1) (m := h) (by omega)
          have hjl : ((flat ps).drop 1).take h = joinL ps := by unfold joinL; rw [HH.out]
          rw [hjl] at hsub
          have hlen : (joinL ps).length = h := hsub.1
          have hal : Below wr.heap.size wr (wr.alloc (.cells #[] 3)) := (Below.refl _ _).alloc (Nat.le_refl _) _
          have HD : Hid (Dest 3 1 (some wr.heap.size) (wr.alloc (.cells #[] 3)) (.slice (some ⟨wr.heap.size, 0, none⟩) 0 0) 0 []) := .inr ⟨_, rfl, accV_new wr _ _⟩
          have HRW := Lib.hid (ints_row (hsub.below hal (Nat.le_refl _)))
          have HAL := Lib.hid hal
          have HFIN : Hid (∀ g5 v5 w5, Dest 3 1 g5 w5 v5 (0 + h) ([] ++ (joinL ps).map (Value.int .i64)) → (g5 = some wr.heap.size ∨ ∃ k, g5 = some k ∧ (wr.alloc (.cells #[] 3)).heap.size ≤ k) → World.grownBy (wr.alloc (.cells #[] 3)) w5 (some wr.heap.size) →
              PairB (joinF ps) (joinOk ps) w (.returned (.tuple #[v5, .bool true])) w5) := fun g5 v5 w5 hd5 hg5 hgr5 => by
            rw [joinF_yes hj, hj]
            have hd6 : Dest 3 1 g5 w5 v5 (joinL ps).length ((joinL ps).map (Value.int .i64)) := by rw [hlen]; simpa using hd5
            have hb5 : Below wr.heap.size wr w5 := HAL.out.grown hgr5 (by simp) (fun k hk => by simp at hk; omega)
            obtain ⟨A1, c1, e1, ho, hb⟩ := Lb.dest_new (w := wr) hd6 (fun k hk => by
              rcases hg5 with h | ⟨k', h, hk'⟩
              · rw [h] at hk; cases hk; exact Nat.le_refl _
              · rw [h] at hk; cases hk; have := HAL.out.size; omega) hb5
            simp only [Ending.returned.injEq] at e1
            subst e1
            exact ⟨A1, c1, rfl, ho.mono HB2.out.size (Nat.le_refl _), HB2.out.trans (hb.mono HB2.out.size)⟩
          have hc1 : ¬ c2 = 1 := by omega
          have hc10 : ¬ c2 - 1 = 0 := by omega
          have hh1 : h + 1 - 1 = h := by omega
          have hmb : 0 + h ≤ 1000000 := by omega
          clear hZ hlt hz hj hsub hjl hal HJ2
          go_wp2_with (at_builtin; refine wpList_appD elInt _ _ _ _ _ HD.out _ _ _ _ _ _ HRW.out (ints_one_cell _) hmb _ _ rfl rfl rfl (by go_simp) ?_; intro g5 v5 w5 hd5 hg5 hgr5)
          have HP := Lib.hid (HFIN.out g5 v5 w5 hd5 hg5 hgr5)
          clear hd5 hg5 hgr5 HD HRW HAL HFIN
          go_wp2
          go_ret2
          exact HP.out

end Sp11
end Go.Proofs.Ytoghgliijjfppab
