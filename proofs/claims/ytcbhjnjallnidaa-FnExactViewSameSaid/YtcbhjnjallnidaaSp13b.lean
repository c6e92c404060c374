/-
  Contracts of the model's chapter 32: ViewOf, ViewSame.
-/
import Derived.Test.YtcbhjnjallnidaaSp13
namespace Go.Proofs.Ytcbhjnjallnidaa
open Go.RowKit
namespace Sp13
open Il Sl Fc Fp Pm

/-- A new list of n flows is returned, the call's own. -/
def FlsPostN (n : Nat) (xs : List Fl) (w : World) (e : Ending) (w' : World) : Prop :=
  ∃ A c, e = .returned (.slice A n c) ∧ FlsO w.heap.size w'.heap.size w' A n c xs ∧ Below w.heap.size w w'
theorem fls_n {n : Nat} {xs : List Fl} {w : World} {e : Ending} {w' : World} (h : FlsPost xs w e w') (hl : xs.length = n) : FlsPostN n xs w e w' := by
  obtain ⟨A, c, h1, h2, h3⟩ := h
  subst hl
  exact ⟨A, c, h1, h2, h3⟩
theorem sameV_noA {a b : List Fl} (h : flsOk a = false) : sameV a b = false := by unfold sameV; rw [h]; rfl
theorem sameV_noB {a b : List Fl} (h : flsOk b = false) : sameV a b = false := by unfold sameV; rw [h]; simp
theorem sameV_len {a b : List Fl} (h : ¬ a.length = b.length) : sameV a b = false := by
  cases e : sameV a b
  · rfl
  · obtain ⟨_, _, h3⟩ := sameV_iff.1 e
    have := congrArg List.length h3
    rw [view_len, view_len] at this
    exact absurd this h
theorem sameV_ok {a b : List Fl} (h1 : flsOk a = true) (h2 : flsOk b = true) : sameV a b = decide (viewL a = viewL b) := by unfold sameV; rw [h1, h2]; simp
theorem l32ViewN (lo hi : Nat) (A : Option Addr) (n c : Nat) (xs : List Fl) (w : World) (hx : Fls lo hi w A n c xs) (hn : n ≤ 16) :
    Calls Try.prog 30 #[.slice A n c] w (FlsPostN n (viewL xs) w) :=
  (l32View lo hi A n c xs w hx hn).mono fun _ _ h => fls_n h (by rw [view_len, hx.len_])
set_option maxRecDepth 20000 in
theorem sViewOf (lo hi : Nat) (A : Option Addr) (n c : Nat) (xs : List Fl) (w : World) (hx : Fls lo hi w A n c xs) :
    Calls Try.prog 13 #[.slice A n c] w (FlsPost (viewF xs) w) := by
  have HX := Lib.hid hx
  clear hx
  cases h : flsOk xs
  · have HF := Lib.hid (viewF_no h)
    have HP := Lib.hid (Fc.acc_new w).post
    go_enter Try.func13, Try.ntmps13
    go_wp2_with fail
    ((with_reducible refine (l32Flows _ _ _ _ _ xs _ HX.out).mono ?_); rintro e w1 ⟨rfl, rfl⟩)
    rw [h]
    clear h
    go_wp2
    go_ret
    rw [HF.out]
    exact HP.out
  · have HF := Lib.hid (viewF_yes h)
    have h16 : n ≤ 16 := by rw [← HX.out.len_]; exact (flsOk_iff.1 h).2
    go_enter Try.func13, Try.ntmps13
    go_wp2_with fail
    ((with_reducible refine (l32Flows _ _ _ _ _ xs _ HX.out).mono ?_); rintro e w1 ⟨rfl, rfl⟩)
    rw [h]
    clear h
    go_wp2_with fail
    ((with_reducible refine (l32View _ _ _ _ _ xs _ HX.out h16).mono ?_); rintro e w2 ⟨A2, c2, rfl, ho, hb⟩)
    have HP : Hid (FlsPost (viewL xs) w (.returned (.slice A2 (viewL xs).length c2)) w2) := ⟨A2, c2, rfl, ho, hb⟩
    clear ho hb
    generalize viewL xs = ys at *
    go_wp2
    go_ret
    rw [HF.out]
    exact HP.out
set_option maxRecDepth 20000 in
set_option maxHeartbeats 2000000 in
theorem sViewSame (l1 h1 l2 h2 : Nat) (A B : Option Addr) (n c m d : Nat) (xs ys : List Fl) (w : World) (hx : Fls l1 h1 w A n c xs) (hy : Fls l2 h2 w B m d ys) :
    Calls Try.prog 17 #[.slice A n c, .slice B m d] w (BoolB (sameV xs ys) w) := by
  have HX := Lib.hid hx
  have HY := Lib.hid hy
  have HLX := Lib.hid hx.len_
  have HLY := Lib.hid hy.len_
  clear hx hy
  cases hfa : flsOk xs
  · have HF := Lib.hid (sameV_noA (b := ys) hfa)
    go_enter Try.func17, Try.ntmps17
    go_wp2_with fail
    ((with_reducible refine (l32Flows _ _ _ _ _ xs _ HX.out).mono ?_); rintro e w1 ⟨rfl, rfl⟩)
    rw [hfa]
    go_wp2
    go_ret
    rw [HF.out]
    exact ⟨rfl, Below.refl _ _⟩
  cases hfb : flsOk ys
  · have HF := Lib.hid (sameV_noB (a := xs) hfb)
    go_enter Try.func17, Try.ntmps17
    go_wp2_with fail
    ((with_reducible refine (l32Flows _ _ _ _ _ xs _ HX.out).mono ?_); rintro e w1 ⟨rfl, rfl⟩)
    rw [hfa]
    go_wp2_with fail
    ((with_reducible refine (l32Flows _ _ _ _ _ ys _ HY.out).mono ?_); rintro e w1 ⟨rfl, rfl⟩)
    rw [hfb]
    go_wp2
    go_ret
    rw [HF.out]
    exact ⟨rfl, Below.refl _ _⟩
  by_cases hnm : n = m
  case neg =>
    have HF := Lib.hid (sameV_len (a := xs) (b := ys) (by rw [HLX.out, HLY.out]; exact hnm))
    have hne : ((n : Int) != (m : Int)) = true := by simpa using (by omega : ¬ (n : Int) = m)
    clear hnm
    go_enter Try.func17, Try.ntmps17
    go_wp2_with fail
    ((with_reducible refine (l32Flows _ _ _ _ _ xs _ HX.out).mono ?_); rintro e w1 ⟨rfl, rfl⟩)
    rw [hfa]
    go_wp2_with fail
    ((with_reducible refine (l32Flows _ _ _ _ _ ys _ HY.out).mono ?_); rintro e w1 ⟨rfl, rfl⟩)
    rw [hfb]
    go_wp2
    go_ret
    rw [HF.out]
    exact ⟨rfl, Below.refl _ _⟩
  subst hnm
  have h16 : n ≤ 16 := by rw [← HLX.out]; exact (flsOk_iff.1 hfa).2
  have HVS := Lib.hid (sameV_ok hfa hfb)
  have hne : ((n : Int) != (n : Int)) = false := by simp
  go_enter Try.func17, Try.ntmps17
  go_wp2_with fail
  ((with_reducible refine (l32Flows _ _ _ _ _ xs _ HX.out).mono ?_); rintro e w1 ⟨rfl, rfl⟩)
  rw [hfa]
  go_wp2_with fail
  ((with_reducible refine (l32Flows _ _ _ _ _ ys _ HY.out).mono ?_); rintro e w1 ⟨rfl, rfl⟩)
  rw [hfb]
  clear hfa hfb
  go_wp2_with fail
  ((with_reducible refine (l32ViewN _ _ _ _ _ xs _ HX.out h16).mono ?_); rintro e w2 ⟨A5, c5, rfl, ho5, hb5⟩)
  have O5 := Lib.hid ho5.row_
  have HY2 := Lib.hid (HY.out.below hb5 (Nat.le_refl _))
  have HB := Lib.hid hb5
  clear ho5 hb5
  go_wp2_with fail
  ((with_reducible refine (l32ViewN _ _ _ _ _ ys _ HY2.out h16).mono ?_); rintro e W ⟨A6, c6, rfl, ho6, hb6⟩)
  have hc5 := O5.out.cap_
  have hm5 := O5.out.max_
  have hc6 := ho6.row_.cap_
  have HB2 := Lib.hid (HB.out.trans (hb6.mono HB.out.size))
  have HX5 : Hid ((viewL xs).length = n) := O5.out.len_
  have HY5 : Hid ((viewL ys).length = n) := ho6.row_.len_
  have HR0 : Hid (SRel _ _ _ _ W W A5 A6 n c5 n c6 (viewL xs) (viewL ys)) := ⟨O5.out.below hb6 (Nat.le_refl _), ho6.row_, 0, rfl⟩
  clear ho6 hb6 O5 HY2 HB
  generalize viewL xs = X at *
  generalize viewL ys = Y at *
  go_wp2
  go_loopw [7] (fun i wr => ∃ k : Nat, k ≤ n ∧ i = .int .i64 k ∧ Hid (X.take k = Y.take k) ∧ Hid (SRel _ _ _ _ W wr A5 A6 n c5 n c6 X Y)) (fun i _ => n - (intOf i).toNat)
  case atStart => exact ⟨0, Nat.zero_le _, rfl, rfl, HR0.out⟩
  case round =>
    obtain ⟨k, hk, rfl, hT, hR⟩ := hrel
    clear HR0
    by_cases hlt : k < n
    · obtain ⟨b, off, rfl, _, _, _, p0, p1, p2⟩ := hR.out.1.at_ hlt
      obtain ⟨b2, off2, rfl, _, _, _, q0, q1, q2⟩ := hR.out.2.1.at_ hlt
      have HN : Hid (flAt X k = flAt Y k → X.take (k + 1) = Y.take (k + 1)) := fun h => by
        have hh := hT.out
        rw [fl_take (by rw [HX5.out]; exact hlt), fl_take (by rw [HY5.out]; exact hlt), hh, h]
      have HF : Hid (flAt X k ≠ flAt Y k → decide (X = Y) = false) := fun h => decide_eq_false fun e => h (by rw [e])
      clear hT
      generalize flAt X k = x at *
      generalize flAt Y k = y at *
      obtain ⟨x0, x1, x2⟩ := x
      obtain ⟨y0, y1, y2⟩ := y
      dsimp only at p0 p1 p2 q0 q1 q2
      have HR2 : Hid (∀ q, SRel _ _ _ _ W (wr.drewN q) (some ⟨b, off, none⟩) (some ⟨b2, off2, none⟩) n c5 n c6 X Y) := fun q => hR.out.dn q
      clear hR
      by_cases hxy : x0 = y0 ∧ x1 = y1 ∧ x2 = y2
      · have HN2 := Lib.hid (HN.out (by obtain ⟨rfl, rfl, rfl⟩ := hxy; rfl))
        clear HN HF
        obtain ⟨rfl, rfl, rfl⟩ := hxy
        go_wp2
        go_quiet (fail)
        clear p0 p1 p2 q0 q1 q2
        go_wp2
        go_roundw
        case rel => exact ⟨k + 1, by omega, by go_num, HN2.out, HR2.out _⟩
        case measure => simp [intOf]; omega
      · have HF2 := Lib.hid (HF.out (fun e => hxy (by cases e; exact ⟨rfl, rfl, rfl⟩)))
        clear HN HF
        cases d0 : (x0 == y0)
        · go_wp2
          go_quiet (fail)
          clear p0 p1 p2 q0 q1 q2
          go_wp2
          go_ret
          rw [HVS.out, HF2.out]
          obtain ⟨_, _, d, hd⟩ := HR2.out nq
          rw [hd]
          exact ⟨rfl, bd HB2.out⟩
        · cases d1 : (x1 == y1)
          · go_wp2
            go_quiet (fail)
            clear p0 p1 p2 q0 q1 q2
            go_wp2
            go_ret
            rw [HVS.out, HF2.out]
            obtain ⟨_, _, d, hd⟩ := HR2.out nq
            rw [hd]
            exact ⟨rfl, bd HB2.out⟩
          · have d2 : (x2 == y2) = false := by
              cases d2 : (x2 == y2)
              · rfl
              · exact absurd ⟨by simpa using d0, by simpa using d1, by simpa using d2⟩ hxy
            go_wp2
            go_quiet (fail)
            clear p0 p1 p2 q0 q1 q2
            go_wp2
            go_ret
            rw [HVS.out, HF2.out]
            obtain ⟨_, _, d, hd⟩ := HR2.out nq
            rw [hd]
            exact ⟨rfl, bd HB2.out⟩
    · obtain rfl : k = n := by omega
      have HV : Hid (decide (X = Y) = true) := by
        refine decide_eq_true ?_
        have h := hT.out
        rwa [List.take_of_length_le (by rw [HX5.out]; exact Nat.le_refl _), List.take_of_length_le (by rw [HY5.out]; exact Nat.le_refl _)] at h
      have HR2 := Lib.hid hR.out.2.2
      clear hT hR hlt
      go_wp2
      go_ret
      rw [HVS.out, HV.out]
      obtain ⟨d, hd⟩ := HR2.out
      rw [hd]
      exact ⟨rfl, bd HB2.out⟩
end Sp13
end Go.Proofs.Ytcbhjnjallnidaa
