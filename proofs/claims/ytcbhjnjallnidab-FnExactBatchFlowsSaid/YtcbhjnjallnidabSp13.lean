/-
  Contracts on flows: two lists compared; the model's chapter 32.
-/
import Derived.Test.YtcbhjnjallnidabFp
import Derived.Test.YtcbhjnjallnidabSp2
import Derived.Test.YtcbhjnjallnidabIla
import Derived.Test.YtcbhjnjallnidabHlp
import Derived.Laws.StructEq
import Derived.Deep.RegionLaw
namespace Go.Proofs.Ytcbhjnjallnidab
open Go.RowKit
namespace Sp13
open Il Sl Fc Fp Pm

/-- Two lists of flows while they are compared. -/
def SRel (l1 h1 l2 h2 : Nat) (w wr : World) (A B : Option Addr) (n c m d : Nat) (xs ys : List Fl) : Prop := Fls l1 h1 wr A n c xs ∧ Fls l2 h2 wr B m d ys ∧ ∃ q, wr = w.drewN q
theorem SRel.dn {l1 h1 l2 h2 : Nat} {w wr : World} {A B : Option Addr} {n c m d : Nat} {xs ys : List Fl} (h : SRel l1 h1 l2 h2 w wr A B n c m d xs ys) (p : Nat) : SRel l1 h1 l2 h2 w (wr.drewN p) A B n c m d xs ys := by
  obtain ⟨r1, r2, q, r3⟩ := h
  exact ⟨r1, r2, q + p, by rw [r3, World.drewN_drewN]⟩
theorem bd {K d : Nat} {w w' : World} (h : Below K w w') : Below K w (w'.drewN d) := ⟨h.os, h.tape, h.output, h.size, h.block⟩
set_option maxRecDepth 20000 in
set_option maxHeartbeats 2000000 in
theorem sameFlows (l1 h1 l2 h2 : Nat) (A B : Option Addr) (n c m d : Nat) (xs ys : List Fl) (w : World) (hx : Fls l1 h1 w A n c xs) (hy : Fls l2 h2 w B m d ys) :
    Calls Try.prog 13 #[.slice A n c, .slice B m d] w (BoolPost (decide (xs = ys)) w) := by
  have HX := Lib.hid hx.len_
  have HY := Lib.hid hy.len_
  have hc1 := hx.max_
  have hc2 := hx.cap_
  by_cases hnm : n = m
  case neg =>
    have HV : Hid (decide (xs = ys) = false) := decide_eq_false fun e => hnm (by rw [← HX.out, ← HY.out, e])
    have hne : ((n : Int) != (m : Int)) = true := by simpa using (by omega : ¬ (n : Int) = m)
    rw [HV.out]
    clear hx hy hnm
    go_enter Try.func13, Try.ntmps13
    go_wp2
    go_ret
    exact ⟨rfl, 0, rfl⟩
  subst hnm
  have hd1 := hy.cap_
  have HR0 : Hid (SRel l1 h1 l2 h2 w w A B n c n d xs ys) := ⟨hx, hy, 0, rfl⟩
  clear hx hy
  go_enter Try.func13, Try.ntmps13
  go_wp2
  go_loopw [5] (fun i wr => ∃ k : Nat, k ≤ n ∧ i = .int .i64 k ∧ Hid (xs.take k = ys.take k) ∧ Hid (SRel l1 h1 l2 h2 w wr A B n c n d xs ys)) (fun i _ => n - (intOf i).toNat)
  case atStart => exact ⟨0, Nat.zero_le _, rfl, rfl, HR0.out⟩
  case round =>
    obtain ⟨k, hk, rfl, hT, hR⟩ := hrel
    clear HR0
    by_cases hlt : k < n
    · obtain ⟨b, off, rfl, _, _, _, p0, p1, p2⟩ := hR.out.1.at_ hlt
      obtain ⟨b2, off2, rfl, _, _, _, q0, q1, q2⟩ := hR.out.2.1.at_ hlt
      have HN : Hid (flAt xs k = flAt ys k → xs.take (k + 1) = ys.take (k + 1)) := fun h => by
        have hh := hT.out
        rw [fl_take (by rw [HX.out]; exact hlt), fl_take (by rw [HY.out]; exact hlt), hh, h]
      have HF : Hid (flAt xs k ≠ flAt ys k → decide (xs = ys) = false) := fun h => decide_eq_false fun e => h (by rw [e])
      clear hT
      generalize flAt xs k = x at *
      generalize flAt ys k = y at *
      obtain ⟨x0, x1, x2⟩ := x
      obtain ⟨y0, y1, y2⟩ := y
      dsimp only at p0 p1 p2 q0 q1 q2
      have HR2 : Hid (∀ q, SRel l1 h1 l2 h2 w (wr.drewN q) (some ⟨b, off, none⟩) (some ⟨b2, off2, none⟩) n c n d xs ys) := fun q => hR.out.dn q
      clear hR
      by_cases hxy : x0 = y0 ∧ x1 = y1 ∧ x2 = y2
      · have HN2 := Lib.hid (HN.out (by obtain ⟨rfl, rfl, rfl⟩ := hxy; rfl))
        clear HN HF
        obtain ⟨rfl, rfl, rfl⟩ := hxy
        go_wp2
        go_quiet (fail)
        clear p0 p1 p2 q0 q1 q2
        go_wp2
        go_roundw
        case rel => exact ⟨k + 1, by omega, by go_num, HN2.out, HR2.out _⟩
        case measure => simp [intOf]; omega
      · have HF2 := Lib.hid (HF.out (fun e => hxy (by cases e; exact ⟨rfl, rfl, rfl⟩)))
        clear HN HF
        cases d0 : (x0 == y0)
        · go_wp2
          go_quiet (fail)
          clear p0 p1 p2 q0 q1 q2
          go_wp2
          go_ret
          rw [HF2.out]
          exact ⟨rfl, (HR2.out _).2.2⟩
        · cases d1 : (x1 == y1)
          · go_wp2
            go_quiet (fail)
            clear p0 p1 p2 q0 q1 q2
            go_wp2
            go_ret
            rw [HF2.out]
            exact ⟨rfl, (HR2.out _).2.2⟩
          · have d2 : (x2 == y2) = false := by
              cases d2 : (x2 == y2)
              · rfl
              · exact absurd ⟨by simpa using d0, by simpa using d1, by simpa using d2⟩ hxy
            go_wp2
            go_quiet (fail)
            clear p0 p1 p2 q0 q1 q2
            go_wp2
            go_ret
            rw [HF2.out]
            exact ⟨rfl, (HR2.out _).2.2⟩
    · obtain rfl : k = n := by omega
      have HV : Hid (decide (xs = ys) = true) := by
        refine decide_eq_true ?_
        have h := hT.out
        rwa [List.take_of_length_le (by rw [HX.out]; exact Nat.le_refl _), List.take_of_length_le (by rw [HY.out]; exact Nat.le_refl _)] at h
      have HR2 := Lib.hid hR.out.2.2
      clear hT hR hlt
      go_wp2
      go_ret
      rw [HV.out]
      exact ⟨rfl, HR2.out⟩
set_option maxRecDepth 20000 in
set_option maxHeartbeats 2000000 in
theorem equalF (l1 h1 l2 h2 : Nat) (A B : Option Addr) (n c m d : Nat) (xs ys : List Fl) (w : World) (hx : Fls l1 h1 w A n c xs) (hy : Fls l2 h2 w B m d ys) :
    Calls Try.prog 33 #[.slice A n c, .slice B m d] w (BoolPost (decide (xs = ys)) w) := by
  have HX := Lib.hid hx.len_
  have HY := Lib.hid hy.len_
  have hc1 := hx.max_
  have hc2 := hx.cap_
  by_cases hnm : n = m
  case neg =>
    have HV : Hid (decide (xs = ys) = false) := decide_eq_false fun e => hnm (by rw [← HX.out, ← HY.out, e])
    have hne : ((n : Int) != (m : Int)) = true := by simpa using (by omega : ¬ (n : Int) = m)
    rw [HV.out]
    clear hx hy hnm
    go_enter Try.func33, Try.ntmps33
    go_wp2
    go_ret
    exact ⟨rfl, 0, rfl⟩
  subst hnm
  have hd1 := hy.cap_
  have HR0 : Hid (SRel l1 h1 l2 h2 w w A B n c n d xs ys) := ⟨hx, hy, 0, rfl⟩
  clear hx hy
  go_enter Try.func33, Try.ntmps33
  go_wp2
  go_loopw [5, 13] (fun _ i wr => ∃ k : Nat, k ≤ n ∧ i = .int .i64 k ∧ Hid (xs.take k = ys.take k) ∧ Hid (SRel l1 h1 l2 h2 w wr A B n c n d xs ys)) (fun _ i _ => n - (intOf i).toNat)
  case atStart => exact ⟨0, Nat.zero_le _, rfl, rfl, HR0.out⟩
  case round =>
    obtain ⟨k, hk, rfl, hT, hR⟩ := hrel
    clear HR0
    by_cases hlt : k < n
    · obtain ⟨b, off, rfl, _, _, _, p0, p1, p2⟩ := hR.out.1.at_ hlt
      obtain ⟨b2, off2, rfl, _, _, _, q0, q1, q2⟩ := hR.out.2.1.at_ hlt
      have HN : Hid (flAt xs k = flAt ys k → xs.take (k + 1) = ys.take (k + 1)) := fun h => by
        have hh := hT.out
        rw [fl_take (by rw [HX.out]; exact hlt), fl_take (by rw [HY.out]; exact hlt), hh, h]
      have HF : Hid (flAt xs k ≠ flAt ys k → decide (xs = ys) = false) := fun h => decide_eq_false fun e => h (by rw [e])
      clear hT
      generalize flAt xs k = x at *
      generalize flAt ys k = y at *
      obtain ⟨x0, x1, x2⟩ := x
      obtain ⟨y0, y1, y2⟩ := y
      dsimp only at p0 p1 p2 q0 q1 q2
      have HR2 : Hid (∀ q, SRel l1 h1 l2 h2 w (wr.drewN q) (some ⟨b, off, none⟩) (some ⟨b2, off2, none⟩) n c n d xs ys) := fun q => hR.out.dn q
      clear hR
      by_cases hxy : x0 = y0 ∧ x1 = y1 ∧ x2 = y2
      · have HN2 := Lib.hid (HN.out (by obtain ⟨rfl, rfl, rfl⟩ := hxy; rfl))
        clear HN HF
        obtain ⟨rfl, rfl, rfl⟩ := hxy
        go_wp2
        go_quiet (fail)
        clear p0 p1 p2 q0 q1 q2
        go_wp2
        go_roundw
        case rel => exact ⟨k + 1, by omega, by go_num, HN2.out, HR2.out _⟩
        case measure => simp [intOf]; omega
      · have HF2 := Lib.hid (HF.out (fun e => hxy (by cases e; exact ⟨rfl, rfl, rfl⟩)))
        clear HN HF
        cases d0 : (x0 == y0)
        · go_wp2
          go_quiet (fail)
          clear p0 p1 p2 q0 q1 q2
          go_wp2
          go_ret
          rw [HF2.out]
          exact ⟨rfl, (HR2.out _).2.2⟩
        · cases d1 : (x1 == y1)
          · go_wp2
            go_quiet (fail)
            clear p0 p1 p2 q0 q1 q2
            go_wp2
            go_ret
            rw [HF2.out]
            exact ⟨rfl, (HR2.out _).2.2⟩
          · have d2 : (x2 == y2) = false := by
              cases d2 : (x2 == y2)
              · rfl
              · exact absurd ⟨by simpa using d0, by simpa using d1, by simpa using d2⟩ hxy
            go_wp2
            go_quiet (fail)
            clear p0 p1 p2 q0 q1 q2
            go_wp2
            go_ret
            rw [HF2.out]
            exact ⟨rfl, (HR2.out _).2.2⟩
    · obtain rfl : k = n := by omega
      have HV : Hid (decide (xs = ys) = true) := by
        refine decide_eq_true ?_
        have h := hT.out
        rwa [List.take_of_length_le (by rw [HX.out]; exact Nat.le_refl _), List.take_of_length_le (by rw [HY.out]; exact Nat.le_refl _)] at h
      have HR2 := Lib.hid hR.out.2.2
      clear hT hR hlt
      go_wp2
      go_ret
      rw [HV.out]
      exact ⟨rfl, HR2.out⟩
end Sp13
end Go.Proofs.Ytcbhjnjallnidab
