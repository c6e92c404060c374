/-
  Contracts of the model's chapter 33: valid tables.
-/
import Derived.Test.YtjfonmaandnbhabTc
import Derived.Test.YtjfonmaandnbhabSg
namespace Go.Proofs.Ytjfonmaandnbhab
open Go.RowKit
namespace Sp14
open Il Sl Bi Cb Tc

set_option maxRecDepth 20000 in
theorem AssignValid (lo hi : Nat) (A : Option Addr) (n c : Nat) (t : List (List Bool)) (w : World) (hx : Bts lo hi w A n c t) :
    Calls Try.prog 22 #[.slice A n c] w fun e w' => e = .returned (.bool (tabOk t)) ∧ w = w' := by
  have hc1 := hx.max_
  have hc2 := hx.cap_
  have HL := Lib.hid hx.len_
  unfold maxLen at hc1
  have HX := Lib.hid hx
  clear hx
  go_enter Try.func22, Try.ntmps22
  go_wp2
  go_loop [3] (fun i => ∃ k : Nat, k ≤ n ∧ i = .int .i64 k ∧ Hid (∀ j, j < k → (blAt t j).length = n)) (fun i => n - (intOf i).toNat)
  case atStart => exact ⟨0, Nat.zero_le _, rfl, fun j hj => absurd hj (by omega)⟩
  case round =>
    obtain ⟨k, hk, rfl, hT⟩ := hrel
    by_cases hlt : k < n
    · obtain ⟨b, off, H, e, rfl, _, _, _, c0, ih⟩ := HX.out.at_ hlt
      have hm1 : (blAt t k).length ≤ maxLen := Nat.le_trans ih.2.1 ih.2.2.1
      unfold maxLen at hm1
      clear ih
      by_cases he : (blAt t k).length = n
      · have hne : (((blAt t k).length : Int) != (n : Int)) = false := by rw [he]; simp
        have HT : Hid (∀ j, j < k + 1 → (blAt t j).length = n) := fun j hj => by
          rcases Nat.lt_or_ge j k with h | h
          · exact hT.out j h
          · obtain rfl : j = k := by omega
            exact he
        clear hT he
        generalize (blAt t k).length = m at *
        go_wp2
        go_round
        case rel => exact ⟨k + 1, by omega, by go_num, HT.out⟩
        case measure => simp [intOf]; omega
      · have hne : (((blAt t k).length : Int) != (n : Int)) = true := by simp; omega
        have HF : Hid (tabOk t = false) := tab_no (sqr_no (k := k) (by rw [HL.out]; exact hlt) (by rw [HL.out]; exact he))
        clear he hT
        generalize (blAt t k).length = m at *
        go_wp2
        go_ret
        exact ⟨by rw [HF.out]; rfl, rfl⟩
    · obtain rfl : k = n := by omega
      have HF : Hid (tabOk t = decide ((1 : Int) ≤ (k : Int) ∧ (k : Int) ≤ 5)) := by
        show _ = _
        rw [tab_yes (sqr_iff.2 fun j hj => by rw [HL.out] at hj ⊢; exact hT.out j hj), HL.out]
        exact decide_eq_decide.2 (by omega)
      clear hT
      go_wp2_with fail
      ((with_reducible refine (Sg.l6In (k : Int) 1 5 _).mono ?_); rintro e w1 ⟨rfl, rfl⟩)
      rw [← HF.out]
      go_wp2
      go_ret
      exact ⟨rfl, rfl⟩
end Sp14
end Go.Proofs.Ytjfonmaandnbhab
