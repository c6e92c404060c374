/-
  Contracts of the program's chapter 33: valid tables.
-/
import Derived.Test.YtjfonmaandnbhabTc
import Derived.Test.YtjfonmaandnbhabSg
import Derived.Shelf.Abstract
namespace Go.Proofs.Ytjfonmaandnbhab
open Go.RowKit Go.Shelf
namespace Im14
open Il Sl Bi Cb Tc

/-- The table's variable, in a block of its own. -/
def TBox (w : World) (b : Nat) (A : Option Addr) (n c : Nat) : Prop := w.heap[b]? = some (.cells #[.slice A n c] 23 (0, 0))
theorem TBox.cell {w : World} {b : Nat} {A : Option Addr} {n c : Nat} (h : TBox w b A n c) : w.cell? ⟨b, 0, none⟩ = some (.slice A n c) := by rw [cell_of_row _ _ _ _ _ _ h]; rfl

theorem wrong (b m k n c : Nat) (B A : Option Addr) (w : World) (hb : TBox w b A n c) :
    Calls Try.prog 47 #[.slice B m k, .pointer (some ⟨b, 0, none⟩)] w fun e w' => e = .returned (.bool (decide (m ≠ n))) ∧ w = w' := by
  have h0 := hb.cell
  skip
  clear hb
  by_cases he : m = n
  · have hne : ((m : Int) != (n : Int)) = false := by simp; omega
    rw [decide_eq_false (by omega)]
    clear he
    go_enter Try.func47, Try.ntmps47
    go_wp2
    go_ret
    exact ⟨rfl, rfl⟩
  · have hne : ((m : Int) != (n : Int)) = true := by simp; omega
    rw [decide_eq_true (by omega)]
    clear he
    go_enter Try.func47, Try.ntmps47
    go_wp2
    go_ret
    exact ⟨rfl, rfl⟩
/-- The first row that is too long or too short. -/
def FIx (t : List (List Bool)) (n : Nat) (w : World) (e : Ending) (w' : World) : Prop := (∃ v : Int, e = .returned (.int .i64 v) ∧ (v < 0 ∧ (∀ k, k < n → (blAt t k).length = n) ∨ 0 ≤ v ∧ v < 9223372036854775808 ∧ ∃ k, k < n ∧ (blAt t k).length ≠ n)) ∧ w = w'
set_option maxRecDepth 20000 in
theorem indexFunc (b lo hi : Nat) (A : Option Addr) (n c : Nat) (t : List (List Bool)) (w : World) (hx : Bts lo hi w A n c t) (hb : TBox w b A n c) :
    Calls Try.prog 59 #[.slice A n c, .func (.func 47) #[] #[.pointer (some ⟨b, 0, none⟩)]] w (FIx t n w) := by
  have hc1 := hx.max_
  have hc2 := hx.cap_

  unfold maxLen at hc1
  have HX := Lib.hid hx
  have HB := Lib.hid hb
  clear hx hb
  go_enter Try.func59, Try.ntmps59
  go_wp2
  go_loop [5, 8] (fun _ i => ∃ k : Nat, k ≤ n ∧ i = .int .i64 k ∧ Hid (∀ j, j < k → (blAt t j).length = n)) (fun _ i => n - (intOf i).toNat)
  case atStart => exact ⟨0, Nat.zero_le _, rfl, fun j hj => absurd hj (by omega)⟩
  case round =>
    obtain ⟨k, hk, rfl, hT⟩ := hrel
    by_cases hlt : k < n
    · obtain ⟨b', off, H, e, rfl, _, _, _, c0, ih⟩ := HX.out.at_ hlt
      clear ih
      have HW := Lib.hid (wrong b (blAt t k).length e n c H (some ⟨b', off, none⟩) w HB.out)
      by_cases he : (blAt t k).length = n
      · have HT : Hid (∀ j, j < k + 1 → (blAt t j).length = n) := fun j hj => by
          rcases Nat.lt_or_ge j k with h | h
          · exact hT.out j h
          · obtain rfl : j = k := by omega
            exact he
        have HE : Hid (decide ((blAt t k).length ≠ n) = false) := decide_eq_false (by omega)
        clear hT he
        generalize (blAt t k).length = m at *
        go_wp2_with fail
        ((with_reducible refine (HW.out).mono ?_); rintro e w1 ⟨rfl, rfl⟩)
        rw [HE.out]
        go_wp2
        go_round
        case rel => exact ⟨k + 1, by omega, by go_num, HT.out⟩
        case measure => simp [intOf]; omega
      · have HE : Hid (decide ((blAt t k).length ≠ n) = true) := decide_eq_true he
        have HF : Hid (∃ k, k < n ∧ (blAt t k).length ≠ n) := ⟨k, hlt, he⟩
        clear he hT
        generalize (blAt t k).length = m at *
        go_wp2_with fail
        ((with_reducible refine (HW.out).mono ?_); rintro e w1 ⟨rfl, rfl⟩)
        rw [HE.out]
        go_wp2
        go_ret
        exact ⟨⟨k, rfl, .inr ⟨by omega, by omega, HF.out⟩⟩, rfl⟩
    · obtain rfl : k = n := by omega
      go_wp2
      go_ret
      exact ⟨⟨-1, rfl, .inl ⟨by omega, hT.out⟩⟩, rfl⟩
theorem containsFunc (b lo hi : Nat) (A : Option Addr) (n c : Nat) (t : List (List Bool)) (w : World) (hx : Bts lo hi w A n c t) (hb : TBox w b A n c) :
    Calls Try.prog 48 #[.slice A n c, .func (.func 47) #[] #[.pointer (some ⟨b, 0, none⟩)]] w fun e w' => e = .returned (.bool (!sqr t)) ∧ w = w' := by
  have HL := Lib.hid hx.len_
  have HC := Lib.hid (indexFunc b lo hi A n c t w hx hb)
  clear hx hb
  go_enter Try.func48, Try.ntmps48
  go_wp2_with fail
  (with_reducible refine HC.out.mono ?_)
  rintro e w1 ⟨⟨v, rfl, h | h⟩, rfl⟩
  · have hv := h.1
    have hd : decide (0 ≤ v) = false := decide_eq_false (by omega)
    have HS : Hid (sqr t = true) := sqr_iff.2 fun j hj => by rw [HL.out] at hj ⊢; exact h.2 j hj
    clear h hv
    go_wp2
    go_ret
    exact ⟨by rw [HS.out]; rfl, rfl⟩
  · have hv := h.1
    have hd : decide (0 ≤ v) = true := decide_eq_true (by omega)
    have HS : Hid (sqr t = false) := by
      obtain ⟨_, _, k, hk, hne⟩ := h
      exact sqr_no (k := k) (by rw [HL.out]; exact hk) (by rw [HL.out]; exact hne)
    clear h hv
    go_wp2
    go_ret
    exact ⟨by rw [HS.out]; rfl, rfl⟩
set_option maxRecDepth 20000 in
theorem AssignValid (lo hi : Nat) (A : Option Addr) (n c : Nat) (t : List (List Bool)) (w : World) (hx : Bts lo hi w A n c t) :
    Calls Try.prog 26 #[.slice A n c] w (BoolB (tabOk t) w) := by
  have hc1 := hx.max_
  have hc2 := hx.cap_
  unfold maxLen at hc1
  have HL := Lib.hid hx.len_
  have hal : Below w.heap.size w (w.alloc (.cells #[.slice A n c] 23)) := (Below.refl _ _).alloc (Nat.le_refl _) _
  have HX := Lib.hid (hx.below hal (Nat.le_refl _))
  have hbx : TBox (w.alloc (.cells #[.slice A n c] 23)) w.heap.size A n c := heap_alloc_new _ _
  have h0 := hbx.cell
  have HB := Lib.hid hbx
  have HA := Lib.hid hal
  clear hx hal hbx
  by_cases h1 : 1 ≤ n
  · by_cases h5 : n ≤ 5
    · have HS : Hid (tabOk t = sqr t) := by
        show _ = _
        unfold tabOk
        rw [HL.out, decide_eq_true ⟨h1, h5⟩, Bool.and_true]
      go_enter Try.func26, Try.ntmps26
      go_wp2_with fail
      ((with_reducible refine (containsFunc w.heap.size lo hi A n c t _ HX.out HB.out).mono ?_); rintro e w1 ⟨rfl, rfl⟩)
      generalize hq : sqr t = q at *
      cases q
      · go_wp2
        go_ret
        exact ⟨by rw [HS.out]; rfl, HA.out⟩
      · go_wp2
        go_ret
        exact ⟨by rw [HS.out]; rfl, HA.out⟩
    · have HS : Hid (tabOk t = false) := tab_size (by rw [HL.out]; omega)
      have h5' : decide ((n : Int) ≤ 5) = false := decide_eq_false (by omega)
      go_enter Try.func26, Try.ntmps26
      go_wp2
      go_ret
      exact ⟨by rw [HS.out]; rfl, HA.out⟩
  · have HS : Hid (tabOk t = false) := tab_size (by rw [HL.out]; omega)
    have h1' : decide ((1 : Int) ≤ (n : Int)) = false := decide_eq_false (by omega)
    go_enter Try.func26, Try.ntmps26
    go_wp2
    go_ret
    exact ⟨by rw [HS.out]; rfl, HA.out⟩
end Im14
end Go.Proofs.Ytjfonmaandnbhab
