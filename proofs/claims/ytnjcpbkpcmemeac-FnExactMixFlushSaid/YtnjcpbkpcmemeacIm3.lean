/-
  Contracts of the program's chapter 3: tags, by a closure that holds the tag.
-/
import Derived.Test.YtnjcpbkpcmemeacIt
import Derived.Test.YtnjcpbkpcmemeacTm
namespace Go.Proofs.Ytnjcpbkpcmemeac
open Go.RowKit
namespace Im3
open Il Gm Mm Tm Im2

set_option maxRecDepth 20000 in
/-- The block of a slice lies below the world's end. -/
theorem ints_hi {lo hi : Nat} {w : World} {A : Option Addr} {n c : Nat} {xs : List Int} (h : Ints lo hi w A n c xs) : Ints lo w.heap.size w A n c xs :=
  ⟨h.1, h.2.1, h.2.2.1, fun hn => by
    obtain ⟨b, off, e, h1, _, hz, hc⟩ := h.2.2.2 hn
    exact ⟨b, off, e, h1, hz, hz, hc⟩⟩
set_option maxRecDepth 20000 in
theorem tagFrom (start : Int) (w : World) (h0 : 0 ≤ start) (h1 : start ≤ 100000) :
    Calls Try.prog 110 #[.int .i64 start] w fun e w' => e = .returned (.func (.func 113) #[] #[.pointer (some ⟨w.heap.size, 0, none⟩)]) ∧ w' = w.alloc (.cells #[.int .i64 (start % 991)] 3) := by
  go_enter Try.func110, Try.ntmps110
  go_wp2
  go_ret
  exact ⟨rfl, rfl⟩

set_option maxRecDepth 20000 in
/-- The closure over a box b that holds the tag's beginning: it leaves the tag there and returns it. -/
theorem extend (lo hi : Nat) (A : Option Addr) (n c : Nat) (xs : List Int) (key : Int) (b : Nat) (w : World) (hx : Ints lo hi w A n c xs) (hok : okL xs = true) (hb : Boxed w b 3 (.int .i64 (tagTo key xs 0))) (hlb : hi ≤ b) :
    Calls Try.prog 113 #[.slice A n c, .pointer (some ⟨b, 0, none⟩)] w fun e w' => e = .returned (.int .i64 (tagL key xs)) ∧ Below b w w' := by
  have HL := Lib.hid hx.1
  have HX := Lib.hid hx
  have HK := Lib.hid hok
  have HB := Lib.hid hb
  have hn : n ≤ 24 := by rw [← hx.1]; exact (okL_iff.1 hok).2
  clear hx hok hb
  go_enter Try.func113, Try.ntmps113
  go_wp2
  go_loopw [8] (fun i wr => ∃ k : Nat, k ≤ n ∧ i = .int .i64 k ∧ Boxed wr b 3 (.int .i64 (tagTo key xs k)) ∧ Below b w wr) (fun i _ => n - (intOf i).toNat)
  case atStart => exact ⟨0, Nat.zero_le _, rfl, HB.out, Below.refl _ _⟩
  case round =>
    obtain ⟨k, hk, rfl, hB, hW⟩ := hrel
    have HW := Lib.hid hW
    have HBW := Lib.hid hB
    have hcb := hB.cell
    have hfb := hB.frozen
    have hbd := tagTo_bd key xs k
    clear hW hB
    by_cases hlt : k < n
    · obtain ⟨b', off, rfl, _, hb2, hcx⟩ := (HX.out.below' HW.out hlb).at_ hlt
      have hxd := okL_at HK.out (k := k) (by rw [HL.out]; exact hlt)
      have HN := Lib.hid (tagTo_succ key (xs := xs) (k := k) (by rw [HL.out]; exact hlt))
      generalize xs.getD k 0 = x at hcx hxd HN
      generalize tagTo key xs k = t at hbd HN HBW hcb ⊢
      go_wp2
      go_roundw
      case rel => exact ⟨k + 1, by omega, by go_num, by rw [HN.out]; exact HBW.out.set _, HW.out.setCell (Nat.le_refl _) _⟩
      case measure => simp [intOf]; omega
    · have hfin : tagTo key xs k = tagL key xs := tagTo_all key (by rw [HL.out]; omega)
      rw [hfin] at hcb
      clear hfin hbd
      go_wp2
      go_ret
      exact ⟨rfl, HW.out⟩

set_option maxRecDepth 20000 in
theorem TagOf (lo hi : Nat) (A : Option Addr) (n c : Nat) (xs : List Int) (key : Int) (w : World) (hx : Ints lo hi w A n c xs) :
    Calls Try.prog 100 #[.int .i64 key, .slice A n c] w (IntB (tagF key xs) w) := by
  have HX := Lib.hid hx
  have HL := Lib.hid hx.1
  clear hx
  cases hg : inG key
  · rw [tagF_no1 hg]
    go_enter Try.func100, Try.ntmps100
    go_wp2_with fail
    ((with_reducible refine (inRange key w).mono ?_); rintro e w' ⟨rfl, rfl⟩)
    rw [hg]
    clear hg
    go_wp2
    go_ret
    exact ⟨rfl, Below.refl _ _⟩
  · cases hok : okL xs
    · rw [tagF_no2 hok]
      go_enter Try.func100, Try.ntmps100
      go_wp2_with fail
      ((with_reducible refine (inRange key w).mono ?_); rintro e w' ⟨rfl, rfl⟩)
      rw [hg]
      clear hg
      go_wp2_with fail
      ((with_reducible refine (listValid _ _ _ _ _ _ w HX.out).mono ?_); rintro e w' ⟨rfl, rfl⟩)
      rw [hok]
      clear hok
      go_wp2
      go_ret
      exact ⟨rfl, Below.refl _ _⟩
    · rw [tagF_yes hg hok]
      have hk := inG_iff.1 hg
      have hn : n ≤ 24 := by rw [← HL.out]; exact (okL_iff.1 hok).2
      have HOK := Lib.hid hok
      have HI := Lib.hid (show (3 * key + 41 * (n : Int) + 1) % 991 = tagTo key xs 0 by rw [tagTo_zero, HL.out]; rfl)
      go_enter Try.func100, Try.ntmps100
      go_wp2_with fail
      ((with_reducible refine (inRange key w).mono ?_); rintro e w' ⟨rfl, rfl⟩)
      rw [hg]
      clear hg
      go_wp2_with fail
      ((with_reducible refine (listValid _ _ _ _ _ _ w HX.out).mono ?_); rintro e w' ⟨rfl, rfl⟩)
      rw [hok]
      clear hok
      go_wp2_with fail
      ((with_reducible refine (tagFrom _ w (by omega) (by omega)).mono ?_); rintro e w' ⟨rfl, rfl⟩)
      rw [HI.out]
      have hbox := Boxed.new w 3 (.int .i64 (tagTo key xs 0))
      have hbl : Below w.heap.size w (w.alloc (.cells #[.int .i64 (tagTo key xs 0)] 3)) := (Below.refl _ w).alloc (Nat.le_refl _) _
      have HX2 := Lib.hid (ints_hi HX.out |>.below hbl (Nat.le_refl _))
      generalize w.alloc (.cells #[.int .i64 (tagTo key xs 0)] 3) = w1 at hbox hbl HX2 ⊢
      have HBX := Lib.hid hbox
      have HBL := Lib.hid hbl
      clear hbox hbl
      go_wp2_with fail
      ((with_reducible refine (extend _ _ _ _ _ _ key w.heap.size w1 HX2.out HOK.out HBX.out (Nat.le_refl _)).mono ?_); rintro e w2 ⟨rfl, hw2⟩)
      have HW2 := Lib.hid hw2
      clear hw2
      go_wp2
      go_ret
      exact ⟨rfl, HBL.out.trans HW2.out⟩

set_option maxRecDepth 20000 in
theorem TagCheck (lo hi : Nat) (A : Option Addr) (n c : Nat) (xs : List Int) (key tag : Int) (w : World) (hx : Ints lo hi w A n c xs) :
    Calls Try.prog 84 #[.int .i64 key, .slice A n c, .int .i64 tag] w (BoolB (tagC key xs tag) w) := by
  have HX := Lib.hid hx
  clear hx
  by_cases h0 : 0 ≤ tag
  · by_cases he : tagF key xs = tag
    · have hb : (tag == tagF key xs) = true := by simpa using he.symm
      rw [tagC_iff.2 ⟨h0, he⟩]
      clear he
      go_enter Try.func84, Try.ntmps84
      go_wp2_with fail
      ((with_reducible refine (TagOf _ _ _ _ _ _ key w HX.out).mono ?_); rintro e w' ⟨rfl, hw⟩)
      have HW := Lib.hid hw
      clear hw
      go_wp2
      go_ret
      exact ⟨rfl, HW.out⟩
    · have hb : (tag == tagF key xs) = false := by simpa using fun h => he h.symm
      rw [tagC_no he]
      clear he
      go_enter Try.func84, Try.ntmps84
      go_wp2_with fail
      ((with_reducible refine (TagOf _ _ _ _ _ _ key w HX.out).mono ?_); rintro e w' ⟨rfl, hw⟩)
      have HW := Lib.hid hw
      clear hw
      go_wp2
      go_ret
      exact ⟨rfl, HW.out⟩
  · have hd : decide (0 ≤ tag) = false := by simpa using h0
    have hc : tagC key xs tag = false := by simp [tagC, h0]
    rw [hc]
    clear h0 hc
    go_enter Try.func84, Try.ntmps84
    go_wp2
    go_ret
    exact ⟨rfl, Below.refl _ _⟩

end Im3
end Go.Proofs.Ytnjcpbkpcmemeac
