/-
  Contracts of the functions that draw keys, lists and tags out of a code.
-/
import Derived.Test.YtnacfjedfipggaaRda
import Derived.Test.YtnacfjedfipggaaSp3
namespace Go.Proofs.Ytnacfjedfipggaa
open Go.RowKit
namespace Rd
open Il Tm

/-- A key and a list are drawn. -/
def KeyListPost (w : World) (e : Ending) (w' : World) : Prop :=
  ∃ k : Int, ∃ A c xs, e = .returned (.tuple #[.int .i64 k, .slice A xs.length c]) ∧ xs.length ≤ 26 ∧ -1 ≤ k ∧ k ≤ 997 ∧ Own w.heap.size w'.heap.size w' A xs.length c xs ∧ Below w.heap.size w w'
/-- A key, a list and a tag are drawn. -/
def KeyListTagPost (w : World) (e : Ending) (w' : World) : Prop :=
  ∃ k : Int, ∃ A c xs, ∃ t : Int, e = .returned (.tuple #[.int .i64 k, .slice A xs.length c, .int .i64 t]) ∧ xs.length ≤ 26 ∧ -1 ≤ k ∧ k ≤ 997 ∧ -1 ≤ t ∧ t ≤ 991 ∧ Own w.heap.size w'.heap.size w' A xs.length c xs ∧ Below w.heap.size w w'

theorem DrawTagOf (A : Option Addr) (n c : Nat) (w : World) (h : CodeIs w A n c) :
    Calls Try.prog 31 #[.slice A n c] w (KeyListPost w) := by
  have HC := Lib.hid h
  clear h
  go_enter Try.func31, Try.ntmps31
  go_wp2_with fail
  ((with_reducible refine (l6Open _ _ _ _ HC.out).mono ?_); rintro e w1 ⟨rfl, r1, b1, s1⟩)
  have R1 := Lib.hid r1
  have B1 := Lib.hid b1
  have Z1 := Lib.hid s1
  clear r1 b1 s1
  go_wp2_with fail
  ((with_reducible refine (l91Is _ _ _ R1.out (by omega)).mono ?_); rintro e w2 ⟨k, rfl, hv0, hv1, r2, g2⟩)
  have R2 := Lib.hid r2
  have B2 := Lib.hid (B1.out.trans (grown_below g2 (Nat.le_of_lt R1.out.lt)))
  have z2 := g2.size
  have z1 : w.heap.size < w1.heap.size := by rw [Z1.out]; omega
  clear r2 g2
  go_wp2_with fail
  ((with_reducible refine (l91ListAt _ _ 24 24 _ rfl R2.out (by omega) (by omega)).mono ?_); rintro e w3 ⟨A2, c2, xs, rfl, hl, hb, ho, r3, g3⟩)
  have HP : Hid (KeyListPost w (.returned (.tuple #[.int .i64 k, .slice A2 xs.length c2])) w3) :=
    ⟨k, A2, c2, xs, rfl, hl, hv0, hv1, ho.mono (by omega) (Nat.le_refl _), B2.out.trans (grown_below g3 (Nat.le_of_lt R2.out.lt))⟩
  clear r3 g3 ho hl hb
  go_wp2
  go_ret2
  exact HP.out

theorem DrawTagCheck (A : Option Addr) (n c : Nat) (w : World) (h : CodeIs w A n c) :
    Calls Try.prog 35 #[.slice A n c] w (KeyListTagPost w) := by
  have HC := Lib.hid h
  clear h
  go_enter Try.func35, Try.ntmps35
  go_wp2_with fail
  ((with_reducible refine (l6Open _ _ _ _ HC.out).mono ?_); rintro e w1 ⟨rfl, r1, b1, s1⟩)
  have R1 := Lib.hid r1
  have B1 := Lib.hid b1
  have Z1 := Lib.hid s1
  clear r1 b1 s1
  go_wp2_with fail
  ((with_reducible refine (l91Is _ _ _ R1.out (by omega)).mono ?_); rintro e w2 ⟨k, rfl, hv0, hv1, r2, g2⟩)
  have R2 := Lib.hid r2
  have B2 := Lib.hid (B1.out.trans (grown_below g2 (Nat.le_of_lt R1.out.lt)))
  have z2 := g2.size
  have z1 : w.heap.size < w1.heap.size := by rw [Z1.out]; omega
  clear r2 g2
  go_wp2_with fail
  ((with_reducible refine (l91ListAt _ _ 24 24 _ rfl R2.out (by omega) (by omega)).mono ?_); rintro e w3 ⟨A2, c2, xs, rfl, hl, hb, ho, r3, g3⟩)
  have R3 := Lib.hid r3
  have O3 := Lib.hid ho
  have B3 := Lib.hid (B2.out.trans (grown_below g3 (Nat.le_of_lt R2.out.lt)))
  have z3 := g3.size
  have HL := Lib.hid hl
  clear r3 g3 ho hl hb
  go_wp2_with fail
  ((with_reducible refine (Sp3.tagOf0 _ _ _ _ _ xs k _ O3.out.ints).mono ?_); rintro e w' ⟨rfl, rfl⟩)
  have htb := tagF_bd k xs
  go_wp2_with fail
  ((with_reducible refine (pick _ _ _ _ R3.out (by omega) (by omega) (by omega)).mono ?_); rintro e w4 ⟨v4, rfl, hu0, hu1, r4, g4, s4⟩)
  have R4 := Lib.hid r4
  have O4 := Lib.hid (O3.out.grown g4 (by simp; omega))
  have B4 := Lib.hid (B3.out.trans (grown_below g4 (Nat.le_of_lt R3.out.lt)))
  have z4 := g4.size
  clear r4 g4 s4
  by_cases hz : v4 = 0
  · subst hz
    go_wp2_with fail
    ((with_reducible refine (l91Number _ _ _ R4.out (by omega)).mono ?_); rintro e w5 ⟨t, rfl, ht0, ht1, r5, g5⟩)
    have HP : Hid (KeyListTagPost w (.returned (.tuple #[.int .i64 k, .slice A2 xs.length c2, .int .i64 t])) w5) :=
      ⟨k, A2, c2, xs, t, rfl, HL.out, hv0, hv1, ht0, ht1, (O4.out.grown g5 (by simp; omega)).mono (by omega) (by have := g5.size; omega), B4.out.trans (grown_below g5 (Nat.le_of_lt R4.out.lt))⟩
    clear r5 g5
    go_wp2
    go_ret3
    exact HP.out
  · have hz' : (v4 == 0) = false := by simpa using hz
    have HP : Hid (KeyListTagPost w (.returned (.tuple #[.int .i64 k, .slice A2 xs.length c2, .int .i64 (tagF k xs)])) w4) :=
      ⟨k, A2, c2, xs, tagF k xs, rfl, HL.out, hv0, hv1, by omega, by omega, O4.out.mono (by omega) (by omega), B4.out⟩
    clear hz
    go_wp2
    go_ret3
    exact HP.out

end Rd
end Go.Proofs.Ytnacfjedfipggaa
