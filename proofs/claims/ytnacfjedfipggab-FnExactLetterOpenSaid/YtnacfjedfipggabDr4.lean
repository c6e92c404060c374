/-
  Contracts of the functions that draw letters and bodies out of a code.
-/
import Derived.Test.YtnacfjedfipggabRda
import Derived.Test.YtnacfjedfipggabSp4
import Derived.Deep.Cut
namespace Go.Proofs.Ytnacfjedfipggab
open Go.RowKit
namespace Rd
open Il Gm Mm Tm Lm

/-- A list is drawn, and the reader is done with. -/
def LonePost (w : World) (e : Ending) (w' : World) : Prop :=
  ∃ A c xs, e = .returned (.slice A xs.length c) ∧ xs.length ≤ 10 ∧ Own w.heap.size w'.heap.size w' A xs.length c xs ∧ Below w.heap.size w w'

theorem lone_of {lo hi n c : Nat} {w w' : World} {A : Option Addr} {xs : List Int} (ho : Own lo hi w' A n c xs) (hn : n ≤ 10) (h1 : w.heap.size ≤ lo) (h2 : hi ≤ w'.heap.size) (hb : Below w.heap.size w w') : LonePost w (.returned (.slice A n c)) w' := by
  have hl := ho.1.1
  subst hl
  exact ⟨A, c, xs, rfl, hn, ho.mono h1 h2, hb⟩

theorem DrawLetterPack (A : Option Addr) (n c : Nat) (w : World) (h : CodeIs w A n c) :
    Calls Try.prog 18 #[.slice A n c] w (LonePost w) := by
  have HC := Lib.hid h
  clear h
  go_enter Try.func18, Try.ntmps18
  go_wp2_with fail
  ((with_reducible refine (l6Open _ _ _ _ HC.out).mono ?_); rintro e w1 ⟨rfl, r1, b1, s1⟩)
  have R1 := Lib.hid r1
  have B1 := Lib.hid b1
  have z1 : w.heap.size < w1.heap.size := by rw [s1]; omega
  clear r1 b1 s1
  go_wp2_with fail
  ((with_reducible refine (l91ListAt _ _ 4 4 _ rfl R1.out (by omega) (by omega)).mono ?_); rintro e w2 ⟨A2, c2, xs, rfl, hl, hb, ho, r2, g2⟩)
  have HP : Hid (LonePost w (.returned (.slice A2 xs.length c2)) w2) := ⟨A2, c2, xs, rfl, by omega, ho.mono (by omega) (Nat.le_refl _), B1.out.trans (grown_below g2 (Nat.le_of_lt R1.out.lt))⟩
  clear r2 g2 ho hl hb
  go_wp2
  go_ret
  exact HP.out

theorem DrawLetterOpen (A : Option Addr) (n c : Nat) (w : World) (h : CodeIs w A n c) :
    Calls Try.prog 24 #[.slice A n c] w (LonePost w) := by
  have HC := Lib.hid h
  clear h
  go_enter Try.func24, Try.ntmps24
  go_wp2_with fail
  ((with_reducible refine (l6Open _ _ _ _ HC.out).mono ?_); rintro e w1 ⟨rfl, r1, b1, s1⟩)
  have R1 := Lib.hid r1
  have B1 := Lib.hid b1
  have z1 : w.heap.size < w1.heap.size := by rw [s1]; omega
  clear r1 b1 s1
  go_wp2_with fail
  ((with_reducible refine (l91ListAt _ _ 4 4 _ rfl R1.out (by omega) (by omega)).mono ?_); rintro e w2 ⟨A2, c2, xs, rfl, hl, hb, ho, r2, g2⟩)
  have R2 := Lib.hid r2
  have O2 := Lib.hid ho
  have B2 := Lib.hid (B1.out.trans (grown_below g2 (Nat.le_of_lt R1.out.lt)))
  have z2 := g2.size
  clear r2 g2 ho hl hb
  go_wp2_with fail
  ((with_reducible refine (Sp4.letterPack0 _ _ _ _ _ xs _ O2.out.ints).mono ?_); rintro e w3 ⟨v3, rfl, ha⟩)
  have z3 := ha.2.size
  have A3 := Lib.hid (show AccR (some w.heap.size) w2 w3 v3 (packF xs) from ⟨ha.1, ⟨ha.2.os, ha.2.tape, ha.2.output, ha.2.size, fun k hk _ => ha.2.block k hk (by simp)⟩⟩)
  have R3 := Lib.hid (R2.out.below (Il.Acc.below ha) (by omega))
  have B3 := Lib.hid (B2.out.trans ((Il.Acc.below ha).mono (by omega)))
  obtain ⟨A4, c4, rfl, ho⟩ := own_of ha.1
  have O3 := Lib.hid ho
  clear ha ho
  cases hp : packOk xs
  · rw [packF_no hp]
    clear hp O3 A3
    go_wp2_with fail
    ((with_reducible refine (l91ListAt _ _ 6 6 _ rfl R3.out (by omega) (by omega)).mono ?_); rintro e w5 ⟨A5, c5, ys, rfl, hl, hb, ho, r5, g5⟩)
    have HP : Hid (LonePost w (.returned (.slice A5 ys.length c5)) w5) := ⟨A5, c5, ys, rfl, by omega, ho.mono (by omega) (Nat.le_refl _), B3.out.trans (grown_below g5 (Nat.le_of_lt R3.out.lt))⟩
    clear r5 g5 ho hl hb
    go_wp2
    go_ret
    exact HP.out
  · have hlen : (packF xs).length = 6 := by rw [packF_yes hp, packL_len (packOk_iff.1 hp).2]
    have hokp : okL (packF xs) = true := by rw [packF_yes hp]; exact packL_ok hp
    have HLN := Lib.hid hlen
    have HOK := Lib.hid hokp
    clear hp hokp
    generalize packF xs = ps at *
    rw [hlen] at O3 A3 ⊢
    clear hlen
    go_wp2_with fail
    ((with_reducible refine (pick _ _ _ _ R3.out (by omega) (by omega) (by omega)).mono ?_); rintro e w4 ⟨v4, rfl, hu0, hu1, r4, g4, s4⟩)
    have R4 := Lib.hid r4
    have O4 := Lib.hid (O3.out.grown g4 (by simp; omega))
    have A4' := Lib.hid (A3.out.step g4 (by simp; omega))
    have B4 := Lib.hid (B3.out.trans (grown_below g4 (Nat.le_of_lt R3.out.lt)))
    have z4 := g4.size
    clear r4 g4 s4 O3 A3
    obtain ⟨b, off, rfl, lb, hb, _⟩ := O4.out.ints.at_ (k := 0) (by omega)
    by_cases h0 : v4 = 0
    · subst h0
      go_wp2_with fail
      ((with_reducible refine (pick _ _ _ _ R4.out (by omega) (by omega) (by omega)).mono ?_); rintro e w5 ⟨v5, rfl, hq0, hq1, r5, g5, s5⟩)
      have R5 := Lib.hid r5
      have O5 := Lib.hid (O4.out.grown g5 (by simp; omega))
      have B5 := Lib.hid (B4.out.trans (grown_below g5 (Nat.le_of_lt R4.out.lt)))
      have z5 := g5.size
      clear r5 g5 s5 O4 A4'
      go_wp2_with fail
      ((with_reducible refine (l91Number _ _ _ R5.out (by omega)).mono ?_); rintro e w6 ⟨x, rfl, hx0, hx1, r6, g6⟩)
      have O6 := Lib.hid (O5.out.grown g6 (by simp; omega))
      have B6 := Lib.hid (B5.out.trans (grown_below g6 (Nat.le_of_lt R5.out.lt)))
      have z6 := g6.size
      clear r6 g6 O5
      obtain ⟨q, rfl⟩ := Int.eq_ofNat_of_zero_le hq0
      have hq6 : q < 6 := by omega
      obtain ⟨b2, off2, e2, _, _, cq⟩ := O6.out.ints.at_ hq6
      simp only [Option.some.injEq, Addr.mk.injEq, and_true] at e2
      obtain ⟨rfl, rfl⟩ := e2
      have fq := O6.out.2 b off (by omega) rfl q hq6
      have HP := Lib.hid (lone_of (w := w) (O6.out.set_ hq6 x) (by omega) (by omega) (by simp [World.setCell]; omega) (B6.out.setCell (p := ⟨b, off + q, none⟩) (show w.heap.size ≤ b by omega) (.int .i64 x)))
      go_wp2
      go_ret
      exact HP.out
    have e0 : (v4 == 0) = false := by simpa using h0
    by_cases h1 : v4 = 1
    · subst h1
      clear h0
      go_wp2_with fail
      ((with_reducible refine (pick _ _ _ _ R4.out (by omega) (by omega) (by omega)).mono ?_); rintro e w5 ⟨x, rfl, hx0, hx1, r5, g5, s5⟩)
      have O5 := Lib.hid (O4.out.grown g5 (by simp; omega))
      have B5 := Lib.hid (B4.out.trans (grown_below g5 (Nat.le_of_lt R4.out.lt)))
      have z5 := g5.size
      clear r5 g5 s5 O4 A4'
      obtain ⟨b2, off2, e2, _, _, c0⟩ := O5.out.ints.at_ (k := 0) (by omega)
      simp only [Option.some.injEq, Addr.mk.injEq, and_true] at e2
      obtain ⟨rfl, rfl⟩ := e2
      have f0 := O5.out.2 b off (by omega) rfl 0 (by omega)
      have O6 := Lib.hid (O5.out.set_ (k := 0) (by omega) x)
      rw [Nat.add_zero] at c0 f0 O6
      have B6 := Lib.hid (B5.out.setCell (p := ⟨b, off, none⟩) (show w.heap.size ≤ b by omega) (.int .i64 x))
      have z6 : w5.heap.size ≤ (w5.setCell ⟨b, off, none⟩ (.int .i64 x)).heap.size := by simp [World.setCell]
      have K5 := Lib.hid (okL_take (set_ok (k := 0) HOK.out (show 0 ≤ x ∧ x ≤ 990 by omega)) 5)
      have hc6 := O5.out.ints.cap_
      have hc5 : 5 ≤ c4 := by omega
      clear O5
      go_wp2_with fail
      generalize w5.setCell ⟨b, off, none⟩ (.int .i64 x) = w6 at *
      ((with_reducible refine (Sp3.l3Tag _ _ _ _ _ _ 1 _ (O6.out.ints.take (k := 5) (by omega)) K5.out (by omega) (by omega)).mono ?_); rintro e w' ⟨rfl, rfl⟩)
      generalize tagL 1 ((ps.set 0 x).take 5) = t
      obtain ⟨b2, off2, e2, _, _, c5⟩ := O6.out.ints.at_ (k := 5) (by omega)
      simp only [Option.some.injEq, Addr.mk.injEq, and_true] at e2
      obtain ⟨rfl, rfl⟩ := e2
      have f5 := O6.out.2 b off (by omega) rfl 5 (by omega)
      have HP := Lib.hid (lone_of (w := w) (O6.out.set_ (k := 5) (by omega) t) (by omega) (by omega) (by simp [World.setCell]; omega) (B6.out.setCell (p := ⟨b, off + 5, none⟩) (show w.heap.size ≤ b by omega) (.int .i64 t)))
      clear c0 f0
      go_wp2
      go_ret
      exact HP.out
    have e1 : (v4 == 1) = false := by simpa using h1
    by_cases h2 : v4 = 2
    · subst h2
      clear h0 h1
      go_wp2_with (at_builtin; refine wpList_app1 _ _ _ _ _ A4'.out (by rw [HLN.out]; omega) _ _ rfl rfl rfl rfl ?_; intro v5 w5 hN hB; obtain ⟨A5, c5, rfl, ho⟩ := own_of hN.1)
      have HP := Lib.hid (lone_of (w := w) ho (by simp [HLN.out]) (by omega) (Nat.le_refl _) (B4.out.trans (hB.mono (by omega))))
      have he : (ps ++ [0]).length = ps.length + 1 := by simp
      rw [he] at HP
      clear hN hB ho he
      go_wp2
      go_ret
      exact HP.out
    · have e2 : (v4 == 2) = false := by simpa using h2
      have HP := Lib.hid (lone_of (w := w) O4.out (by omega) (by omega) (by omega) B4.out)
      clear h0 h1 h2
      go_wp2
      go_ret
      exact HP.out

end Rd
end Go.Proofs.Ytnacfjedfipggab
