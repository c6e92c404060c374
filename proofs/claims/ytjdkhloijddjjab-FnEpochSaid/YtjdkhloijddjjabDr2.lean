/-
  Contracts of the functions that draw numbers and lists out of a code.
-/
import Derived.Test.YtjdkhloijddjjabDr1
import Derived.Test.YtjdkhloijddjjabApp
namespace Go.Proofs.Ytjdkhloijddjjab
open Go.RowKit
namespace Rd
open Il

theorem l91Number (rb N : Nat) (w : World) (hr : Reader w rb N) (hN : N ≤ 90000) :
    Calls Try.prog 62 #[.pointer (some ⟨rb, 0, none⟩)] w (NumPost (-1) 991 rb (N + 3) w) := by
  have HR := Lib.hid hr
  have hlt := hr.lt
  clear hr
  go_enter Try.func62, Try.ntmps62
  go_wp2_with fail
  ((with_reducible refine (pick rb N _ _ HR.out (by omega) (by omega) (by omega)).mono ?_); rintro e w1 ⟨v1, rfl, hv0, hv1, r1, g1, s1⟩)
  have R1 := Lib.hid r1
  have G1 := Lib.hid g1
  have l1 : rb < w1.heap.size := r1.lt
  clear r1 g1 s1
  by_cases hz : v1 = 0
  · subst hz
    go_wp2_with fail
    ((with_reducible refine (pick rb (N + 1) _ _ (R1.out.alloc _) (by omega) (by omega) (by omega)).mono ?_); rintro e w2 ⟨v2, rfl, hu0, hu1, r2, g2, s2⟩)
    have hb := (g2.block w1.heap.size (by simp) (by simp; omega)).trans (heap_alloc_new w1 _)
    have k0 := cell_of_row w2 w1.heap.size 0 _ _ _ hb
    have k1 := cell_of_row w2 w1.heap.size 1 _ _ _ hb
    have k2 := cell_of_row w2 w1.heap.size 2 _ _ _ hb
    simp only [List.getElem?_toArray, List.getElem?_cons_zero, List.getElem?_cons_succ] at k0 k1 k2
    have hpost : ∀ v : Int, -1 ≤ v → v ≤ 991 → NumPost (-1) 991 rb (N + 3) w (.returned (.int .i64 v)) w2 := fun v a b =>
      ⟨v, rfl, a, b, r2.mono (by omega), grown_trans (grown_alloc G1.out _) g2⟩
    have H := Lib.hid hpost
    clear hpost hb r2 g2 s2
    obtain rfl | rfl | rfl : v2 = 0 ∨ v2 = 1 ∨ v2 = 2 := by omega
    all_goals
      go_wp2
      go_ret
      exact H.out _ (by omega) (by omega)
  · have hz' : (v1 == 0) = false := by simpa using hz
    clear hz
    go_wp2_with fail
    ((with_reducible refine (pick rb (N + 1) _ _ R1.out (by omega) (by omega) (by omega)).mono ?_); rintro e w2 ⟨v2, rfl, hu0, hu1, r2, g2, s2⟩)
    have R2 := Lib.hid r2
    have G2 := Lib.hid (grown_trans G1.out g2)
    clear r2 g2 s2
    go_wp2_with fail
    ((with_reducible refine (pick rb (N + 1 + 1) _ _ R2.out (by omega) (by omega) (by omega)).mono ?_); rintro e w3 ⟨v3, rfl, hx0, hx1, r3, g3, s3⟩)
    have hpost : ∀ v : Int, -1 ≤ v → v ≤ 991 → NumPost (-1) 991 rb (N + 3) w (.returned (.int .i64 v)) w3 := fun v a b =>
      ⟨v, rfl, a, b, r3.mono (by omega), grown_trans G2.out g3⟩
    have H := Lib.hid hpost
    clear hpost r3 g3 s3
    go_wp2
    go_ret
    exact H.out _ (by omega) (by omega)

/-- A list is drawn. -/
def ListPost (most : Nat) (rb N : Nat) (w : World) (e : Ending) (w' : World) : Prop :=
  ∃ A c xs, e = .returned (.slice A xs.length c) ∧ xs.length ≤ most + 2 ∧ (∀ x ∈ xs, -1 ≤ x ∧ x ≤ 991) ∧ Own w.heap.size w'.heap.size w' A xs.length c xs ∧ Reader w' rb N ∧ w.grownBy w' (some rb)

/-- What the loop of l91List has gathered. -/
def Gath (rb N : Nat) (w wr : World) (v : Value) (k : Nat) : Prop :=
  ∃ ys : List Int, ys.length = k ∧ (∀ x ∈ ys, -1 ≤ x ∧ x ≤ 991) ∧ AccR (some rb) w wr v ys ∧ Reader wr rb (N + 3 * k)

theorem gath_loop (rb N most : Nat) (w : World) (v : Value) (k : Nat) (wr : World) (hk : k ≤ most + 2) (h : Gath rb N w wr v k) : ListPost most rb (N + 3 * (most + 2)) w (.returned v) wr := by
  obtain ⟨ys, hl, hb, ha, hr⟩ := h
  obtain ⟨A, c, rfl, ho⟩ := own_of ha.1
  exact ⟨A, c, ys, rfl, by omega, hb, ho, hr.mono (by omega), ha.2⟩

/-- A key and a number are drawn. -/
def KeyNumPost (w : World) (e : Ending) (w' : World) : Prop :=
  ∃ k n : Int, e = .returned (.tuple #[.int .i64 k, .int .i64 n]) ∧ -1 ≤ k ∧ k ≤ 997 ∧ -2 ≤ n ∧ n ≤ 25 ∧ Below w.heap.size w w'
/-- A list and a key are drawn. -/
def ListKeyPost (w : World) (e : Ending) (w' : World) : Prop :=
  ∃ A c xs, ∃ k : Int, e = .returned (.tuple #[.slice A xs.length c, .int .i64 k]) ∧ xs.length ≤ 26 ∧ (∀ x ∈ xs, -1 ≤ x ∧ x ≤ 991) ∧ -1 ≤ k ∧ k ≤ 997 ∧ Own w.heap.size w'.heap.size w' A xs.length c xs ∧ Below w.heap.size w w'




end Rd
end Go.Proofs.Ytjdkhloijddjjab
