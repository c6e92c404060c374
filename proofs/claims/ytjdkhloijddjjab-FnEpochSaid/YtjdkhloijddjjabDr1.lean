/-
  Contracts of the functions that draw secrets, elements, keys and factors out of a code.
-/
import Derived.Test.YtjdkhloijddjjabRd
import Derived.Test.YtjdkhloijddjjabIl
import Derived.OpenShut
namespace Go.Proofs.Ytjdkhloijddjjab
open Go.RowKit
namespace Rd
open Il

/-- What a reader's code must be. -/
def CodeIs (w : World) (A : Option Addr) (n c : Nat) : Prop :=
  n ≤ c ∧ c ≤ maxLen ∧ (0 < n → ∃ b off, A = some ⟨b, off, none⟩ ∧ b < w.heap.size ∧ ∀ j, j < n → ∃ u : Int, (0 ≤ u ∧ u ≤ 255) ∧ w.cell? ⟨b, off + j, none⟩ = some (.int .u8 u))

theorem code_of_row {w : World} {A : Option Addr} {n c : Nat} {zs : List Int} (h : IsRow .u8 w A n c zs) : CodeIs w A n c := by
  rcases h with ⟨rfl, rfl, rfl, rfl⟩ | ⟨x, rfl, hl, hm, hz, hcell, hwf⟩
  · exact ⟨Nat.le_refl _, Nat.zero_le _, fun h => absurd h (by omega)⟩
  · refine ⟨hl, hm, fun hn => ?_⟩
    obtain ⟨b, off, spot⟩ := x
    have h0 := hcell 0 (by omega)
    have hs : spot = none := by simpa [Addr.add] using World.cell?_spot h0
    subst hs
    refine ⟨b, off, rfl, ?_, fun j hj => ?_⟩
    · have := World.block_lt_of_cell? w _ h0
      simpa [Addr.add] using this
    · have hj' : j < zs.length := by omega
      have hc := hcell j hj'
      refine ⟨zs.getD j 0, ?_, ?_⟩
      · have hw := hwf (zs.getD j 0) (by rw [List.getD_eq_getElem?_getD, List.getElem?_eq_getElem hj']; exact List.getElem_mem hj')
        exact bounds_u8 hw
      · have e : (Addr.add ⟨b, off, none⟩ j) = ⟨b, off + j, none⟩ := by
          unfold Addr.add; split <;> simp_all
        rw [← e]; exact hc

def OpenPost (w : World) (e : Ending) (w' : World) : Prop :=
  e = .returned (.pointer (some ⟨w.heap.size, 0, none⟩)) ∧ Reader w' w.heap.size 0 ∧ Below w.heap.size w w' ∧ w'.heap.size = w.heap.size + 1

theorem reader_new {w : World} {A : Option Addr} {n c n' : Nat} (h : CodeIs w A n c) (hn : n' ≤ n) (h2 : n' ≤ 2000) :
    Reader (w.alloc (.cells #[.slice A n' c, .int .i64 0] 78)) w.heap.size 0 := by
  refine ⟨A, n', c, 0, h2, by have := h.1; omega, Nat.le_refl _, heap_alloc_new _ _, fun h0 => ?_⟩
  obtain ⟨b, off, e, hb, hc⟩ := h.2.2 (by omega)
  refine ⟨b, off, e, hb, fun j hj => ?_⟩
  obtain ⟨u, hu, hcell⟩ := hc j (by omega)
  exact ⟨u, hu, (World.cell?_of_block (Below.heap_alloc w _ b hb)).trans hcell⟩

theorem l6Open (A : Option Addr) (n c : Nat) (w : World) (h : CodeIs w A n c) :
    Calls Try.prog 29 #[.slice A n c] w (OpenPost w) := by
  have hl := h.1
  have hm := h.2.1
  unfold maxLen at hm
  by_cases hn : 2000 < n
  · have hpost : OpenPost w (.returned (.pointer (some ⟨w.heap.size, 0, none⟩))) (w.alloc (.cells #[.slice A 2000 c, .int .i64 0] 78)) :=
      ⟨rfl, reader_new h (by omega) (Nat.le_refl _), (Below.refl _ _).alloc (Nat.le_refl _) _, by simp⟩
    have H := Lib.hid hpost
    clear hpost h
    go_enter Try.func29, Try.ntmps29
    go_wp2
    go_ret
    exact H.out
  · have hpost : OpenPost w (.returned (.pointer (some ⟨w.heap.size, 0, none⟩))) (w.alloc (.cells #[.slice A n c, .int .i64 0] 78)) :=
      ⟨rfl, reader_new h (Nat.le_refl _) (by omega), (Below.refl _ _).alloc (Nat.le_refl _) _, by simp⟩
    have H := Lib.hid hpost
    clear hpost h
    go_enter Try.func29, Try.ntmps29
    go_wp2
    go_ret
    exact H.out

/-- A number between lo and hi is drawn; the reader has moved on. -/
def NumPost (lo hi : Int) (rb N : Nat) (w : World) (e : Ending) (w' : World) : Prop :=
  ∃ v : Int, e = .returned (.int .i64 v) ∧ lo ≤ v ∧ v ≤ hi ∧ Reader w' rb N ∧ w.grownBy w' (some rb)

theorem l91Is (rb N : Nat) (w : World) (hr : Reader w rb N) (hN : N ≤ 90000) :
    Calls Try.prog 28 #[.pointer (some ⟨rb, 0, none⟩)] w (NumPost (-1) 997 rb (N + 3) w) := by
  have HR := Lib.hid hr
  have hlt := hr.lt
  clear hr
  go_enter Try.func28, Try.ntmps28
  go_wp2_with fail
  ((with_reducible refine (pick rb N _ _ HR.out (by omega) (by omega) (by omega)).mono ?_); rintro e w1 ⟨v1, rfl, hv0, hv1, r1, g1, s1⟩)
  have R1 := Lib.hid r1
  have G1 := Lib.hid g1
  have l1 : rb < w1.heap.size := r1.lt
  clear r1 g1 s1
  by_cases hz : v1 = 0
  · subst hz
    go_wp2_with fail
    ((with_reducible refine (pick rb (N + 1) _ _ (R1.out.alloc _) (by omega) (by omega) (by omega)).mono ?_); rintro e w2 ⟨v2, rfl, hu0, hu1, r2, g2, s2⟩)
    have hb := (g2.block w1.heap.size (by simp) (by simp; omega)).trans (heap_alloc_new w1 _)
    have k0 := cell_of_row w2 w1.heap.size 0 _ _ _ hb
    have k1 := cell_of_row w2 w1.heap.size 1 _ _ _ hb
    have k2 := cell_of_row w2 w1.heap.size 2 _ _ _ hb
    have k3 := cell_of_row w2 w1.heap.size 3 _ _ _ hb
    simp only [List.getElem?_toArray, List.getElem?_cons_zero, List.getElem?_cons_succ] at k0 k1 k2 k3
    have hpost : ∀ v : Int, -1 ≤ v → v ≤ 997 → NumPost (-1) 997 rb (N + 3) w (.returned (.int .i64 v)) w2 := fun v a b =>
      ⟨v, rfl, a, b, r2.mono (by omega), grown_trans (grown_alloc G1.out _) g2⟩
    have H := Lib.hid hpost
    clear hpost hb r2 g2 s2
    obtain rfl | rfl | rfl | rfl : v2 = 0 ∨ v2 = 1 ∨ v2 = 2 ∨ v2 = 3 := by omega
    all_goals
      go_wp2
      go_ret
      exact H.out _ (by omega) (by omega)
  · have hz' : (v1 == 0) = false := by simpa using hz
    clear hz
    go_wp2_with fail
    ((with_reducible refine (pick rb (N + 1) _ _ R1.out (by omega) (by omega) (by omega)).mono ?_); rintro e w2 ⟨v2, rfl, hu0, hu1, r2, g2, s2⟩)
    have R2 := Lib.hid r2
    have G2 := Lib.hid (grown_trans G1.out g2)
    clear r2 g2 s2
    go_wp2_with fail
    ((with_reducible refine (pick rb (N + 1 + 1) _ _ R2.out (by omega) (by omega) (by omega)).mono ?_); rintro e w3 ⟨v3, rfl, hx0, hx1, r3, g3, s3⟩)
    have hpost : ∀ v : Int, -1 ≤ v → v ≤ 997 → NumPost (-1) 997 rb (N + 3) w (.returned (.int .i64 v)) w3 := fun v a b =>
      ⟨v, rfl, a, b, r3.mono (by omega), grown_trans G2.out g3⟩
    have H := Lib.hid hpost
    clear hpost r3 g3 s3
    go_wp2
    go_ret
    exact H.out _ (by omega) (by omega)

/-- One number is drawn out of a code; nothing that was there has turned. -/
def OnePost (lo hi : Int) (w : World) (e : Ending) (w' : World) : Prop :=
  ∃ v : Int, e = .returned (.int .i64 v) ∧ lo ≤ v ∧ v ≤ hi ∧ Below w.heap.size w w'
/-- Two numbers. -/
def TwoPost (lo hi : Int) (w : World) (e : Ending) (w' : World) : Prop :=
  ∃ v u : Int, e = .returned (.tuple #[.int .i64 v, .int .i64 u]) ∧ lo ≤ v ∧ v ≤ hi ∧ lo ≤ u ∧ u ≤ hi ∧ Below w.heap.size w w'





end Rd
end Go.Proofs.Ytjdkhloijddjjab
