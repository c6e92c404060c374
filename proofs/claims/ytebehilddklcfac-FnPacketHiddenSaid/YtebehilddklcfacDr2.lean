/-
  Contracts of the functions that draw numbers and lists out of a code.
-/
import Derived.Test.YtebehilddklcfacDr1
import Derived.Test.YtebehilddklcfacApp
namespace Go.Proofs.Ytebehilddklcfac
open Go.RowKit
namespace Rd
open Il

theorem l91Number (rb N : Nat) (w : World) (hr : Reader w rb N) (hN : N ≤ 90000) :
    Calls Try.prog 54 #[.pointer (some ⟨rb, 0, none⟩)] w (NumPost (-1) 991 rb (N + 3) w) := by
  have HR := Lib.hid hr
  have hlt := hr.lt
  clear hr
  go_enter Try.func54, Try.ntmps54
  go_wp2_with fail
  ((with_reducible refine (pick rb N _ _ HR.out (by omega) (by omega) (by omega)).mono ?_); rintro e w1 ⟨v1, rfl, hv0, hv1, r1, g1, s1⟩)
  have R1 := Lib.hid r1
  have G1 := Lib.hid g1
  have l1 : rb < w1.heap.size := r1.lt
  clear r1 g1 s1
  by_cases hz : v1 = 0
  · subst hz
    go_wp2_with fail
    ((with_reducible refine (pick rb (N + 1) _ _ (R1.out.alloc _) (by omega) (by omega) (by omega)).mono ?_); rintro e w2 ⟨v2, rfl, hu0, hu1, r2, g2, s2⟩)
    have hb := (g2.block w1.heap.size (by simp) (by simp; omega)).trans (heap_alloc_new w1 _)
    have k0 := cell_of_row w2 w1.heap.size 0 _ _ _ hb
    have k1 := cell_of_row w2 w1.heap.size 1 _ _ _ hb
    have k2 := cell_of_row w2 w1.heap.size 2 _ _ _ hb
    simp only [List.getElem?_toArray, List.getElem?_cons_zero, List.getElem?_cons_succ] at k0 k1 k2
    have hpost : ∀ v : Int, -1 ≤ v → v ≤ 991 → NumPost (-1) 991 rb (N + 3) w (.returned (.int .i64 v)) w2 := fun v a b =>
      ⟨v, rfl, a, b, r2.mono (by omega), grown_trans (grown_alloc G1.out _) g2⟩
    have H := Lib.hid hpost
    clear hpost hb r2 g2 s2
    obtain rfl | rfl | rfl : v2 = 0 ∨ v2 = 1 ∨ v2 = 2 := by omega
    all_goals
      go_wp2
      go_ret
      exact H.out _ (by omega) (by omega)
  · have hz' : (v1 == 0) = false := by simpa using hz
    clear hz
    go_wp2_with fail
    ((with_reducible refine (pick rb (N + 1) _ _ R1.out (by omega) (by omega) (by omega)).mono ?_); rintro e w2 ⟨v2, rfl, hu0, hu1, r2, g2, s2⟩)
    have R2 := Lib.hid r2
    have G2 := Lib.hid (grown_trans G1.out g2)
    clear r2 g2 s2
    go_wp2_with fail
    ((with_reducible refine (pick rb (N + 1 + 1) _ _ R2.out (by omega) (by omega) (by omega)).mono ?_); rintro e w3 ⟨v3, rfl, hx0, hx1, r3, g3, s3⟩)
    have hpost : ∀ v : Int, -1 ≤ v → v ≤ 991 → NumPost (-1) 991 rb (N + 3) w (.returned (.int .i64 v)) w3 := fun v a b =>
      ⟨v, rfl, a, b, r3.mono (by omega), grown_trans G2.out g3⟩
    have H := Lib.hid hpost
    clear hpost r3 g3 s3
    go_wp2
    go_ret
    exact H.out _ (by omega) (by omega)

/-- A list is drawn. -/
def ListPost (most : Nat) (rb N : Nat) (w : World) (e : Ending) (w' : World) : Prop :=
  ∃ A c xs, e = .returned (.slice A xs.length c) ∧ xs.length ≤ most + 2 ∧ (∀ x ∈ xs, -1 ≤ x ∧ x ≤ 991) ∧ Own w.heap.size w'.heap.size w' A xs.length c xs ∧ Reader w' rb N ∧ w.grownBy w' (some rb)

/-- What the loop of l91List has gathered. -/
def Gath (rb N : Nat) (w wr : World) (v : Value) (k : Nat) : Prop :=
  ∃ ys : List Int, ys.length = k ∧ (∀ x ∈ ys, -1 ≤ x ∧ x ≤ 991) ∧ AccR (some rb) w wr v ys ∧ Reader wr rb (N + 3 * k)

theorem gath_loop (rb N most : Nat) (w : World) (v : Value) (k : Nat) (wr : World) (hk : k ≤ most + 2) (h : Gath rb N w wr v k) : ListPost most rb (N + 3 * (most + 2)) w (.returned v) wr := by
  obtain ⟨ys, hl, hb, ha, hr⟩ := h
  obtain ⟨A, c, rfl, ho⟩ := own_of ha.1
  exact ⟨A, c, ys, rfl, by omega, hb, ho, hr.mono (by omega), ha.2⟩

theorem l91List (rb N most : Nat) (w : World) (hr : Reader w rb N) (hN : N ≤ 80000) (hm : most ≤ 24) :
    Calls Try.prog 25 #[.pointer (some ⟨rb, 0, none⟩), .int .i64 most] w (ListPost most rb (N + 3 + 3 * (most + 2)) w) := by
  have HR := Lib.hid hr
  have hlt := hr.lt
  have HA := Lib.hid (accR_new (some rb) w)
  clear hr
  go_enter Try.func25, Try.ntmps25
  go_wp2_with fail
  ((with_reducible refine (pick rb N _ _ (HR.out.alloc _) (by omega) (by omega) (by omega)).mono ?_); rintro e w1 ⟨v1, rfl, hv0, hv1, r1, g1, s1⟩)
  have R1 := Lib.hid r1
  have A1 := Lib.hid (HA.out.step g1 (by simp; omega))
  clear r1 g1 s1 HA
  go_wp2_with fail
  ((with_reducible refine (pick rb (N + 1) _ _ R1.out (by omega) (by omega) (by omega)).mono ?_); rintro e w2 ⟨v2, rfl, hu0, hu1, r2, g2, s2⟩)
  have R2 := Lib.hid r2
  have A2 := Lib.hid (A1.out.step g2 (by simp; omega))
  clear r2 g2 s2
  obtain ⟨n0, rfl⟩ := Int.eq_ofNat_of_zero_le hv0
  by_cases hz : v2 = 0
  · subst hz
    go_wp2_with fail
    ((with_reducible refine (pick rb (N + 1 + 1) _ _ R2.out (by omega) (by omega) (by omega)).mono ?_); rintro e w3 ⟨v3, rfl, hx0, hx1, r3, g3, s3⟩)
    obtain ⟨n3, rfl⟩ := Int.eq_ofNat_of_zero_le hx0
    have HG : Hid (Gath rb (N + 3) w w3 (.slice (some ⟨w.heap.size, 0, none⟩) 0 0) 0) := ⟨[], rfl, by simp, A2.out.step g3 (by simp; omega), r3⟩
    clear r3 g3 s3 R1 R2 A1 A2
    have hq : most + n3 ≤ most + 2 := by omega
    go_wp2
    rw [show ((most : Int) + (n3 : Int)) = ((most + n3 : Nat) : Int) from by omega]
    generalize hQ : most + n3 = q at *
    clear hQ
    go_loopw [5, 7] (fun v i wr => ∃ k : Nat, k ≤ q ∧ i = .int .i64 k ∧ Hid (Gath rb (N + 3) w wr v k)) (fun _ i _ => q - (intOf i).toNat)
    case atStart => exact ⟨0, Nat.zero_le _, rfl, HG.out⟩
    case round =>
      obtain ⟨k, hk, rfl, hT⟩ := hrel
      by_cases hlk : k < q
      · obtain ⟨ys, hl, hb, ha, hrd⟩ := hT.out
        have HL := Lib.hid hl
        have HB := Lib.hid hb
        have HAc := Lib.hid ha
        have HRd := Lib.hid hrd
        clear hl hb ha hrd hT
        go_wp2_with fail
        ((with_reducible refine (l91Number _ _ _ HRd.out (by omega)).mono ?_); rintro e w4 ⟨x, rfl, hxl, hxh, r4, g4⟩)
        have A4 := Lib.hid (HAc.out.step g4 (by simp; omega))
        have R4 := Lib.hid r4
        clear r4 g4 HAc HRd
        go_wp2_with (at_builtin; refine wpList_app1 w _ _ _ _ A4.out (by rw [HL.out]; omega) _ _ rfl rfl rfl rfl ?_; intro v' w5 hN5 hB5)
        have HN : Hid (Gath rb (N + 3) w w5 v' (k + 1)) := by
          refine ⟨ys ++ [x], by simp [HL.out], ?_, hN5, (R4.out.below hB5 (by omega)).mono (by omega)⟩
          intro y hy
          rcases List.mem_append.1 hy with h | h
          · exact HB.out y h
          · simp at h; omega
        clear hN5 hB5 A4 R4 HB HL
        go_wp2
        go_roundw
        case rel => exact ⟨k + 1, by omega, by go_num, HN.out⟩
        case measure => simp [intOf]; omega
      · have HP := Lib.hid (gath_loop rb (N + 3) most w _ k _ (by omega) hT.out)
        clear hT
        go_wp2
        go_ret
        exact HP.out
  · have hz' : (v2 == 0) = false := by simpa using hz
    have HG : Hid (Gath rb (N + 3) w w2 (.slice (some ⟨w.heap.size, 0, none⟩) 0 0) 0) := ⟨[], rfl, by simp, A2.out, R2.out.mono (by omega)⟩
    clear hz R1 R2 A1 A2
    have hq : n0 ≤ most + 2 := by omega
    go_wp2
    generalize hQ : n0 = q at *
    clear hQ
    go_loopw [5, 7] (fun v i wr => ∃ k : Nat, k ≤ q ∧ i = .int .i64 k ∧ Hid (Gath rb (N + 3) w wr v k)) (fun _ i _ => q - (intOf i).toNat)
    case atStart => exact ⟨0, Nat.zero_le _, rfl, HG.out⟩
    case round =>
      obtain ⟨k, hk, rfl, hT⟩ := hrel
      by_cases hlk : k < q
      · obtain ⟨ys, hl, hb, ha, hrd⟩ := hT.out
        have HL := Lib.hid hl
        have HB := Lib.hid hb
        have HAc := Lib.hid ha
        have HRd := Lib.hid hrd
        clear hl hb ha hrd hT
        go_wp2_with fail
        ((with_reducible refine (l91Number _ _ _ HRd.out (by omega)).mono ?_); rintro e w4 ⟨x, rfl, hxl, hxh, r4, g4⟩)
        have A4 := Lib.hid (HAc.out.step g4 (by simp; omega))
        have R4 := Lib.hid r4
        clear r4 g4 HAc HRd
        go_wp2_with (at_builtin; refine wpList_app1 w _ _ _ _ A4.out (by rw [HL.out]; omega) _ _ rfl rfl rfl rfl ?_; intro v' w5 hN5 hB5)
        have HN : Hid (Gath rb (N + 3) w w5 v' (k + 1)) := by
          refine ⟨ys ++ [x], by simp [HL.out], ?_, hN5, (R4.out.below hB5 (by omega)).mono (by omega)⟩
          intro y hy
          rcases List.mem_append.1 hy with h | h
          · exact HB.out y h
          · simp at h; omega
        clear hN5 hB5 A4 R4 HB HL
        go_wp2
        go_roundw
        case rel => exact ⟨k + 1, by omega, by go_num, HN.out⟩
        case measure => simp [intOf]; omega
      · have HP := Lib.hid (gath_loop rb (N + 3) most w _ k _ (by omega) hT.out)
        clear hT
        go_wp2
        go_ret
        exact HP.out

theorem l91ListAt (rb N most : Nat) (m : Int) (w : World) (hm0 : m = (most : Int)) (hr : Reader w rb N) (hN : N ≤ 80000) (hm : most ≤ 24) :
    Calls Try.prog 25 #[.pointer (some ⟨rb, 0, none⟩), .int .i64 m] w (ListPost most rb (N + 3 + 3 * (most + 2)) w) := by
  subst hm0; exact l91List rb N most w hr hN hm

/-- A key and a number are drawn. -/
def KeyNumPost (w : World) (e : Ending) (w' : World) : Prop :=
  ∃ k n : Int, e = .returned (.tuple #[.int .i64 k, .int .i64 n]) ∧ -1 ≤ k ∧ k ≤ 997 ∧ -2 ≤ n ∧ n ≤ 25 ∧ Below w.heap.size w w'
/-- A list and a key are drawn. -/
def ListKeyPost (w : World) (e : Ending) (w' : World) : Prop :=
  ∃ A c xs, ∃ k : Int, e = .returned (.tuple #[.slice A xs.length c, .int .i64 k]) ∧ xs.length ≤ 26 ∧ (∀ x ∈ xs, -1 ≤ x ∧ x ≤ 991) ∧ -1 ≤ k ∧ k ≤ 997 ∧ Own w.heap.size w'.heap.size w' A xs.length c xs ∧ Below w.heap.size w w'




end Rd
end Go.Proofs.Ytebehilddklcfac
