/-
  Contracts of the program's chapter 12: comparing links, valid counts, parts.
-/
import Derived.Test.YtbhafchdcofceaaSp7a
import Derived.Laws.ResultCell
import Derived.Deep.Cut
namespace Go.Proofs.Ytbhafchdcofceaa
open Go.RowKit
namespace Im7
open Il Sl Lc Sp2 Nm Sp7

def cmpI (x y : Int) : Int := if x < y then -1 else if y < x then 1 else 0
def ors (p q : Int) : Int := if p = 0 then q else p
def cmpL (a1 a2 b1 b2 : Int) : Int := ors (cmpI a1 b1) (cmpI a2 b2)
theorem cmpL_less (a b : Cnt) : decide (0 ≤ cmpL a.fr a.to_ b.fr b.to_) = !less a b := by
  have h := @less_iff a b
  cases hl : less a b
  · have h2 : ¬ (a.fr < b.fr ∨ (a.fr = b.fr ∧ a.to_ < b.to_)) := fun h3 => by rw [h.2 h3] at hl; cases hl
    have : 0 ≤ cmpL a.fr a.to_ b.fr b.to_ := by
      unfold cmpL ors cmpI
      split <;> split <;> (try split) <;> (try split) <;> omega
    simp [this]
  · have h2 := h.1 hl
    have : ¬ 0 ≤ cmpL a.fr a.to_ b.fr b.to_ := by
      unfold cmpL ors cmpI
      split <;> split <;> (try split) <;> (try split) <;> omega
    simp [this]

theorem isNaN (x : Int) (w : World) : Calls Try.prog 57 #[.int .i64 x] w fun e w' => e = .returned (.bool false) ∧ w = w' := by
  go_enter Try.func57, Try.ntmps57
  go_wp2
  go_ret
  exact ⟨by simp, rfl⟩

theorem cmpCompare (x y : Int) (w : World) : Calls Try.prog 51 #[.int .i64 x, .int .i64 y] w fun e w' => e = .returned (.int .i64 (cmpI x y)) ∧ w = w' := by
  by_cases h1 : x < y
  · have HV : Hid (cmpI x y = -1) := by show cmpI x y = -1; unfold cmpI; rw [if_pos h1]
    go_enter Try.func51, Try.ntmps51
    go_wp2_with fail
    ((with_reducible refine (isNaN x _).mono ?_); rintro e w1 ⟨rfl, rfl⟩)
    go_wp2_with fail
    ((with_reducible refine (isNaN y _).mono ?_); rintro e w1 ⟨rfl, rfl⟩)
    go_wp2
    go_ret
    rw [HV.out]
    exact ⟨rfl, rfl⟩
  · have d1 : decide (x < y) = false := decide_eq_false h1
    by_cases h2 : y < x
    · have HV : Hid (cmpI x y = 1) := by show cmpI x y = 1; unfold cmpI; rw [if_neg h1, if_pos h2]
      clear h1
      go_enter Try.func51, Try.ntmps51
      go_wp2_with fail
      ((with_reducible refine (isNaN x _).mono ?_); rintro e w1 ⟨rfl, rfl⟩)
      go_wp2_with fail
      ((with_reducible refine (isNaN y _).mono ?_); rintro e w1 ⟨rfl, rfl⟩)
      go_wp2
      go_ret
      rw [HV.out]
      exact ⟨rfl, rfl⟩
    · have HV : Hid (cmpI x y = 0) := by show cmpI x y = 0; unfold cmpI; rw [if_neg h1, if_neg h2]
      have d2 : decide (y < x) = false := decide_eq_false h2
      clear h1 h2
      go_enter Try.func51, Try.ntmps51
      go_wp2_with fail
      ((with_reducible refine (isNaN x _).mono ?_); rintro e w1 ⟨rfl, rfl⟩)
      go_wp2_with fail
      ((with_reducible refine (isNaN y _).mono ?_); rintro e w1 ⟨rfl, rfl⟩)
      go_wp2
      go_ret
      rw [HV.out]
      exact ⟨rfl, rfl⟩

theorem cmpOr (lo hi : Nat) (A : Option Addr) (c : Nat) (p q : Int) (w : World) (hx : Ints lo hi w A 2 c [p, q]) :
    Calls Try.prog 50 #[.slice A 2 c] w fun e w' => e = .returned (.int .i64 (ors p q)) ∧ w = w' := by
  obtain ⟨b, off, rfl, _, _, c0⟩ := hx.at_ (k := 0) (by omega)
  obtain ⟨b', off', eb, _, _, c1⟩ := hx.at_ (k := 1) (by omega)
  simp only [Option.some.injEq, Addr.mk.injEq, and_true] at eb
  obtain ⟨rfl, rfl⟩ := eb
  simp only [List.getD_cons_zero, Nat.add_zero] at c0
  simp only [List.getD_cons_succ, List.getD_cons_zero] at c1
  have hc1 := hx.2.2.1
  have hc2 := hx.2.1
  unfold maxLen at hc1
  clear hx
  by_cases hp : p = 0
  · have HV : Hid (ors p q = q) := by show ors p q = q; unfold ors; rw [if_pos hp]
    subst hp
    go_enter Try.func50, Try.ntmps50
    go_wp2
    by_cases hq : q = 0
    · subst hq
      go_loop [5, 8] (fun _ i => ∃ k : Nat, k ≤ 2 ∧ i = .int .i64 k) (fun _ i => 2 - (intOf i).toNat)
      case atStart => exact ⟨0, by omega, rfl⟩
      case round =>
        obtain ⟨k, hk, rfl⟩ := hrel
        obtain rfl | rfl | rfl : k = 0 ∨ k = 1 ∨ k = 2 := by omega
        · go_wp2
          go_round
          case rel => exact ⟨1, by omega, by go_num⟩
          case measure => simp [intOf]
        · go_wp2
          go_round
          case rel => exact ⟨2, by omega, by go_num⟩
          case measure => simp [intOf]
        · go_wp2
          go_ret
          rw [HV.out]
          exact ⟨rfl, rfl⟩
    · have d1 : (q == 0) = false := by simpa using hq
      clear hq
      go_loop [5, 8] (fun _ i => ∃ k : Nat, k ≤ 1 ∧ i = .int .i64 k) (fun _ i => 2 - (intOf i).toNat)
      case atStart => exact ⟨0, by omega, rfl⟩
      case round =>
        obtain ⟨k, hk, rfl⟩ := hrel
        obtain rfl | rfl : k = 0 ∨ k = 1 := by omega
        · go_wp2
          go_round
          case rel => exact ⟨1, by omega, by go_num⟩
          case measure => simp [intOf]
        · go_wp2
          go_ret
          rw [HV.out]
          exact ⟨rfl, rfl⟩
  · have HV : Hid (ors p q = p) := by show ors p q = p; unfold ors; rw [if_neg hp]
    have d1 : (p == 0) = false := by simpa using hp
    clear hp
    go_enter Try.func50, Try.ntmps50
    go_wp2
    go_loop [5, 8] (fun _ i => i = .int .i64 0) (fun _ i => 0)
    case atStart => rfl
    case round =>
      subst hrel
      go_wp2
      go_ret
      rw [HV.out]
      exact ⟨rfl, rfl⟩

theorem linkOf (x : Cnt) (w : World) : Calls Try.prog 38 #[.agg #[.int .i64 x.fr, .int .i64 x.to_, .int .i64 x.se, .int .i64 x.ba]] w fun e w' => e = .returned (.agg #[.int .i64 x.fr, .int .i64 x.to_]) ∧ Below w.heap.size w w' := by
  have h0 : Below w.heap.size w (w.alloc (.cells #[.int .i64 x.fr, .int .i64 x.to_, .int .i64 x.se, .int .i64 x.ba] 37)) := (Below.refl _ _).alloc (Nat.le_refl _) _
  have B0 := Lib.hid (h0.alloc h0.size (.cells #[.int .i64 x.fr, .int .i64 x.to_] 57))
  clear h0
  go_enter Try.func38, Try.ntmps38
  go_wp2
  refine bodyPost_ret (v := .agg #[.int .i64 x.fr, .int .i64 x.to_]) ?_ rfl ?_
  · refine results_cell_row rfl _ _ (w.heap.size + 1) 57 #[.int .i64 x.fr, .int .i64 x.to_] (0, 0) _ rfl ?_ Try.underlying57 rfl (by kernel_rfl)
    exact heap_alloc2_new _ _ _
  · exact ⟨rfl, B0.out⟩

theorem ints_two (w : World) (x y : Int) : Ints w.heap.size (w.heap.size + 1) (w.alloc (.cells #[.int .i64 x, .int .i64 y] 3)) (some ⟨w.heap.size, 0, none⟩) 2 2 [x, y] := by
  have hh : (w.alloc (.cells #[.int .i64 x, .int .i64 y] 3)).heap[w.heap.size]? = some (.cells #[.int .i64 x, .int .i64 y] 3 (0, 0)) := heap_alloc_new _ _
  refine ⟨rfl, Nat.le_refl _, by unfold maxLen; omega, fun _ => ⟨_, 0, rfl, Nat.le_refl _, by omega, by simp, fun j hj => ?_⟩⟩
  rw [Nat.zero_add, cell_of_row _ _ j _ _ _ hh]
  obtain rfl | rfl : j = 0 ∨ j = 1 := by omega
  all_goals rfl
theorem two_new (w : World) (v0 v1 : Value) (t : TypeId) : (w.alloc (.cells #[v0, v1] t)).cell? ⟨w.heap.size, 0, none⟩ = some v0 ∧ (w.alloc (.cells #[v0, v1] t)).cell? ⟨w.heap.size, 1, none⟩ = some v1 := by
  have hh : (w.alloc (.cells #[v0, v1] t)).heap[w.heap.size]? = some (.cells #[v0, v1] t (0, 0)) := heap_alloc_new _ _
  refine ⟨?_, ?_⟩
  all_goals rw [cell_of_row _ _ _ _ _ _ hh]; rfl
set_option maxRecDepth 20000 in
theorem compareLinks (a1 a2 b1 b2 : Int) (w : World) : Calls Try.prog 37 #[.agg #[.int .i64 a1, .int .i64 a2], .agg #[.int .i64 b1, .int .i64 b2]] w fun e w' => e = .returned (.int .i64 (cmpL a1 a2 b1 b2)) ∧ Below w.heap.size w w' := by
  have h0 : Below w.heap.size w (w.alloc (.cells #[.int .i64 a1, .int .i64 a2] 57)) := (Below.refl _ _).alloc (Nat.le_refl _) _
  have B0 := Lib.hid (h0.alloc h0.size (.cells #[.int .i64 b1, .int .i64 b2] 57))
  clear h0
  obtain ⟨z0, z1⟩ := two_new w (.int .i64 a1) (.int .i64 a2) 57
  obtain ⟨y0, y1⟩ := two_new (w.alloc (.cells #[.int .i64 a1, .int .i64 a2] 57)) (.int .i64 b1) (.int .i64 b2) 57
  have z0' := (World.cell?_of_block (Below.heap_alloc (w.alloc (.cells #[.int .i64 a1, .int .i64 a2] 57)) (.cells #[.int .i64 b1, .int .i64 b2] 57) w.heap.size (by simp))).trans z0
  have z1' := (World.cell?_of_block (Below.heap_alloc (w.alloc (.cells #[.int .i64 a1, .int .i64 a2] 57)) (.cells #[.int .i64 b1, .int .i64 b2] 57) w.heap.size (by simp))).trans z1
  clear z0 z1
  have hs1 : (w.alloc (.cells #[.int .i64 a1, .int .i64 a2] 57)).heap.size = w.heap.size + 1 := by simp
  rw [hs1] at y0 y1
  clear hs1
  go_enter Try.func37, Try.ntmps37
  go_upto_region 1 with (fail)
  generalize hw2 : (w.alloc (.cells #[.int .i64 a1, .int .i64 a2] 57)).alloc (.cells #[.int .i64 b1, .int .i64 b2] 57) = w2 at *
  have hwz : Hid (w.heap.size ≤ w2.heap.size) := B0.out.size
  clear hw2
  refine wp_region_still_tail 10 (by kernel_rfl) (by kernel_rfl) ?_
  simp only [List.take_succ_cons, List.take_zero, List.drop_succ_cons, List.drop_zero]
  repeat still_step
  still_call ((cmpCompare a1 b1 _).mono fun _ _ ⟨h1, h2⟩ => ⟨h1, h2.symm⟩)
  repeat still_step
  still_call ((cmpCompare a2 b2 _).mono fun _ _ ⟨h1, h2⟩ => ⟨h1, h2.symm⟩)
  repeat still_step
  try refine wpStill_nil ?_
  change wpList _ _ _ _ _ (World.drew _)
  have HI : Hid (Ints w2.drew.heap.size (w2.drew.heap.size + 1) (w2.drew.alloc (.cells #[.int .i64 (cmpI a1 b1), .int .i64 (cmpI a2 b2)] 3)) (some ⟨w2.drew.heap.size, 0, none⟩) 2 2 [cmpI a1 b1, cmpI a2 b2]) := ints_two w2.drew _ _
  have HB : Hid (Below w.heap.size w (w2.drew.alloc (.cells #[.int .i64 (cmpI a1 b1), .int .i64 (cmpI a2 b2)] 3))) := (below_dr1 B0.out).alloc hwz.out _
  generalize w2.drew = w3 at *
  have HC : Hid (cmpL a1 a2 b1 b2 = ors (cmpI a1 b1) (cmpI a2 b2)) := rfl
  generalize cmpI a1 b1 = p at *
  generalize cmpI a2 b2 = q at *
  go_wp2_with fail
  ((with_reducible refine (cmpOr _ _ _ _ p q _ HI.out).mono ?_); rintro e w4 ⟨rfl, rfl⟩)
  go_wp2
  go_ret
  rw [HC.out]
  exact ⟨rfl, HB.out⟩

end Im7
end Go.Proofs.Ytbhafchdcofceaa
