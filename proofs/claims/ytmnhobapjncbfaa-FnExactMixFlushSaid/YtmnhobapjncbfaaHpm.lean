/-
  Contracts of the program's heap of waiting packets: comparing.
-/
import Derived.Test.YtmnhobapjncbfaaHp
import Derived.Test.YtmnhobapjncbfaaIm6b
import Derived.Handy
import Derived.Deep.Cut
import Derived.Deep.CutRange
import Derived.StillTailTactics
namespace Go.Proofs.Ytmnhobapjncbfaa
open Go.RowKit
namespace Im6
open Il Gm Mm Tm Lm Pm Pq Hlp5 Sl Mm6 Hp6

def cmpI (x y : Int) : Int := if x < y then -1 else if y < x then 1 else 0
def orL (xs : List Int) : Int := (xs.find? (· != 0)).getD 0
theorem isNaN (x : Int) (w : World) : Calls Try.prog 111 #[.int .i64 x] w fun e w' => e = .returned (.bool false) ∧ w = w' := by
  have e0 : (x != x) = false := by simp
  go_enter Try.func111, Try.ntmps111
  go_wp2
  go_ret
  exact ⟨rfl, rfl⟩
theorem compare (x y : Int) (w : World) : Calls Try.prog 110 #[.int .i64 x, .int .i64 y] w fun e w' => e = .returned (.int .i64 (cmpI x y)) ∧ w = w' := by
  unfold cmpI
  by_cases h1 : x < y
  · rw [if_pos h1]
    go_enter Try.func110, Try.ntmps110
    go_wp2_with fail
    ((with_reducible refine (isNaN x _).mono ?_); rintro e w1 ⟨rfl, rfl⟩)
    go_wp2_with fail
    ((with_reducible refine (isNaN y _).mono ?_); rintro e w1 ⟨rfl, rfl⟩)
    go_wp2
    go_ret
    exact ⟨rfl, rfl⟩
  · rw [if_neg h1]
    by_cases h2 : y < x
    · rw [if_pos h2]
      go_enter Try.func110, Try.ntmps110
      go_wp2_with fail
      ((with_reducible refine (isNaN x _).mono ?_); rintro e w1 ⟨rfl, rfl⟩)
      go_wp2_with fail
      ((with_reducible refine (isNaN y _).mono ?_); rintro e w1 ⟨rfl, rfl⟩)
      go_wp2
      go_ret
      exact ⟨rfl, rfl⟩
    · rw [if_neg h2]
      go_enter Try.func110, Try.ntmps110
      go_wp2_with fail
      ((with_reducible refine (isNaN x _).mono ?_); rintro e w1 ⟨rfl, rfl⟩)
      go_wp2_with fail
      ((with_reducible refine (isNaN y _).mono ?_); rintro e w1 ⟨rfl, rfl⟩)
      go_wp2
      go_ret
      exact ⟨rfl, rfl⟩
theorem compare_s (x y : Int) (w : World) : Calls Try.prog 110 #[.int .i64 x, .int .i64 y] w fun e w' => e = .returned (.int .i64 (cmpI x y)) ∧ w' = w := (compare x y w).mono fun _ _ h => ⟨h.1, h.2.symm⟩
theorem orL_at {xs : List Int} {k : Nat} (h : ∀ i, i < k → xs.getD i 0 = 0) (hk : k < xs.length) (hn : xs.getD k 0 ≠ 0) : orL xs = xs.getD k 0 := by
  unfold orL
  have : xs.find? (· != 0) = some (xs.getD k 0) := by
    rw [List.find?_eq_some_iff_getElem]
    refine ⟨by simpa using hn, k, hk, by simp [List.getD, hk], fun j hj => ?_⟩
    have := h j hj
    rw [List.getD_eq_getElem?_getD, List.getElem?_eq_getElem (by omega)] at this
    simpa using this
  rw [this]; rfl
theorem orL_no {xs : List Int} (h : ∀ i, i < xs.length → xs.getD i 0 = 0) : orL xs = 0 := by
  unfold orL
  have : xs.find? (· != 0) = none := by
    rw [List.find?_eq_none]
    intro x hx
    obtain ⟨i, hi, rfl⟩ := List.getElem_of_mem hx
    have := h i hi
    rw [List.getD_eq_getElem?_getD, List.getElem?_eq_getElem hi] at this
    simpa using this
  rw [this]; rfl
theorem cmpOr (lo hi : Nat) (A : Option Addr) (n c : Nat) (xs : List Int) (w : World) (hx : Ints lo hi w A n c xs) :
    Calls Try.prog 109 #[.slice A n c] w fun e w' => e = .returned (.int .i64 (orL xs)) ∧ w = w' := by
  have hc1 := hx.2.2.1
  have hc2 := hx.2.1
  have HL := Lib.hid hx.1
  unfold maxLen at hc1
  have HX := Lib.hid hx
  clear hx
  go_enter Try.func109, Try.ntmps109
  go_wp2
  go_loop [8] (fun i => ∃ k : Nat, k ≤ n ∧ i = .int .i64 k ∧ Hid (∀ i, i < k → xs.getD i 0 = 0)) (fun i => n - (intOf i).toNat)
  case atStart => exact ⟨0, Nat.zero_le _, rfl, fun i hi => absurd hi (by omega)⟩
  case round =>
    obtain ⟨k, hk, rfl, hT⟩ := hrel
    by_cases hlt : k < n
    · obtain ⟨b, off, rfl, _, _, hcx⟩ := HX.out.at_ hlt
      by_cases he : xs.getD k 0 = 0
      · have HN : Hid (∀ i, i < k + 1 → xs.getD i 0 = 0) := fun i hi => by
          by_cases e : i = k
          · rw [e]; exact he
          · exact hT.out i (by omega)
        have e0 : (xs.getD k 0 != 0) = false := by simpa using he
        clear he hT
        generalize xs.getD k 0 = y at *
        go_wp2
        go_round
        case rel => exact ⟨k + 1, by omega, by go_num, HN.out⟩
        case measure => simp [intOf]; omega
      · have HF := Lib.hid (orL_at hT.out (by rw [HL.out]; exact hlt) he)
        have e0 : (xs.getD k 0 != 0) = true := by simpa using he
        clear he hT
        generalize xs.getD k 0 = y at *
        go_wp2
        go_ret
        rw [HF.out]
        exact ⟨rfl, rfl⟩
    · obtain rfl : k = n := by omega
      have HF := Lib.hid (orL_no (xs := xs) (fun i hi => hT.out i (by rw [HL.out] at hi; exact hi)))
      clear hT
      go_wp2
      go_ret
      rw [HF.out]
      exact ⟨rfl, rfl⟩
/-- What before answers. -/
def ltb (a b : Wt) : Bool := decide (orL [cmpI a.s.p.kind b.s.p.kind, cmpI a.s.p.next b.s.p.next, cmpI a.s.p.pk.el b.s.p.pk.el, cmpI a.s.p.pk.tag b.s.p.pk.tag, cmpI a.k b.k] < 0)
theorem cmpI_cases (x y : Int) : (x < y ∧ cmpI x y = -1) ∨ (x = y ∧ cmpI x y = 0) ∨ (y < x ∧ cmpI x y = 1) := by
  unfold cmpI
  by_cases h1 : x < y
  · exact .inl ⟨h1, if_pos h1⟩
  · by_cases h2 : y < x
    · exact .inr (.inr ⟨h2, by rw [if_neg h1, if_pos h2]⟩)
    · exact .inr (.inl ⟨by omega, by rw [if_neg h1, if_neg h2]⟩)
theorem ltb_iff (a b : Wt) : ltb a b = true ↔ ltW a b := by
  unfold ltb ltW Lt
  rcases cmpI_cases a.s.p.kind b.s.p.kind with ⟨h1, e1⟩ | ⟨h1, e1⟩ | ⟨h1, e1⟩ <;> rw [e1]
  · simp [orL]; omega
  · rcases cmpI_cases a.s.p.next b.s.p.next with ⟨h2, e2⟩ | ⟨h2, e2⟩ | ⟨h2, e2⟩ <;> rw [e2]
    · simp [orL]; omega
    · rcases cmpI_cases a.s.p.pk.el b.s.p.pk.el with ⟨h3, e3⟩ | ⟨h3, e3⟩ | ⟨h3, e3⟩ <;> rw [e3]
      · simp [orL]; omega
      · rcases cmpI_cases a.s.p.pk.tag b.s.p.pk.tag with ⟨h4, e4⟩ | ⟨h4, e4⟩ | ⟨h4, e4⟩ <;> rw [e4]
        · simp [orL]; omega
        · rcases cmpI_cases (a.k : Int) b.k with ⟨h5, e5⟩ | ⟨h5, e5⟩ | ⟨h5, e5⟩ <;> rw [e5] <;> simp [orL] <;> omega
        · simp [orL]; omega
      · simp [orL]; omega
    · simp [orL]; omega
  · simp [orL]; omega
theorem seven_cells {w : World} {b : Nat} {v0 v1 v2 v3 v4 v5 v6 : Value} {t : TypeId} (h : w.heap[b]? = some (.cells #[v0, v1, v2, v3, v4, v5, v6] t (0, 0))) :
    w.cell? ⟨b, 0, none⟩ = some v0 ∧ w.cell? ⟨b, 1, none⟩ = some v1 ∧ w.cell? ⟨b, 2, none⟩ = some v2 ∧ w.cell? ⟨b, 3, none⟩ = some v3 ∧ w.cell? ⟨b, 4, none⟩ = some v4 ∧ w.cell? ⟨b, 5, none⟩ = some v5 ∧ w.cell? ⟨b, 6, none⟩ = some v6 ∧ ∀ j, w.frozen? ⟨b, j, none⟩ = false := by
  refine ⟨?_, ?_, ?_, ?_, ?_, ?_, ?_, fun j => by simp [World.frozen?, h]⟩
  all_goals rw [cell_of_row _ _ _ _ _ _ h]; rfl
theorem ints_lit5 (w : World) (x1 x2 x3 x4 x5 : Int) : Ints w.heap.size (w.heap.size + 1) (w.alloc (.cells #[.int .i64 x1, .int .i64 x2, .int .i64 x3, .int .i64 x4, .int .i64 x5] 3)) (some ⟨w.heap.size, 0, none⟩) 5 5 [x1, x2, x3, x4, x5] := by
  have hh : (w.alloc (.cells #[.int .i64 x1, .int .i64 x2, .int .i64 x3, .int .i64 x4, .int .i64 x5] 3)).heap[w.heap.size]? = some (.cells #[.int .i64 x1, .int .i64 x2, .int .i64 x3, .int .i64 x4, .int .i64 x5] 3 (0, 0)) := heap_alloc_new _ _
  refine ⟨rfl, Nat.le_refl _, by unfold maxLen; omega, fun _ => ⟨_, 0, rfl, Nat.le_refl _, by omega, by simp, fun j hj => ?_⟩⟩
  rw [cell_of_row _ _ _ _ _ _ hh]
  match j, hj with
  | 0, _ => rfl
  | 1, _ => rfl
  | 2, _ => rfl
  | 3, _ => rfl
  | 4, _ => rfl
theorem blk_two {w1 : World} {b : Nat} {cs : Array Value} {t : TypeId} (h : Blk w1 b cs t) (o1 o2 : Obj) : Blk ((w1.alloc o1).alloc o2).drew b cs t := by
  have hb : b < w1.heap.size := (Array.getElem?_eq_some_iff.1 h).1
  exact ((Below.heap_alloc _ _ _ (by simp; omega)).trans (Below.heap_alloc _ _ _ hb)).trans h
theorem below_drew2 {B : Nat} {w w' : World} (h : Below B w w') : Below B w w'.drew := ⟨h.os, h.tape, h.output, h.size, h.block⟩
set_option maxRecDepth 20000 in
set_option maxHeartbeats 2000000 in
theorem before (a b : Wt) (w : World) :
    Calls Try.prog 108 #[.agg #[.int .i64 a.s.p.kind, .int .i64 a.s.p.next, .int .i64 a.s.p.pk.el, .slice a.s.A a.s.p.pk.hd.length a.s.c, .int .i64 a.s.p.pk.tag, .slice a.s.B a.s.p.pk.bd.length a.s.d, .int .i64 a.k], .agg #[.int .i64 b.s.p.kind, .int .i64 b.s.p.next, .int .i64 b.s.p.pk.el, .slice b.s.A b.s.p.pk.hd.length b.s.c, .int .i64 b.s.p.pk.tag, .slice b.s.B b.s.p.pk.bd.length b.s.d, .int .i64 b.k]] w (BoolB (ltb a b) w) := by
  obtain ⟨z0, z1, hs, hb⟩ := Sp6.two_blocks w #[.int .i64 a.s.p.kind, .int .i64 a.s.p.next, .int .i64 a.s.p.pk.el, .slice a.s.A a.s.p.pk.hd.length a.s.c, .int .i64 a.s.p.pk.tag, .slice a.s.B a.s.p.pk.bd.length a.s.d, .int .i64 a.k] #[.int .i64 b.s.p.kind, .int .i64 b.s.p.next, .int .i64 b.s.p.pk.el, .slice b.s.A b.s.p.pk.hd.length b.s.c, .int .i64 b.s.p.pk.tag, .slice b.s.B b.s.p.pk.bd.length b.s.d, .int .i64 b.k] 70 70
  have Z0 := Lib.hid z0
  have Z1 := Lib.hid z1
  have HB := Lib.hid hb
  have hz : w.heap.size + 1 < ((w.alloc (.cells #[.int .i64 a.s.p.kind, .int .i64 a.s.p.next, .int .i64 a.s.p.pk.el, .slice a.s.A a.s.p.pk.hd.length a.s.c, .int .i64 a.s.p.pk.tag, .slice a.s.B a.s.p.pk.bd.length a.s.d, .int .i64 a.k] 70)).alloc (.cells #[.int .i64 b.s.p.kind, .int .i64 b.s.p.next, .int .i64 b.s.p.pk.el, .slice b.s.A b.s.p.pk.hd.length b.s.c, .int .i64 b.s.p.pk.tag, .slice b.s.B b.s.p.pk.bd.length b.s.d, .int .i64 b.k] 70)).heap.size := by rw [hs]; omega
  have hz0 : w.heap.size < ((w.alloc (.cells #[.int .i64 a.s.p.kind, .int .i64 a.s.p.next, .int .i64 a.s.p.pk.el, .slice a.s.A a.s.p.pk.hd.length a.s.c, .int .i64 a.s.p.pk.tag, .slice a.s.B a.s.p.pk.bd.length a.s.d, .int .i64 a.k] 70)).alloc (.cells #[.int .i64 b.s.p.kind, .int .i64 b.s.p.next, .int .i64 b.s.p.pk.el, .slice b.s.A b.s.p.pk.hd.length b.s.c, .int .i64 b.s.p.pk.tag, .slice b.s.B b.s.p.pk.bd.length b.s.d, .int .i64 b.k] 70)).heap.size := by rw [hs]; omega
  clear z0 z1 hs hb
  go_enter Try.func108, Try.ntmps108
  go_upto_region 1 with (fail)
  generalize ((w.alloc (.cells #[.int .i64 a.s.p.kind, .int .i64 a.s.p.next, .int .i64 a.s.p.pk.el, .slice a.s.A a.s.p.pk.hd.length a.s.c, .int .i64 a.s.p.pk.tag, .slice a.s.B a.s.p.pk.bd.length a.s.d, .int .i64 a.k] 70)).alloc (.cells #[.int .i64 b.s.p.kind, .int .i64 b.s.p.next, .int .i64 b.s.p.pk.el, .slice b.s.A b.s.p.pk.hd.length b.s.c, .int .i64 b.s.p.pk.tag, .slice b.s.B b.s.p.pk.bd.length b.s.d, .int .i64 b.k] 70)) = w1 at *
  go_cut [5, 6] from 7 (fun s5 s6 w2 => ∃ ba bb, s5 = .pointer (some ⟨ba, 0, none⟩) ∧ s6 = .pointer (some ⟨bb, 0, none⟩) ∧ Hid (Blk w2 ba #[.int .i64 a.s.p.kind, .int .i64 a.s.p.next, .int .i64 a.s.p.pk.el, .slice a.s.A a.s.p.pk.hd.length a.s.c, .int .i64 a.s.p.pk.tag, .slice a.s.B a.s.p.pk.bd.length a.s.d] 59 ∧ Blk w2 bb #[.int .i64 b.s.p.kind, .int .i64 b.s.p.next, .int .i64 b.s.p.pk.el, .slice b.s.A b.s.p.pk.hd.length b.s.c, .int .i64 b.s.p.pk.tag, .slice b.s.B b.s.p.pk.bd.length b.s.d] 59 ∧ Blk w2 w.heap.size #[.int .i64 a.s.p.kind, .int .i64 a.s.p.next, .int .i64 a.s.p.pk.el, .slice a.s.A a.s.p.pk.hd.length a.s.c, .int .i64 a.s.p.pk.tag, .slice a.s.B a.s.p.pk.bd.length a.s.d, .int .i64 a.k] 70 ∧ Blk w2 (w.heap.size + 1) #[.int .i64 b.s.p.kind, .int .i64 b.s.p.next, .int .i64 b.s.p.pk.el, .slice b.s.A b.s.p.pk.hd.length b.s.c, .int .i64 b.s.p.pk.tag, .slice b.s.B b.s.p.pk.bd.length b.s.d, .int .i64 b.k] 70 ∧ Below w.heap.size w w2))
  case first =>
    obtain ⟨a0, a1, a2, a3, a4, a5, a6, af⟩ := seven_cells Z0.out
    obtain ⟨b0, b1, b2, b3, b4, b5, b6, bf⟩ := seven_cells Z1.out
    go_region
    all_goals
      go_wp2_with fail
      go_meet
      case rel =>
        first
          | (obtain ⟨y0, y1, ys, yb⟩ := Sp6.two_blocks w1 #[.int .i64 a.s.p.kind, .int .i64 a.s.p.next, .int .i64 a.s.p.pk.el, .slice a.s.A a.s.p.pk.hd.length a.s.c, .int .i64 a.s.p.pk.tag, .slice a.s.B a.s.p.pk.bd.length a.s.d] #[.int .i64 b.s.p.kind, .int .i64 b.s.p.next, .int .i64 b.s.p.pk.el, .slice b.s.A b.s.p.pk.hd.length b.s.c, .int .i64 b.s.p.pk.tag, .slice b.s.B b.s.p.pk.bd.length b.s.d] 59 59; exact ⟨_, _, rfl, rfl, y0, y1, blk_two Z0.out _ _, blk_two Z1.out _ _, below_drew2 (HB.out.trans (yb.mono HB.out.size))⟩)
          | (obtain ⟨y0, y1, ys, yb⟩ := Sp6.two_blocks w1 #[.int .i64 b.s.p.kind, .int .i64 b.s.p.next, .int .i64 b.s.p.pk.el, .slice b.s.A b.s.p.pk.hd.length b.s.c, .int .i64 b.s.p.pk.tag, .slice b.s.B b.s.p.pk.bd.length b.s.d] #[.int .i64 a.s.p.kind, .int .i64 a.s.p.next, .int .i64 a.s.p.pk.el, .slice a.s.A a.s.p.pk.hd.length a.s.c, .int .i64 a.s.p.pk.tag, .slice a.s.B a.s.p.pk.bd.length a.s.d] 59 59; exact ⟨_, _, rfl, rfl, y1, y0, blk_two Z0.out _ _, blk_two Z1.out _ _, below_drew2 (HB.out.trans (yb.mono HB.out.size))⟩)
  case rest =>
    obtain ⟨ba, bb, rfl, rfl, hR⟩ := hcut
    obtain ⟨a0, a1, a2, a3, a4, a5, af⟩ := six_cells hR.out.1
    obtain ⟨b0, b1, b2, b3, b4, b5, bf⟩ := six_cells hR.out.2.1
    obtain ⟨_, _, _, _, _, _, a6, _⟩ := seven_cells hR.out.2.2.1
    obtain ⟨_, _, _, _, _, _, b6, _⟩ := seven_cells hR.out.2.2.2.1
    have HB2 := Lib.hid hR.out.2.2.2.2
    clear hR Z0 Z1 HB
    go_wp2_with fail
    go_still_tail 29, (by kernel_rfl)
    still_call (compare_s _ _ _)
    repeat still_step
    still_call (compare_s _ _ _)
    repeat still_step
    still_call (compare_s _ _ _)
    repeat still_step
    still_call (compare_s _ _ _)
    repeat still_step
    still_call (compare_s _ _ _)
    repeat still_step
    refine wpStill_nil ?_
    change wpList _ _ _ _ _ wc.drew
    replace HB2 := Lib.hid (below_drew2 HB2.out)
    clear a0 a1 a2 a3 a4 a5 a6 af b0 b1 b2 b3 b4 b5 b6 bf
    generalize wc.drew = w4 at *
    have HI := Lib.hid (ints_lit5 w4 (cmpI a.s.p.kind b.s.p.kind) (cmpI a.s.p.next b.s.p.next) (cmpI a.s.p.pk.el b.s.p.pk.el) (cmpI a.s.p.pk.tag b.s.p.pk.tag) (cmpI a.k b.k))
    have hq : ltb a b = decide (orL [cmpI a.s.p.kind b.s.p.kind, cmpI a.s.p.next b.s.p.next, cmpI a.s.p.pk.el b.s.p.pk.el, cmpI a.s.p.pk.tag b.s.p.pk.tag, cmpI a.k b.k] < 0) := rfl
    have HQ := Lib.hid hq
    clear hq
    generalize cmpI a.s.p.kind b.s.p.kind = x1 at *
    generalize cmpI a.s.p.next b.s.p.next = x2 at *
    generalize cmpI a.s.p.pk.el b.s.p.pk.el = x3 at *
    generalize cmpI a.s.p.pk.tag b.s.p.pk.tag = x4 at *
    generalize cmpI a.k b.k = x5 at *
    go_wp2_with fail
    ((with_reducible refine (cmpOr _ _ _ _ _ [x1, x2, x3, x4, x5] _ HI.out).mono ?_); rintro e w3 ⟨rfl, rfl⟩)
    go_wp2
    go_ret
    rw [HQ.out]
    exact ⟨rfl, HB2.out.alloc HB2.out.size _⟩

end Im6
end Go.Proofs.Ytmnhobapjncbfaa
