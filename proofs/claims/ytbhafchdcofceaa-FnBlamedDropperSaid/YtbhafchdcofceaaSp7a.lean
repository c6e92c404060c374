/-
  Contracts of the model's chapter 12: the order of links, valid counts.
-/
import Derived.Test.YtbhafchdcofceaaLc
import Derived.Test.YtbhafchdcofceaaNm
import Derived.Deep.QuietTactic
import Derived.BigQuiet
import Derived.StillTailTactics
import Derived.Deep.RegionLaw
namespace Go.Proofs.Ytbhafchdcofceaa
open Go.RowKit
namespace Sp7
open Il Sl Lc Sp2 Nm

theorem l12Less (a b : Cnt) (w : World) :
    Calls Try.prog 47 #[.agg #[.int .i64 a.fr, .int .i64 a.to_, .int .i64 a.se, .int .i64 a.ba], .agg #[.int .i64 b.fr, .int .i64 b.to_, .int .i64 b.se, .int .i64 b.ba]] w (BoolB (less a b) w) := by
  have h0 : Below w.heap.size w (w.alloc (.cells #[.int .i64 a.fr, .int .i64 a.to_, .int .i64 a.se, .int .i64 a.ba] 37)) := (Below.refl _ _).alloc (Nat.le_refl _) _
  have B0 := Lib.hid (h0.alloc h0.size (.cells #[.int .i64 b.fr, .int .i64 b.to_, .int .i64 b.se, .int .i64 b.ba] 37))
  clear h0
  by_cases h1 : a.fr < b.fr
  · have HV : Hid (less a b = true) := by show less a b = true; unfold less; rw [decide_eq_true h1]; rfl
    go_enter Try.func47, Try.ntmps47
    go_wp2
    go_ret
    rw [HV.out]
    exact ⟨rfl, B0.out⟩
  · have d1 : decide (a.fr < b.fr) = false := decide_eq_false h1
    by_cases h2 : a.fr = b.fr
    · have HV : Hid (less a b = decide (a.to_ < b.to_)) := by show less a b = _; unfold less; rw [d1, decide_eq_true h2]; rfl
      have d2 : (a.fr == b.fr) = true := by simpa using h2
      clear h1 h2
      generalize a.fr = x at *
      generalize b.fr = y at *
      go_enter Try.func47, Try.ntmps47
      go_wp2
      go_ret
      rw [HV.out]
      exact ⟨rfl, B0.out⟩
    · have HV : Hid (less a b = false) := by show less a b = _; unfold less; rw [d1, decide_eq_false h2]; rfl
      have d2 : (a.fr == b.fr) = false := by simpa using h2
      clear h1 h2
      generalize a.fr = x at *
      generalize b.fr = y at *
      go_enter Try.func47, Try.ntmps47
      go_wp2
      go_ret
      rw [HV.out]
      exact ⟨rfl, B0.out⟩

theorem below_dr {B d : Nat} {w w' : World} (h : Below B w w') : Below B w (w'.drewN d) := ⟨h.os, h.tape, h.output, h.size, h.block⟩
theorem below_dr1 {B : Nat} {w w' : World} (h : Below B w w') : Below B w w'.drew := ⟨h.os, h.tape, h.output, h.size, h.block⟩
def LvRel (lo hi : Nat) (w wr : World) (A : Option Addr) (n c : Nat) (xs : List Cnt) : Prop := Cnts lo hi wr A n c xs ∧ Below w.heap.size w wr
theorem LvRel.c1 {lo hi : Nat} {w wr : World} {A : Option Addr} {n c : Nat} {xs : List Cnt} (h : LvRel lo hi w wr A n c xs) : Cnts lo hi wr A n c xs := h.1
theorem LvRel.box {lo hi : Nat} {w wr : World} {A : Option Addr} {n c : Nat} {xs : List Cnt} (h : LvRel lo hi w wr A n c xs) (o : Obj) : LvRel lo hi w (wr.alloc o) A n c xs :=
  ⟨h.1.below ((Below.refl _ _).alloc (Nat.le_refl _) o) (Nat.le_refl _), h.2.alloc h.2.size o⟩
theorem LvRel.below {lo hi : Nat} {w wr w2 : World} {A : Option Addr} {n c : Nat} {xs : List Cnt} (h : LvRel lo hi w wr A n c xs) (hb : Below wr.heap.size wr w2) : LvRel lo hi w w2 A n c xs :=
  ⟨h.1.below hb (Nat.le_refl _), h.2.trans (hb.mono h.2.size)⟩
theorem LvRel.dr {lo hi d : Nat} {w wr : World} {A : Option Addr} {n c : Nat} {xs : List Cnt} (h : LvRel lo hi w wr A n c xs) : LvRel lo hi w (wr.drewN d) A n c xs := ⟨h.1, below_dr h.2⟩

theorem four_new (w : World) (v0 v1 v2 v3 : Value) (t : TypeId) : (w.alloc (.cells #[v0, v1, v2, v3] t)).cell? ⟨w.heap.size, 0, none⟩ = some v0 ∧ (w.alloc (.cells #[v0, v1, v2, v3] t)).cell? ⟨w.heap.size, 1, none⟩ = some v1 ∧
    (w.alloc (.cells #[v0, v1, v2, v3] t)).cell? ⟨w.heap.size, 2, none⟩ = some v2 ∧ (w.alloc (.cells #[v0, v1, v2, v3] t)).cell? ⟨w.heap.size, 3, none⟩ = some v3 := by
  have hh : (w.alloc (.cells #[v0, v1, v2, v3] t)).heap[w.heap.size]? = some (.cells #[v0, v1, v2, v3] t (0, 0)) := heap_alloc_new _ _
  refine ⟨?_, ?_, ?_, ?_⟩
  all_goals rw [cell_of_row _ _ _ _ _ _ hh]; rfl
theorem l6N (x : Int) (w : World) : Calls Try.prog 46 #[.int .i64 x, .int .i64 0, .int .i64 7] w fun e w' => e = .returned (.bool (inN x)) ∧ w = w' := l6In x 0 7 w
theorem l6S (x : Int) (w : World) : Calls Try.prog 46 #[.int .i64 x, .int .i64 1, .int .i64 99] w fun e w' => e = .returned (.bool (seB x)) ∧ w = w' := l6In x 1 99 w
theorem l6B (x y : Int) (w : World) : Calls Try.prog 46 #[.int .i64 x, .int .i64 0, .int .i64 y] w fun e w' => e = .returned (.bool (baB x y)) ∧ w = w' := l6In x 0 y w
set_option maxRecDepth 20000 in
set_option maxHeartbeats 1000000 in
theorem LoopsValid (lo hi : Nat) (A : Option Addr) (n c : Nat) (xs : List Cnt) (w : World) (hx : Cnts lo hi w A n c xs) :
    Calls Try.prog 33 #[.slice A n c] w (BoolB (loopsOk xs) w) := by
  have hc1 := hx.max_
  have hc2 := hx.cap_
  have HL := Lib.hid hx.len_
  have HX0 : Hid (LvRel lo hi w w A n c xs) := ⟨hx, Below.refl _ _⟩
  clear hx
  go_enter Try.func33, Try.ntmps33
  go_wp2
  go_loopw [3] (fun i wr => ∃ k : Nat, k ≤ n ∧ i = .int .i64 k ∧ Hid (∀ i, i < k → stepOk xs i = true) ∧ Hid (LvRel lo hi w wr A n c xs)) (fun i _ => n - (intOf i).toNat)
  case atStart => exact ⟨0, Nat.zero_le _, rfl, fun i hi => absurd hi (by omega), HX0.out⟩
  case round =>
    obtain ⟨k, hk, rfl, hT, hR⟩ := hrel
    clear HX0
    by_cases hlt : k < n
    · obtain ⟨b, off, rfl, _, _, hbz, c0, c1, c2, c3⟩ := hR.out.1.at_ hlt
      have HSA : Hid (stepOk xs k = (okC (cntAt xs k) && (k == 0 || less (cntAt xs (k - 1)) (cntAt xs k)))) := rfl
      have HRB := Lib.hid (hR.out.box (.cells #[.int .i64 (cntAt xs k).fr, .int .i64 (cntAt xs k).to_, .int .i64 (cntAt xs k).se, .int .i64 (cntAt xs k).ba] 37))
      have HNO : Hid (stepOk xs k = false → loopsOk xs = false) := fun h => loopsOk_no (by rw [HL.out]; exact hlt) h
      have HYES : Hid (stepOk xs k = true → ∀ i, i < k + 1 → stepOk xs i = true) := fun h => step_succ hT.out h
      clear hT
      generalize hxk : cntAt xs k = x at *
      have HXK := Lib.hid hxk
      clear hxk
      have HR2 := Lib.hid hR.out
      clear hR
      have q0 : okC x = (inN x.fr && (inN x.to_ && (!(x.fr == x.to_) && (seB x.se && baB x.ba x.se)))) := rfl
      cases h1 : inN x.fr
      · have HV := Lib.hid (HNO.out (by rw [HSA.out, q0, h1]; rfl))
        clear HNO HYES HSA q0
        go_wp2
        go_quiet ((go_at_call 46; first | with_reducible exact quiet_eq (l6N x.fr _) | with_reducible exact quiet_eq (l6N x.to_ _) | with_reducible exact quiet_eq (l6S x.se _) | with_reducible exact quiet_eq (l6B x.ba x.se _)))
        go_wp2
        go_ret
        rw [HV.out]
        exact ⟨rfl, below_dr HRB.out.2⟩
      · have _hh1 := trivial
        cases h2 : inN x.to_
        · have HV := Lib.hid (HNO.out (by rw [HSA.out, q0, h1, h2]; rfl))
          clear HNO HYES HSA q0
          go_wp2
          go_quiet ((go_at_call 46; first | with_reducible exact quiet_eq (l6N x.fr _) | with_reducible exact quiet_eq (l6N x.to_ _) | with_reducible exact quiet_eq (l6S x.se _) | with_reducible exact quiet_eq (l6B x.ba x.se _)))
          go_wp2
          go_ret
          rw [HV.out]
          exact ⟨rfl, below_dr HRB.out.2⟩
        · have _hh2 := trivial
          cases h3 : (x.fr == x.to_)
          rotate_left
          · have HV := Lib.hid (HNO.out (by rw [HSA.out, q0, h1, h2, h3]; rfl))
            clear HNO HYES HSA q0
            go_wp2
            go_quiet ((go_at_call 46; first | with_reducible exact quiet_eq (l6N x.fr _) | with_reducible exact quiet_eq (l6N x.to_ _) | with_reducible exact quiet_eq (l6S x.se _) | with_reducible exact quiet_eq (l6B x.ba x.se _)))
            go_wp2
            go_ret
            rw [HV.out]
            exact ⟨rfl, below_dr HRB.out.2⟩
          · have _hh3 := trivial
            cases h4 : seB x.se
            · have HV := Lib.hid (HNO.out (by rw [HSA.out, q0, h1, h2, h3, h4]; rfl))
              clear HNO HYES HSA q0
              go_wp2
              go_quiet ((go_at_call 46; first | with_reducible exact quiet_eq (l6N x.fr _) | with_reducible exact quiet_eq (l6N x.to_ _) | with_reducible exact quiet_eq (l6S x.se _) | with_reducible exact quiet_eq (l6B x.ba x.se _)))
              go_wp2
              go_ret
              rw [HV.out]
              exact ⟨rfl, below_dr HRB.out.2⟩
            · have _hh4 := trivial
              cases h5 : baB x.ba x.se
              · have HV := Lib.hid (HNO.out (by rw [HSA.out, q0, h1, h2, h3, h4, h5]; rfl))
                clear HNO HYES HSA q0
                go_wp2
                go_quiet ((go_at_call 46; first | with_reducible exact quiet_eq (l6N x.fr _) | with_reducible exact quiet_eq (l6N x.to_ _) | with_reducible exact quiet_eq (l6S x.se _) | with_reducible exact quiet_eq (l6B x.ba x.se _)))
                go_wp2
                go_ret
                rw [HV.out]
                exact ⟨rfl, below_dr HRB.out.2⟩
              · have _hh5 := trivial
                have q1 : okC x = true := by rw [q0, h1, h2, h3, h4, h5]; rfl
                rcases Nat.eq_zero_or_pos k with hk0 | hkp
                · have HN := Lib.hid (HYES.out (by rw [HSA.out, q1, hk0]; rfl))
                  have e0 : decide (0 < k) = false := by simp; omega
                  clear HNO HYES HSA q0 q1 hk0
                  go_wp2
                  go_quiet ((go_at_call 46; first | with_reducible exact quiet_eq (l6N x.fr _) | with_reducible exact quiet_eq (l6N x.to_ _) | with_reducible exact quiet_eq (l6S x.se _) | with_reducible exact quiet_eq (l6B x.ba x.se _)))
                  go_wp2
                  go_roundw
                  case rel => exact ⟨k + 1, by omega, by go_num, HN.out, HRB.out.dr⟩
                  case measure => simp [intOf]; omega
                · obtain ⟨j, hj⟩ : ∃ j, k = j + 1 := ⟨k - 1, by omega⟩
                  have e0 : decide (0 < k) = true := by simp; omega
                  have e1 : (k : Int) - 1 = (j : Int) := by omega
                  have e2 : IntKind.i64.wrap ((k : Int) - 1) = (j : Int) := by rw [IntWalk.i64_in _ (by omega)]; exact e1
                  clear e1
                  obtain ⟨b2, off2, eb, _, _, _, y0, y1, y2, y3⟩ := HR2.out.1.at_ (k := j) (by omega)
                  simp only [Option.some.injEq, Addr.mk.injEq, and_true] at eb
                  obtain ⟨rfl, rfl⟩ := eb
                  have HKJ : Hid (k - 1 = j) := by show k - 1 = j; omega
                  have HKB : Hid ((k == 0) = false) := by show (k == 0) = false; simp; omega
                  have HSB : Hid (stepOk xs k = less (cntAt xs j) x) := by show stepOk xs k = _; rw [HSA.out, q1, HKJ.out, HKB.out]; rfl
                  clear HSA q0 q1 HR2
                  generalize cntAt xs j = y at *
                  have hjn : j < n := by omega
                  clear hj hkp
                  go_wp2
                  obtain ⟨z0, z1, z2, z3⟩ := four_new wr (.int .i64 x.fr) (.int .i64 x.to_) (.int .i64 x.se) (.int .i64 x.ba) 37
                  have y0' := (World.cell?_of_block (Below.heap_alloc wr (.cells #[.int .i64 x.fr, .int .i64 x.to_, .int .i64 x.se, .int .i64 x.ba] 37) b hbz)).trans y0
                  have y1' := (World.cell?_of_block (Below.heap_alloc wr (.cells #[.int .i64 x.fr, .int .i64 x.to_, .int .i64 x.se, .int .i64 x.ba] 37) b hbz)).trans y1
                  have y2' := (World.cell?_of_block (Below.heap_alloc wr (.cells #[.int .i64 x.fr, .int .i64 x.to_, .int .i64 x.se, .int .i64 x.ba] 37) b hbz)).trans y2
                  have y3' := (World.cell?_of_block (Below.heap_alloc wr (.cells #[.int .i64 x.fr, .int .i64 x.to_, .int .i64 x.se, .int .i64 x.ba] 37) b hbz)).trans y3
                  clear c0 c1 c2 c3 y0 y1 y2 y3
                  generalize hsz : wr.heap.size = sz at *
                  generalize (wr.alloc (.cells #[.int .i64 x.fr, .int .i64 x.to_, .int .i64 x.se, .int .i64 x.ba] 37)) = w2 at *
                  clear hsz hbz
                  refine wp_region_still_tail 41 (by kernel_rfl) (by kernel_rfl) ?_
                  simp only [List.take_succ_cons, List.take_zero, List.drop_succ_cons, List.drop_zero]
                  repeat still_step
                  still_call ((l6N x.fr _).mono fun _ _ ⟨h1, h2⟩ => ⟨h1, h2.symm⟩)
                  repeat still_step
                  still_call ((l6N x.to_ _).mono fun _ _ ⟨h1, h2⟩ => ⟨h1, h2.symm⟩)
                  repeat still_step
                  still_call ((l6S x.se _).mono fun _ _ ⟨h1, h2⟩ => ⟨h1, h2.symm⟩)
                  repeat still_step
                  still_call ((l6B x.ba x.se _).mono fun _ _ ⟨h1, h2⟩ => ⟨h1, h2.symm⟩)
                  repeat still_step
                  try refine wpStill_nil ?_
                  change wpList _ _ _ _ _ (World.drew _)
                  cases hle : less y x
                  · have HV := Lib.hid (HNO.out (by rw [HSB.out, hle]))
                    go_wp2_with fail
                    ((with_reducible refine (l12Less y x _).mono ?_); rintro e w1 ⟨rfl, hb⟩)
                    rw [hle]
                    have HR3 := Lib.hid (HRB.out.below (below_drew hb))
                    clear hle hb HRB HNO HYES HSB
                    go_wp2
                    go_ret
                    rw [HV.out]
                    exact ⟨rfl, HR3.out.2⟩
                  · have HN := Lib.hid (HYES.out (by rw [HSB.out, hle]))
                    go_wp2_with fail
                    ((with_reducible refine (l12Less y x _).mono ?_); rintro e w1 ⟨rfl, hb⟩)
                    rw [hle]
                    have HR3 := Lib.hid (HRB.out.below (below_drew hb))
                    clear hle hb HRB HNO HYES HSB
                    go_wp2
                    go_roundw
                    case rel => exact ⟨k + 1, by omega, by go_num, HN.out, HR3.out⟩
                    case measure => simp [intOf]; omega
    · obtain rfl : k = n := by omega
      have HS := Lib.hid (loopsOk_iff.2 (by rw [HL.out]; exact hT.out))
      clear hT hlt
      go_wp2
      go_ret
      rw [HS.out]
      exact ⟨rfl, hR.out.2⟩

end Sp7
end Go.Proofs.Ytbhafchdcofceaa
