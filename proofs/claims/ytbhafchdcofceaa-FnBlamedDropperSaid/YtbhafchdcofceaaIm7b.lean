/-
  Contracts of the program's chapter 12: valid counts, parts, suspects.
-/
import Derived.Test.YtbhafchdcofceaaIm7a
import Derived.Test.YtbhafchdcofceaaSp7b
import Derived.Test.YtbhafchdcofceaaQc
import Derived.Test.YtbhafchdcofceaaLa
namespace Go.Proofs.Ytbhafchdcofceaa
open Go.RowKit
namespace Im7
open Il Sl Lc Sp2 Nm Sp7

theorem okC_split (x : Cnt) : okC x = (inN x.fr && (inN x.to_ && (!(x.fr == x.to_) && ((decide (1 ≤ x.se) && decide (x.se ≤ 99)) && (decide (0 ≤ x.ba) && decide (x.ba ≤ x.se)))))) := by
  unfold okC seB baB
  rw [Bool.decide_and, Bool.decide_and]
set_option maxRecDepth 20000 in
theorem countValid (x : Cnt) (w : World) : Calls Try.prog 36 #[.agg #[.int .i64 x.fr, .int .i64 x.to_, .int .i64 x.se, .int .i64 x.ba]] w (BoolB (okC x) w) := by
  have B0 : Hid (Below w.heap.size w (w.alloc (.cells #[.int .i64 x.fr, .int .i64 x.to_, .int .i64 x.se, .int .i64 x.ba] 37))) := (Below.refl _ _).alloc (Nat.le_refl _) _
  have q0 := Lib.hid (okC_split x)
  cases h1 : inN x.fr
  · skip
    have HV : Hid (okC x = false) := by show okC x = _; rw [q0.out, h1]; rfl
    clear q0
    go_enter Try.func36, Try.ntmps36
    go_wp2_with fail
    ((with_reducible refine (nameValid x.fr _).mono ?_); rintro e w1 ⟨rfl, rfl⟩)
    rw [show inName x.fr = false from h1]
    go_wp2
    go_ret
    rw [HV.out]
    exact ⟨rfl, B0.out⟩
  · skip
    cases h2 : inN x.to_
    · skip
      have HV : Hid (okC x = false) := by show okC x = _; rw [q0.out, h1, h2]; rfl
      clear q0
      go_enter Try.func36, Try.ntmps36
      go_wp2_with fail
      ((with_reducible refine (nameValid x.fr _).mono ?_); rintro e w1 ⟨rfl, rfl⟩)
      rw [show inName x.fr = true from h1]
      go_wp2_with fail
      ((with_reducible refine (nameValid x.to_ _).mono ?_); rintro e w2 ⟨rfl, rfl⟩)
      rw [show inName x.to_ = false from h2]
      go_wp2
      go_ret
      rw [HV.out]
      exact ⟨rfl, B0.out⟩
    · skip
      cases h3 : (x.fr == x.to_)
      rotate_left
      · skip
        have HV : Hid (okC x = false) := by show okC x = _; rw [q0.out, h1, h2, h3]; rfl
        have d3 : (x.fr != x.to_) = false := by unfold bne; rw [h3]; rfl
        clear h3
        clear q0
        go_enter Try.func36, Try.ntmps36
        go_wp2_with fail
        ((with_reducible refine (nameValid x.fr _).mono ?_); rintro e w1 ⟨rfl, rfl⟩)
        rw [show inName x.fr = true from h1]
        go_wp2_with fail
        ((with_reducible refine (nameValid x.to_ _).mono ?_); rintro e w2 ⟨rfl, rfl⟩)
        rw [show inName x.to_ = true from h2]
        go_wp2
        go_ret
        rw [HV.out]
        exact ⟨rfl, B0.out⟩
      · skip
        cases h4 : decide (1 ≤ x.se)
        · skip
          have HV : Hid (okC x = false) := by show okC x = _; rw [q0.out, h1, h2, h3, h4]; rfl
          have d3 : (x.fr != x.to_) = true := by unfold bne; rw [h3]; rfl
          clear h3
          clear q0
          go_enter Try.func36, Try.ntmps36
          go_wp2_with fail
          ((with_reducible refine (nameValid x.fr _).mono ?_); rintro e w1 ⟨rfl, rfl⟩)
          rw [show inName x.fr = true from h1]
          go_wp2_with fail
          ((with_reducible refine (nameValid x.to_ _).mono ?_); rintro e w2 ⟨rfl, rfl⟩)
          rw [show inName x.to_ = true from h2]
          go_wp2
          go_ret
          rw [HV.out]
          exact ⟨rfl, B0.out⟩
        · skip
          cases h5 : decide (x.se ≤ 99)
          · skip
            have HV : Hid (okC x = false) := by show okC x = _; rw [q0.out, h1, h2, h3, h4, h5]; rfl
            have d3 : (x.fr != x.to_) = true := by unfold bne; rw [h3]; rfl
            clear h3
            clear q0
            go_enter Try.func36, Try.ntmps36
            go_wp2_with fail
            ((with_reducible refine (nameValid x.fr _).mono ?_); rintro e w1 ⟨rfl, rfl⟩)
            rw [show inName x.fr = true from h1]
            go_wp2_with fail
            ((with_reducible refine (nameValid x.to_ _).mono ?_); rintro e w2 ⟨rfl, rfl⟩)
            rw [show inName x.to_ = true from h2]
            go_wp2
            go_ret
            rw [HV.out]
            exact ⟨rfl, B0.out⟩
          · skip
            cases h6 : decide (0 ≤ x.ba)
            · skip
              have HV : Hid (okC x = false) := by show okC x = _; rw [q0.out, h1, h2, h3, h4, h5, h6]; rfl
              have d3 : (x.fr != x.to_) = true := by unfold bne; rw [h3]; rfl
              clear h3
              clear q0
              go_enter Try.func36, Try.ntmps36
              go_wp2_with fail
              ((with_reducible refine (nameValid x.fr _).mono ?_); rintro e w1 ⟨rfl, rfl⟩)
              rw [show inName x.fr = true from h1]
              go_wp2_with fail
              ((with_reducible refine (nameValid x.to_ _).mono ?_); rintro e w2 ⟨rfl, rfl⟩)
              rw [show inName x.to_ = true from h2]
              go_wp2
              go_ret
              rw [HV.out]
              exact ⟨rfl, B0.out⟩
            · skip
              cases h7 : decide (x.ba ≤ x.se)
              · skip
                have HV : Hid (okC x = false) := by show okC x = _; rw [q0.out, h1, h2, h3, h4, h5, h6, h7]; rfl
                have d3 : (x.fr != x.to_) = true := by unfold bne; rw [h3]; rfl
                clear h3
                clear q0
                go_enter Try.func36, Try.ntmps36
                go_wp2_with fail
                ((with_reducible refine (nameValid x.fr _).mono ?_); rintro e w1 ⟨rfl, rfl⟩)
                rw [show inName x.fr = true from h1]
                go_wp2_with fail
                ((with_reducible refine (nameValid x.to_ _).mono ?_); rintro e w2 ⟨rfl, rfl⟩)
                rw [show inName x.to_ = true from h2]
                go_wp2
                go_ret
                rw [HV.out]
                exact ⟨rfl, B0.out⟩
              · skip
                have HV : Hid (okC x = true) := by show okC x = _; rw [q0.out, h1, h2, h3, h4, h5, h6, h7]; rfl
                have d3 : (x.fr != x.to_) = true := by unfold bne; rw [h3]; rfl
                clear h3
                clear q0
                go_enter Try.func36, Try.ntmps36
                go_wp2_with fail
                ((with_reducible refine (nameValid x.fr _).mono ?_); rintro e w1 ⟨rfl, rfl⟩)
                rw [show inName x.fr = true from h1]
                go_wp2_with fail
                ((with_reducible refine (nameValid x.to_ _).mono ?_); rintro e w2 ⟨rfl, rfl⟩)
                rw [show inName x.to_ = true from h2]
                go_wp2
                go_ret
                rw [HV.out]
                exact ⟨rfl, B0.out⟩

/-- The cells of a link and of the one ahead of it. -/
def HSd (s b o : Nat) (x y : Cnt) (w : World) : Prop := w.cell? ⟨s, 0, none⟩ = some (.int .i64 x.fr) ∧ w.cell? ⟨s, 1, none⟩ = some (.int .i64 x.to_) ∧ w.cell? ⟨s, 2, none⟩ = some (.int .i64 x.se) ∧ w.cell? ⟨s, 3, none⟩ = some (.int .i64 x.ba) ∧
  w.cell? ⟨b, o, none⟩ = some (.int .i64 y.fr) ∧ w.cell? ⟨b, o + 1, none⟩ = some (.int .i64 y.to_) ∧ w.cell? ⟨b, o + 2, none⟩ = some (.int .i64 y.se) ∧ w.cell? ⟨b, o + 3, none⟩ = some (.int .i64 y.ba)
theorem HSd.step {s b o : Nat} {x y : Cnt} {w w' : World} (h : HSd s b o x y w) (hb : Below w.heap.size w w') : HSd s b o x y w' := by
  obtain ⟨h0, h1, h2, h3, h4, h5, h6, h7⟩ := h
  exact ⟨Qc.hs_step hb h0, Qc.hs_step hb h1, Qc.hs_step hb h2, Qc.hs_step hb h3, Qc.hs_step hb h4, Qc.hs_step hb h5, Qc.hs_step hb h6, Qc.hs_step hb h7⟩

theorem cv_val {x : Cnt} {v : Bool} (h : okC x = v) (w : World) : Calls Try.prog 36 #[.agg #[.int .i64 x.fr, .int .i64 x.to_, .int .i64 x.se, .int .i64 x.ba]] w fun e w' => e = .returned (.bool v) ∧ Below w.heap.size w w' := by
  subst h
  exact countValid x w
set_option maxRecDepth 20000 in
set_option maxHeartbeats 1000000 in
theorem LoopsValid (lo hi : Nat) (A : Option Addr) (n c : Nat) (xs : List Cnt) (w : World) (hx : Cnts lo hi w A n c xs) :
    Calls Try.prog 14 #[.slice A n c] w (BoolB (loopsOk xs) w) := by
  have hc1 := hx.max_
  have hc2 := hx.cap_
  have HL := Lib.hid hx.len_
  have HX0 : Hid (LvRel lo hi w w A n c xs) := ⟨hx, Below.refl _ _⟩
  clear hx
  go_enter Try.func14, Try.ntmps14
  go_wp2
  go_loopw [3, 7] (fun _ i wr => ∃ k : Nat, k ≤ n ∧ i = .int .i64 k ∧ Hid (∀ i, i < k → stepOk xs i = true) ∧ Hid (LvRel lo hi w wr A n c xs)) (fun _ i _ => n - (intOf i).toNat)
  case atStart => exact ⟨0, Nat.zero_le _, rfl, fun i hi => absurd hi (by omega), HX0.out⟩
  case round =>
    obtain ⟨k, hk, rfl, hT, hR⟩ := hrel
    clear HX0
    by_cases hlt : k < n
    · obtain ⟨b, off, rfl, _, _, hbz, c0, c1, c2, c3⟩ := hR.out.1.at_ hlt
      have HSA : Hid (stepOk xs k = (okC (cntAt xs k) && (k == 0 || less (cntAt xs (k - 1)) (cntAt xs k)))) := rfl
      have HRB := Lib.hid (hR.out.box (.cells #[.int .i64 (cntAt xs k).fr, .int .i64 (cntAt xs k).to_, .int .i64 (cntAt xs k).se, .int .i64 (cntAt xs k).ba] 37))
      have HNO : Hid (stepOk xs k = false → loopsOk xs = false) := fun h => loopsOk_no (by rw [HL.out]; exact hlt) h
      have HYES : Hid (stepOk xs k = true → ∀ i, i < k + 1 → stepOk xs i = true) := fun h => step_succ hT.out h
      clear hT
      have HR2 := Lib.hid hR.out
      clear hR
      have HB0 := Lib.hid (fun h => HSA.out.trans (show _ = false by rw [show okC (cntAt xs k) = false from h]; rfl))
      have HB1 := Lib.hid (fun h h2 => HSA.out.trans (show _ = true by rw [show okC (cntAt xs k) = true from h, show (k == 0) = true from h2]; rfl))
      have HB2 := Lib.hid (fun h h2 => HSA.out.trans (show _ = less (cntAt xs (k - 1)) (cntAt xs k) by rw [show okC (cntAt xs k) = true from h, show (k == 0) = false from h2]; rfl))
      clear HSA
      generalize hxk : cntAt xs k = x at *
      have HXK := Lib.hid hxk
      clear hxk
      obtain ⟨z0, z1, z2, z3⟩ := four_new wr (.int .i64 x.fr) (.int .i64 x.to_) (.int .i64 x.se) (.int .i64 x.ba) 37
      have HY : Hid (∀ j, k = j + 1 → (wr.alloc (.cells #[.int .i64 x.fr, .int .i64 x.to_, .int .i64 x.se, .int .i64 x.ba] 37)).cell? ⟨b, off + j * 4, none⟩ = some (.int .i64 (cntAt xs j).fr) ∧
          (wr.alloc (.cells #[.int .i64 x.fr, .int .i64 x.to_, .int .i64 x.se, .int .i64 x.ba] 37)).cell? ⟨b, off + j * 4 + 1, none⟩ = some (.int .i64 (cntAt xs j).to_) ∧
          (wr.alloc (.cells #[.int .i64 x.fr, .int .i64 x.to_, .int .i64 x.se, .int .i64 x.ba] 37)).cell? ⟨b, off + j * 4 + 2, none⟩ = some (.int .i64 (cntAt xs j).se) ∧
          (wr.alloc (.cells #[.int .i64 x.fr, .int .i64 x.to_, .int .i64 x.se, .int .i64 x.ba] 37)).cell? ⟨b, off + j * 4 + 3, none⟩ = some (.int .i64 (cntAt xs j).ba)) := fun j hj => by
        obtain ⟨b2, off2, eb, _, _, _, y0, y1, y2, y3⟩ := HRB.out.1.at_ (k := j) (by omega)
        simp only [Option.some.injEq, Addr.mk.injEq, and_true] at eb
        obtain ⟨rfl, rfl⟩ := eb
        exact ⟨y0, y1, y2, y3⟩
      go_upto_region 4 with (fail)
      clear c0 c1 c2 c3
      generalize hsz : wr.heap.size = sz at *
      generalize (wr.alloc (.cells #[.int .i64 x.fr, .int .i64 x.to_, .int .i64 x.se, .int .i64 x.ba] 37)) = w2 at *
      clear hsz hbz
      have HRD : Hid (LvRel lo hi w w2.drew (some ⟨b, off, none⟩) n c xs) := ⟨HRB.out.1, below_dr1 HRB.out.2⟩
      clear HRB HR2
      have HQ : Hid (∀ S : World → Prop, S = (fun w' => HSd sz b (off + (k - 1) * 4) x (cntAt xs (k - 1)) w' ∧ LvRel lo hi w w' (some ⟨b, off, none⟩) n c xs) → ∀ w' w'', S w' → Below w'.heap.size w' w'' → S w'') := fun S hS w' w'' h1 hb => by
        subst hS
        exact ⟨h1.1.step hb, h1.2.below hb⟩
      have HQ0 : Hid (∀ S : World → Prop, S = (fun w' => (w'.cell? ⟨sz, 0, none⟩ = some (.int .i64 x.fr) ∧ w'.cell? ⟨sz, 1, none⟩ = some (.int .i64 x.to_) ∧ w'.cell? ⟨sz, 2, none⟩ = some (.int .i64 x.se) ∧ w'.cell? ⟨sz, 3, none⟩ = some (.int .i64 x.ba)) ∧ LvRel lo hi w w' (some ⟨b, off, none⟩) n c xs) → ∀ w' w'', S w' → Below w'.heap.size w' w'' → S w'') := fun S hS w' w'' h1 hb => by
        subst hS
        exact ⟨⟨Qc.hs_step hb h1.1.1, Qc.hs_step hb h1.1.2.1, Qc.hs_step hb h1.1.2.2.1, Qc.hs_step hb h1.1.2.2.2⟩, h1.2.below hb⟩
      cases h1 : okC x
      · have HV := Lib.hid (HNO.out (HB0.out h1))
        clear HNO HYES HB0 HB1 HB2 HY HQ
        generalize hS : (fun w' => (w'.cell? ⟨sz, 0, none⟩ = some (.int .i64 x.fr) ∧ w'.cell? ⟨sz, 1, none⟩ = some (.int .i64 x.to_) ∧ w'.cell? ⟨sz, 2, none⟩ = some (.int .i64 x.se) ∧ w'.cell? ⟨sz, 3, none⟩ = some (.int .i64 x.ba)) ∧ LvRel lo hi w w' (some ⟨b, off, none⟩) n c xs) = S
        have HQS := Lib.hid (HQ0.out S hS.symm)
        have HSI : Hid (∀ i : Qc.Wd S, (i.w.cell? ⟨sz, 0, none⟩ = some (.int .i64 x.fr) ∧ i.w.cell? ⟨sz, 1, none⟩ = some (.int .i64 x.to_) ∧ i.w.cell? ⟨sz, 2, none⟩ = some (.int .i64 x.se) ∧ i.w.cell? ⟨sz, 3, none⟩ = some (.int .i64 x.ba)) ∧ LvRel lo hi w i.w (some ⟨b, off, none⟩) n c xs) := fun i => Eq.mpr (congrFun hS i.w) i.h
        have f0 : ∀ i : Qc.Wd S, i.w.cell? ⟨sz, 0, none⟩ = some (.int .i64 x.fr) := fun i => (HSI.out i).1.1
        have f1 : ∀ i : Qc.Wd S, i.w.cell? ⟨sz, 1, none⟩ = some (.int .i64 x.to_) := fun i => (HSI.out i).1.2.1
        have f2 : ∀ i : Qc.Wd S, i.w.cell? ⟨sz, 2, none⟩ = some (.int .i64 x.se) := fun i => (HSI.out i).1.2.2.1
        have f3 : ∀ i : Qc.Wd S, i.w.cell? ⟨sz, 3, none⟩ = some (.int .i64 x.ba) := fun i => (HSI.out i).1.2.2.2
        refine Qc.region S (by kernel_rfl) (by kernel_rfl) (by rw [← hS]; exact ⟨⟨z0, z1, z2, z3⟩, HRD.out⟩) (fun hne => ?_)
        clear HQ0 hS z0 z1 z2 z3 HRD
        repeat (go_big_quiet_step ((go_at_call 36; with_reducible exact Qc.call (HQS.out) (cv_val h1 _))))
        refine wpQuiet_nil ?_
        intro i
        have HI := Lib.hid (HSI.out i).2
        clear HSI f0 f1 f2 f3 HQS
        generalize i.w = w5 at *
        go_wp2
        go_ret
        rw [HV.out]
        exact ⟨rfl, HI.out.2⟩
      · rcases Nat.eq_zero_or_pos k with hk0 | hkp
        · have HN := Lib.hid (HYES.out (HB1.out h1 (by rw [hk0]; rfl)))
          have e0 : decide (0 < k) = false := by simp; omega
          clear HNO HYES HB0 HB1 HB2 HY HQ hk0
          generalize hS : (fun w' => (w'.cell? ⟨sz, 0, none⟩ = some (.int .i64 x.fr) ∧ w'.cell? ⟨sz, 1, none⟩ = some (.int .i64 x.to_) ∧ w'.cell? ⟨sz, 2, none⟩ = some (.int .i64 x.se) ∧ w'.cell? ⟨sz, 3, none⟩ = some (.int .i64 x.ba)) ∧ LvRel lo hi w w' (some ⟨b, off, none⟩) n c xs) = S
          have HQS := Lib.hid (HQ0.out S hS.symm)
          have HSI : Hid (∀ i : Qc.Wd S, (i.w.cell? ⟨sz, 0, none⟩ = some (.int .i64 x.fr) ∧ i.w.cell? ⟨sz, 1, none⟩ = some (.int .i64 x.to_) ∧ i.w.cell? ⟨sz, 2, none⟩ = some (.int .i64 x.se) ∧ i.w.cell? ⟨sz, 3, none⟩ = some (.int .i64 x.ba)) ∧ LvRel lo hi w i.w (some ⟨b, off, none⟩) n c xs) := fun i => Eq.mpr (congrFun hS i.w) i.h
          have f0 : ∀ i : Qc.Wd S, i.w.cell? ⟨sz, 0, none⟩ = some (.int .i64 x.fr) := fun i => (HSI.out i).1.1
          have f1 : ∀ i : Qc.Wd S, i.w.cell? ⟨sz, 1, none⟩ = some (.int .i64 x.to_) := fun i => (HSI.out i).1.2.1
          have f2 : ∀ i : Qc.Wd S, i.w.cell? ⟨sz, 2, none⟩ = some (.int .i64 x.se) := fun i => (HSI.out i).1.2.2.1
          have f3 : ∀ i : Qc.Wd S, i.w.cell? ⟨sz, 3, none⟩ = some (.int .i64 x.ba) := fun i => (HSI.out i).1.2.2.2
          refine Qc.region S (by kernel_rfl) (by kernel_rfl) (by rw [← hS]; exact ⟨⟨z0, z1, z2, z3⟩, HRD.out⟩) (fun hne => ?_)
          clear HQ0 hS z0 z1 z2 z3 HRD
          repeat (go_big_quiet_step ((go_at_call 36; with_reducible exact Qc.call (HQS.out) (cv_val h1 _))))
          refine wpQuiet_nil ?_
          intro i
          have HI := Lib.hid (HSI.out i).2
          clear HSI f0 f1 f2 f3 HQS
          generalize i.w = w5 at *
          go_wp2
          go_roundw
          case rel => exact ⟨k + 1, by omega, by go_num, HN.out, HI.out⟩
          case measure => simp [intOf]; omega
        · obtain ⟨j, hj⟩ : ∃ j, k = j + 1 := ⟨k - 1, by omega⟩
          have e0 : decide (0 < k) = true := by simp; omega
          have e2 : IntKind.i64.wrap ((k : Int) - 1) = (j : Int) := by rw [IntWalk.i64_in _ (by omega)]; omega
          have hjn : j < n := by omega
          have hYj := HY.out j hj
          have HKJ : Hid (k - 1 = j) := by show k - 1 = j; omega
          rw [HKJ.out] at HQ HB2
          have HKB : Hid ((k == 0) = false) := by show (k == 0) = false; simp; omega
          generalize cntAt xs j = y at *
          have HLS := Lib.hid (cmpL_less y x)
          have HST := Lib.hid (HB2.out h1 HKB.out)
          clear HY HQ0 HB0 HB1 HB2 hj hkp HKJ HKB
          generalize hS : (fun w' => HSd sz b (off + j * 4) x y w' ∧ LvRel lo hi w w' (some ⟨b, off, none⟩) n c xs) = S
          have HQS := Lib.hid (HQ.out S hS.symm)
          have HSI : Hid (∀ i : Qc.Wd S, HSd sz b (off + j * 4) x y i.w ∧ LvRel lo hi w i.w (some ⟨b, off, none⟩) n c xs) := fun i => Eq.mpr (congrFun hS i.w) i.h
          have f0 : ∀ i : Qc.Wd S, i.w.cell? ⟨sz, 0, none⟩ = some (.int .i64 x.fr) := fun i => (HSI.out i).1.1
          have f1 : ∀ i : Qc.Wd S, i.w.cell? ⟨sz, 1, none⟩ = some (.int .i64 x.to_) := fun i => (HSI.out i).1.2.1
          have f2 : ∀ i : Qc.Wd S, i.w.cell? ⟨sz, 2, none⟩ = some (.int .i64 x.se) := fun i => (HSI.out i).1.2.2.1
          have f3 : ∀ i : Qc.Wd S, i.w.cell? ⟨sz, 3, none⟩ = some (.int .i64 x.ba) := fun i => (HSI.out i).1.2.2.2.1
          have g0 : ∀ i : Qc.Wd S, i.w.cell? ⟨b, off + j * 4, none⟩ = some (.int .i64 y.fr) := fun i => (HSI.out i).1.2.2.2.2.1
          have g1 : ∀ i : Qc.Wd S, i.w.cell? ⟨b, off + j * 4 + 1, none⟩ = some (.int .i64 y.to_) := fun i => (HSI.out i).1.2.2.2.2.2.1
          have g2 : ∀ i : Qc.Wd S, i.w.cell? ⟨b, off + j * 4 + 2, none⟩ = some (.int .i64 y.se) := fun i => (HSI.out i).1.2.2.2.2.2.2.1
          have g3 : ∀ i : Qc.Wd S, i.w.cell? ⟨b, off + j * 4 + 3, none⟩ = some (.int .i64 y.ba) := fun i => (HSI.out i).1.2.2.2.2.2.2.2
          refine Qc.region S (by kernel_rfl) (by kernel_rfl) (by rw [← hS]; exact ⟨⟨z0, z1, z2, z3, hYj.1, hYj.2.1, hYj.2.2.1, hYj.2.2.2⟩, HRD.out⟩) (fun hne => ?_)
          clear hS z0 z1 z2 z3 HRD hYj HQ
          repeat (go_big_quiet_step ((first
            | (go_at_call 36; with_reducible exact Qc.call (HQS.out) (cv_val h1 _))
            | (go_at_call 38; with_reducible exact Qc.call (HQS.out) (linkOf y _))
            | (go_at_call 38; with_reducible exact Qc.call (HQS.out) (linkOf x _))
            | (go_at_call 37; with_reducible exact Qc.call (HQS.out) (compareLinks y.fr y.to_ x.fr x.to_ _)))))
          refine wpQuiet_nil ?_
          intro i
          have HI := Lib.hid (HSI.out i).2
          clear HSI f0 f1 f2 f3 g0 g1 g2 g3 HQS
          generalize i.w = w5 at *
          cases hle : less y x
          · have d0 : decide (0 ≤ cmpL y.fr y.to_ x.fr x.to_) = true := by rw [HLS.out, hle]; rfl
            have HV := Lib.hid (HNO.out (by rw [HST.out, hle]))
            clear HLS HST HNO HYES
            simp only [d0]
            go_wp2
            go_ret
            rw [HV.out]
            exact ⟨rfl, HI.out.2⟩
          · have d0 : decide (0 ≤ cmpL y.fr y.to_ x.fr x.to_) = false := by rw [HLS.out, hle]; rfl
            have HN := Lib.hid (HYES.out (by rw [HST.out, hle]))
            clear HLS HST HNO HYES
            simp only [d0]
            go_wp2
            go_roundw
            case rel => exact ⟨k + 1, by omega, by go_num, HN.out, HI.out⟩
            case measure => simp [intOf]; omega
    · obtain rfl : k = n := by omega
      have HS := Lib.hid (loopsOk_iff.2 (by rw [HL.out]; exact hT.out))
      clear hT hlt
      go_wp2
      go_ret
      rw [HS.out]
      exact ⟨rfl, hR.out.2⟩

theorem partValid (num den : Int) (w : World) : Calls Try.prog 52 #[.agg #[.int .i64 num, .int .i64 den]] w (BoolB (partOk num den) w) := by
  have B0 : Hid (Below w.heap.size w (w.alloc (.cells #[.int .i64 num, .int .i64 den] 84))) := (Below.refl _ _).alloc (Nat.le_refl _) _
  have q0 : Hid (partOk num den = ((decide (1 ≤ den) && decide (den ≤ 99)) && (decide (0 ≤ num) && decide (num ≤ den)))) := by
    show partOk num den = _
    unfold partOk
    rw [Bool.decide_and, Bool.decide_and]
  cases h1 : decide (1 ≤ den)
  · have HV : Hid (partOk num den = false) := by show partOk num den = _; rw [q0.out, h1]; rfl
    go_enter Try.func52, Try.ntmps52
    go_wp2
    go_ret
    rw [HV.out]
    exact ⟨rfl, B0.out⟩
  · cases h2 : decide (den ≤ 99)
    · have HV : Hid (partOk num den = false) := by show partOk num den = _; rw [q0.out, h1, h2]; rfl
      go_enter Try.func52, Try.ntmps52
      go_wp2
      go_ret
      rw [HV.out]
      exact ⟨rfl, B0.out⟩
    · cases h3 : decide (0 ≤ num)
      · have HV : Hid (partOk num den = false) := by show partOk num den = _; rw [q0.out, h1, h2, h3]; rfl
        go_enter Try.func52, Try.ntmps52
        go_wp2
        go_ret
        rw [HV.out]
        exact ⟨rfl, B0.out⟩
      · have HV : Hid (partOk num den = decide (num ≤ den)) := by show partOk num den = _; rw [q0.out, h1, h2, h3]; rfl
        go_enter Try.func52, Try.ntmps52
        go_wp2
        go_ret
        rw [HV.out]
        exact ⟨rfl, B0.out⟩
theorem partSuspects (num den : Int) (x : Cnt) (w : World) (q1 : IntKind.i64.wrap (x.ba * den) = x.ba * den) (q2 : IntKind.i64.wrap (num * x.se) = num * x.se) :
    Calls Try.prog 53 #[.agg #[.int .i64 num, .int .i64 den], .agg #[.int .i64 x.fr, .int .i64 x.to_, .int .i64 x.se, .int .i64 x.ba]] w (BoolB (suspC num den x) w) := by
  have h0 : Below w.heap.size w (w.alloc (.cells #[.int .i64 num, .int .i64 den] 84)) := (Below.refl _ _).alloc (Nat.le_refl _) _
  have B0 := Lib.hid (h0.alloc h0.size (.cells #[.int .i64 x.fr, .int .i64 x.to_, .int .i64 x.se, .int .i64 x.ba] 37))
  clear h0
  have HV : Hid (suspC num den x = decide (x.ba * den < num * x.se)) := rfl
  go_enter Try.func53, Try.ntmps53
  go_wp2
  go_ret
  rw [HV.out]
  exact ⟨rfl, B0.out⟩

/-- What the loop of the program's LoopSuspects holds: the part lies in block p. -/
def PsRel (lo hi p : Nat) (num den : Int) (w wr : World) (A : Option Addr) (n c : Nat) (xs : List Cnt) (v : Value) (ys : List Cnt) : Prop :=
  SuRel lo hi w wr A n c xs v ys ∧ wr.heap[p]? = some (.cells #[.int .i64 num, .int .i64 den] 84 (0, 0))
section
variable {lo hi p : Nat} {num den : Int} {w wr w2 : World} {A : Option Addr} {n c : Nat} {xs : List Cnt} {v : Value} {ys : List Cnt}
theorem PsRel.below (h : PsRel lo hi p num den w wr A n c xs v ys) (hb : Below wr.heap.size wr w2) : PsRel lo hi p num den w w2 A n c xs v ys := ⟨h.1.below hb, (hb.block p (Array.getElem?_eq_some_iff.1 h.2).1).trans h.2⟩
theorem PsRel.cells (h : PsRel lo hi p num den w wr A n c xs v ys) : wr.cell? ⟨p, 0, none⟩ = some (.int .i64 num) ∧ wr.cell? ⟨p, 1, none⟩ = some (.int .i64 den) := by
  refine ⟨?_, ?_⟩
  all_goals rw [cell_of_row _ _ _ _ _ _ h.2]; rfl
theorem PsRel.c1 (h : PsRel lo hi p num den w wr A n c xs v ys) : Cnts lo hi wr A n c xs := h.1.1
end
set_option maxRecDepth 20000 in
set_option maxHeartbeats 1000000 in
theorem LoopSuspects (lo hi : Nat) (A : Option Addr) (n c : Nat) (xs : List Cnt) (num den : Int) (w : World) (hx : Cnts lo hi w A n c xs) (hh : hi ≤ w.heap.size) :
    Calls Try.prog 40 #[.slice A n c, .int .i64 num, .int .i64 den] w (CntsPost (suspL xs num den) w) := by
  have hc1 := hx.max_
  have hc2 := hx.cap_
  have HL := Lib.hid hx.len_
  have HH := Lib.hid hh
  have b0 : Below w.heap.size w (w.alloc (.cells #[] 37)) := (Below.refl _ _).alloc (Nat.le_refl _) _
  have hp0 : ((w.alloc (.cells #[] 37)).alloc (.cells #[.int .i64 num, .int .i64 den] 84)).heap[w.heap.size + 1]? = some (.cells #[.int .i64 num, .int .i64 den] 84 (0, 0)) := heap_alloc2_new _ _ _
  have HX0 : Hid (PsRel lo hi (w.heap.size + 1) num den w ((w.alloc (.cells #[] 37)).alloc (.cells #[.int .i64 num, .int .i64 den] 84)) A n c xs (.slice (some ⟨w.heap.size, 0, none⟩) 0 0) []) :=
    ⟨⟨hx.below (b0.alloc b0.size _) (Nat.le_refl _), (cacc_new w).alloc _⟩, hp0⟩
  clear hx hh b0 hp0
  go_enter Try.func40, Try.ntmps40
  go_upto_region 3 with (fail)
  generalize (w.alloc (.cells #[] 37)).alloc (.cells #[.int .i64 num, .int .i64 den] 84) = w2 at *
  cases h1 : loopsOk xs
  · have HV : Hid (suspL xs num den = []) := by show suspL xs num den = _; unfold suspL; rw [h1]; rfl
    go_wp2_with fail
    ((with_reducible refine (LoopsValid _ _ _ _ _ xs _ HX0.out.c1).mono ?_); rintro e w3 ⟨rfl, hb⟩)
    rw [h1]
    have HX1 := Lib.hid (HX0.out.below hb)
    clear HX0 hb h1
    go_wp2
    go_ret
    rw [HV.out]
    exact HX1.out.1.2.post
  · cases h2 : partOk num den
    · have HV : Hid (suspL xs num den = []) := by show suspL xs num den = _; unfold suspL; rw [h1, h2]; rfl
      go_wp2_with fail
      ((with_reducible refine (LoopsValid _ _ _ _ _ xs _ HX0.out.c1).mono ?_); rintro e w3 ⟨rfl, hb⟩)
      rw [h1]
      have HX1 := Lib.hid (HX0.out.below hb)
      obtain ⟨p0, p1⟩ := HX1.out.cells
      clear HX0 hb h1
      go_wp2_with fail
      ((with_reducible refine (partValid num den _).mono ?_); rintro e w4 ⟨rfl, hb⟩)
      rw [h2]
      have HX2 := Lib.hid (HX1.out.below hb)
      clear HX1 hb h2 p0 p1
      go_wp2
      go_ret
      rw [HV.out]
      exact HX2.out.1.2.post
    · have HV : Hid (suspL xs num den = xs.filter (suspC num den)) := by show suspL xs num den = _; unfold suspL; rw [h1, h2]; rfl
      have HOK := Lib.hid h1
      have HPO := Lib.hid h2
      have HN64 : Hid (n ≤ 64) := by show n ≤ 64; have := ok_len h1; have := HL.out; omega
      go_wp2_with fail
      ((with_reducible refine (LoopsValid _ _ _ _ _ xs _ HX0.out.c1).mono ?_); rintro e w3 ⟨rfl, hb⟩)
      rw [h1]
      have HX1 := Lib.hid (HX0.out.below hb)
      obtain ⟨p0, p1⟩ := HX1.out.cells
      clear HX0 hb h1
      go_wp2_with fail
      ((with_reducible refine (partValid num den _).mono ?_); rintro e w4 ⟨rfl, hb⟩)
      rw [h2]
      have HX2 := Lib.hid (HX1.out.below hb)
      clear HX1 hb h2 p0 p1
      go_wp2
      go_loopw [7, 26] (fun v i wr => ∃ k : Nat, k ≤ n ∧ i = .int .i64 k ∧ Hid (PsRel lo hi (w.heap.size + 1) num den w wr A n c xs v ((xs.take k).filter (suspC num den)))) (fun _ i _ => n - (intOf i).toNat)
      case atStart => exact ⟨0, Nat.zero_le _, rfl, HX2.out⟩
      case round =>
        obtain ⟨k, hk, rfl, hR⟩ := hrel
        clear HX2
        by_cases hlt : k < n
        · have HST := Lib.hid (filter_take (xs := xs) (k := k) (by rw [HL.out]; exact hlt) (suspC num den))
          have HFL := Lib.hid (filter_len (xs := xs) (k := k) (by rw [HL.out]; exact hk) (suspC num den))
          have HSB := Lib.hid (susp_bd (c := cntAt xs k) (ok_ix HOK.out (k := k) (by rw [HL.out]; exact hlt)) HPO.out)
          generalize (xs.take k).filter (suspC num den) = ys at *
          obtain ⟨b, off, rfl, _, _, hbz, c0, c1, c2, c3⟩ := hR.out.c1.at_ hlt
          generalize cntAt xs k = x at *
          have hb1 : Below wr.heap.size wr (wr.alloc (.cells #[.int .i64 x.fr, .int .i64 x.to_, .int .i64 x.se, .int .i64 x.ba] 37)) := (Below.refl _ _).alloc (Nat.le_refl _) _
          have HR1 := Lib.hid (hR.out.below hb1)
          obtain ⟨p0, p1⟩ := HR1.out.cells
          obtain ⟨z0, z1, z2, z3⟩ := four_new wr (.int .i64 x.fr) (.int .i64 x.to_) (.int .i64 x.se) (.int .i64 x.ba) 37
          clear hR hb1
          go_wp2_with fail
          ((with_reducible refine (partSuspects num den x _ HSB.out.1 HSB.out.2).mono ?_); rintro e w5 ⟨rfl, hb⟩)
          have HR2 := Lib.hid (HR1.out.below hb)
          have y0 := Qc.hs_step hb z0
          have y1 := Qc.hs_step hb z1
          have y2 := Qc.hs_step hb z2
          have y3 := Qc.hs_step hb z3
          clear HR1 hb z0 z1 z2 z3 c0 c1 c2 c3 p0 p1 HSB hbz
          cases hsu : suspC num den x
          · rw [hsu] at HST
            simp only [cond_false, List.append_nil] at HST
            clear hsu y0 y1 y2 y3
            go_wp2
            go_roundw
            case rel => exact ⟨k + 1, by omega, by go_num, by show PsRel _ _ _ _ _ _ _ _ _ _ _ _ _; rw [HST.out]; exact HR2.out⟩
            case measure => simp [intOf]; omega
          · rw [hsu] at HST
            simp only [cond_true] at HST
            clear hsu
            generalize wr.heap.size = sz at *
            go_wp2_with (at_builtin; refine wpList_cAppK w _ _ _ HR2.out.1.2 x (by have := HFL.out; have := HN64.out; omega) _ _ rfl rfl rfl rfl ?_; intro v' w6 hN hB hO)
            have HR3 : Hid (PsRel lo hi (w.heap.size + 1) num den w w6 (some ⟨b, off, none⟩) n c xs v' (ys ++ [x])) := ⟨⟨HR2.out.1.1.below' hB HH.out, hN⟩, hO _ _ HR2.out.2 (fun cs fr e => by simp at e)⟩
            clear hN hB hO HR2 y0 y1 y2 y3
            go_wp2
            go_roundw
            case rel => exact ⟨k + 1, by omega, by go_num, by show PsRel _ _ _ _ _ _ _ _ _ _ _ _ _; rw [HST.out]; exact HR3.out⟩
            case measure => simp [intOf]; omega
        · obtain rfl : k = n := by omega
          have HF : Hid ((xs.take k).filter (suspC num den) = xs.filter (suspC num den)) := by show (xs.take k).filter _ = _; rw [List.take_of_length_le (by rw [HL.out]; exact Nat.le_refl _)]
          rw [HF.out] at hR
          clear hlt
          go_wp2
          go_ret
          rw [HV.out]
          exact hR.out.1.2.post

end Im7
end Go.Proofs.Ytbhafchdcofceaa
