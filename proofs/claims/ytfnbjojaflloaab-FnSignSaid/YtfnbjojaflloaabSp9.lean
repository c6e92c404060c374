/-
  Contracts of the model's chapter 21: valid directories, digests, signatures.
-/
import Derived.Test.YtfnbjojaflloaabDp
import Derived.Test.YtfnbjojaflloaabSg
import Derived.Deep.QuietTactic
import Derived.BigQuiet
import Derived.Deep.RegionHeld3
import Derived.Deep.Cut
namespace Go.Proofs.Ytfnbjojaflloaab
open Go.RowKit
namespace Sp9
open Il Sl Ec Dm Gm

theorem below_dr {B d : Nat} {w w' : World} (h : Below B w w') : Below B w (w'.drewN d) := ⟨h.os, h.tape, h.output, h.size, h.block⟩
/-- A directory in a block of its own. -/
def DBox (w : World) (b : Nat) (ep : Int) (A : Option Addr) (n k : Nat) : Prop := w.heap[b]? = some (.cells #[.int .i64 ep, .slice A n k] 40 (0, 0))
theorem DBox.cells {w : World} {b : Nat} {ep : Int} {A : Option Addr} {n k : Nat} (h : DBox w b ep A n k) : w.cell? ⟨b, 0, none⟩ = some (.int .i64 ep) ∧ w.cell? ⟨b, 1, none⟩ = some (.slice A n k) ∧ ∀ j, w.frozen? ⟨b, j, none⟩ = false := by
  refine ⟨?_, ?_, fun j => by unfold DBox at h; simp [World.frozen?, h]⟩
  all_goals rw [cell_of_row _ _ _ _ _ _ h]; rfl
theorem DBox.lt {w : World} {b : Nat} {ep : Int} {A : Option Addr} {n k : Nat} (h : DBox w b ep A n k) : b < w.heap.size := (Array.getElem?_eq_some_iff.1 h).1
theorem DBox.below {B : Nat} {w w' : World} {b : Nat} {ep : Int} {A : Option Addr} {n k : Nat} (h : DBox w b ep A n k) (hb : Below B w w') (hB : w.heap.size ≤ B) : DBox w' b ep A n k := (hb.block b (by have := h.lt; omega)).trans h
/-- .. its entries, and what else stands as it was. -/
def DRel (b lo hi : Nat) (w wr : World) (A : Option Addr) (n k : Nat) (ep : Int) (es : List En) : Prop := DBox wr b ep A n k ∧ Ens lo hi wr A n k es ∧ Below w.heap.size w wr
section
variable {b lo hi : Nat} {w wr w2 : World} {A : Option Addr} {n k : Nat} {ep : Int} {es : List En}
theorem DRel.ens (h : DRel b lo hi w wr A n k ep es) : Ens lo hi wr A n k es := h.2.1
theorem DRel.box (h : DRel b lo hi w wr A n k ep es) : DBox wr b ep A n k := h.1
theorem DRel.bel (h : DRel b lo hi w wr A n k ep es) : Below w.heap.size w wr := h.2.2
theorem DRel.dr (h : DRel b lo hi w wr A n k ep es) (d : Nat) : DRel b lo hi w (wr.drewN d) A n k ep es := ⟨h.1, h.2.1, below_dr h.2.2⟩
theorem DRel.below (h : DRel b lo hi w wr A n k ep es) (hb : Below wr.heap.size wr w2) : DRel b lo hi w w2 A n k ep es :=
  ⟨h.1.below hb (Nat.le_refl _), h.2.1.below hb (Nat.le_refl _), h.2.2.trans (hb.mono h.2.2.size)⟩
theorem DRel.alloc (h : DRel b lo hi w wr A n k ep es) (o : Obj) : DRel b lo hi w (wr.alloc o) A n k ep es := h.below ((Below.refl _ _).alloc (Nat.le_refl _) o)
end
theorem drel_new {lo hi : Nat} {w : World} {A : Option Addr} {n k : Nat} {es : List En} (hx : Ens lo hi w A n k es) (ep : Int) : DRel w.heap.size lo hi w (w.alloc (.cells #[.int .i64 ep, .slice A n k] 40)) A n k ep es := by
  have h0 : Below w.heap.size w (w.alloc (.cells #[.int .i64 ep, .slice A n k] 40)) := (Below.refl _ _).alloc (Nat.le_refl _) _
  exact ⟨heap_alloc_new _ _, hx.below h0 (Nat.le_refl _), h0⟩
theorem three_new (w : World) (v0 v1 v2 : Value) (t : TypeId) : (w.alloc (.cells #[v0, v1, v2] t)).cell? ⟨w.heap.size, 0, none⟩ = some v0 ∧ (w.alloc (.cells #[v0, v1, v2] t)).cell? ⟨w.heap.size, 1, none⟩ = some v1 ∧ (w.alloc (.cells #[v0, v1, v2] t)).cell? ⟨w.heap.size, 2, none⟩ = some v2 := by
  have hh : (w.alloc (.cells #[v0, v1, v2] t)).heap[w.heap.size]? = some (.cells #[v0, v1, v2] t (0, 0)) := heap_alloc_new _ _
  refine ⟨?_, ?_, ?_⟩
  all_goals rw [cell_of_row _ _ _ _ _ _ hh]; rfl
theorem l6N (x : Int) (w : World) : Calls Try.prog 60 #[.int .i64 x, .int .i64 0, .int .i64 7] w fun e w' => e = .returned (.bool (inN x)) ∧ w = w' := Sg.l6In x 0 7 w
theorem l6W (x : Int) (w : World) : Calls Try.prog 60 #[.int .i64 x, .int .i64 0, .int .i64 9] w fun e w' => e = .returned (.bool (wtB x)) ∧ w = w' := Sg.l6In x 0 9 w
theorem l6E (x : Int) (w : World) : Calls Try.prog 60 #[.int .i64 x, .int .i64 0, .int .i64 99] w fun e w' => e = .returned (.bool (epB x)) ∧ w = w' := Sg.l6In x 0 99 w
theorem l6S (x : Int) (w : World) : Calls Try.prog 60 #[.int .i64 x, .int .i64 0, .int .i64 996] w fun e w' => e = .returned (.bool (sigB x)) ∧ w = w' := Sg.l6In x 0 996 w
theorem l6D (x : Int) (w : World) : Calls Try.prog 60 #[.int .i64 x, .int .i64 0, .int .i64 999999] w fun e w' => e = .returned (.bool (seedB x)) ∧ w = w' := Sg.l6In x 0 999999 w
theorem l6H (x : Int) (w : World) : Calls Try.prog 60 #[.int .i64 x, .int .i64 1, .int .i64 3] w fun e w' => e = .returned (.bool (hopB x)) ∧ w = w' := Sg.l6In x 1 3 w
set_option maxRecDepth 20000 in
set_option maxHeartbeats 2000000 in
theorem DirectoryValid (ep : Int) (es : List En) (A : Option Addr) (n k lo hi : Nat) (w : World) (hx : Ens lo hi w A n k es) :
    Calls Try.prog 50 #[.agg #[.int .i64 ep, .slice A n k]] w (BoolB (dirOk ep es) w) := by
  have hk1 := hx.max_
  have hk2 := hx.cap_
  have HL := Lib.hid hx.len_
  have HR0 := Lib.hid (drel_new hx ep)
  clear hx
  go_enter Try.func50, Try.ntmps50
  go_wp2
  go_loopw [3] (fun i wr => ∃ j : Nat, j ≤ n ∧ i = .int .i64 j ∧ Hid (∀ i, i < j → stepOk es i = true) ∧ Hid (DRel w.heap.size lo hi w wr A n k ep es)) (fun i _ => n - (intOf i).toNat)
  case atStart => exact ⟨0, Nat.zero_le _, rfl, fun i hi => absurd hi (by omega), HR0.out⟩
  case round =>
    obtain ⟨j, hj, rfl, hT, hR⟩ := hrel
    clear HR0
    obtain ⟨z0, z1, zf⟩ := hR.out.box.cells
    by_cases hlt : j < n
    · obtain ⟨b, off, rfl, _, _, hbz, c0, c1, c2⟩ := hR.out.ens.at_ hlt
      have HSA : Hid (stepOk es j = (okE (enAt es j) && (j == 0 || decide ((enAt es (j - 1)).nm < (enAt es j).nm)))) := rfl
      have HRB := Lib.hid (hR.out.alloc (.cells #[.int .i64 (enAt es j).nm, .int .i64 (enAt es j).pu, .int .i64 (enAt es j).wt] 71))
      have HNO : Hid (stepOk es j = false → dirOk ep es = false) := fun h => by
        show dirOk ep es = false
        unfold dirOk
        rw [esOk_no (by rw [HL.out]; exact hlt) h]; rfl
      have HYES : Hid (stepOk es j = true → ∀ i, i < j + 1 → stepOk es i = true) := fun h => step_succ hT.out h
      have HR2 := Lib.hid hR.out
      clear hT hR
      generalize enAt es j = x at *
      have q0 : okE x = (inN x.nm && (inG x.pu && wtB x.wt)) := rfl
      cases h1 : inN x.nm
      · have HV := Lib.hid (HNO.out (by rw [HSA.out, q0, h1]; rfl))
        clear HNO HYES HSA q0
        go_wp2
        go_quiet ((first | (go_at_call 60; first | with_reducible exact quiet_eq (l6N x.nm _) | with_reducible exact quiet_eq (l6W x.wt _)) | (go_at_call 34; with_reducible exact quiet_eq (Sg.l1Is x.pu _))))
        go_wp2
        go_ret
        rw [HV.out]
        exact ⟨rfl, below_dr HRB.out.bel⟩
      · have _hh1 := trivial
        cases h2 : inG x.pu
        · have HV := Lib.hid (HNO.out (by rw [HSA.out, q0, h1, h2]; rfl))
          clear HNO HYES HSA q0
          go_wp2
          go_quiet ((first | (go_at_call 60; first | with_reducible exact quiet_eq (l6N x.nm _) | with_reducible exact quiet_eq (l6W x.wt _)) | (go_at_call 34; with_reducible exact quiet_eq (Sg.l1Is x.pu _))))
          go_wp2
          go_ret
          rw [HV.out]
          exact ⟨rfl, below_dr HRB.out.bel⟩
        · have _hh2 := trivial
          cases h3 : wtB x.wt
          · have HV := Lib.hid (HNO.out (by rw [HSA.out, q0, h1, h2, h3]; rfl))
            clear HNO HYES HSA q0
            go_wp2
            go_quiet ((first | (go_at_call 60; first | with_reducible exact quiet_eq (l6N x.nm _) | with_reducible exact quiet_eq (l6W x.wt _)) | (go_at_call 34; with_reducible exact quiet_eq (Sg.l1Is x.pu _))))
            go_wp2
            go_ret
            rw [HV.out]
            exact ⟨rfl, below_dr HRB.out.bel⟩
          · have _hh3 := trivial
            have q1 : okE x = true := by rw [q0, h1, h2, h3]; rfl
            rcases Nat.eq_zero_or_pos j with hj0 | hjp
            · have HN := Lib.hid (HYES.out (by rw [HSA.out, q1, hj0]; rfl))
              have e0 : decide (0 < j) = false := by simp; omega
              clear HNO HYES HSA q0 q1 hj0
              go_wp2
              go_quiet ((first | (go_at_call 60; first | with_reducible exact quiet_eq (l6N x.nm _) | with_reducible exact quiet_eq (l6W x.wt _)) | (go_at_call 34; with_reducible exact quiet_eq (Sg.l1Is x.pu _))))
              go_wp2
              go_roundw
              case rel => exact ⟨j + 1, by omega, by go_num, HN.out, HRB.out.dr _⟩
              case measure => simp [intOf]; omega
            · obtain ⟨i, hi'⟩ : ∃ i, j = i + 1 := ⟨j - 1, by omega⟩
              have e0 : decide (0 < j) = true := by simp; omega
              have e2 : IntKind.i64.wrap ((j : Int) - 1) = (i : Int) := by rw [IntWalk.i64_in _ (by omega)]; omega
              obtain ⟨b2, off2, eb, _, _, _, y0, y1, y2⟩ := HR2.out.ens.at_ (k := i) (by omega)
              simp only [Option.some.injEq, Addr.mk.injEq, and_true] at eb
              obtain ⟨rfl, rfl⟩ := eb
              have HKJ : Hid (j - 1 = i) := by show j - 1 = i; omega
              have HKB : Hid ((j == 0) = false) := by show (j == 0) = false; simp; omega
              have HSB : Hid (stepOk es j = decide ((enAt es i).nm < x.nm)) := by show stepOk es j = _; rw [HSA.out, q1, HKJ.out, HKB.out]; rfl
              have hwb := HR2.out.box.lt
              clear HSA q0 q1 HR2
              generalize enAt es i = y at *
              have hin : i < n := by omega
              clear hi' hjp
              go_wp2
              obtain ⟨t0, t1, t2⟩ := three_new wr (.int .i64 x.nm) (.int .i64 x.pu) (.int .i64 x.wt) 71
              have y0' := (World.cell?_of_block (Below.heap_alloc wr (.cells #[.int .i64 x.nm, .int .i64 x.pu, .int .i64 x.wt] 71) b hbz)).trans y0
              have z1' := (World.cell?_of_block (Below.heap_alloc wr (.cells #[.int .i64 x.nm, .int .i64 x.pu, .int .i64 x.wt] 71) w.heap.size hwb)).trans z1
              clear c0 c1 c2 y0 y1 y2 z0 z1 zf
              generalize hsz : wr.heap.size = sz at *
              generalize (wr.alloc (.cells #[.int .i64 x.nm, .int .i64 x.pu, .int .i64 x.wt] 71)) = w2 at *
              clear hsz hbz hwb
              by_cases hle : y.nm < x.nm
              · have HN := Lib.hid (HYES.out (by rw [HSB.out, decide_eq_true hle]))
                have d1 : decide (x.nm ≤ y.nm) = false := by simp; omega
                clear HNO HYES HSB hle
                go_quiet ((first | (go_at_call 60; first | with_reducible exact quiet_eq (l6N x.nm _) | with_reducible exact quiet_eq (l6W x.wt _)) | (go_at_call 34; with_reducible exact quiet_eq (Sg.l1Is x.pu _))))
                go_wp2
                go_roundw
                case rel => exact ⟨j + 1, by omega, by go_num, HN.out, HRB.out.dr _⟩
                case measure => simp [intOf]; omega
              · have HV := Lib.hid (HNO.out (by rw [HSB.out, decide_eq_false hle]))
                have d1 : decide (x.nm ≤ y.nm) = true := by simp; omega
                clear HNO HYES HSB hle
                go_quiet ((first | (go_at_call 60; first | with_reducible exact quiet_eq (l6N x.nm _) | with_reducible exact quiet_eq (l6W x.wt _)) | (go_at_call 34; with_reducible exact quiet_eq (Sg.l1Is x.pu _))))
                go_wp2
                go_ret
                rw [HV.out]
                exact ⟨rfl, below_dr HRB.out.bel⟩
    · obtain rfl : j = n := by omega
      have HS := Lib.hid (esOk_iff.2 (by rw [HL.out]; exact hT.out))
      have HB := Lib.hid hR.out.bel
      clear hT hlt hR
      cases he : epB ep
      · have HV : Hid (dirOk ep es = false) := by show dirOk ep es = false; unfold dirOk; rw [HS.out, he]; rfl
        go_wp2_with fail
        ((with_reducible refine (l6E ep _).mono ?_); rintro e w1 ⟨rfl, rfl⟩)
        rw [he]
        go_wp2
        go_ret
        rw [HV.out]
        exact ⟨rfl, HB.out⟩
      · by_cases h6 : j ≤ 6
        · have HV : Hid (dirOk ep es = true) := by show dirOk ep es = true; unfold dirOk; rw [HS.out, he, HL.out, decide_eq_true h6]; rfl
          have d6 : decide ((j : Int) ≤ 6) = true := by simp; omega
          go_wp2_with fail
          ((with_reducible refine (l6E ep _).mono ?_); rintro e w1 ⟨rfl, rfl⟩)
          rw [he]
          go_wp2
          go_ret
          rw [HV.out]
          exact ⟨rfl, HB.out⟩
        · have HV : Hid (dirOk ep es = false) := by show dirOk ep es = false; unfold dirOk; rw [HS.out, he, HL.out, decide_eq_false h6]; rfl
          have d6 : decide ((j : Int) ≤ 6) = false := by simp; omega
          go_wp2_with fail
          ((with_reducible refine (l6E ep _).mono ?_); rintro e w1 ⟨rfl, rfl⟩)
          rw [he]
          go_wp2
          go_ret
          rw [HV.out]
          exact ⟨rfl, HB.out⟩

end Sp9
end Go.Proofs.Ytfnbjojaflloaab
