/-
  Draws of chapter 12: the path of a loop.
-/
import Derived.Test.YtbhafchdcofceaaRda
import Derived.Test.YtbhafchdcofceaaSp7e
import Derived.Test.YtbhafchdcofceaaHc
import Derived.Test.YtbhafchdcofceaaOpc
import Derived.Deep.RegionLaw
import Derived.Deep.Cut
namespace Go.Proofs.Ytbhafchdcofceaa
open Go.RowKit
namespace Rd
open Il Sl Lc

theorem accR_one {row : Option Nat} {w0 w1 : World} (h : w0.grownBy w1 row) (x : Int) : AccR row w0 (w1.alloc (.cells #[.int .i64 x] 3)) (.slice (some ⟨w1.heap.size, 0, none⟩) 1 1) [x] :=
  ⟨⟨rfl, .inr ⟨w1.heap.size, 1, #[.int .i64 x], rfl, h.size, heap_alloc_new w1 _, Nat.le_refl _, by unfold maxLen; omega, rfl, rfl⟩⟩, grown_alloc h _⟩
/-- A path is drawn. -/
def PathPost (rb N : Nat) (w : World) (e : Ending) (w' : World) : Prop :=
  ∃ A c p, e = .returned (.slice A p.length c) ∧ p.length ≤ 5 ∧ (∀ x ∈ p, -1 ≤ x ∧ x ≤ 8) ∧ Ints w.heap.size w'.heap.size w' A p.length c p ∧ Reader w' rb N ∧ w.grownBy w' (some rb)
/-- What has been gathered of a path. -/
def PaRel (rb N : Nat) (w wr : World) (v : Value) (p : List Int) : Prop := (∀ x ∈ p, 0 ≤ x ∧ x ≤ 3) ∧ AccR (some rb) w wr v p ∧ Reader wr rb N
theorem path_post {rb N : Nat} {w wr : World} {v : Value} {p : List Int} (hl : p.length ≤ 5) (hb : ∀ x ∈ p, -1 ≤ x ∧ x ≤ 8) (ha : AccR (some rb) w wr v p) (hr : Reader wr rb N) : PathPost rb N w (.returned v) wr := by
  obtain ⟨A, c, rfl, ho⟩ := own_of ha.1
  exact ⟨A, c, p, rfl, hl, hb, ho.ints, hr, ha.2⟩
theorem four_bd {o v : Int} (h1 : 0 ≤ o ∧ o ≤ 3) (h2 : 0 ≤ v ∧ v < 3) : 0 ≤ (o + 1 + v).tmod 4 ∧ (o + 1 + v).tmod 4 ≤ 3 := by
  rw [Int.tmod_eq_emod_of_nonneg (by omega)]
  omega
set_option maxRecDepth 20000 in
set_option maxHeartbeats 1000000 in
theorem l91LoopPath (rb N : Nat) (w : World) (hr : Reader w rb N) (hN : N ≤ 80000) :
    Calls Try.prog 27 #[.pointer (some ⟨rb, 0, none⟩)] w (PathPost rb (N + 7) w) := by
  have HR := Lib.hid hr
  have hlt := hr.lt
  clear hr
  go_enter Try.func27, Try.ntmps27
  go_wp2_with fail
  ((with_reducible refine (pick rb N 4 _ HR.out (by omega) (by omega) (by omega)).mono ?_); rintro e w1 ⟨v1, rfl, hv0, hv1, r1, g1, s1⟩)
  clear s1
  have HA1 := Lib.hid (accR_one g1 v1)
  have R1 := Lib.hid (r1.alloc (.cells #[.int .i64 v1] 3))
  clear r1 g1 HR
  go_wp2_with fail
  ((with_reducible refine (pick rb (N + 1) 3 _ R1.out (by omega) (by omega) (by omega)).mono ?_); rintro e w2 ⟨v2, rfl, hu0, hu1, r2, g2, s2⟩)
  have HG : Hid (PaRel rb (N + 2) w w2 (.slice (some ⟨w1.heap.size, 0, none⟩) 1 1) [v1]) := ⟨fun x hx => by simp at hx; omega, HA1.out.step g2 (by simp; omega), r2⟩
  clear r2 g2 s2 HA1 R1
  obtain ⟨q, rfl⟩ := Int.eq_ofNat_of_zero_le hu0
  have hq : q ≤ 2 := by omega
  clear hu0 hu1
  go_wp2
  go_loopw [3, 5] (fun v i wr => ∃ k p, k ≤ 1 + q ∧ i = .int .i64 (k : Nat) ∧ Hid (PaRel rb (N + 2 + k) w wr v p ∧ p.length = k + 1)) (fun _ i _ => 1 + q - (intOf i).toNat)
  case atStart => exact ⟨0, [v1], by omega, rfl, HG.out, rfl⟩
  case round =>
    obtain ⟨k, p, hk, rfl, hT⟩ := hrel
    clear HG
    by_cases hlk : k < 1 + q
    · have hk1 : decide ((k : Int) < 1 + (q : Int)) = true := by simp; omega
      obtain ⟨A, c, rfl, ho⟩ := own_of hT.out.1.2.1.1
      obtain ⟨b, off, rfl, hb1, hb2, cx⟩ := ho.ints.at_ (k := k) (by have := hT.out.2; omega)
      have hpb := hT.out.1.1 (p.getD k 0) (by
        rw [List.getD_eq_getElem?_getD, List.getElem?_eq_getElem (by have := hT.out.2; omega)]
        exact List.getElem_mem _)
      have HPL := Lib.hid hT.out.2
      have HPM := Lib.hid hT.out.1.1
      have hp10 : p.length ≤ 10 := by have := hT.out.2; omega
      have hpl : k < p.length := by have := hT.out.2; omega
      have hcp := ho.1.2.1
      have hcm := ho.1.2.2.1
      unfold maxLen at hcm
      have HA0 := Lib.hid hT.out.1.2.1
      have HRD := Lib.hid hT.out.1.2.2
      generalize p.getD k 0 = o at *
      have e1 : IntKind.i64.wrap (o + 1) = o + 1 := IntWalk.i64_in _ (by omega)
      clear ho hT
      have HAD : Hid (AccR (some rb) w wr.drew (.slice (some ⟨b, off, none⟩) p.length c) p) := HA0.out.drew
      have HRDD : Hid (Reader wr.drew rb (N + 2 + k)) := HRD.out
      go_upto_region 6 with (fail)
      go_region_law (first
        | (refine step_app1 w _ _ p _ HA4.out (by omega) (.tmp 17) (.tmp 27) rfl rfl (by go_simp) (by go_simp) ?_; intro v5 w5 hN5 hB5)
        | (go_simp; go_at_call 28; refine (pick rb (N + 2 + k) 3 _ HRDD.out (by omega) (by decide) (by decide)).mono ?_; rintro e w4 ⟨v4, rfl, hy0, hy1, r4, g4, s4⟩; clear s4
           have HA4 := Lib.hid (HAD.out.step g4 (by simp; omega))
           have cx4 := (World.cell?_of_block (g4.block b hb2 (by simp; omega))).trans cx
           have e2 : IntKind.i64.wrap (o + 1 + v4) = o + 1 + v4 := IntWalk.i64_in _ (by omega)))
      all_goals
        have HR5 : Hid (PaRel rb (N + 2 + (k + 1)) w w5 v5 (p ++ [(o + 1 + v4).tmod 4]) ∧ (p ++ [(o + 1 + v4).tmod 4]).length = k + 1 + 1) := by
          refine ⟨⟨fun x hx => ?_, hN5, r4.below hB5 hlt⟩, by rw [List.length_append, HPL.out]; rfl⟩
          rw [List.mem_append, List.mem_singleton] at hx
          rcases hx with hx | rfl
          · exact HPM.out x hx
          · exact four_bd hpb ⟨hy0, hy1⟩
        clear HA4 HAD HRDD HRD HA0 hN5 hB5 r4 g4 cx4 cx hb1 hb2
        go_wp2
        go_roundw
        case rel => exact ⟨k + 1, _, by omega, by go_num, HR5⟩
        case measure => simp [intOf]; omega
    · obtain rfl : k = 1 + q := by omega
      have HPL := Lib.hid hT.out.2
      have HPB : Hid (∀ x ∈ p, -1 ≤ x ∧ x ≤ 8) := fun x hx => by have := hT.out.1.1 x hx; omega
      obtain ⟨hpm, hac, hrd⟩ := hT.out.1
      have HAC := Lib.hid hac
      have HRD := Lib.hid hrd
      have hk1 : decide (((1 + q : Nat) : Int) < 1 + (q : Int)) = false := by simp
      clear hpm hac hrd hT hlk
      go_wp2_with fail
      ((with_reducible refine (pick rb _ 24 _ HRD.out (by omega) (by omega) (by omega)).mono ?_); rintro e w3 ⟨v3, rfl, hx0, hx1, r3, g3, s3⟩)
      clear s3
      have HA3 := Lib.hid (HAC.out.step g3 (by simp; omega))
      have HR3 := Lib.hid r3
      clear r3 g3 HAC HRD
      by_cases hz : v3 = 0
      · subst hz
        obtain ⟨A, c, rfl, ho⟩ := own_of HA3.out.1
        have hc1 : 1 ≤ c := by have := ho.1.2.1; have := HPL.out; omega
        have hI : PathPost rb (N + 7) w (.returned (.slice A 1 c)) w3 := by
          refine ⟨A, c, [p.getD 0 0], rfl, by simp, fun x hx => ?_, ⟨rfl, hc1, ho.1.2.2.1, fun _ => ?_⟩, HR3.out.mono (by omega), HA3.out.2⟩
          · rw [List.mem_singleton] at hx
            subst hx
            rw [List.getD_eq_getElem?_getD, List.getElem?_eq_getElem (by have := HPL.out; omega)]
            exact HPB.out _ (List.getElem_mem _)
          · obtain ⟨b, off, e, h1, h2, h3, h4⟩ := ho.1.2.2.2 (by have := HPL.out; omega)
            refine ⟨b, off, e, h1, h2, h3, fun j hj => ?_⟩
            obtain rfl : j = 0 := Nat.lt_one_iff.1 hj
            exact h4 0 (by have := HPL.out; omega)
        have HI := Lib.hid hI
        obtain ⟨b, off, rfl, _, _, cx⟩ := ho.ints.at_ (k := 0) (by have := HPL.out; omega)
        clear hI ho cx HA3
        go_wp2
        go_ret
        exact HI.out
      · have hz' : (v3 == 0) = false := by simpa using hz
        by_cases hz1 : v3 = 1
        · subst hz1
          clear hz'
          go_wp2_with fail
          ((with_reducible refine (pick rb _ 10 _ HR3.out (by omega) (by omega) (by omega)).mono ?_); rintro e w4 ⟨v4, rfl, hy0, hy1, r4, g4, s4⟩)
          clear s4
          have HA4 := Lib.hid (HA3.out.step g4 (by simp; omega))
          have HR4 := Lib.hid r4
          have hw4 : IntKind.i64.wrap (v4 - 1) = v4 - 1 := IntWalk.i64_in _ (by omega)
          clear r4 g4 HA3 HR3
          go_wp2_with (at_builtin; refine wpList_app1 w _ _ _ _ HA4.out (by rw [HPL.out]; omega) _ _ rfl rfl rfl rfl ?_; intro v5 w5 hN5 hB5)
          have HP5 : Hid (PathPost rb (N + 7) w (.returned v5) w5) := path_post (p := p ++ [v4 - 1]) (by rw [List.length_append, HPL.out]; simp; omega) (fun x hx => by
            rw [List.mem_append, List.mem_singleton] at hx
            rcases hx with hx | rfl
            · exact HPB.out x hx
            · omega) hN5 ((HR4.out.below hB5 hlt).mono (by omega))
          clear hN5 hB5
          go_wp2
          go_ret
          exact HP5.out
        · have hz1' : (v3 == 1) = false := by simpa using hz1
          go_wp2
          go_ret
          exact path_post (by have := HPL.out; omega) HPB.out HA3.out (HR3.out.mono (by omega))

/-! ### the counts -/
theorem addB_ok {xs : List Cnt} {p : List Int} {b : Bool} (h : addB xs p b = true) : addR xs p b = addL xs p b ∧ loopsOk (addL xs p b) = true := by
  unfold addB at h
  rw [Bool.and_eq_true, Bool.and_eq_true] at h
  unfold addR
  rw [h.1, h.2.1, h.2.2]
  exact ⟨rfl, rfl⟩
/-- All four numbers of each are small. -/
def Tiny (xs : List Cnt) : Prop := ∀ c ∈ xs, (0 ≤ c.fr ∧ c.fr ≤ 10) ∧ (0 ≤ c.to_ ∧ c.to_ ≤ 10) ∧ (0 ≤ c.se ∧ c.se ≤ 100) ∧ 0 ≤ c.ba ∧ c.ba ≤ 100
theorem tiny_ok {xs : List Cnt} (h : loopsOk xs = true) : Tiny xs := fun c hc => by
  have := okC_iff.1 (ok_at h hc)
  omega
theorem tiny_set {xs : List Cnt} {k : Nat} {y : Cnt} (h : Tiny xs) (hy : (0 ≤ y.fr ∧ y.fr ≤ 10) ∧ (0 ≤ y.to_ ∧ y.to_ ≤ 10) ∧ (0 ≤ y.se ∧ y.se ≤ 100) ∧ 0 ≤ y.ba ∧ y.ba ≤ 100) : Tiny (xs.set k y) := fun c hc => by
  rcases List.mem_or_eq_of_mem_set hc with h1 | rfl
  · exact h c h1
  · exact hy
theorem flat_set1 {j : Nat} {v : Value} (y : Cnt) (hj : j < 4) : ∀ (xs : List Cnt) (k : Nat), k < xs.length → y.cells = (cntAt xs k).cells.set j v → (xs.flatMap Cnt.cells).set (k * 4 + j) v = (xs.set k y).flatMap Cnt.cells
  | [], k, hk, _ => by simp at hk
  | x :: xs, 0, _, h => by
    have h' : y.cells = x.cells.set j v := h
    rw [List.set_cons_zero, List.flatMap_cons, List.flatMap_cons, h', List.set_append_left (h := by rw [cells_len]; omega)]
    simp
  | x :: xs, k + 1, hk, h => by
    have h' : y.cells = (cntAt xs k).cells.set j v := h
    have hk' : k < xs.length := by simpa using hk
    rw [List.set_cons_succ, List.flatMap_cons, List.flatMap_cons, ← flat_set1 y hj xs k hk' h', List.set_append_right (h := by rw [cells_len]; omega), cells_len,
      show (k + 1) * 4 + j - 4 = k * 4 + j from by omega]
theorem set1 {lo hi b off n c k j : Nat} {w : World} {xs : List Cnt} {v : Value} (h : CntsO lo hi w (some ⟨b, off, none⟩) n c xs) (hk : k < n) (y : Cnt) (hj : j < 4) (hy : y.cells = (cntAt xs k).cells.set j v) :
    CntsO lo hi (w.setCell ⟨b, off + (k * 4 + j), none⟩ v) (some ⟨b, off, none⟩) n c (xs.set k y) := by
  have hl := h.cnts.len_
  unfold CntsO
  rw [← flat_set1 y hj xs k (by omega) hy]
  exact Hc.rowO_set h (by omega) v
theorem grown_set (w : World) (p : Addr) (v : Value) : w.grownBy (w.setCell p v) (some p.block) :=
  ⟨rfl, rfl, rfl, by simp [World.setCell], fun i _ hne => Below.heap_setCell w p v i (fun e => hne (by rw [e]))⟩
/-- Counts are drawn. -/
def LoopsPost (rb N : Nat) (w : World) (e : Ending) (w' : World) : Prop :=
  ∃ A c xs, e = .returned (.slice A xs.length c) ∧ Tiny xs ∧ xs.length ≤ 64 ∧ CntsO w.heap.size w'.heap.size w' A xs.length c xs ∧ Reader w' rb N ∧ w.grownBy w' (some rb)
def LoRel (rb N : Nat) (w wr : World) (v : Value) (xs : List Cnt) : Prop :=
  ∃ A c, v = .slice A xs.length c ∧ loopsOk xs = true ∧ CntsO w.heap.size wr.heap.size wr A xs.length c xs ∧ Reader wr rb N ∧ w.grownBy wr (some rb)
theorem loops_set {rb N M : Nat} {w w' : World} {b off c k j : Nat} {xs : List Cnt} {v : Value} {y : Cnt} (h : CntsO w.heap.size w'.heap.size w' (some ⟨b, off, none⟩) xs.length c xs) (hk : k < xs.length) (hj : j < 4) (hy : y.cells = (cntAt xs k).cells.set j v)
    (ht : Tiny (xs.set k y)) (hl : xs.length ≤ 64) (hr : Reader w' rb M) (hg : w.grownBy w' (some rb)) (hlt : rb < w.heap.size) (hb : w.heap.size ≤ b) (hM : M ≤ N) : LoopsPost rb N w (.returned (.slice (some ⟨b, off, none⟩) xs.length c)) (w'.setCell ⟨b, off + k * 4 + j, none⟩ v) := by
  have hs := set1 h hk y hj hy
  rw [← Nat.add_assoc] at hs
  refine ⟨some ⟨b, off, none⟩, c, xs.set k y, by rw [List.length_set], ht, by rw [List.length_set]; exact hl, ?_, ?_, ?_⟩
  · rw [List.length_set]
    exact hs.mono (Nat.le_refl _) (Nat.le_of_eq (by simp [World.setCell]))
  · exact (hr.keep fun i hi => Below.heap_setCell _ _ _ _ (show i ≠ b by omega)).mono hM
  · exact grown_trans' hg (grown_set _ _ _) (fun g e => by cases e; exact hb)
set_option maxRecDepth 20000 in
set_option maxHeartbeats 1000000 in
theorem l91Loops (rb N : Nat) (w : World) (hr : Reader w rb N) (hN : N ≤ 70000) :
    Calls Try.prog 26 #[.pointer (some ⟨rb, 0, none⟩)] w (LoopsPost rb (N + 120) w) := by
  have HR := Lib.hid (hr.alloc (.cells #[] 37))
  have hlt := hr.lt
  have HG0 := Lib.hid (grown_alloc (World.grownBy.refl (row := some rb) w) (.cells #[] 37))
  clear hr
  go_enter Try.func26, Try.ntmps26
  go_wp2_with fail
  ((with_reducible refine (pick rb N 12 _ HR.out (by omega) (by omega) (by omega)).mono ?_); rintro e w1 ⟨v1, rfl, hv0, hv1, r1, g1, s1⟩)
  clear s1
  have HG : Hid (LoRel rb (N + 1) w w1 (.slice (some ⟨w.heap.size, 0, none⟩) 0 0) []) := ⟨_, _, rfl, rfl, CntsO.nil_ (Nat.zero_le _), r1, grown_trans HG0.out g1⟩
  clear r1 g1 HR HG0
  obtain ⟨q, rfl⟩ := Int.eq_ofNat_of_zero_le hv0
  have hq : q ≤ 11 := by omega
  clear hv0 hv1
  go_wp2
  go_loopw [3, 5] (fun v i wr => ∃ k xs, k ≤ q ∧ i = .int .i64 (k : Nat) ∧ Hid (LoRel rb (N + 1 + 8 * k) w wr v xs)) (fun _ i _ => q - (intOf i).toNat)
  case atStart => exact ⟨0, [], by omega, rfl, HG⟩
  case round =>
    obtain ⟨k, xs, hk, rfl, hT⟩ := hrel
    clear HG
    obtain ⟨A, c, rfl, hok, hxs, hrd, hgr⟩ := hT.out
    have HOK := Lib.hid hok
    have HXS := Lib.hid hxs
    have HRD := Lib.hid hrd
    have HGR := Lib.hid hgr
    clear hok hxs hrd hgr hT
    by_cases hlk : k < q
    · have hk1 : decide ((k : Int) < (q : Int)) = true := by simp; omega
      go_wp2_with fail
      ((with_reducible refine (l91LoopPath rb _ _ HRD.out (by omega)).mono ?_); rintro e w2 ⟨P, pc, p, rfl, hpl, hpb, hpi, r2, g2⟩)
      have HX2 := Lib.hid ((HXS.out.grown g2 (fun b hb => by cases hb; omega)))
      have HG2 := Lib.hid (grown_trans HGR.out g2)
      have HR2 := Lib.hid r2
      have HP2 := Lib.hid hpi
      have HS2 := Lib.hid g2.size
      clear hpb hpi r2 g2 HXS
      go_wp2_with fail
      ((with_reducible refine (pick rb _ 3 _ HR2.out (by omega) (by omega) (by omega)).mono ?_); rintro e w3 ⟨v3, rfl, hx0, hx1, r3, g3, s3⟩)
      clear s3
      have HX3 := Lib.hid ((HX2.out.grown g3 (fun b hb => by cases hb; omega)))
      have HG3 := Lib.hid (grown_trans HG2.out g3)
      have HP3 := Lib.hid (HP2.out.grown g3 (fun b hb => by cases hb; have := HGR.out.size; omega))
      have HR3 := Lib.hid r3
      have HH3 := Lib.hid g3.size
      have HH2 := Lib.hid (Nat.le_trans g3.size (Nat.le_refl _))
      clear r3 g3 HX2 HG2 HR2 HP2 HGR
      generalize hbk : decide (0 < v3) = bk
      have HX3' : Hid (Cnts w.heap.size w3.heap.size w3 A xs.length c xs) := (HX3.out.mono (Nat.le_refl _) (by have := HH3.out; have := HS2.out; omega)).cnts
      go_wp2_with fail
      ((with_reducible refine (Sp7.LoopAdd _ _ _ _ _ _ _ _ _ _ xs p bk _ HX3'.out HP3.out (Nat.le_refl _) HH3.out).mono ?_); rintro e w4 ⟨A4, c4, rfl, ho4, hb4⟩)
      have HR4 : Hid (Reader w4 rb (N + 1 + 8 * (k + 1))) := Lib.hid ((HR3.out.below hb4 HR3.out.lt).mono (by omega))
      have HG4 := Lib.hid (grown_trans HG3.out (grown_of_below (row := some rb) hb4))
      have HX4 := Lib.hid (CntsO.mono (HX3.out.below hb4 (Nat.le_refl _)) (Nat.le_refl _) (show _ ≤ w4.heap.size by have := HH3.out; have := HS2.out; have := hb4.size; omega))
      have HO4 := Lib.hid (ho4.mono (show w.heap.size ≤ w3.heap.size by have := HG3.out.size; omega) (Nat.le_refl _))
      clear ho4 hb4 HX3' HX3 HG3 HR3 HH3 HH2 hx0 hx1
      cases hB : addB xs p bk
      · have HN : Hid (LoRel rb (N + 1 + 8 * (k + 1)) w w4 (.slice A xs.length c) xs) := ⟨_, _, rfl, HOK.out, HX4.out, HR4.out, HG4.out⟩
        clear HX4 HR4 HG4 HO4 hB
        go_wp2
        go_roundw
        case rel => exact ⟨k + 1, xs, by omega, by go_num, HN⟩
        case measure => simp [intOf]; omega
      · have hA := addB_ok hB
        rw [hA.1] at HO4 ⊢
        have HN : Hid (LoRel rb (N + 1 + 8 * (k + 1)) w w4 (.slice A4 (addL xs p bk).length c4) (addL xs p bk)) := ⟨_, _, rfl, hA.2, HO4.out, HR4.out, HG4.out⟩
        clear HX4 HR4 HG4 HO4 hB hA
        go_wp2
        go_roundw
        case rel => exact ⟨k + 1, _, by omega, by go_num, HN⟩
        case measure => simp [intOf]; omega
    · obtain rfl : k = q := by omega
      have hk1 : decide ((k : Int) < (k : Int)) = false := by simp
      have HL64 := Lib.hid (ok_len HOK.out)
      have HTN := Lib.hid (tiny_ok HOK.out)
      clear HOK
      by_cases hz : xs.length = 0
      · obtain rfl := List.length_eq_zero_iff.1 hz
        have HPO : Hid (LoopsPost rb (N + 120) w (.returned (.slice A 0 c)) wr) := ⟨A, c, [], rfl, HTN.out, HL64.out, HXS.out, HRD.out.mono (by omega), HGR.out⟩
        clear HXS HRD HGR hz
        go_wp2
        go_ret
        exact HPO.out
      · have hl0 : ((xs.length : Int) == 0) = false := by simp; intro h; exact hz (by rw [h]; rfl)
        have hl1 : 0 < xs.length := by omega
        have hl2 := HL64.out
        clear hz
        go_wp2_with fail
        ((with_reducible refine (pick rb _ xs.length _ HRD.out (by omega) (by omega) (by omega)).mono ?_); rintro e w5 ⟨v5, rfl, hv0, hv1, r5, g5, s5⟩)
        clear s5
        have HX5 := Lib.hid (CntsO.mono (HXS.out.grown g5 (fun b hb => by cases hb; omega)) (Nat.le_refl _) (show _ ≤ w5.heap.size from g5.size))
        have HG5 := Lib.hid (grown_trans HGR.out g5)
        have HR5 := Lib.hid r5
        clear r5 g5 HXS HRD HGR
        obtain ⟨j, rfl⟩ := Int.eq_ofNat_of_zero_le hv0
        have hj : j < xs.length := by omega
        clear hv0 hv1
        go_wp2_with fail
        ((with_reducible refine (pick rb _ 16 _ HR5.out (by omega) (by omega) (by omega)).mono ?_); rintro e w6 ⟨v6, rfl, hy0, hy1, r6, g6, s6⟩)
        clear s6
        have HX6 := Lib.hid (CntsO.mono (HX5.out.grown g6 (fun b hb => by cases hb; omega)) (Nat.le_refl _) (show _ ≤ w6.heap.size from g6.size))
        have HG6 := Lib.hid (grown_trans HG5.out g6)
        have HR6 := Lib.hid r6
        clear r6 g6 HX5 HR5 HG5
        have HTJ := Lib.hid (HTN.out _ (cntAt_mem hj))
        by_cases h0 : v6 = 0
        · subst h0
          go_wp2_with fail
          ((with_reducible refine (pick rb _ 4 _ (HR6.out.alloc _) (by omega) (by omega) (by omega)).mono ?_); rintro e w7 ⟨v7, rfl, hu0, hu1, r7, g7, s7⟩)
          clear s7
          have hb := (g7.block w6.heap.size (by simp) (by simp; have := HG6.out.size; omega)).trans (heap_alloc_new w6 _)
          have k0 := cell_of_row w7 w6.heap.size 0 _ _ _ hb
          have k1 := cell_of_row w7 w6.heap.size 1 _ _ _ hb
          have k2 := cell_of_row w7 w6.heap.size 2 _ _ _ hb
          have k3 := cell_of_row w7 w6.heap.size 3 _ _ _ hb
          simp only [List.getElem?_toArray, List.getElem?_cons_zero, List.getElem?_cons_succ] at k0 k1 k2 k3
          have HG67 := Lib.hid (grown_trans (grown_alloc (World.grownBy.refl w6 (some rb)) _) g7)
          have HX7 := Lib.hid (CntsO.mono (HX6.out.grown HG67.out (fun b hb => by cases hb; omega)) (Nat.le_refl _) (show _ ≤ w7.heap.size from HG67.out.size))
          have HG7 := Lib.hid (grown_trans HG6.out HG67.out)
          have HR7 := Lib.hid r7
          clear r7 g7 HX6 HR6 HG6 HG67 hb
          obtain ⟨b, off, rfl, hb1, hb2, hb3, m0, m1, m2, m3⟩ := HX7.out.cnts.at_ hj
          obtain ⟨f0, f1, f2, f3⟩ := Hc.CntsO.free HX7.out hj
          have HPO : Hid (∀ v : Int, 0 ≤ v → v ≤ 100 → LoopsPost rb (N + 120) w (.returned (.slice (some ⟨b, off, none⟩) xs.length c)) (w7.setCell ⟨b, off + j * 4 + 2, none⟩ (.int .i64 v))) := fun v h1 h2 =>
            loops_set (y := { cntAt xs j with se := v }) HX7.out hj (show 2 < 4 by omega) rfl (tiny_set HTN.out (show _ ∧ _ from ⟨HTJ.out.1, HTJ.out.2.1, ⟨h1, h2⟩, HTJ.out.2.2.2⟩)) HL64.out HR7.out HG7.out hlt hb1 (by omega : N + 1 + 8 * k + 1 + 1 + 1 ≤ N + 120)
          clear HX7 HR7 HG7
          obtain rfl | rfl | rfl | rfl : v7 = 0 ∨ v7 = 1 ∨ v7 = 2 ∨ v7 = 3 := by omega
          all_goals
            go_wp2
            go_ret
            exact HPO.out _ (by omega) (by omega)
        · have h0' : (v6 == 0) = false := by simpa using h0
          by_cases h1 : v6 = 1
          · subst h1
            clear h0'
            go_wp2_with fail
            ((with_reducible refine (pick rb _ 12 _ HR6.out (by omega) (by omega) (by omega)).mono ?_); rintro e w7 ⟨v7, rfl, hu0, hu1, r7, g7, s7⟩)
            clear s7
            have HX7 := Lib.hid (CntsO.mono (HX6.out.grown g7 (fun b hb => by cases hb; omega)) (Nat.le_refl _) (show _ ≤ w7.heap.size from g7.size))
            have HG7 := Lib.hid (grown_trans HG6.out g7)
            have HR7 := Lib.hid r7
            clear r7 g7 HX6 HR6 HG6
            obtain ⟨b, off, rfl, hb1, hb2, hb3, m0, m1, m2, m3⟩ := HX7.out.cnts.at_ hj
            obtain ⟨f0, f1, f2, f3⟩ := Hc.CntsO.free HX7.out hj
            have HPO := Lib.hid (loops_set (y := { cntAt xs j with ba := v7 }) HX7.out hj (show 3 < 4 by omega) rfl (tiny_set HTN.out (show _ ∧ _ from ⟨HTJ.out.1, HTJ.out.2.1, HTJ.out.2.2.1, hu0, Int.le_trans (Int.le_of_lt hu1) (by decide)⟩)) HL64.out HR7.out HG7.out hlt hb1 (by omega : N + 1 + 8 * k + 1 + 1 + 1 ≤ N + 120))
            clear HX7 HR7 HG7
            go_wp2
            go_ret
            exact HPO.out
          · have h1' : (v6 == 1) = false := by simpa using h1
            by_cases h2 : v6 = 2
            · subst h2
              clear h0' h1'
              go_wp2_with fail
              ((with_reducible refine (pick rb _ 9 _ HR6.out (by omega) (by omega) (by omega)).mono ?_); rintro e w7 ⟨v7, rfl, hu0, hu1, r7, g7, s7⟩)
              clear s7
              have HX7 := Lib.hid (CntsO.mono (HX6.out.grown g7 (fun b hb => by cases hb; omega)) (Nat.le_refl _) (show _ ≤ w7.heap.size from g7.size))
              have HG7 := Lib.hid (grown_trans HG6.out g7)
              have HR7 := Lib.hid r7
              clear r7 g7 HX6 HR6 HG6
              obtain ⟨b, off, rfl, hb1, hb2, hb3, m0, m1, m2, m3⟩ := HX7.out.cnts.at_ hj
              obtain ⟨f0, f1, f2, f3⟩ := Hc.CntsO.free HX7.out hj
              have HPO := Lib.hid (loops_set (y := { cntAt xs j with to_ := v7 }) HX7.out hj (show 1 < 4 by omega) rfl (tiny_set HTN.out (show _ ∧ _ from ⟨HTJ.out.1, ⟨hu0, Int.le_trans (Int.le_of_lt hu1) (by decide)⟩, HTJ.out.2.2.1, HTJ.out.2.2.2⟩)) HL64.out HR7.out HG7.out hlt hb1 (by omega : N + 1 + 8 * k + 1 + 1 + 1 ≤ N + 120))
              clear HX7 HR7 HG7
              go_wp2
              go_ret
              exact HPO.out
            · have h2' : (v6 == 2) = false := by simpa using h2
              have HPO : Hid (LoopsPost rb (N + 120) w (.returned (.slice A xs.length c)) w6) := ⟨A, c, xs, rfl, HTN.out, HL64.out, HX6.out, HR6.out.mono (by omega), HG6.out⟩
              clear HX6 HR6 HG6
              go_wp2
              go_ret
              exact HPO.out

end Rd
end Go.Proofs.Ytbhafchdcofceaa
