/-
  Laws of chapter 21: each returns true and writes nothing that was there.
-/
import Derived.Test.YtfjggpdinfidcaaLaw9p
import Derived.Test.YtfjggpdinfidcaaQc
namespace Go.Proofs.Ytfjggpdinfidcaa
open Go.RowKit
namespace Law9
open Il Sl Cm Ec Dm Sp9 Gm H9 LawB Rd Sg


theorem digW {ep x : Int} {ys : List En} {A : Option Addr} {n k lo hi : Nat} {w : World} (h : digF ep ys = x) (_ : ys.length = n) (hx : Ens lo hi w A n k ys) : Calls Try.prog 17 #[.agg #[.int .i64 ep, .slice A n k]] w fun e w' => e = .returned (.int .i64 x) ∧ Below w.heap.size w w' := by
  subst h
  exact Im9.DirectoryDigest ep ys A n k lo hi w hx
set_option maxRecDepth 20000 in
set_option maxHeartbeats 4000000 in
theorem fnDirectoryDigest (A : Option Addr) (n c : Nat) (A1 : Option Addr) (n1 c1 : Nat) (w : World) (h : CodeIs w A n c) :
    Calls Try.prog 4 #[.slice A n c, .slice A1 n1 c1] w (TruePost w) := by
  have HC := Lib.hid h
  clear h
  by_cases hn : 1048576 < n
  · go_enter Try.func4, Try.ntmps4
    go_wp2
    go_ret
    exact ⟨rfl, Below.refl _ _⟩
  by_cases hn1 : 1048576 < n1
  · go_enter Try.func4, Try.ntmps4
    go_wp2
    go_ret
    exact ⟨rfl, Below.refl _ _⟩
  have B : Hid (Below w.heap.size w w) := Below.refl _ _
  go_enter Try.func4, Try.ntmps4
  go_wp2_with fail
  ((with_reducible refine (DrawDirectoryDigest _ _ _ _ HC.out).mono ?_); rintro e w1 ⟨A0, k0, ep, es, rfl, hgd, hds, hb⟩)
  replace B := Lib.hid (B.out.trans (hb.mono B.out.size))
  have z1 := hb.size
  have R0 := Lib.hid hds.row_
  have GD := Lib.hid hgd
  clear hgd hds HC
  clear hb
  have hal : Below w1.heap.size w1 (w1.alloc (.cells #[.int .i64 ep, .slice A0 es.length k0] 25)) := (Below.refl _ _).alloc (Nat.le_refl _) _
  have V0 := Lib.hid (vd_new (ep := ep) (lo' := w.heap.size) R0.out (Nat.le_refl _) B.out.size)
  replace B := Lib.hid (B.out.trans (hal.mono B.out.size))
  have zzV0 := hal.size
  clear hal
  clear R0
  obtain ⟨x, HX⟩ : ∃ x, Hid (digF ep es = x) := ⟨_, rfl⟩
  obtain ⟨V00, V01, V0f⟩ := V0.out.1.cells
  go_wp2_with fail
  ((with_reducible refine (digI HX.out V0.out.st).mono ?_); rintro e w2 ⟨rfl, hb⟩)
  replace V0 := Lib.hid (V0.out.below hb (Nat.le_refl _))
  replace B := Lib.hid (B.out.trans (hb.mono B.out.size))
  have z2 := hb.size
  clear V00 V01 V0f hb
  obtain ⟨V00, V01, V0f⟩ := V0.out.1.cells
  go_wp2_with fail
  ((with_reducible refine (digS HX.out V0.out.st).mono ?_); rintro e w3 ⟨rfl, hb⟩)
  replace V0 := Lib.hid (V0.out.below hb (Nat.le_refl _))
  replace B := Lib.hid (B.out.trans (hb.mono B.out.size))
  have z3 := hb.size
  clear V00 V01 V0f hb
  have e0 : (x != x) = false := by simp
  have e1 : (x == x) = true := by simp
  by_cases hx0 : x < 0
  · go_wp2
    go_ret
    exact ⟨rfl, B.out⟩
  have hx0d : decide (x < 0) = false := by simp; omega
  have HD := Lib.hid (digF_ok (show 0 ≤ digF ep es by rw [HX.out]; omega))
  by_cases hz : es.length = 0
  · have hl0 : ((es.length : Int) == 0) = true := by rw [hz]; rfl
    clear hz
    obtain ⟨V00, V01, V0f⟩ := V0.out.1.cells
    go_wp2
    go_ret
    exact ⟨rfl, B.out⟩
  have hl0 : ((es.length : Int) == 0) = false := by rw [beq_eq_false_iff_ne]; omega
  have hl1 : ¬ ((es.length : Int) = 0) := by omega
  obtain ⟨k, hj, hk⟩ : ∃ k : Nat, Int.tmod (n1 : Int) (es.length : Int) = (k : Int) ∧ k < es.length := ⟨n1 % es.length, by rw [Int.tmod_eq_emod_of_nonneg (by omega)]; rfl, Nat.mod_lt _ (by omega)⟩
  have hl6 : es.length ≤ 6 := (dirOk_iff.1 HD.out).2.2
  obtain ⟨⟨q1, q2⟩, ⟨q3, q4⟩, q5, q6⟩ := okE_iff.1 (ok_ix (dirOk_iff.1 HD.out).1 hk)
  obtain ⟨r, hr, hr0, hr1⟩ : ∃ r : Int, ((n : Nat) : Int).tmod 9 = r ∧ 0 ≤ r ∧ r ≤ 8 := ⟨_, rfl, Int.tmod_nonneg _ (by omega), by have := Int.tmod_lt_of_pos ((n : Nat) : Int) (show (0 : Int) < 9 by decide); omega⟩
  obtain ⟨s, hs, hs0, hs1⟩ : ∃ r : Int, ((n : Nat) : Int).tmod 3 = r ∧ 0 ≤ r ∧ r ≤ 2 := ⟨_, rfl, Int.tmod_nonneg _ (by omega), by have := Int.tmod_lt_of_pos ((n : Nat) : Int) (show (0 : Int) < 3 by decide); omega⟩
  obtain ⟨xa, hxa, hxa0, hxa1, hxan⟩ : ∃ xa : Int, ((enAt es k).wt + 1 + r).tmod 10 = xa ∧ 0 ≤ xa ∧ xa ≤ 9 ∧ xa ≠ (enAt es k).wt := ⟨_, rfl, by rw [Int.tmod_eq_emod_of_nonneg (by omega)]; omega, by rw [Int.tmod_eq_emod_of_nonneg (by omega)]; omega, by rw [Int.tmod_eq_emod_of_nonneg (by omega)]; omega⟩
  obtain ⟨xb, hxb, hxb0, hxb1⟩ : ∃ xb : Int, ((enAt es k).pu + s).tmod 5 = xb ∧ 0 ≤ xb ∧ xb ≤ 4 := ⟨_, rfl, by rw [Int.tmod_eq_emod_of_nonneg (by omega)]; omega, by rw [Int.tmod_eq_emod_of_nonneg (by omega)]; omega⟩
  obtain ⟨x1, HX1, hx1⟩ : ∃ x1, Hid (digF ep (es.set k ⟨(enAt es k).nm, (enAt es k).pu, xa⟩) = x1) ∧ x1 ≠ x := ⟨_, rfl, by rw [← HX.out]; exact dig_wt HD.out hk ⟨hxa0, hxa1⟩ hxan⟩
  obtain ⟨x2, HX2, HXN⟩ : ∃ x2, Hid (digF ep (es.set k ⟨(enAt es k).nm, 1 + xb, (enAt es k).wt⟩) = x2) ∧ Hid (¬ (1 + xb) % 991 = (enAt es k).pu % 991 → x2 ≠ x) := ⟨_, rfl, fun h => by rw [← HX.out]; exact dig_pu HD.out hk h⟩
  have hx1b : (x1 != x) = true := by simpa using hx1
  obtain ⟨bE, oE, rfl, _, _, _, _, _, _⟩ := V0.out.st.at_ hk
  have hcap := V0.out.st.cap_
  have hmax := V0.out.st.max_
  have hkc : k ≤ k0 := by omega
  have hki : (k : Int) < (es.length : Int) := by omega
  clear hz hxan hx1 HX GD HD hx0
  obtain ⟨y, hyk⟩ : ∃ y, enAt es k = y := ⟨_, rfl⟩
  rw [hyk] at q1 q2 q3 q4 q5 q6 hxa hxb HX1 HX2 HXN
  have HYK := Lib.hid hyk
  clear hyk
  have BC : Hid (Below w3.heap.size w3 w3) := Below.refl _ _
  have BD := Lib.hid B.out
  clear B
  obtain ⟨i0, i1, i2⟩ := (V0.out.1.below BC.out (Nat.le_refl _)).cells
  go_upto_region 10 with (fail)
  clear i0 i1 i2
  have hal : Below w3.heap.size w3 (w3.alloc (.cells #[.int .i64 ep, .slice (some ⟨bE, oE, none⟩) es.length k0] 25)) := (Below.refl _ _).alloc (Nat.le_refl _) _
  have DA : Hid (DBox (w3.alloc (.cells #[.int .i64 ep, .slice (some ⟨bE, oE, none⟩) es.length k0] 25)) w3.heap.size ep (some ⟨bE, oE, none⟩) es.length k0) := heap_alloc_new _ _
  have HAL := Lib.hid hal
  have hsz : w3.heap.size + 1 = (w3.alloc (.cells #[.int .i64 ep, .slice (some ⟨bE, oE, none⟩) es.length k0] 25)).heap.size := by simp
  clear hal
  generalize (w3.alloc (.cells #[.int .i64 ep, .slice (some ⟨bE, oE, none⟩) es.length k0] 25)) = waP at *
  have hb1 : w3.heap.size < waP.heap.size := by omega
  clear hsz
  have hal : Below waP.heap.size waP (waP.alloc (.cells #[] 31)) := (Below.refl _ _).alloc (Nat.le_refl _) _
  have BCa := Lib.hid (BC.out.trans (HAL.out.mono BC.out.size))
  have hbs := BC.out.size
  have HD4 := Lib.hid (DA.out.below hal (Nat.le_refl _))
  have HX4 := Lib.hid ((V0.out.st.below BCa.out (Nat.le_refl _)).below hal (Nat.le_refl _))
  have HA := Lib.hid (Ec.acc_new waP)
  obtain ⟨i0, i1, i2⟩ := (V0.out.1.below BCa.out (Nat.le_refl _)).cells
  obtain ⟨i3, i4, i5⟩ := ((V0.out.1.below BCa.out (Nat.le_refl _)).below hal (Nat.le_refl _)).cells
  clear hal
  go_upto_region 11 with (at_builtin; refine Ec.wpList_cAppL waP _ _ [] HA.out _ _ _ _ _ es HX4.out (by simp only [List.length_nil]; omega) (.tmp 48) (.tmp 50) rfl rfl (by go_simp) (by go_simp) ?_; intro v6 w6 hN6 hB6; rw [List.nil_append] at hN6; have DD6 := Lib.hid (dbox_same HD4.out (hB6.block _ hb1)); obtain ⟨r0, r3, rf⟩ := DD6.out.cells; have hO6 := hN6.own; obtain ⟨AP, kP, rfl, ho6, hb6⟩ := hO6)
  have HE6 := Lib.hid (show EnsO waP.heap.size w6.heap.size (w6.setCell ⟨w3.heap.size, 1, none⟩ (.slice AP es.length kP)) AP es.length kP es from ho6.keep (by simp [World.setCell]) fun q h1 _ _ => Below.heap_setCell _ _ _ _ (show q ≠ w3.heap.size by omega))
  have HB6 := Lib.hid (dbox_set1 DD6.out AP es.length kP)
  have BCb := Lib.hid ((BCa.out.trans (hb6.mono (by omega))).setCell (p := ⟨w3.heap.size, 1, none⟩) hbs (.slice AP es.length kP))
  have hws : (w6.setCell ⟨w3.heap.size, 1, none⟩ (.slice AP es.length kP)).heap.size = w6.heap.size := by simp [World.setCell]
  have hw6 := hb6.size
  have hbw : Below w3.heap.size w3 (w6.setCell ⟨w3.heap.size, 1, none⟩ (.slice AP es.length kP)) := (HAL.out.trans (hb6.mono (by omega))).setCell (p := ⟨w3.heap.size, 1, none⟩) (Nat.le_refl _) _
  have HBW := Lib.hid hbw
  rw [← hws] at HE6
  clear hws hbw i0 i1 i2 i3 i4 i5 r0 r3 rf ho6 hb6 hB6 hN6 DD6 HX4 HA HD4 DA BC BCa HAL
  generalize (w6.setCell ⟨w3.heap.size, 1, none⟩ (.slice AP es.length kP)) = wbP at *
  obtain ⟨gP, oP, rfl, hgl, hgh, hgz, m0, m1, m2⟩ := HE6.out.row_.at_ hk
  obtain ⟨f0, f1, f2⟩ := EnsO.free HE6.out hk
  obtain ⟨i0, i1, i2⟩ := (V0.out.1.below BCb.out (Nat.le_refl _)).cells
  obtain ⟨i3, i4, i5⟩ := HB6.out.cells
  obtain ⟨_, _, e9, _, _, _, c0, c1, c2⟩ := (V0.out.st.below BCb.out (Nat.le_refl _)).at_ hk
  simp only [Option.some.injEq, Addr.mk.injEq, and_true] at e9
  obtain ⟨rfl, rfl⟩ := e9
  rw [HYK.out] at m0 m1 m2 c0 c1 c2
  have HE7 := EnsO.set1 (v := .int .i64 xa) HE6.out hk ⟨y.nm, y.pu, xa⟩ (j := 2) (by omega) (by rw [HYK.out]; rfl)
  rw [show oP + (k * 3 + 2) = oP + k * 3 + 2 from by omega] at HE7
  have HE8 := Lib.hid HE7
  have HB8 := Lib.hid (show DBox (((wbP.setCell ⟨gP, oP + k * 3 + 2, none⟩ (.int .i64 xa))).drew) w3.heap.size ep (some ⟨gP, oP, none⟩) es.length kP from dbox_same HB6.out (Below.heap_setCell _ _ _ _ (show w3.heap.size ≠ gP by omega)))
  have BC := Lib.hid (below_dr (d := 1) (BCb.out.setCell (p := ⟨gP, oP + k * 3 + 2, none⟩) (show _ ≤ gP by omega) (.int .i64 xa)))
  have BWP := Lib.hid (below_dr (d := 1) (HBW.out.setCell (p := ⟨gP, oP + k * 3 + 2, none⟩) (show _ ≤ gP by omega) (.int .i64 xa)))
  clear HE7 HE6 HB6 BCb HBW
  go_wp2
  go_region
  clear m0 m1 m2 f0 f1 f2 i0 i1 i2 i3 i4 i5 c0 c1 c2
  have EP := Lib.hid (show EnsO _ _ (wbP.setCell ⟨gP, oP + k * 3 + 2, none⟩ (.int .i64 xa)).drew _ _ _ _ from HE8.out)
  have DP := Lib.hid HB8.out
  clear HE8 HB8
  replace BC := Lib.hid (show Below _ _ (wbP.setCell ⟨gP, oP + k * 3 + 2, none⟩ (.int .i64 xa)).drew from BC.out)
  replace BWP := Lib.hid (show Below _ _ (wbP.setCell ⟨gP, oP + k * 3 + 2, none⟩ (.int .i64 xa)).drew from BWP.out)
  generalize (wbP.setCell ⟨gP, oP + k * 3 + 2, none⟩ (.int .i64 xa)).drew = wcP at *
  obtain ⟨i0, i1, i2⟩ := (V0.out.1.below BC.out (Nat.le_refl _)).cells
  go_upto_region 13 with (fail)
  clear i0 i1 i2
  have hal : Below wcP.heap.size wcP (wcP.alloc (.cells #[.int .i64 ep, .slice (some ⟨bE, oE, none⟩) es.length k0] 25)) := (Below.refl _ _).alloc (Nat.le_refl _) _
  have DA : Hid (DBox (wcP.alloc (.cells #[.int .i64 ep, .slice (some ⟨bE, oE, none⟩) es.length k0] 25)) wcP.heap.size ep (some ⟨bE, oE, none⟩) es.length k0) := heap_alloc_new _ _
  have HAL := Lib.hid hal
  have hsz : wcP.heap.size + 1 = (wcP.alloc (.cells #[.int .i64 ep, .slice (some ⟨bE, oE, none⟩) es.length k0] 25)).heap.size := by simp
  clear hal
  generalize (wcP.alloc (.cells #[.int .i64 ep, .slice (some ⟨bE, oE, none⟩) es.length k0] 25)) = waQ at *
  have hb1 : wcP.heap.size < waQ.heap.size := by omega
  clear hsz
  have hal : Below waQ.heap.size waQ (waQ.alloc (.cells #[] 31)) := (Below.refl _ _).alloc (Nat.le_refl _) _
  have BCa := Lib.hid (BC.out.trans (HAL.out.mono BC.out.size))
  have hbs := BC.out.size
  have HD4 := Lib.hid (DA.out.below hal (Nat.le_refl _))
  have HX4 := Lib.hid ((V0.out.st.below BCa.out (Nat.le_refl _)).below hal (Nat.le_refl _))
  have HA := Lib.hid (Ec.acc_new waQ)
  obtain ⟨i0, i1, i2⟩ := (V0.out.1.below BCa.out (Nat.le_refl _)).cells
  obtain ⟨i3, i4, i5⟩ := ((V0.out.1.below BCa.out (Nat.le_refl _)).below hal (Nat.le_refl _)).cells
  clear hal
  go_upto_region 14 with (at_builtin; refine Ec.wpList_cAppL waQ _ _ [] HA.out _ _ _ _ _ es HX4.out (by simp only [List.length_nil]; omega) (.tmp 71) (.tmp 73) rfl rfl (by go_simp) (by go_simp) ?_; intro v6 w6 hN6 hB6; rw [List.nil_append] at hN6; have DD6 := Lib.hid (dbox_same HD4.out (hB6.block _ hb1)); obtain ⟨r0, r3, rf⟩ := DD6.out.cells; have hO6 := hN6.own; obtain ⟨AQ, kQ, rfl, ho6, hb6⟩ := hO6)
  have HE6 := Lib.hid (show EnsO waQ.heap.size w6.heap.size (w6.setCell ⟨wcP.heap.size, 1, none⟩ (.slice AQ es.length kQ)) AQ es.length kQ es from ho6.keep (by simp [World.setCell]) fun q h1 _ _ => Below.heap_setCell _ _ _ _ (show q ≠ wcP.heap.size by omega))
  have HB6 := Lib.hid (dbox_set1 DD6.out AQ es.length kQ)
  have BCb := Lib.hid ((BCa.out.trans (hb6.mono (by omega))).setCell (p := ⟨wcP.heap.size, 1, none⟩) hbs (.slice AQ es.length kQ))
  have hws : (w6.setCell ⟨wcP.heap.size, 1, none⟩ (.slice AQ es.length kQ)).heap.size = w6.heap.size := by simp [World.setCell]
  have hw6 := hb6.size
  have hbw : Below wcP.heap.size wcP (w6.setCell ⟨wcP.heap.size, 1, none⟩ (.slice AQ es.length kQ)) := (HAL.out.trans (hb6.mono (by omega))).setCell (p := ⟨wcP.heap.size, 1, none⟩) (Nat.le_refl _) _
  have HBW := Lib.hid hbw
  rw [← hws] at HE6
  clear hws hbw i0 i1 i2 i3 i4 i5 r0 r3 rf ho6 hb6 hB6 hN6 DD6 HX4 HA HD4 DA BC BCa HAL
  generalize (w6.setCell ⟨wcP.heap.size, 1, none⟩ (.slice AQ es.length kQ)) = wbQ at *
  obtain ⟨gQ, oQ, rfl, hgl, hgh, hgz, m0, m1, m2⟩ := HE6.out.row_.at_ hk
  obtain ⟨f0, f1, f2⟩ := EnsO.free HE6.out hk
  obtain ⟨i0, i1, i2⟩ := (V0.out.1.below BCb.out (Nat.le_refl _)).cells
  obtain ⟨i3, i4, i5⟩ := HB6.out.cells
  obtain ⟨_, _, e9, _, _, _, c0, c1, c2⟩ := (V0.out.st.below BCb.out (Nat.le_refl _)).at_ hk
  simp only [Option.some.injEq, Addr.mk.injEq, and_true] at e9
  obtain ⟨rfl, rfl⟩ := e9
  rw [HYK.out] at m0 m1 m2 c0 c1 c2
  have HE7 := EnsO.set1 (v := .int .i64 (1 + xb)) HE6.out hk ⟨y.nm, 1 + xb, y.wt⟩ (j := 1) (by omega) (by rw [HYK.out]; rfl)
  rw [show oQ + (k * 3 + 1) = oQ + k * 3 + 1 from by omega] at HE7
  have HE8 := Lib.hid HE7
  have HB8 := Lib.hid (show DBox (((wbQ.setCell ⟨gQ, oQ + k * 3 + 1, none⟩ (.int .i64 (1 + xb)))).drew) wcP.heap.size ep (some ⟨gQ, oQ, none⟩) es.length kQ from dbox_same HB6.out (Below.heap_setCell _ _ _ _ (show wcP.heap.size ≠ gQ by omega)))
  have BC := Lib.hid (below_dr (d := 1) (BCb.out.setCell (p := ⟨gQ, oQ + k * 3 + 1, none⟩) (show _ ≤ gQ by omega) (.int .i64 (1 + xb))))
  have BWQ := Lib.hid (below_dr (d := 1) (HBW.out.setCell (p := ⟨gQ, oQ + k * 3 + 1, none⟩) (show _ ≤ gQ by omega) (.int .i64 (1 + xb))))
  clear HE7 HE6 HB6 BCb HBW
  go_wp2
  go_region
  clear m0 m1 m2 f0 f1 f2 i0 i1 i2 i3 i4 i5 c0 c1 c2
  have EQ := Lib.hid (show EnsO _ _ (wbQ.setCell ⟨gQ, oQ + k * 3 + 1, none⟩ (.int .i64 (1 + xb))).drew _ _ _ _ from HE8.out)
  have DQ := Lib.hid HB8.out
  clear HE8 HB8
  replace BC := Lib.hid (show Below _ _ (wbQ.setCell ⟨gQ, oQ + k * 3 + 1, none⟩ (.int .i64 (1 + xb))).drew from BC.out)
  replace BWQ := Lib.hid (show Below _ _ (wbQ.setCell ⟨gQ, oQ + k * 3 + 1, none⟩ (.int .i64 (1 + xb))).drew from BWQ.out)
  generalize (wbQ.setCell ⟨gQ, oQ + k * 3 + 1, none⟩ (.int .i64 (1 + xb))).drew = wcQ at *
  have EP2 := Lib.hid (EP.out.row_.below BWQ.out (Nat.le_refl _))
  obtain ⟨a0, a1, af⟩ := (DP.out.below BWQ.out (Nat.le_refl _)).cells
  obtain ⟨b0, b1, bf⟩ := DQ.out.cells
  obtain ⟨d0, d1, df⟩ := (V0.out.1.below BC.out (Nat.le_refl _)).cells
  obtain ⟨_, _, e9, _, _, _, m0, m1, m2⟩ := EQ.out.row_.at_ hk
  simp only [Option.some.injEq, Addr.mk.injEq, and_true] at e9
  obtain ⟨rfl, rfl⟩ := e9
  rw [enAt_set hk, if_pos rfl] at m0 m1 m2
  obtain ⟨_, _, e9, _, _, _, c0, c1, c2⟩ := (V0.out.st.below BC.out (Nat.le_refl _)).at_ hk
  simp only [Option.some.injEq, Addr.mk.injEq, and_true] at e9
  obtain ⟨rfl, rfl⟩ := e9
  rw [HYK.out] at c0 c1 c2
  generalize hS : (fun w' => Below wcQ.heap.size wcQ w') = S
  have HQS : Hid (∀ w' w'', S w' → Below w'.heap.size w' w'' → S w'') := by
    subst hS
    exact fun _ _ h hb => Below.trans h (hb.mono (Below.size h))
  have HSB : Hid (∀ i : Qc.Wd S, Below wcQ.heap.size wcQ i.w) := by
    subst hS
    exact fun i => i.h
  have g0 : ∀ i : Qc.Wd S, i.w.cell? ⟨w3.heap.size, 0, none⟩ = some (.int .i64 ep) := fun i => Qc.hs_step (HSB.out i) a0
  have g1 : ∀ i : Qc.Wd S, i.w.cell? ⟨w3.heap.size, 1, none⟩ = some (.slice (some ⟨gP, oP, none⟩) es.length kP) := fun i => Qc.hs_step (HSB.out i) a1
  have g2 : ∀ i : Qc.Wd S, i.w.cell? ⟨wcP.heap.size, 0, none⟩ = some (.int .i64 ep) := fun i => Qc.hs_step (HSB.out i) b0
  have g3 : ∀ i : Qc.Wd S, i.w.cell? ⟨wcP.heap.size, 1, none⟩ = some (.slice (some ⟨gQ, oQ, none⟩) es.length kQ) := fun i => Qc.hs_step (HSB.out i) b1
  have g4 : ∀ i : Qc.Wd S, i.w.cell? ⟨w1.heap.size, 1, none⟩ = some (.slice (some ⟨bE, oE, none⟩) es.length k0) := fun i => Qc.hs_step (HSB.out i) d1
  have g5 : ∀ i : Qc.Wd S, i.w.cell? ⟨gQ, oQ + k * 3 + 1, none⟩ = some (.int .i64 (1 + xb)) := fun i => Qc.hs_step (HSB.out i) m1
  have g6 : ∀ i : Qc.Wd S, i.w.cell? ⟨bE, oE + k * 3 + 1, none⟩ = some (.int .i64 y.pu) := fun i => Qc.hs_step (HSB.out i) c1
  have HE1 : Hid (∀ i : Qc.Wd S, Ens _ _ i.w (some ⟨gP, oP, none⟩) es.length kP (es.set k ⟨y.nm, y.pu, xa⟩)) := fun i => EP2.out.below (HSB.out i) (Nat.le_refl _)
  have HE2 : Hid (∀ i : Qc.Wd S, Ens _ _ i.w (some ⟨gQ, oQ, none⟩) es.length kQ (es.set k ⟨y.nm, 1 + xb, y.wt⟩)) := fun i => EQ.out.row_.below (HSB.out i) (Nat.le_refl _)
  obtain ⟨u1, hu1⟩ : ∃ u, (1 + xb).tmod 991 = u := ⟨_, rfl⟩
  obtain ⟨u2, hu2⟩ : ∃ u, y.pu.tmod 991 = u := ⟨_, rfl⟩
  have HU : Hid (¬ u1 = u2 → x2 ≠ x) := fun h => HXN.out (by rw [← Int.tmod_eq_emod_of_nonneg (by omega), ← Int.tmod_eq_emod_of_nonneg (by omega), hu1, hu2]; exact h)
  have hv1 : (1 + xb) % 991 = u1 := by rw [← hu1]; exact (Int.tmod_eq_emod_of_nonneg (by omega)).symm
  have hv2 : y.pu % 991 = u2 := by rw [← hu2]; exact (Int.tmod_eq_emod_of_nonneg (by omega)).symm
  have HL1 : Hid ((es.set k ⟨y.nm, y.pu, xa⟩).length = es.length) := List.length_set
  have HL2 : Hid ((es.set k ⟨y.nm, 1 + xb, y.wt⟩).length = es.length) := List.length_set
  clear a0 a1 af b0 b1 bf d0 d1 df m0 m1 m2 c0 c1 c2 HXN
  go_upto_region 15 with (fail)
  by_cases hq : u1 = u2
  · have e5 : (u1 == u2) = true := by simpa using hq
    clear hq HU
    refine Qc.region S (by kernel_rfl) (by kernel_rfl) (by rw [← hS]; exact below_dr (d := 1) (Below.refl _ _)) (fun hne => ?_)
    clear hS
    repeat (go_big_quiet_step ((first | (go_at_call 17; with_reducible exact Qc.call HQS.out (digW HX1.out HL1.out (HE1.out _))) | (go_at_call 17; with_reducible exact Qc.call HQS.out (digW HX2.out HL2.out (HE2.out _))))))
    refine wpQuiet_nil ?_
    intro i
    have BF := Lib.hid (BD.out.trans ((BC.out.trans ((HSB.out i).mono BC.out.size)).mono BD.out.size))
    clear HSB g0 g1 g2 g3 g4 g5 g6 HE1 HE2 HQS
    generalize i.w = w9 at *
    go_wp2
    go_ret
    exact ⟨rfl, BF.out⟩
  · have e5 : (u1 == u2) = false := by simpa using hq
    have e6 : (x2 != x) = true := by have := HU.out hq; simpa using this
    clear hq HU
    refine Qc.region S (by kernel_rfl) (by kernel_rfl) (by rw [← hS]; exact below_dr (d := 1) (Below.refl _ _)) (fun hne => ?_)
    clear hS
    repeat (go_big_quiet_step ((first | (go_at_call 17; with_reducible exact Qc.call HQS.out (digW HX1.out HL1.out (HE1.out _))) | (go_at_call 17; with_reducible exact Qc.call HQS.out (digW HX2.out HL2.out (HE2.out _))))))
    refine wpQuiet_nil ?_
    intro i
    have BF := Lib.hid (BD.out.trans ((BC.out.trans ((HSB.out i).mono BC.out.size)).mono BD.out.size))
    clear HSB g0 g1 g2 g3 g4 g5 g6 HE1 HE2 HQS
    generalize i.w = w9 at *
    go_wp2
    go_ret
    exact ⟨rfl, BF.out⟩

end Law9
end Go.Proofs.Ytfjggpdinfidcaa
