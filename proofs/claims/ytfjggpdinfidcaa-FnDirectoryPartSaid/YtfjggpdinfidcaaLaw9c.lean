/-
  Laws of chapter 21: each returns true and writes nothing that was there.
-/
import Derived.Test.YtfjggpdinfidcaaLaw9p
namespace Go.Proofs.Ytfjggpdinfidcaa
open Go.RowKit
namespace Law9
open Il Sl Cm Ec Dm Sp9 Gm H9 LawB Rd Sg


theorem acc_drew {w0 w : World} {v : Value} {xs : List En} (h : Ec.Acc w0 w v xs) : Ec.Acc w0 w.drew v xs := h.drewN 1
theorem ens_drop {lo hi b off n c : Nat} {w : World} {xs : List En} (h : Ens lo hi w (some ⟨b, off, none⟩) n c xs) (k : Nat) (hk : k ≤ n) : Ens lo hi w (some ⟨b, off + k * 3, none⟩) (n - k) (c - k) (xs.drop k) := by
  have hl := h.len_
  refine ⟨by rw [flat_len cells_len, List.length_drop, hl], by have := h.cap_; omega, by have := h.2.2.1; omega, fun hn => ?_⟩
  obtain ⟨b', off', e, h1, h2, h3, hc⟩ := h.2.2.2 (by omega)
  simp only [Option.some.injEq, Addr.mk.injEq, and_true] at e
  obtain ⟨rfl, rfl⟩ := e
  refine ⟨b, off + k * 3, rfl, h1, h2, h3, fun j v hj => ?_⟩
  have hsp : xs.flatMap En.cells = (xs.take k).flatMap En.cells ++ (xs.drop k).flatMap En.cells := by rw [← List.flatMap_append, List.take_append_drop]
  have htl : ((xs.take k).flatMap En.cells).length = k * 3 := by rw [flat_len cells_len, List.length_take]; congr 1; omega
  rw [Nat.add_assoc]
  refine hc (k * 3 + j) v ?_
  rw [hsp, List.getElem?_append_right (by omega), htl, Nat.add_sub_cancel_left]
  exact hj
theorem ens_rest {lo hi b off n c k : Nat} {w : World} {xs : List En} (h : Ens lo hi w (some ⟨b, off, none⟩) n c xs) (hk : k ≤ n) : Ens lo hi w (if c = k then some ⟨b, off, none⟩ else some ⟨b, off + k * 3, none⟩) (n - k) (c - k) (xs.drop k) := by
  split
  · have h1 := h.cap_
    have h2 := h.len_
    obtain rfl : n = k := by omega
    rw [Nat.sub_self, List.drop_eq_nil_of_le (by omega)]
    exact Ens.nil_ (by unfold maxLen; omega)
  · exact ens_drop h k hk
set_option maxRecDepth 20000 in
set_option maxHeartbeats 4000000 in
theorem fnDirectoryPart (A : Option Addr) (n c : Nat) (A1 : Option Addr) (n1 c1 : Nat) (w : World) (h : CodeIs w A n c) :
    Calls Try.prog 3 #[.slice A n c, .slice A1 n1 c1] w (TruePost w) := by
  have HC := Lib.hid h
  clear h
  by_cases hn : 1048576 < n
  · go_enter Try.func3, Try.ntmps3
    go_wp2
    go_ret
    exact ⟨rfl, Below.refl _ _⟩
  by_cases hn1 : 1048576 < n1
  · go_enter Try.func3, Try.ntmps3
    go_wp2
    go_ret
    exact ⟨rfl, Below.refl _ _⟩
  have B : Hid (Below w.heap.size w w) := Below.refl _ _
  go_enter Try.func3, Try.ntmps3
  go_wp2_with fail
  ((with_reducible refine (DrawDirectoryValid _ _ _ _ HC.out).mono ?_); rintro e w1 ⟨A0, k0, ep, es, rfl, hgd, hds, hb⟩)
  replace B := Lib.hid (B.out.trans (hb.mono B.out.size))
  have z1 := hb.size
  have R0 := Lib.hid hds.row_
  have GD := Lib.hid hgd
  clear hgd hds HC
  clear hb
  have hal : Below w1.heap.size w1 (w1.alloc (.cells #[.int .i64 ep, .slice A0 es.length k0] 25)) := (Below.refl _ _).alloc (Nat.le_refl _) _
  have V0 := Lib.hid (vd_new (ep := ep) (lo' := w.heap.size) R0.out (Nat.le_refl _) B.out.size)
  replace B := Lib.hid (B.out.trans (hal.mono B.out.size))
  have zzV0 := hal.size
  clear hal
  clear R0
  obtain ⟨x, HX⟩ : ∃ x, Hid (dirOk ep es = x) := ⟨_, rfl⟩
  obtain ⟨V00, V01, V0f⟩ := V0.out.1.cells
  go_wp2_with fail
  ((with_reducible refine (validI HX.out V0.out.st).mono ?_); rintro e w2 ⟨rfl, hb⟩)
  replace V0 := Lib.hid (V0.out.below hb (Nat.le_refl _))
  replace B := Lib.hid (B.out.trans (hb.mono B.out.size))
  have z2 := hb.size
  clear V00 V01 V0f hb
  obtain ⟨V00, V01, V0f⟩ := V0.out.1.cells
  go_wp2_with fail
  ((with_reducible refine (validS HX.out V0.out.st).mono ?_); rintro e w3 ⟨rfl, hb⟩)
  replace V0 := Lib.hid (V0.out.below hb (Nat.le_refl _))
  replace B := Lib.hid (B.out.trans (hb.mono B.out.size))
  have z3 := hb.size
  clear V00 V01 V0f hb
  have e0 : (x != x) = false := by cases x <;> rfl
  have e1 : (x == x) = true := by cases x <;> rfl
  cases x
  · go_wp2
    go_ret
    exact ⟨rfl, B.out⟩
  by_cases hz : es.length = 0
  · have hl0 : ((es.length : Int) == 0) = true := by rw [hz]; rfl
    clear hz
    obtain ⟨V00, V01, V0f⟩ := V0.out.1.cells
    go_wp2
    go_ret
    exact ⟨rfl, B.out⟩
  have hl0 : ((es.length : Int) == 0) = false := by rw [beq_eq_false_iff_ne]; omega
  have hl1 : ¬ ((es.length : Int) = 0) := by omega
  obtain ⟨k, hj, hk⟩ : ∃ k : Nat, Int.tmod (n1 : Int) (es.length : Int) = (k : Int) ∧ k < es.length := ⟨n1 % es.length, by rw [Int.tmod_eq_emod_of_nonneg (by omega)]; rfl, Nat.mod_lt _ (by omega)⟩
  have HG1 := Lib.hid (without_ok HX.out hk)
  have HG2 := Lib.hid (twice_no (ep := ep) hk)
  have hl6 : es.length ≤ 6 := (dirOk_iff.1 HX.out).2.2
  obtain ⟨bE, oE, rfl, _, _, _, _, _, _⟩ := V0.out.st.at_ hk
  have hcap := V0.out.st.cap_
  have hmax := V0.out.st.max_
  have hkc : k ≤ k0 := by omega
  have hkc1 : k + 1 ≤ k0 := by omega
  have hk4 : (k : Int) + 1 ≤ (es.length : Int) := by omega
  have hki : (k : Int) ≤ (es.length : Int) := by omega
  have hkw : IntKind.i64.wrap ((k : Int) + 1) = (k : Int) + 1 := IntWalk.i64_in _ (by omega)
  have hk2 : (0 : Int) ≤ (k : Int) + 1 := by omega
  have hk3 : ((k : Int) + 1).toNat = k + 1 := by omega
  have hk5 : (k : Int) + 1 ≤ (k0 : Int) := by omega
  clear hz HX GD
  obtain ⟨V00, V01, V0f⟩ := V0.out.1.cells
  go_upto_region 10 with (fail)
  clear V00 V01 V0f
  have hal : Below w3.heap.size w3 (w3.alloc (.cells #[.int .i64 ep, .slice (some ⟨bE, oE, none⟩) es.length k0] 25)) := (Below.refl _ _).alloc (Nat.le_refl _) _
  have DA : Hid (DBox (w3.alloc (.cells #[.int .i64 ep, .slice (some ⟨bE, oE, none⟩) es.length k0] 25)) w3.heap.size ep (some ⟨bE, oE, none⟩) es.length k0) := heap_alloc_new _ _
  have HAL := Lib.hid hal
  have hsz : w3.heap.size + 1 = (w3.alloc (.cells #[.int .i64 ep, .slice (some ⟨bE, oE, none⟩) es.length k0] 25)).heap.size := by simp
  clear hal
  generalize (w3.alloc (.cells #[.int .i64 ep, .slice (some ⟨bE, oE, none⟩) es.length k0] 25)) = waP at *
  have hb1 : w3.heap.size < waP.heap.size := by omega
  clear hsz
  have hal : Below waP.heap.size waP (waP.alloc (.cells #[] 31)) := (Below.refl _ _).alloc (Nat.le_refl _) _
  have HV4 : Hid (DBox (waP.alloc (.cells #[] 31)).drew w1.heap.size ep (some ⟨bE, oE, none⟩) es.length k0) := by have h := (V0.out.1.below HAL.out (Nat.le_refl _)).below hal (Nat.le_refl _); exact h
  have HD4 : Hid (DBox (waP.alloc (.cells #[] 31)).drew w3.heap.size ep (some ⟨bE, oE, none⟩) es.length k0) := by have h := DA.out.below hal (Nat.le_refl _); exact h
  have HX4 : Hid (Ens w.heap.size w3.heap.size (waP.alloc (.cells #[] 31)).drew (some ⟨bE, oE, none⟩) es.length k0 es) := by have h := (V0.out.st.below HAL.out (Nat.le_refl _)).below hal (Nat.le_refl _); exact h
  have HT : Hid (Ens w.heap.size w3.heap.size (waP.alloc (.cells #[] 31)).drew (some ⟨bE, oE, none⟩) (k) k0 (es.take (k))) := HX4.out.take (by omega)
  have HA : Hid (Ec.Acc waP (waP.alloc (.cells #[] 31)).drew (.slice (some ⟨waP.heap.size, 0, none⟩) 0 0) []) := acc_drew (Ec.acc_new waP)
  have hvl := V0.out.1.lt
  have S0 : Hid ((waP.drew).cell? ⟨w1.heap.size, 1, none⟩ = some (.slice (some ⟨bE, oE, none⟩) es.length k0)) := (V0.out.1.below HAL.out (Nat.le_refl _)).cells.2.1
  have SE : Hid (((waP.alloc (.cells #[] 31)).drew).cell? ⟨w1.heap.size, 1, none⟩ = some (.slice (some ⟨bE, oE, none⟩) es.length k0)) := HV4.out.cells.2.1
  clear hal
  have htl : (es.take (k)).length ≤ 64 := by rw [List.length_take]; omega
  go_region_held3 (fun w' => w'.cell? ⟨w1.heap.size, 1, none⟩ = some (.slice (some ⟨bE, oE, none⟩) es.length k0))
    (first | with_reducible exact S0.out | with_reducible exact SE.out | with_reducible exact s5 | with_reducible exact s6 | with_reducible exact s7 | fail)
    (first
      | (refine Ec.step_cAppL waP _ _ [] HA.out _ _ _ (k) k0 (es.take (k)) HT.out (by simp only [List.length_nil]; omega) (.tmp 48) (.tmp 52) rfl rfl (by go_simp) (by go_simp) ?_; intro v5 w5 hN5 hB5; rw [List.nil_append] at hN5
         have HD5 := Lib.hid (ens_rest (k := k + 1) (HX4.out.below' hB5 (by omega)) (by omega))
         have DV5 := Lib.hid (dbox_same HV4.out (hB5.block _ (by omega))); have DD5 := Lib.hid (dbox_same HD4.out (hB5.block _ (by omega)))
         have s5 := DV5.out.cells.2.1)
      | (refine Ec.step_cAppL waP _ _ (es.take (k)) hN5 _ _ _ (es.length - (k + 1)) (k0 - (k + 1)) (es.drop (k + 1)) HD5.out (by omega) (.tmp 53) (.tmp 58) rfl rfl (by go_simp) (by go_simp) ?_; intro v6 w6 hN6 hB6; generalize hysP : es.take (k) ++ es.drop (k + 1) = ysP at hN6; have HYP := Lib.hid hysP; clear hysP
         have DD6 := Lib.hid (dbox_same DD5.out (hB6.block _ (by omega))); have DV6 := Lib.hid (dbox_same DV5.out (hB6.block _ (by omega))); obtain ⟨r0, r1, rf⟩ := DD6.out.cells
         have hO6 := hN6.own; obtain ⟨A6, c6, rfl, ho6, hb6⟩ := hO6
         have s6 := DV6.out.cells.2.1; have s7 := dbox_far DV6.out (q := w3.heap.size) (by omega) 1 (.slice A6 ysP.length c6))
      | fail)
  have HE6 : Hid (Ens waP.heap.size w6.heap.size (w6.setCell ⟨w3.heap.size, 1, none⟩ (.slice A6 ysP.length c6)) A6 ysP.length c6 ysP) := ho6.row_.keep (by simp [World.setCell]) fun q h1 _ _ => Below.heap_setCell _ _ _ _ (show q ≠ w3.heap.size by omega)
  have HB6 : Hid (DBox (w6.setCell ⟨w3.heap.size, 1, none⟩ (.slice A6 ysP.length c6)) w3.heap.size ep A6 ysP.length c6) := dbox_set1 DD6.out _ _ _
  have hbc : Below w3.heap.size w3 (w6.setCell ⟨w3.heap.size, 1, none⟩ (.slice A6 ysP.length c6)) := (HAL.out.trans (hb6.mono (by omega))).setCell (p := ⟨w3.heap.size, 1, none⟩) (Nat.le_refl _) _
  have hws : w6.heap.size = (w6.setCell ⟨w3.heap.size, 1, none⟩ (.slice A6 ysP.length c6)).heap.size := by simp [World.setCell]
  rw [hws] at HE6
  clear hws S0 SE s5 s6 s7 r0 r1 rf ho6 hb6 hB6 hN6 hN5 hB5 HD5 DV5 DV6 DD5 DD6 HX4 HT HA HV4 HD4 HAL DA
  generalize (w6.setCell ⟨w3.heap.size, 1, none⟩ (.slice A6 ysP.length c6)) = wbP at *
  have ZDP := Lib.hid (show Vd w.heap.size wbP w3.heap.size ep A6 c6 ysP from ⟨HB6.out, B.out.size, HE6.out.mono (by have := B.out.size; omega) (Nat.le_refl _)⟩)
  clear HE6 HB6
  replace V0 := Lib.hid (V0.out.below hbc (Nat.le_refl _))
  replace B := Lib.hid (B.out.trans (hbc.mono B.out.size))
  have zP := hbc.size
  clear hbc
  obtain ⟨V00, V01, V0f⟩ := V0.out.1.cells
  go_upto_region 12 with (fail)
  clear V00 V01 V0f
  have hal : Below wbP.heap.size wbP (wbP.alloc (.cells #[.int .i64 ep, .slice (some ⟨bE, oE, none⟩) es.length k0] 25)) := (Below.refl _ _).alloc (Nat.le_refl _) _
  have DA : Hid (DBox (wbP.alloc (.cells #[.int .i64 ep, .slice (some ⟨bE, oE, none⟩) es.length k0] 25)) wbP.heap.size ep (some ⟨bE, oE, none⟩) es.length k0) := heap_alloc_new _ _
  have HAL := Lib.hid hal
  have hsz : wbP.heap.size + 1 = (wbP.alloc (.cells #[.int .i64 ep, .slice (some ⟨bE, oE, none⟩) es.length k0] 25)).heap.size := by simp
  clear hal
  generalize (wbP.alloc (.cells #[.int .i64 ep, .slice (some ⟨bE, oE, none⟩) es.length k0] 25)) = waQ at *
  have hb1 : wbP.heap.size < waQ.heap.size := by omega
  clear hsz
  have hal : Below waQ.heap.size waQ (waQ.alloc (.cells #[] 31)) := (Below.refl _ _).alloc (Nat.le_refl _) _
  have HV4 : Hid (DBox (waQ.alloc (.cells #[] 31)).drew w1.heap.size ep (some ⟨bE, oE, none⟩) es.length k0) := by have h := (V0.out.1.below HAL.out (Nat.le_refl _)).below hal (Nat.le_refl _); exact h
  have HD4 : Hid (DBox (waQ.alloc (.cells #[] 31)).drew wbP.heap.size ep (some ⟨bE, oE, none⟩) es.length k0) := by have h := DA.out.below hal (Nat.le_refl _); exact h
  have HX4 : Hid (Ens w.heap.size wbP.heap.size (waQ.alloc (.cells #[] 31)).drew (some ⟨bE, oE, none⟩) es.length k0 es) := by have h := (V0.out.st.below HAL.out (Nat.le_refl _)).below hal (Nat.le_refl _); exact h
  have HT : Hid (Ens w.heap.size wbP.heap.size (waQ.alloc (.cells #[] 31)).drew (some ⟨bE, oE, none⟩) (k + 1) k0 (es.take (k + 1))) := HX4.out.take (by omega)
  have HA : Hid (Ec.Acc waQ (waQ.alloc (.cells #[] 31)).drew (.slice (some ⟨waQ.heap.size, 0, none⟩) 0 0) []) := acc_drew (Ec.acc_new waQ)
  have hvl := V0.out.1.lt
  have S0 : Hid ((waQ.drew).cell? ⟨w1.heap.size, 1, none⟩ = some (.slice (some ⟨bE, oE, none⟩) es.length k0)) := (V0.out.1.below HAL.out (Nat.le_refl _)).cells.2.1
  have SE : Hid (((waQ.alloc (.cells #[] 31)).drew).cell? ⟨w1.heap.size, 1, none⟩ = some (.slice (some ⟨bE, oE, none⟩) es.length k0)) := HV4.out.cells.2.1
  clear hal
  have htl : (es.take (k + 1)).length ≤ 64 := by rw [List.length_take]; omega
  go_region_held3 (fun w' => w'.cell? ⟨w1.heap.size, 1, none⟩ = some (.slice (some ⟨bE, oE, none⟩) es.length k0))
    (first | with_reducible exact S0.out | with_reducible exact SE.out | with_reducible exact s5 | with_reducible exact s6 | with_reducible exact s7 | fail)
    (first
      | (refine Ec.step_cAppL waQ _ _ [] HA.out _ _ _ (k + 1) k0 (es.take (k + 1)) HT.out (by simp only [List.length_nil]; omega) (.tmp 62) (.tmp 67) rfl rfl (by go_simp) (by go_simp) ?_; intro v5 w5 hN5 hB5; rw [List.nil_append] at hN5
         have HD5 := Lib.hid (ens_rest (k := k) (HX4.out.below' hB5 (by omega)) (by omega))
         have DV5 := Lib.hid (dbox_same HV4.out (hB5.block _ (by omega))); have DD5 := Lib.hid (dbox_same HD4.out (hB5.block _ (by omega)))
         have s5 := DV5.out.cells.2.1)
      | (refine Ec.step_cAppL waQ _ _ (es.take (k + 1)) hN5 _ _ _ (es.length - (k)) (k0 - (k)) (es.drop (k)) HD5.out (by omega) (.tmp 68) (.tmp 72) rfl rfl (by go_simp) (by go_simp) ?_; intro v6 w6 hN6 hB6; generalize hysQ : es.take (k + 1) ++ es.drop (k) = ysQ at hN6; have HYQ := Lib.hid hysQ; clear hysQ
         have DD6 := Lib.hid (dbox_same DD5.out (hB6.block _ (by omega))); have DV6 := Lib.hid (dbox_same DV5.out (hB6.block _ (by omega))); obtain ⟨r0, r1, rf⟩ := DD6.out.cells
         have hO6 := hN6.own; obtain ⟨A6, c6, rfl, ho6, hb6⟩ := hO6
         have s6 := DV6.out.cells.2.1; have s7 := dbox_far DV6.out (q := wbP.heap.size) (by omega) 1 (.slice A6 ysQ.length c6))
      | fail)
  have HE6 : Hid (Ens waQ.heap.size w6.heap.size (w6.setCell ⟨wbP.heap.size, 1, none⟩ (.slice A6 ysQ.length c6)) A6 ysQ.length c6 ysQ) := ho6.row_.keep (by simp [World.setCell]) fun q h1 _ _ => Below.heap_setCell _ _ _ _ (show q ≠ wbP.heap.size by omega)
  have HB6 : Hid (DBox (w6.setCell ⟨wbP.heap.size, 1, none⟩ (.slice A6 ysQ.length c6)) wbP.heap.size ep A6 ysQ.length c6) := dbox_set1 DD6.out _ _ _
  have hbc : Below wbP.heap.size wbP (w6.setCell ⟨wbP.heap.size, 1, none⟩ (.slice A6 ysQ.length c6)) := (HAL.out.trans (hb6.mono (by omega))).setCell (p := ⟨wbP.heap.size, 1, none⟩) (Nat.le_refl _) _
  have hws : w6.heap.size = (w6.setCell ⟨wbP.heap.size, 1, none⟩ (.slice A6 ysQ.length c6)).heap.size := by simp [World.setCell]
  rw [hws] at HE6
  clear hws S0 SE s5 s6 s7 r0 r1 rf ho6 hb6 hB6 hN6 hN5 hB5 HD5 DV5 DV6 DD5 DD6 HX4 HT HA HV4 HD4 HAL DA
  generalize (w6.setCell ⟨wbP.heap.size, 1, none⟩ (.slice A6 ysQ.length c6)) = wbQ at *
  have ZDQ := Lib.hid (show Vd w.heap.size wbQ wbP.heap.size ep A6 c6 ysQ from ⟨HB6.out, B.out.size, HE6.out.mono (by have := B.out.size; omega) (Nat.le_refl _)⟩)
  clear HE6 HB6
  replace V0 := Lib.hid (V0.out.below hbc (Nat.le_refl _))
  replace ZDP := Lib.hid (ZDP.out.below hbc (Nat.le_refl _))
  replace B := Lib.hid (B.out.trans (hbc.mono B.out.size))
  have zQ := hbc.size
  clear hbc
  rw [HYP.out] at HG1
  rw [HYQ.out] at HG2
  obtain ⟨ZDP0, ZDP1, ZDPf⟩ := ZDP.out.1.cells
  go_wp2_with fail
  all_goals
    ((with_reducible refine (validI HG1.out ZDP.out.st).mono ?_); rintro e w4 ⟨rfl, hb⟩)
    replace V0 := Lib.hid (V0.out.below hb (Nat.le_refl _))
    replace ZDP := Lib.hid (ZDP.out.below hb (Nat.le_refl _))
    replace ZDQ := Lib.hid (ZDQ.out.below hb (Nat.le_refl _))
    replace B := Lib.hid (B.out.trans (hb.mono B.out.size))
    have z4 := hb.size
    clear ZDP0 ZDP1 ZDPf hb
    obtain ⟨ZDQ0, ZDQ1, ZDQf⟩ := ZDQ.out.1.cells
    go_wp2_with fail
    ((with_reducible refine (validI HG2.out ZDQ.out.st).mono ?_); rintro e w5 ⟨rfl, hb⟩)
    replace V0 := Lib.hid (V0.out.below hb (Nat.le_refl _))
    replace ZDP := Lib.hid (ZDP.out.below hb (Nat.le_refl _))
    replace ZDQ := Lib.hid (ZDQ.out.below hb (Nat.le_refl _))
    replace B := Lib.hid (B.out.trans (hb.mono B.out.size))
    have z5 := hb.size
    clear ZDQ0 ZDQ1 ZDQf hb
    go_wp2
    go_ret
    exact ⟨rfl, B.out⟩

end Law9
end Go.Proofs.Ytfjggpdinfidcaa
