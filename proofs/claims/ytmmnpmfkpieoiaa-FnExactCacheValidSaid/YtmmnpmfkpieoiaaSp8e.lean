/-
  Contract of the model's CacheTurn.
-/
import Derived.Test.YtmmnpmfkpieoiaaSp8d
namespace Go.Proofs.Ytmmnpmfkpieoiaa
open Go.RowKit
namespace Sp8
open Il Sl Fo Cm Cs Sg Gm

theorem cacheP_fin {c : Ch} {v : Value} {w wF : World} {A : Option Addr} {k : Nat} {G : List (List Nat)} {b lo : Nat} (ho : StsO wF A c.sl.length k c.sl G) (hG : Within lo wF.heap.size G) (hb : b < lo) (hwb : w.heap.size ≤ b) (hbw : Below w.heap.size w wF) (u0 u1 : Value) :
    CacheP c v w (.returned (.tuple #[.agg #[.int .i64 c.ep, .slice A c.sl.length k], v])) ((wF.setCell ⟨b, 0, none⟩ u0).setCell ⟨b, 1, none⟩ u1) := by
  have hsz : ((wF.setCell ⟨b, 0, none⟩ u0).setCell ⟨b, 1, none⟩ u1).heap.size = wF.heap.size := by simp [World.setCell]
  exact ⟨A, k, G, rfl, ho.keep (by omega) fun f hf x hx => (Below.heap_setCell _ _ _ _ (show x ≠ b by have := hG f hf x hx; omega)).trans (Below.heap_setCell _ _ _ _ (show x ≠ b by have := hG f hf x hx; omega)),
    fun f hf x hx => by have := hG f hf x hx; omega, (hbw.setCell (p := ⟨b, 0, none⟩) hwb _).setCell (p := ⟨b, 1, none⟩) hwb _⟩
set_option maxRecDepth 20000 in
set_option maxHeartbeats 2000000 in
theorem CacheTurn (c : Ch) (A : Option Addr) (n k lo hi : Nat) (w : World) (hx : Sts lo hi w A n k c.sl) :
    Calls Try.prog 29 #[.agg #[.int .i64 c.ep, .slice A n k]] w (CacheP (turnF c) (.bool (turnB c)) w) := by
  have hk1 := hx.max_
  have hk2 := hx.cap_
  have HL := Lib.hid hx.len_
  unfold maxLen at hk1
  obtain ⟨z0, z1, hs2, hb2⟩ := two_blocks w #[.int .i64 c.ep, .slice A n k] #[.int .i64 0, .slice none 0 0] 26 26
  have HX := Lib.hid ((hx.top (Nat.zero_le _)).below hb2 (Nat.le_refl _))
  have HB := Lib.hid hb2
  have K0 := Lib.hid z0
  have K1 := Lib.hid z1
  have HS2 := Lib.hid hs2
  clear hx hb2 z0 z1 hs2
  cases hok : chOk c
  · have HV := Lib.hid (turn_no hok)
    go_enter Try.func29, Try.ntmps29
    go_wp2_with fail
    ((with_reducible refine (CacheValid c _ _ _ _ _ _ HX.out).mono ?_); rintro e w1 ⟨rfl, hb1⟩)
    rw [hok]
    have HB1 := Lib.hid (HB.out.trans (hb1.mono HB.out.size))
    obtain ⟨x0, x1, xf⟩ := two_cells (K1.out.below hb1 (Nat.le_refl _))
    clear hb1 hok
    go_wp2
    refine bodyPost_ret (v := .tuple #[.agg #[.int .i64 0, .slice none 0 0], .bool false]) ?_ rfl ?_
    · rw [results_cell_tmp rfl]
      go_simp
    · rw [HV.out.1, HV.out.2]
      exact cacheP_zero _ ((HB1.out.setCell (p := ⟨w.heap.size + 1, 0, none⟩) (show w.heap.size ≤ w.heap.size + 1 by omega) _).setCell (p := ⟨w.heap.size + 1, 1, none⟩) (show w.heap.size ≤ w.heap.size + 1 by omega) _)
  have HOK := Lib.hid hok
  have HC := Lib.hid (chOk_iff.1 hok).2.1
  have HL3 := Lib.hid (chOk_iff.1 hok).2.2
  have HAS := Lib.hid (all_small hok)
  have HN3 : Hid (n ≤ 1000) := by show n ≤ 1000; rw [← HL.out, HL3.out]; omega
  have hc0 := HC.out.1
  have hc1 := HC.out.2
  go_enter Try.func29, Try.ntmps29
  go_wp2_with fail
  ((with_reducible refine (CacheValid c _ _ _ _ _ _ HX.out).mono ?_); rintro e w1 ⟨rfl, hb1⟩)
  rw [hok]
  replace HB := Lib.hid (HB.out.trans (hb1.mono HB.out.size))
  replace K0 := Lib.hid (K0.out.below hb1 (Nat.le_refl _))
  replace K1 := Lib.hid (K1.out.below hb1 (Nat.le_refl _))
  replace HX := Lib.hid (HX.out.below hb1 (Nat.le_refl _))
  have hw1 : w.heap.size + 1 < w1.heap.size := K1.out.lt
  obtain ⟨z0, z1, zf⟩ := two_cells K0.out
  clear hb1 hok HS2
  go_wp2_with fail
  ((with_reducible refine (l13Copy c _ _ _ _ _ _ HX.out HN3.out HAS.out).mono ?_); rintro e w3 ⟨A9, k9, ss, rfl, hg, hss, hb3⟩)
  rw [HL3.out] at hg ⊢
  have hssl : ss.length = 3 := by rw [← HL3.out, ← hss, List.length_map]
  have hw3 := hb3.size
  replace HB := Lib.hid (HB.out.trans (hb3.mono HB.out.size))
  replace K0 := Lib.hid (K0.out.below hb3 (Nat.le_refl _))
  replace K1 := Lib.hid (K1.out.below hb3 (Nat.le_refl _))
  clear z0 z1 zf hb3
  go_upto_region 4 with (fail)
  have hal : Below w3.heap.size w3 (w3.alloc (.cells #[.int .i64 c.ep, .slice A9 3 k9] 26)) := (Below.refl _ _).alloc (Nat.le_refl _) _
  have K4 := Lib.hid (blk_new w3 #[.int .i64 c.ep, .slice A9 3 k9] 26)
  replace HB := Lib.hid (HB.out.trans (hal.mono HB.out.size))
  replace K0 := Lib.hid (K0.out.below hal (Nat.le_refl _))
  replace K1 := Lib.hid (K1.out.below hal (Nat.le_refl _))
  have HG := Lib.hid ((hg.below hal (Nat.le_refl _)).mono (Nat.le_refl _) (Nat.le_refl _))
  have hs4 : w3.heap.size < (w3.alloc (.cells #[.int .i64 c.ep, .slice A9 3 k9] 26)).heap.size := by simp
  have HSS := Lib.hid hss
  clear hal hg hss
  generalize w3.alloc (.cells #[.int .i64 c.ep, .slice A9 3 k9] 26) = w4 at *
  obtain ⟨z0, z1, zf⟩ := two_cells K0.out
  by_cases h99 : c.ep < 99
  case neg =>
    have HV := Lib.hid (turn_last HOK.out h99)
    obtain ⟨A', k', G, e, ho, hw⟩ := HG.out.own
    rw [hssl] at e ho
    simp only [Value.slice.injEq, true_and] at e
    obtain ⟨rfl, rfl⟩ := e
    rw [HSS.out, ← HL3.out] at ho
    have HP := Lib.hid (cacheP_fin (v := .bool false) (w := w) (b := w.heap.size + 1) ho (hw.mono (Nat.le_refl _) (by omega)) (by omega) (by omega) HB.out (.int .i64 c.ep) (.slice A9 c.sl.length k9))
    rw [HL3.out] at HP
    obtain ⟨x0, x1, xf⟩ := two_cells K1.out
    obtain ⟨y0, y1, yf⟩ := two_cells K4.out
    clear ho hw
    go_wp2
    refine bodyPost_ret (v := .tuple #[.agg #[.int .i64 c.ep, .slice A9 3 k9], .bool false]) ?_ rfl ?_
    · rw [results_cell_tmp rfl]
      go_simp
    · rw [HV.out.1, HV.out.2]
      exact HP.out
  have HV := Lib.hid (turn_yes HOK.out h99)
  obtain ⟨y0, y1, yf⟩ := two_cells K4.out
  go_upto_region 7 with (fail)
  clear z0 z1 zf y0 y1 yf
  have hkp : ∀ x, x ≠ w3.heap.size → (w4.setCell ⟨w3.heap.size, 0, none⟩ (.int .i64 (c.ep + 1))).heap[x]? = w4.heap[x]? := fun x h => Below.heap_setCell _ _ _ _ h
  have hs5 : w4.heap.size ≤ (w4.setCell ⟨w3.heap.size, 0, none⟩ (.int .i64 (c.ep + 1))).heap.size := by simp [World.setCell]
  replace HB := Lib.hid (HB.out.setCell (p := ⟨w3.heap.size, 0, none⟩) (show w.heap.size ≤ w3.heap.size by omega) (.int .i64 (c.ep + 1)))
  replace K1 := Lib.hid (K1.out.same (hkp _ (by omega)))
  replace K4 := Lib.hid (blk_set0 (v := .int .i64 (c.ep + 1)) K4.out)
  replace HG := Lib.hid (HG.out.keep (w' := w4.setCell ⟨w3.heap.size, 0, none⟩ (.int .i64 (c.ep + 1))) (by omega) (fun x q1 q2 q3 => hkp x (by omega)))
  clear hkp
  generalize w4.setCell ⟨w3.heap.size, 0, none⟩ (.int .i64 (c.ep + 1)) = w5 at *
  have hal : Below w5.heap.size w5 (w5.alloc (.cells #[] 3)) := (Below.refl _ _).alloc (Nat.le_refl _) _
  have HG6 := Lib.hid (HG.out.below hal (Nat.le_refl _))
  replace HB := Lib.hid (HB.out.trans (hal.mono HB.out.size))
  have K16 := Lib.hid (K1.out.below hal (Nat.le_refl _))
  have K46 := Lib.hid (K4.out.below hal (Nat.le_refl _))
  have hs6 : w5.heap.size ≤ (w5.alloc (.cells #[] 3)).heap.size := hal.size
  obtain ⟨kk, cap, e9, hcap, hcapm⟩ := HG6.out.first hssl (by omega)
  simp only [Value.slice.injEq, true_and] at e9
  obtain ⟨rfl, rfl⟩ := e9
  unfold maxLen at hcapm
  have HSL := Lib.hid hssl
  clear hssl hal
  obtain ⟨y0, y1, yf⟩ := two_cells K4.out
  have hc3 : (3 : Int) ≤ (k9 : Int) := by omega
  have hne1 : ¬ k9 = 1 := by omega
  go_wp2_with (at_builtin; refine wpList_tailK HG6.out HSL.out (by omega) (by omega) (some ⟨w5.heap.size, 0, none⟩) 0 (Nat.zero_le _) _ _ rfl rfl (by go_simp) (by go_simp) ?_; intro A7 c7 w7 hst7 hb7 hk7; obtain ⟨q0, q1, qf⟩ := two_cells (K46.out.same (hk7 _ (by omega) (.inr (by omega)))))
  have hs7 := hb7.size
  have HD : Hid ((ss.map (·.xs)).drop 1 ++ [[]] = c.sl.drop 1 ++ [[]]) := by show _ = _; rw [HSS.out]
  go_upto_region 8 with (fail)
  have hs8 : w7.heap.size ≤ (w7.setCell ⟨w3.heap.size, 1, none⟩ (.slice A7 3 c7)).heap.size := Nat.le_of_eq (by simp [World.setCell])
  have hst8 := hst7 (w7.setCell ⟨w3.heap.size, 1, none⟩ (.slice A7 3 c7)) hs8 (fun y hy => Below.heap_setCell _ _ _ _ (show y ≠ w3.heap.size by omega))
  rw [HD.out] at hst8
  have K48 := Lib.hid (blk_set1 (v := .slice A7 3 c7) (K46.out.same (hk7 _ (by omega) (.inr (by omega)))))
  have K18 := Lib.hid (K16.out.same ((Below.heap_setCell w7 ⟨w3.heap.size, 1, none⟩ (.slice A7 3 c7) _ (show w.heap.size + 1 ≠ w3.heap.size by omega)).trans (hk7 _ (by omega) (.inl (by omega)))))
  replace HB := Lib.hid ((HB.out.trans (hb7.mono (by omega))).setCell (p := ⟨w3.heap.size, 1, none⟩) (show w.heap.size ≤ w3.heap.size by omega) (.slice A7 3 c7))
  have HX8 : Hid (Sts w1.heap.size (w7.setCell ⟨w3.heap.size, 1, none⟩ (.slice A7 3 c7)).heap.size (w7.setCell ⟨w3.heap.size, 1, none⟩ (.slice A7 3 c7)) A7 3 c7 (Ch.mk (c.ep + 1) (c.sl.drop 1 ++ [[]])).sl) := hst8
  have HAS8 : Hid (∀ x ∈ (Ch.mk (c.ep + 1) (c.sl.drop 1 ++ [[]])).sl, x.length ≤ 1000) := fun x hx => by
    rcases List.mem_append.1 hx with hx | hx
    · exact HAS.out x (List.mem_of_mem_drop hx)
    · simp at hx; subst hx; simp
  have HL8 : Hid ((Ch.mk (c.ep + 1) (c.sl.drop 1 ++ [[]])).sl.length = 3) := by show (c.sl.drop 1 ++ [[]]).length = 3; simp [HL3.out]
  clear hst7 hst8 hk7 hb7 q0 q1 qf y0 y1 yf K46 K16 HG6 HG K4 K1 HD HSS
  generalize w7.setCell ⟨w3.heap.size, 1, none⟩ (.slice A7 3 c7) = w8 at *
  obtain ⟨y0, y1, yf⟩ := two_cells K48.out
  go_wp2_with fail
  ((with_reducible refine (l13Copy (Ch.mk (c.ep + 1) (c.sl.drop 1 ++ [[]])) _ _ _ _ _ _ HX8.out (by omega) HAS8.out).mono ?_); rintro e w9 ⟨A9, k9, ss9, rfl, hg9, hss9, hb9⟩)
  rw [HL8.out] at hg9 ⊢
  have hs9 := hb9.size
  have hl9 : ss9.length = 3 := by
    have h1 := congrArg List.length hss9
    rw [List.length_map] at h1
    exact h1.trans HL8.out
  obtain ⟨A', k', G, e, ho, hwG⟩ := hg9.own
  rw [hl9] at e ho
  simp only [Value.slice.injEq, true_and] at e
  obtain ⟨rfl, rfl⟩ := e
  rw [hss9, ← HL8.out] at ho
  have HP := Lib.hid (cacheP_fin (v := .bool true) (w := w) (b := w.heap.size + 1) ho hwG (by omega) (by omega) (HB.out.trans (hb9.mono HB.out.size)) (.int .i64 (c.ep + 1)) (.slice A9 (Ch.mk (c.ep + 1) (c.sl.drop 1 ++ [[]])).sl.length k9))
  rw [HL8.out] at HP
  obtain ⟨x0, x1, xf⟩ := two_cells (K18.out.below hb9 (Nat.le_refl _))
  clear ho hwG hg9 hss9 hb9 y0 y1 yf
  go_wp2
  refine bodyPost_ret (v := .tuple #[.agg #[.int .i64 (c.ep + 1), .slice A9 3 k9], .bool true]) ?_ rfl ?_
  · rw [results_cell_tmp rfl]
    go_simp
  · rw [HV.out.1, HV.out.2]
    exact HP.out

end Sp8
end Go.Proofs.Ytmmnpmfkpieoiaa
