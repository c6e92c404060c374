/-
  The contract of the program's PacketPeel.
-/
import Derived.Test.YtnjcpbkpcmemeacIm5d
import Derived.Deep.QuietTactic
import Derived.Deep.RegionLaw
namespace Go.Proofs.Ytnjcpbkpcmemeac
open Go.RowKit
namespace Im5
open Il Gm Mm Tm Lm Pm Pn Pq Im2 Im3 Im4

set_option maxHeartbeats 4000000 in
set_option maxRecDepth 20000 in
theorem PacketPeel (lo hi lo2 hi2 : Nat) (A B : Option Addr) (n c m d : Nat) (x el tag : Int) (hd bd : List Int) (w : World) (hh : Ints lo hi w A n c hd) (hb : Ints lo2 hi2 w B m d bd) :
    Calls Try.prog 58 #[.int .i64 x, .agg #[.int .i64 el, .slice A n c, .int .i64 tag, .slice B m d]] w (PldPost (peelF x ⟨el, hd, tag, bd⟩) (peelOk x ⟨el, hd, tag, bd⟩) w) := by
  have L1 := Lib.hid hh.1
  have L2 := Lib.hid hb.1
  have h0a : Below w.heap.size w (w.alloc (.cells #[.int .i64 el, .slice A n c, .int .i64 tag, .slice B m d] 37)) := (Below.refl _ _).alloc (Nat.le_refl _) _
  have h0 : Below w.heap.size w ((w.alloc (.cells #[.int .i64 el, .slice A n c, .int .i64 tag, .slice B m d] 37)).alloc (.cells #[.int .i64 0, .int .i64 0, .int .i64 0, .slice none 0 0, .int .i64 0, .slice none 0 0] 39)) := h0a.alloc h0a.size _
  have HT0 : Hid (TwoB ((w.alloc (.cells #[.int .i64 el, .slice A n c, .int .i64 tag, .slice B m d] 37)).alloc (.cells #[.int .i64 0, .int .i64 0, .int .i64 0, .slice none 0 0, .int .i64 0, .slice none 0 0] 39)) w.heap.size (.int .i64 el) (.slice A n c) (.int .i64 tag) (.slice B m d)) := by
    refine ⟨(Below.heap_alloc _ _ _ (by simp)).trans (heap_alloc_new w _), ?_⟩
    have := heap_alloc_new (w.alloc (.cells #[.int .i64 el, .slice A n c, .int .i64 tag, .slice B m d] 37)) (.cells #[.int .i64 0, .int .i64 0, .int .i64 0, .slice none 0 0, .int .i64 0, .slice none 0 0] 39)
    simpa using this
  have HH := Lib.hid (hh.below h0 (Nat.le_refl _))
  have HB := Lib.hid (hb.below h0 (Nat.le_refl _))
  have hs0 : ((w.alloc (.cells #[.int .i64 el, .slice A n c, .int .i64 tag, .slice B m d] 37)).alloc (.cells #[.int .i64 0, .int .i64 0, .int .i64 0, .slice none 0 0, .int .i64 0, .slice none 0 0] 39)).heap.size = w.heap.size + 1 + 1 := by simp
  have HNO : Hid (∀ w', peelOk x ⟨el, hd, tag, bd⟩ = false → Below w.heap.size w w' → PldPost (peelF x ⟨el, hd, tag, bd⟩) (peelOk x ⟨el, hd, tag, bd⟩) w (.returned (.tuple #[.agg #[.int .i64 0, .int .i64 0, .int .i64 0, .slice none 0 0, .int .i64 0, .slice none 0 0], .bool false])) w') := fun w' h hb => by
    rw [peelF_no h, h]; exact pld_zero hb
  have B0 := Lib.hid h0
  clear hh hb h0 h0a
  cases hg : inG x
  · have hv : peelOk x ⟨el, hd, tag, bd⟩ = false := by
      cases h : peelOk x ⟨el, hd, tag, bd⟩
      · rfl
      · obtain ⟨q1, q2, q3, q4, q5⟩ := peelOk_iff.1 h
        rw [hg] at q1; cases q1
    have HV := Lib.hid hv
    clear hv
    go_enter Try.func58, Try.ntmps58
    go_wp2_with fail
    ((with_reducible refine (inRange x _).mono ?_); rintro e w' ⟨rfl, rfl⟩)
    rw [hg]
    clear hg
    go_wp2
    refine bodyPost_ret (v := .tuple #[.agg #[.int .i64 0, .int .i64 0, .int .i64 0, .slice none 0 0, .int .i64 0, .slice none 0 0], .bool false]) ?_ rfl (HNO.out _ HV.out ?_)
    · rw [results_cell_tmp rfl]
      go_simp
    · exact B0.out
  go_enter Try.func58, Try.ntmps58
  go_wp2_with fail
  ((with_reducible refine (inRange x _).mono ?_); rintro e w' ⟨rfl, rfl⟩)
  rw [hg]
  have HG := Lib.hid hg
  clear hg
  go_wp2_with fail
  ((with_reducible refine (PacketValid _ _ _ _ _ _ _ _ _ _ el tag hd bd _ HH.out HB.out).mono ?_); rintro e w1 ⟨rfl, hb1⟩)
  have HT1 := Lib.hid (HT0.out.below hb1 (by omega))
  have B1 := Lib.hid (B0.out.trans (hb1.mono (by omega)))
  replace HH := Lib.hid (HH.out.below hb1 (Nat.le_refl _))
  replace HB := Lib.hid (HB.out.below hb1 (Nat.le_refl _))
  have hs1 := hb1.size
  rw [hs0] at hs1
  clear hb1 HT0 B0 hs0
  obtain ⟨p0, p1, p2, p3, pf⟩ := four_cells HT1.out.1
  obtain ⟨z0, z1, z2, z3, z4, z5, zf⟩ := six_cells HT1.out.2
  cases hp : pktOk ⟨el, hd, tag, bd⟩
  · have hv : peelOk x ⟨el, hd, tag, bd⟩ = false := by
      cases h : peelOk x ⟨el, hd, tag, bd⟩
      · rfl
      · obtain ⟨q1, q2, q3, q4, q5⟩ := peelOk_iff.1 h
        rw [q2] at hp; cases hp
    have HV := Lib.hid hv
    clear hv
    go_wp2
    refine bodyPost_ret (v := .tuple #[.agg #[.int .i64 0, .int .i64 0, .int .i64 0, .slice none 0 0, .int .i64 0, .slice none 0 0], .bool false]) ?_ rfl (HNO.out _ HV.out ?_)
    · rw [results_cell_tmp rfl]
      go_simp
    · exact ((((((B1.out.setCell (by simp) _).setCell (by simp) _).setCell (by simp) _).setCell (by simp) _).setCell (by simp) _).setCell (by simp) _)
  have HP := Lib.hid hp
  clear hp
  obtain ⟨g1, g2, g3, g4, g5, g6⟩ := pktOk_iff.1 HP.out
  dsimp only at g1 g2 g3 g4 g5 g6
  have hn9 : n = 9 := by rw [← L1.out]; exact g3
  have hm6 : m = 6 := by rw [← L2.out]; exact g6
  subst hn9
  subst hm6
  have HKG : Hid (inG (mulG x el) = true) := mulG_pos HG.out g1
  have HKE : Hid (Pm.keyOf x ⟨el, hd, tag, bd⟩ = mulG x el) := rfl
  have HTG : Hid (tagC (mulG x el) hd tag = decide (tagL (mulG x el) hd = tag)) := by
    show _ = _
    unfold tagC
    rw [tagF_yes HKG.out g2]
    exact decide_eq_decide.2 ⟨fun h => h.2, fun h => ⟨(inN_iff.1 g4).1, h⟩⟩
  have HOKP : Hid (okL (hd ++ List.replicate (12 - 9) 0) = true) := by
    refine okL_iff.2 ⟨fun y hy => ?_, by simp [g3]⟩
    rcases List.mem_append.1 hy with h | h
    · exact (okL_iff.1 g2).1 y h
    · have := (List.mem_replicate.1 h).2; omega
  have HPL : Hid (offF (hd ++ List.replicate (12 - 9) 0) (mulG x el) = plainF hd (mulG x el)) := offF_yes HOKP.out HKG.out
  have HPN := Lib.hid (plainF_len (mulG x el) g3)
  have HBO : Hid (offF bd (mulG x el) = offL bd (mulG x el)) := offF_yes g5 HKG.out
  have HBN : Hid ((offL bd (mulG x el)).length = 6) := by show _ = _; rw [offL_len, g6]
  have HRAW : Hid (peelRaw x ⟨el, hd, tag, bd⟩ = ⟨(plainF hd (mulG x el)).getD 0 0, (plainF hd (mulG x el)).getD 1 0, ⟨mulG el (facG (mulG x el)), (plainF hd (mulG x el)).drop 3, (plainF hd (mulG x el)).getD 2 0, offL bd (mulG x el)⟩⟩) := rfl
  have HOK : Hid (peelOk x ⟨el, hd, tag, bd⟩ = (decide (tagL (mulG x el) hd = tag) && (decide (0 ≤ (plainF hd (mulG x el)).getD 0 0 ∧ (plainF hd (mulG x el)).getD 0 0 ≤ 1) && inName ((plainF hd (mulG x el)).getD 1 0)))) := by
    show peelOk _ _ = _
    unfold peelOk
    rw [HG.out, HP.out]
    rfl
  clear g1 g2 g3 g4 g5 g6
  go_wp2_with fail
  ((with_reducible refine (Grp.iShared x el _).mono ?_); rintro e w' ⟨rfl, rfl⟩)
  generalize mulG x el = s at *
  go_wp2_with fail
  ((with_reducible refine (TagCheck _ _ _ _ _ hd s tag w1 HH.out).mono ?_); rintro e w2 ⟨rfl, hb2⟩)
  rw [HTG.out]
  have HT2 := Lib.hid (HT1.out.below hb2 (by omega))
  have B2 := Lib.hid (B1.out.trans (hb2.mono (by omega)))
  replace HH := Lib.hid (HH.out.below hb2 (Nat.le_refl _))
  replace HB := Lib.hid (HB.out.below hb2 (Nat.le_refl _))
  have hs2 := hb2.size
  clear hb2 HT1 B1 p0 p1 p2 p3 pf z0 z1 z2 z3 z4 z5 zf
  obtain ⟨p0, p1, p2, p3, pf⟩ := four_cells HT2.out.1
  obtain ⟨z0, z1, z2, z3, z4, z5, zf⟩ := six_cells HT2.out.2
  cases ht : decide (tagL s hd = tag)
  · have hv : peelOk x ⟨el, hd, tag, bd⟩ = false := by
      cases h : peelOk x ⟨el, hd, tag, bd⟩
      · rfl
      · obtain ⟨q1, q2, q3, q4, q5⟩ := peelOk_iff.1 h
        exact absurd q3 (by rw [HKE.out]; exact of_decide_eq_false ht)
    have HV := Lib.hid hv
    clear hv
    go_wp2
    refine bodyPost_ret (v := .tuple #[.agg #[.int .i64 0, .int .i64 0, .int .i64 0, .slice none 0 0, .int .i64 0, .slice none 0 0], .bool false]) ?_ rfl (HNO.out _ HV.out ?_)
    · rw [results_cell_tmp rfl]
      go_simp
    · exact ((((((B2.out.setCell (by simp) _).setCell (by simp) _).setCell (by simp) _).setCell (by simp) _).setCell (by simp) _).setCell (by simp) _)
  have HTT := Lib.hid (of_decide_eq_true ht)
  clear ht
  go_wp2_with fail
  ((with_reducible refine (unmaskHeader _ _ _ _ _ hd s w2 HH.out (by omega)).mono ?_); rintro e w3 ⟨AO, rfl, oo, hb3⟩)
  rw [HPL.out, HPN.out] at oo ⊢
  have HT3 := Lib.hid (HT2.out.below hb3 (by omega))
  have B3 := Lib.hid (B2.out.trans (hb3.mono (by omega)))
  replace HB := Lib.hid (HB.out.below hb3 (Nat.le_refl _))
  have hs3 := hb3.size
  obtain ⟨bo, fo, rfl, hbo1, hbo2, o0⟩ := oo.ints.at_ (k := 0) (by omega)
  obtain ⟨_, _, eo, _, _, o1⟩ := oo.ints.at_ (k := 1) (by omega)
  simp only [Option.some.injEq, Addr.mk.injEq, and_true] at eo
  obtain ⟨rfl, rfl⟩ := eo
  obtain ⟨_, _, eo, _, _, o2⟩ := oo.ints.at_ (k := 2) (by omega)
  simp only [Option.some.injEq, Addr.mk.injEq, and_true] at eo
  obtain ⟨rfl, rfl⟩ := eo
  have HO := Lib.hid oo
  have hbd := fun j => Pm.getD_in (xs := plainF hd s) (fun y hy => by
    have := (okL_iff.1 (offL_ok (xs := hd ++ [0, 0, 0]) s (by simp [L1.out]))).1 y hy
    exact this) j
  have q0 := hbd 0
  have q1 := hbd 1
  clear hb3 oo HT2 B2 p0 p1 p2 p3 pf z0 z1 z2 z3 z4 z5 zf HH hbd
  obtain ⟨p0, p1, p2, p3, pf⟩ := four_cells HT3.out.1
  obtain ⟨z0, z1, z2, z3, z4, z5, zf⟩ := six_cells HT3.out.2
  generalize hk0 : (plainF hd s).getD 0 0 = kind at *
  generalize hk1 : (plainF hd s).getD 1 0 = next at *
  generalize hk2 : (plainF hd s).getD 2 0 = tag2 at *
  clear hk0 hk1 hk2
  rw [Nat.add_zero] at o0
  go_wp2
  go_quiet (fail)
  by_cases hk : ¬ (kind = 0 ∨ kind = 1)
  · have hv : peelOk x ⟨el, hd, tag, bd⟩ = false := by
      cases h : peelOk x ⟨el, hd, tag, bd⟩
      · rfl
      · obtain ⟨q1, q2, q3, q4, q5⟩ := peelOk_iff.1 h
        rw [HRAW.out] at q4; dsimp only at q4; omega
    have HV := Lib.hid hv
    clear hv
    go_wp2_with fail
    ((with_reducible refine (kindValid kind _).mono ?_); rintro e w' ⟨rfl, rfl⟩)
    rw [kindB_no hk]
    clear hk
    go_wp2
    refine bodyPost_ret (v := .tuple #[.agg #[.int .i64 0, .int .i64 0, .int .i64 0, .slice none 0 0, .int .i64 0, .slice none 0 0], .bool false]) ?_ rfl (HNO.out _ HV.out ?_)
    · rw [results_cell_tmp rfl]
      go_simp
    · exact (((((((below_dr B3.out _).setCell (by simp) _).setCell (by simp) _).setCell (by simp) _).setCell (by simp) _).setCell (by simp) _).setCell (by simp) _)
  have hk' : kind = 0 ∨ kind = 1 := by omega
  clear hk
  go_wp2_with fail
  ((with_reducible refine (kindValid kind _).mono ?_); rintro e w' ⟨rfl, rfl⟩)
  rw [kindB_yes hk']
  cases hn : inName next
  · have hv : peelOk x ⟨el, hd, tag, bd⟩ = false := by
      cases h : peelOk x ⟨el, hd, tag, bd⟩
      · rfl
      · obtain ⟨q1, q2, q3, q4, q5⟩ := peelOk_iff.1 h
        rw [HRAW.out] at q5; dsimp only at q5; rw [q5] at hn; cases hn
    have HV := Lib.hid hv
    clear hv
    rcases hk' with rfl | rfl
    all_goals
      go_wp2_with fail
      ((with_reducible refine (nameValid next _).mono ?_); rintro e w' ⟨rfl, rfl⟩)
      rw [hn]
      clear hn
      go_wp2
      refine bodyPost_ret (v := .tuple #[.agg #[.int .i64 0, .int .i64 0, .int .i64 0, .slice none 0 0, .int .i64 0, .slice none 0 0], .bool false]) ?_ rfl (HNO.out _ HV.out ?_)
      · rw [results_cell_tmp rfl]
        go_simp
      · exact (((((((below_dr B3.out _).setCell (by simp) _).setCell (by simp) _).setCell (by simp) _).setCell (by simp) _).setCell (by simp) _).setCell (by simp) _)
  have HV : Hid (peelOk x ⟨el, hd, tag, bd⟩ = true) := by
    show _ = _
    rw [HOK.out, decide_eq_true HTT.out, hn, decide_eq_true (by omega)]
    rfl
  have HNN := Lib.hid hn
  clear HNO q0 q1 HTG HOK HTT p0 p1 p2 p3 pf z0 z1 z2 z3 z4 z5 zf o0 o1 o2
  generalize hw3e : w3.drewN _ = w4
  obtain ⟨nn, e4⟩ : ∃ nn, w4 = w3.drewN nn := ⟨_, hw3e.symm⟩
  clear hw3e
  have HT4 : Hid (TwoB w4 w.heap.size (.int .i64 el) (.slice A 9 c) (.int .i64 tag) (.slice B 6 d)) := by rw [e4]; exact HT3.out
  have HO4 : Hid (Il.Own w2.heap.size w4.heap.size w4 (some ⟨bo, fo, none⟩) 12 12 (plainF hd s)) := by rw [e4]; exact HO.out
  have HB4 : Hid (Ints lo2 hi2 w4 B 6 d bd) := by rw [e4]; exact HB.out
  have B4 : Hid (Below w.heap.size w w4) := by rw [e4]; exact below_dr B3.out _
  have hs4 : w2.heap.size ≤ w4.heap.size := by rw [e4]; exact hs3
  have hbo4 : bo < w4.heap.size := by rw [e4]; exact hbo2
  clear e4 HT3 HO HB B3 hs3 hbo2
  obtain ⟨p0, p1, p2, p3, pf⟩ := four_cells HT4.out.1
  rcases hk' with rfl | rfl
  · skip
    go_wp2_with fail
    ((with_reducible refine (nameValid next _).mono ?_); rintro e w' ⟨rfl, rfl⟩)
    rw [hn]
    clear hn
    go_wp2_with fail
    go_quiet ((first | (go_at_call 87; exact quiet_eq (Grp.iFactor s _)) | (go_at_call 86; exact quiet_eq (Grp.iBlind el (facG s) _))))
    generalize mulG el (facG s) = el2 at *
    have hw4 := HT4.out.2
    have hwlt : w.heap.size + 1 < w4.heap.size := (Array.getElem?_eq_some_iff.1 hw4).1
    have p3a : ∀ k, ((w4.drewN k).alloc (.cells #[.int .i64 0, .slice none 0 0, .int .i64 0, .slice none 0 0] 37)).cell? ⟨w.heap.size, 3, none⟩ = some (.slice B 6 d) := fun k => (((Below.refl w4.heap.size (w4.drewN k)).alloc (Nat.le_refl _) (.cells #[.int .i64 0, .slice none 0 0, .int .i64 0, .slice none 0 0] 37)).cell (p := ⟨w.heap.size, 3, none⟩) (show w.heap.size < w4.heap.size by omega)).trans p3
    clear hw4
    go_wp2_with fail
    go_region_law ((go_simp; go_at_call 88; first | (refine (MaskOff _ _ _ _ _ bd s _ ((HB4.out.drewN _).below (B := w4.heap.size) ((Below.refl _ _).alloc (by simp) _) (Nat.le_refl _))).mono ?_; rintro e w5 ⟨AB, cb, rfl, ob, hb5⟩; rw [HBO.out, HBN.out] at ob ⊢; have hz := (hb5.block w4.heap.size (by simp)).trans (heap_alloc_new _ _); obtain ⟨y0, y1, y2, y3, yf⟩ := four_cells hz; have hb45 : Below w4.heap.size w4 w5 := al_below hb5; replace ob := ob.mono (lo' := w4.heap.size + 1) (by simp) (Nat.le_refl _)) | (refine (MaskOff _ _ _ _ _ bd s _ (HB4.out.drewN _)).mono ?_; rintro e w5 ⟨AB, cb, rfl, ob, hb5⟩; rw [HBO.out, HBN.out] at ob ⊢; have hb45 : Below w4.heap.size w4 w5 := ⟨hb5.os, hb5.tape, hb5.output, hb5.size, hb5.block⟩; replace ob := ob.mono (lo' := w4.heap.size) (Nat.le_refl _) (Nat.le_refl _))))
    · have oh := own_sub HO4.out (k := 3) (m := 9) (by omega)
      rw [List.take_of_length_le (by rw [List.length_drop, HPN.out]; exact Nat.le_refl _)] at oh
      obtain ⟨b1, q1, q2, oh1⟩ := own_one (oh.below hb45 (Nat.le_refl _)) (by omega)
      obtain ⟨b2, q3, q4, ob1⟩ := own_one ob (by omega)
      have hlie : Lies w5 b1 b2 (some ⟨bo, fo + 3, none⟩) 9 AB cb ⟨el2, (plainF hd s).drop 3, tag2, offL bd s⟩ := by
        refine ⟨?_, ?_, by omega⟩
        · show Il.Own b1 (b1 + 1) w5 _ ((plainF hd s).drop 3).length 9 ((plainF hd s).drop 3)
          rw [List.length_drop, HPN.out]
          exact oh1
        · show Il.Own b2 (b2 + 1) w5 _ (offL bd s).length cb (offL bd s)
          rw [HBN.out]
          exact ob1
      have HT5 := HT4.out.below hb45 (by omega)
      have B5 := B4.out.trans (hb45.mono B4.out.size)
      have hs5 := hb45.size
      have h6 : (w5.alloc (.cells #[.int .i64 el2, .slice (some ⟨bo, fo + 3, none⟩) 9 9, .int .i64 tag2, .slice AB 6 cb] 37)).heap[w5.heap.size]? = some (.cells #[.int .i64 el2, .slice (some ⟨bo, fo + 3, none⟩) 9 9, .int .i64 tag2, .slice AB 6 cb] 37 (0, 0)) := heap_alloc_new _ _
      have hb6 : Below w5.heap.size w5 (w5.alloc (.cells #[.int .i64 el2, .slice (some ⟨bo, fo + 3, none⟩) 9 9, .int .i64 tag2, .slice AB 6 cb] 37)) := (Below.refl _ _).alloc (Nat.le_refl _) _
      have HL6 := Lib.hid (hlie.below hb6 (Nat.le_refl _))
      generalize (w5.alloc (.cells #[.int .i64 el2, .slice (some ⟨bo, fo + 3, none⟩) 9 9, .int .i64 tag2, .slice AB 6 cb] 37)) = w6 at h6 hb6 HL6 ⊢
      have HT6 := HT5.below hb6 (by omega)
      have B6 := Lib.hid (B5.trans (hb6.mono (by omega)))
      obtain ⟨y0, y1, y2, y3, yf⟩ := four_cells h6
      obtain ⟨z0, z1, z2, z3, z4, z5, zf⟩ := six_cells HT6.2
      clear oh oh1 ob1 ob hlie HT5 B5 hb45 hb5 h6 hb6 HT6 p0 p1 p2 p3 pf p3a
      go_wp2
      refine bodyPost_ret (v := .tuple #[.agg #[.int .i64 0, .int .i64 next, .int .i64 el2, .slice (some ⟨bo, fo + 3, none⟩) 9 9, .int .i64 tag2, .slice AB 6 cb], .bool true]) ?_ rfl ?_
      · rw [results_cell_tmp rfl]
        go_simp
      · rw [peelF_yes HV.out, HRAW.out, HV.out]
        have hset := (((((B6.out.setCell (p := ⟨w.heap.size + 1, 0, none⟩) (by simp) (.int .i64 0)).setCell (p := ⟨w.heap.size + 1, 1, none⟩) (by simp) (.int .i64 next)).setCell (p := ⟨w.heap.size + 1, 2, none⟩) (by simp) (.int .i64 el2)).setCell (p := ⟨w.heap.size + 1, 3, none⟩) (by simp) (.slice (some ⟨bo, fo + 3, none⟩) 9 9)).setCell (p := ⟨w.heap.size + 1, 4, none⟩) (by simp) (.int .i64 tag2)).setCell (p := ⟨w.heap.size + 1, 5, none⟩) (by simp) (.slice AB 6 cb)
        refine ⟨_, 9, AB, cb, b1, b2, by rw [List.length_drop, HPN.out, HBN.out], ?_, by omega, by omega, hset⟩
        exact (((((HL6.out.set (q := ⟨w.heap.size + 1, 0, none⟩) (by simp; omega) (by simp; omega) _).set (q := ⟨w.heap.size + 1, 1, none⟩) (by simp; omega) (by simp; omega) _).set (q := ⟨w.heap.size + 1, 2, none⟩) (by simp; omega) (by simp; omega) _).set (q := ⟨w.heap.size + 1, 3, none⟩) (by simp; omega) (by simp; omega) _).set (q := ⟨w.heap.size + 1, 4, none⟩) (by simp; omega) (by simp; omega) _).set (q := ⟨w.heap.size + 1, 5, none⟩) (by simp; omega) (by simp; omega) _
    · have oh := own_sub HO4.out (k := 3) (m := 9) (by omega)
      rw [List.take_of_length_le (by rw [List.length_drop, HPN.out]; exact Nat.le_refl _)] at oh
      obtain ⟨b1, q1, q2, oh1⟩ := own_one (oh.below hb45 (Nat.le_refl _)) (by omega)
      obtain ⟨b2, q3, q4, ob1⟩ := own_one ob (by omega)
      have hlie : Lies w5 b1 b2 (some ⟨bo, fo + 3, none⟩) 9 AB cb ⟨el2, (plainF hd s).drop 3, tag2, offL bd s⟩ := by
        refine ⟨?_, ?_, by omega⟩
        · show Il.Own b1 (b1 + 1) w5 _ ((plainF hd s).drop 3).length 9 ((plainF hd s).drop 3)
          rw [List.length_drop, HPN.out]
          exact oh1
        · show Il.Own b2 (b2 + 1) w5 _ (offL bd s).length cb (offL bd s)
          rw [HBN.out]
          exact ob1
      have HT5 := HT4.out.below hb45 (by omega)
      have B5 := B4.out.trans (hb45.mono B4.out.size)
      have hs5 := hb45.size
      obtain ⟨h6, hs6, hbl⟩ := set4 (v0 := .int .i64 el2) (v1 := .slice (some ⟨bo, fo + 3, none⟩) 9 9) (v2 := .int .i64 tag2) (v3 := .slice AB 6 cb) hz
      have hb6 := hbl w4.heap.size (Nat.le_refl _)
      have HL6 := Lib.hid ((((hlie.set (q := ⟨w4.heap.size, 0, none⟩) (by simp; omega) (by simp; omega) (.int .i64 el2)).set (q := ⟨w4.heap.size, 1, none⟩) (by simp; omega) (by simp; omega) (.slice (some ⟨bo, fo + 3, none⟩) 9 9)).set (q := ⟨w4.heap.size, 2, none⟩) (by simp; omega) (by simp; omega) (.int .i64 tag2)).set (q := ⟨w4.heap.size, 3, none⟩) (by simp; omega) (by simp; omega) (.slice AB 6 cb))
      generalize ((((w5.setCell ⟨w4.heap.size, 0, none⟩ (.int .i64 el2)).setCell ⟨w4.heap.size, 1, none⟩ (.slice (some ⟨bo, fo + 3, none⟩) 9 9)).setCell ⟨w4.heap.size, 2, none⟩ (.int .i64 tag2)).setCell ⟨w4.heap.size, 3, none⟩ (.slice AB 6 cb)) = w6 at h6 hs6 hb6 hbl HL6 ⊢
      clear y0 y1 y2 y3 yf hz hbl
      have HT6 := HT5.below hb6 (by omega)
      have B6 := Lib.hid (B5.trans (hb6.mono (by omega)))
      obtain ⟨y0, y1, y2, y3, yf⟩ := four_cells h6
      obtain ⟨z0, z1, z2, z3, z4, z5, zf⟩ := six_cells HT6.2
      clear oh oh1 ob1 ob hlie HT5 B5 hb45 hb5 h6 hb6 HT6 p0 p1 p2 p3 pf p3a
      go_wp2
      refine bodyPost_ret (v := .tuple #[.agg #[.int .i64 0, .int .i64 next, .int .i64 el2, .slice (some ⟨bo, fo + 3, none⟩) 9 9, .int .i64 tag2, .slice AB 6 cb], .bool true]) ?_ rfl ?_
      · rw [results_cell_tmp rfl]
        go_simp
      · rw [peelF_yes HV.out, HRAW.out, HV.out]
        have hset := (((((B6.out.setCell (p := ⟨w.heap.size + 1, 0, none⟩) (by simp) (.int .i64 0)).setCell (p := ⟨w.heap.size + 1, 1, none⟩) (by simp) (.int .i64 next)).setCell (p := ⟨w.heap.size + 1, 2, none⟩) (by simp) (.int .i64 el2)).setCell (p := ⟨w.heap.size + 1, 3, none⟩) (by simp) (.slice (some ⟨bo, fo + 3, none⟩) 9 9)).setCell (p := ⟨w.heap.size + 1, 4, none⟩) (by simp) (.int .i64 tag2)).setCell (p := ⟨w.heap.size + 1, 5, none⟩) (by simp) (.slice AB 6 cb)
        refine ⟨_, 9, AB, cb, b1, b2, by rw [List.length_drop, HPN.out, HBN.out], ?_, by omega, by omega, hset⟩
        exact (((((HL6.out.set (q := ⟨w.heap.size + 1, 0, none⟩) (by simp; omega) (by simp; omega) _).set (q := ⟨w.heap.size + 1, 1, none⟩) (by simp; omega) (by simp; omega) _).set (q := ⟨w.heap.size + 1, 2, none⟩) (by simp; omega) (by simp; omega) _).set (q := ⟨w.heap.size + 1, 3, none⟩) (by simp; omega) (by simp; omega) _).set (q := ⟨w.heap.size + 1, 4, none⟩) (by simp; omega) (by simp; omega) _).set (q := ⟨w.heap.size + 1, 5, none⟩) (by simp; omega) (by simp; omega) _
    · have oh := own_sub HO4.out (k := 3) (m := 9) (by omega)
      rw [List.take_of_length_le (by rw [List.length_drop, HPN.out]; exact Nat.le_refl _)] at oh
      obtain ⟨b1, q1, q2, oh1⟩ := own_one (oh.below hb45 (Nat.le_refl _)) (by omega)
      obtain ⟨b2, q3, q4, ob1⟩ := own_one ob (by omega)
      have hlie : Lies w5 b1 b2 (some ⟨bo, fo + 3, none⟩) 9 AB cb ⟨el2, (plainF hd s).drop 3, tag2, offL bd s⟩ := by
        refine ⟨?_, ?_, by omega⟩
        · show Il.Own b1 (b1 + 1) w5 _ ((plainF hd s).drop 3).length 9 ((plainF hd s).drop 3)
          rw [List.length_drop, HPN.out]
          exact oh1
        · show Il.Own b2 (b2 + 1) w5 _ (offL bd s).length cb (offL bd s)
          rw [HBN.out]
          exact ob1
      have HT5 := HT4.out.below hb45 (by omega)
      have B5 := B4.out.trans (hb45.mono B4.out.size)
      have hs5 := hb45.size
      obtain ⟨h6, hs6, hbl⟩ := set4 (v0 := .int .i64 el2) (v1 := .slice (some ⟨bo, fo + 3, none⟩) 9 9) (v2 := .int .i64 tag2) (v3 := .slice AB 6 cb) hz
      have hb6 := hbl w4.heap.size (Nat.le_refl _)
      have HL6 := Lib.hid ((((hlie.set (q := ⟨w4.heap.size, 0, none⟩) (by simp; omega) (by simp; omega) (.int .i64 el2)).set (q := ⟨w4.heap.size, 1, none⟩) (by simp; omega) (by simp; omega) (.slice (some ⟨bo, fo + 3, none⟩) 9 9)).set (q := ⟨w4.heap.size, 2, none⟩) (by simp; omega) (by simp; omega) (.int .i64 tag2)).set (q := ⟨w4.heap.size, 3, none⟩) (by simp; omega) (by simp; omega) (.slice AB 6 cb))
      generalize ((((w5.setCell ⟨w4.heap.size, 0, none⟩ (.int .i64 el2)).setCell ⟨w4.heap.size, 1, none⟩ (.slice (some ⟨bo, fo + 3, none⟩) 9 9)).setCell ⟨w4.heap.size, 2, none⟩ (.int .i64 tag2)).setCell ⟨w4.heap.size, 3, none⟩ (.slice AB 6 cb)) = w6 at h6 hs6 hb6 hbl HL6 ⊢
      clear y0 y1 y2 y3 yf hz hbl
      have HT6 := HT5.below hb6 (by omega)
      have B6 := Lib.hid (B5.trans (hb6.mono (by omega)))
      obtain ⟨y0, y1, y2, y3, yf⟩ := four_cells h6
      obtain ⟨z0, z1, z2, z3, z4, z5, zf⟩ := six_cells HT6.2
      clear oh oh1 ob1 ob hlie HT5 B5 hb45 hb5 h6 hb6 HT6 p0 p1 p2 p3 pf p3a
      go_wp2
      refine bodyPost_ret (v := .tuple #[.agg #[.int .i64 0, .int .i64 next, .int .i64 el2, .slice (some ⟨bo, fo + 3, none⟩) 9 9, .int .i64 tag2, .slice AB 6 cb], .bool true]) ?_ rfl ?_
      · rw [results_cell_tmp rfl]
        go_simp
      · rw [peelF_yes HV.out, HRAW.out, HV.out]
        have hset := (((((B6.out.setCell (p := ⟨w.heap.size + 1, 0, none⟩) (by simp) (.int .i64 0)).setCell (p := ⟨w.heap.size + 1, 1, none⟩) (by simp) (.int .i64 next)).setCell (p := ⟨w.heap.size + 1, 2, none⟩) (by simp) (.int .i64 el2)).setCell (p := ⟨w.heap.size + 1, 3, none⟩) (by simp) (.slice (some ⟨bo, fo + 3, none⟩) 9 9)).setCell (p := ⟨w.heap.size + 1, 4, none⟩) (by simp) (.int .i64 tag2)).setCell (p := ⟨w.heap.size + 1, 5, none⟩) (by simp) (.slice AB 6 cb)
        refine ⟨_, 9, AB, cb, b1, b2, by rw [List.length_drop, HPN.out, HBN.out], ?_, by omega, by omega, hset⟩
        exact (((((HL6.out.set (q := ⟨w.heap.size + 1, 0, none⟩) (by simp; omega) (by simp; omega) _).set (q := ⟨w.heap.size + 1, 1, none⟩) (by simp; omega) (by simp; omega) _).set (q := ⟨w.heap.size + 1, 2, none⟩) (by simp; omega) (by simp; omega) _).set (q := ⟨w.heap.size + 1, 3, none⟩) (by simp; omega) (by simp; omega) _).set (q := ⟨w.heap.size + 1, 4, none⟩) (by simp; omega) (by simp; omega) _).set (q := ⟨w.heap.size + 1, 5, none⟩) (by simp; omega) (by simp; omega) _
  · skip
    go_wp2_with fail
    ((with_reducible refine (nameValid next _).mono ?_); rintro e w' ⟨rfl, rfl⟩)
    rw [hn]
    clear hn
    go_wp2_with fail
    go_quiet ((first | (go_at_call 87; exact quiet_eq (Grp.iFactor s _)) | (go_at_call 86; exact quiet_eq (Grp.iBlind el (facG s) _))))
    generalize mulG el (facG s) = el2 at *
    have hw4 := HT4.out.2
    have hwlt : w.heap.size + 1 < w4.heap.size := (Array.getElem?_eq_some_iff.1 hw4).1
    have p3a : ∀ k, ((w4.drewN k).alloc (.cells #[.int .i64 0, .slice none 0 0, .int .i64 0, .slice none 0 0] 37)).cell? ⟨w.heap.size, 3, none⟩ = some (.slice B 6 d) := fun k => (((Below.refl w4.heap.size (w4.drewN k)).alloc (Nat.le_refl _) (.cells #[.int .i64 0, .slice none 0 0, .int .i64 0, .slice none 0 0] 37)).cell (p := ⟨w.heap.size, 3, none⟩) (show w.heap.size < w4.heap.size by omega)).trans p3
    clear hw4
    go_wp2_with fail
    go_region_law ((go_simp; go_at_call 88; first | (refine (MaskOff _ _ _ _ _ bd s _ ((HB4.out.drewN _).below (B := w4.heap.size) ((Below.refl _ _).alloc (by simp) _) (Nat.le_refl _))).mono ?_; rintro e w5 ⟨AB, cb, rfl, ob, hb5⟩; rw [HBO.out, HBN.out] at ob ⊢; have hz := (hb5.block w4.heap.size (by simp)).trans (heap_alloc_new _ _); obtain ⟨y0, y1, y2, y3, yf⟩ := four_cells hz; have hb45 : Below w4.heap.size w4 w5 := al_below hb5; replace ob := ob.mono (lo' := w4.heap.size + 1) (by simp) (Nat.le_refl _)) | (refine (MaskOff _ _ _ _ _ bd s _ (HB4.out.drewN _)).mono ?_; rintro e w5 ⟨AB, cb, rfl, ob, hb5⟩; rw [HBO.out, HBN.out] at ob ⊢; have hb45 : Below w4.heap.size w4 w5 := ⟨hb5.os, hb5.tape, hb5.output, hb5.size, hb5.block⟩; replace ob := ob.mono (lo' := w4.heap.size) (Nat.le_refl _) (Nat.le_refl _))))
    · have oh := own_sub HO4.out (k := 3) (m := 9) (by omega)
      rw [List.take_of_length_le (by rw [List.length_drop, HPN.out]; exact Nat.le_refl _)] at oh
      obtain ⟨b1, q1, q2, oh1⟩ := own_one (oh.below hb45 (Nat.le_refl _)) (by omega)
      obtain ⟨b2, q3, q4, ob1⟩ := own_one ob (by omega)
      have hlie : Lies w5 b1 b2 (some ⟨bo, fo + 3, none⟩) 9 AB cb ⟨el2, (plainF hd s).drop 3, tag2, offL bd s⟩ := by
        refine ⟨?_, ?_, by omega⟩
        · show Il.Own b1 (b1 + 1) w5 _ ((plainF hd s).drop 3).length 9 ((plainF hd s).drop 3)
          rw [List.length_drop, HPN.out]
          exact oh1
        · show Il.Own b2 (b2 + 1) w5 _ (offL bd s).length cb (offL bd s)
          rw [HBN.out]
          exact ob1
      have HT5 := HT4.out.below hb45 (by omega)
      have B5 := B4.out.trans (hb45.mono B4.out.size)
      have hs5 := hb45.size
      have h6 : (w5.alloc (.cells #[.int .i64 el2, .slice (some ⟨bo, fo + 3, none⟩) 9 9, .int .i64 tag2, .slice AB 6 cb] 37)).heap[w5.heap.size]? = some (.cells #[.int .i64 el2, .slice (some ⟨bo, fo + 3, none⟩) 9 9, .int .i64 tag2, .slice AB 6 cb] 37 (0, 0)) := heap_alloc_new _ _
      have hb6 : Below w5.heap.size w5 (w5.alloc (.cells #[.int .i64 el2, .slice (some ⟨bo, fo + 3, none⟩) 9 9, .int .i64 tag2, .slice AB 6 cb] 37)) := (Below.refl _ _).alloc (Nat.le_refl _) _
      have HL6 := Lib.hid (hlie.below hb6 (Nat.le_refl _))
      generalize (w5.alloc (.cells #[.int .i64 el2, .slice (some ⟨bo, fo + 3, none⟩) 9 9, .int .i64 tag2, .slice AB 6 cb] 37)) = w6 at h6 hb6 HL6 ⊢
      have HT6 := HT5.below hb6 (by omega)
      have B6 := Lib.hid (B5.trans (hb6.mono (by omega)))
      obtain ⟨y0, y1, y2, y3, yf⟩ := four_cells h6
      obtain ⟨z0, z1, z2, z3, z4, z5, zf⟩ := six_cells HT6.2
      clear oh oh1 ob1 ob hlie HT5 B5 hb45 hb5 h6 hb6 HT6 p0 p1 p2 p3 pf p3a
      go_wp2
      refine bodyPost_ret (v := .tuple #[.agg #[.int .i64 1, .int .i64 next, .int .i64 el2, .slice (some ⟨bo, fo + 3, none⟩) 9 9, .int .i64 tag2, .slice AB 6 cb], .bool true]) ?_ rfl ?_
      · rw [results_cell_tmp rfl]
        go_simp
      · rw [peelF_yes HV.out, HRAW.out, HV.out]
        have hset := (((((B6.out.setCell (p := ⟨w.heap.size + 1, 0, none⟩) (by simp) (.int .i64 1)).setCell (p := ⟨w.heap.size + 1, 1, none⟩) (by simp) (.int .i64 next)).setCell (p := ⟨w.heap.size + 1, 2, none⟩) (by simp) (.int .i64 el2)).setCell (p := ⟨w.heap.size + 1, 3, none⟩) (by simp) (.slice (some ⟨bo, fo + 3, none⟩) 9 9)).setCell (p := ⟨w.heap.size + 1, 4, none⟩) (by simp) (.int .i64 tag2)).setCell (p := ⟨w.heap.size + 1, 5, none⟩) (by simp) (.slice AB 6 cb)
        refine ⟨_, 9, AB, cb, b1, b2, by rw [List.length_drop, HPN.out, HBN.out], ?_, by omega, by omega, hset⟩
        exact (((((HL6.out.set (q := ⟨w.heap.size + 1, 0, none⟩) (by simp; omega) (by simp; omega) _).set (q := ⟨w.heap.size + 1, 1, none⟩) (by simp; omega) (by simp; omega) _).set (q := ⟨w.heap.size + 1, 2, none⟩) (by simp; omega) (by simp; omega) _).set (q := ⟨w.heap.size + 1, 3, none⟩) (by simp; omega) (by simp; omega) _).set (q := ⟨w.heap.size + 1, 4, none⟩) (by simp; omega) (by simp; omega) _).set (q := ⟨w.heap.size + 1, 5, none⟩) (by simp; omega) (by simp; omega) _
    · have oh := own_sub HO4.out (k := 3) (m := 9) (by omega)
      rw [List.take_of_length_le (by rw [List.length_drop, HPN.out]; exact Nat.le_refl _)] at oh
      obtain ⟨b1, q1, q2, oh1⟩ := own_one (oh.below hb45 (Nat.le_refl _)) (by omega)
      obtain ⟨b2, q3, q4, ob1⟩ := own_one ob (by omega)
      have hlie : Lies w5 b1 b2 (some ⟨bo, fo + 3, none⟩) 9 AB cb ⟨el2, (plainF hd s).drop 3, tag2, offL bd s⟩ := by
        refine ⟨?_, ?_, by omega⟩
        · show Il.Own b1 (b1 + 1) w5 _ ((plainF hd s).drop 3).length 9 ((plainF hd s).drop 3)
          rw [List.length_drop, HPN.out]
          exact oh1
        · show Il.Own b2 (b2 + 1) w5 _ (offL bd s).length cb (offL bd s)
          rw [HBN.out]
          exact ob1
      have HT5 := HT4.out.below hb45 (by omega)
      have B5 := B4.out.trans (hb45.mono B4.out.size)
      have hs5 := hb45.size
      obtain ⟨h6, hs6, hbl⟩ := set4 (v0 := .int .i64 el2) (v1 := .slice (some ⟨bo, fo + 3, none⟩) 9 9) (v2 := .int .i64 tag2) (v3 := .slice AB 6 cb) hz
      have hb6 := hbl w4.heap.size (Nat.le_refl _)
      have HL6 := Lib.hid ((((hlie.set (q := ⟨w4.heap.size, 0, none⟩) (by simp; omega) (by simp; omega) (.int .i64 el2)).set (q := ⟨w4.heap.size, 1, none⟩) (by simp; omega) (by simp; omega) (.slice (some ⟨bo, fo + 3, none⟩) 9 9)).set (q := ⟨w4.heap.size, 2, none⟩) (by simp; omega) (by simp; omega) (.int .i64 tag2)).set (q := ⟨w4.heap.size, 3, none⟩) (by simp; omega) (by simp; omega) (.slice AB 6 cb))
      generalize ((((w5.setCell ⟨w4.heap.size, 0, none⟩ (.int .i64 el2)).setCell ⟨w4.heap.size, 1, none⟩ (.slice (some ⟨bo, fo + 3, none⟩) 9 9)).setCell ⟨w4.heap.size, 2, none⟩ (.int .i64 tag2)).setCell ⟨w4.heap.size, 3, none⟩ (.slice AB 6 cb)) = w6 at h6 hs6 hb6 hbl HL6 ⊢
      clear y0 y1 y2 y3 yf hz hbl
      have HT6 := HT5.below hb6 (by omega)
      have B6 := Lib.hid (B5.trans (hb6.mono (by omega)))
      obtain ⟨y0, y1, y2, y3, yf⟩ := four_cells h6
      obtain ⟨z0, z1, z2, z3, z4, z5, zf⟩ := six_cells HT6.2
      clear oh oh1 ob1 ob hlie HT5 B5 hb45 hb5 h6 hb6 HT6 p0 p1 p2 p3 pf p3a
      go_wp2
      refine bodyPost_ret (v := .tuple #[.agg #[.int .i64 1, .int .i64 next, .int .i64 el2, .slice (some ⟨bo, fo + 3, none⟩) 9 9, .int .i64 tag2, .slice AB 6 cb], .bool true]) ?_ rfl ?_
      · rw [results_cell_tmp rfl]
        go_simp
      · rw [peelF_yes HV.out, HRAW.out, HV.out]
        have hset := (((((B6.out.setCell (p := ⟨w.heap.size + 1, 0, none⟩) (by simp) (.int .i64 1)).setCell (p := ⟨w.heap.size + 1, 1, none⟩) (by simp) (.int .i64 next)).setCell (p := ⟨w.heap.size + 1, 2, none⟩) (by simp) (.int .i64 el2)).setCell (p := ⟨w.heap.size + 1, 3, none⟩) (by simp) (.slice (some ⟨bo, fo + 3, none⟩) 9 9)).setCell (p := ⟨w.heap.size + 1, 4, none⟩) (by simp) (.int .i64 tag2)).setCell (p := ⟨w.heap.size + 1, 5, none⟩) (by simp) (.slice AB 6 cb)
        refine ⟨_, 9, AB, cb, b1, b2, by rw [List.length_drop, HPN.out, HBN.out], ?_, by omega, by omega, hset⟩
        exact (((((HL6.out.set (q := ⟨w.heap.size + 1, 0, none⟩) (by simp; omega) (by simp; omega) _).set (q := ⟨w.heap.size + 1, 1, none⟩) (by simp; omega) (by simp; omega) _).set (q := ⟨w.heap.size + 1, 2, none⟩) (by simp; omega) (by simp; omega) _).set (q := ⟨w.heap.size + 1, 3, none⟩) (by simp; omega) (by simp; omega) _).set (q := ⟨w.heap.size + 1, 4, none⟩) (by simp; omega) (by simp; omega) _).set (q := ⟨w.heap.size + 1, 5, none⟩) (by simp; omega) (by simp; omega) _
    · have oh := own_sub HO4.out (k := 3) (m := 9) (by omega)
      rw [List.take_of_length_le (by rw [List.length_drop, HPN.out]; exact Nat.le_refl _)] at oh
      obtain ⟨b1, q1, q2, oh1⟩ := own_one (oh.below hb45 (Nat.le_refl _)) (by omega)
      obtain ⟨b2, q3, q4, ob1⟩ := own_one ob (by omega)
      have hlie : Lies w5 b1 b2 (some ⟨bo, fo + 3, none⟩) 9 AB cb ⟨el2, (plainF hd s).drop 3, tag2, offL bd s⟩ := by
        refine ⟨?_, ?_, by omega⟩
        · show Il.Own b1 (b1 + 1) w5 _ ((plainF hd s).drop 3).length 9 ((plainF hd s).drop 3)
          rw [List.length_drop, HPN.out]
          exact oh1
        · show Il.Own b2 (b2 + 1) w5 _ (offL bd s).length cb (offL bd s)
          rw [HBN.out]
          exact ob1
      have HT5 := HT4.out.below hb45 (by omega)
      have B5 := B4.out.trans (hb45.mono B4.out.size)
      have hs5 := hb45.size
      obtain ⟨h6, hs6, hbl⟩ := set4 (v0 := .int .i64 el2) (v1 := .slice (some ⟨bo, fo + 3, none⟩) 9 9) (v2 := .int .i64 tag2) (v3 := .slice AB 6 cb) hz
      have hb6 := hbl w4.heap.size (Nat.le_refl _)
      have HL6 := Lib.hid ((((hlie.set (q := ⟨w4.heap.size, 0, none⟩) (by simp; omega) (by simp; omega) (.int .i64 el2)).set (q := ⟨w4.heap.size, 1, none⟩) (by simp; omega) (by simp; omega) (.slice (some ⟨bo, fo + 3, none⟩) 9 9)).set (q := ⟨w4.heap.size, 2, none⟩) (by simp; omega) (by simp; omega) (.int .i64 tag2)).set (q := ⟨w4.heap.size, 3, none⟩) (by simp; omega) (by simp; omega) (.slice AB 6 cb))
      generalize ((((w5.setCell ⟨w4.heap.size, 0, none⟩ (.int .i64 el2)).setCell ⟨w4.heap.size, 1, none⟩ (.slice (some ⟨bo, fo + 3, none⟩) 9 9)).setCell ⟨w4.heap.size, 2, none⟩ (.int .i64 tag2)).setCell ⟨w4.heap.size, 3, none⟩ (.slice AB 6 cb)) = w6 at h6 hs6 hb6 hbl HL6 ⊢
      clear y0 y1 y2 y3 yf hz hbl
      have HT6 := HT5.below hb6 (by omega)
      have B6 := Lib.hid (B5.trans (hb6.mono (by omega)))
      obtain ⟨y0, y1, y2, y3, yf⟩ := four_cells h6
      obtain ⟨z0, z1, z2, z3, z4, z5, zf⟩ := six_cells HT6.2
      clear oh oh1 ob1 ob hlie HT5 B5 hb45 hb5 h6 hb6 HT6 p0 p1 p2 p3 pf p3a
      go_wp2
      refine bodyPost_ret (v := .tuple #[.agg #[.int .i64 1, .int .i64 next, .int .i64 el2, .slice (some ⟨bo, fo + 3, none⟩) 9 9, .int .i64 tag2, .slice AB 6 cb], .bool true]) ?_ rfl ?_
      · rw [results_cell_tmp rfl]
        go_simp
      · rw [peelF_yes HV.out, HRAW.out, HV.out]
        have hset := (((((B6.out.setCell (p := ⟨w.heap.size + 1, 0, none⟩) (by simp) (.int .i64 1)).setCell (p := ⟨w.heap.size + 1, 1, none⟩) (by simp) (.int .i64 next)).setCell (p := ⟨w.heap.size + 1, 2, none⟩) (by simp) (.int .i64 el2)).setCell (p := ⟨w.heap.size + 1, 3, none⟩) (by simp) (.slice (some ⟨bo, fo + 3, none⟩) 9 9)).setCell (p := ⟨w.heap.size + 1, 4, none⟩) (by simp) (.int .i64 tag2)).setCell (p := ⟨w.heap.size + 1, 5, none⟩) (by simp) (.slice AB 6 cb)
        refine ⟨_, 9, AB, cb, b1, b2, by rw [List.length_drop, HPN.out, HBN.out], ?_, by omega, by omega, hset⟩
        exact (((((HL6.out.set (q := ⟨w.heap.size + 1, 0, none⟩) (by simp; omega) (by simp; omega) _).set (q := ⟨w.heap.size + 1, 1, none⟩) (by simp; omega) (by simp; omega) _).set (q := ⟨w.heap.size + 1, 2, none⟩) (by simp; omega) (by simp; omega) _).set (q := ⟨w.heap.size + 1, 3, none⟩) (by simp; omega) (by simp; omega) _).set (q := ⟨w.heap.size + 1, 4, none⟩) (by simp; omega) (by simp; omega) _).set (q := ⟨w.heap.size + 1, 5, none⟩) (by simp; omega) (by simp; omega) _

end Im5
end Go.Proofs.Ytnjcpbkpcmemeac
