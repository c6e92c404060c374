/-
  Contracts of the model's chapter 5: peeling a packet.
-/
import Derived.Test.YtnjcpbkpcmemeacSp5
import Derived.Test.YtnjcpbkpcmemeacPq
import Derived.Test.YtnjcpbkpcmemeacGrp
import Derived.Laws.ResultCell
import Derived.BigQuiet
import Derived.Deep.QuietTactic
import Derived.Deep.RegionLaw
import Derived.BigRegion
import Derived.Deep.RegionHeld3
namespace Go.Proofs.Ytnjcpbkpcmemeac
open Go.RowKit
namespace Sp5
open Il Gm Mm Tm Lm Pm Pq Sp2 Sp3 Sp4

set_option maxHeartbeats 4000000 in
set_option maxRecDepth 20000 in
theorem l5Peel (lo hi lo2 hi2 : Nat) (A B : Option Addr) (c d : Nat) (x el tag : Int) (hd bd : List Int) (w : World) (hh : Ints lo hi w A 9 c hd) (hb : Ints lo2 hi2 w B 6 d bd) (hg : inG x = true) (hp : pktOk ⟨el, hd, tag, bd⟩ = true) :
    Calls Try.prog 81 #[.int .i64 x, .agg #[.int .i64 el, .slice A 9 c, .int .i64 tag, .slice B 6 d]] w (PldPost (peelF x ⟨el, hd, tag, bd⟩) (peelOk x ⟨el, hd, tag, bd⟩) w) := by
  have L1 := Lib.hid hh.1
  have L2 := Lib.hid hb.1
  have h0a : Below w.heap.size w (w.alloc (.cells #[.int .i64 el, .slice A 9 c, .int .i64 tag, .slice B 6 d] 37)) := (Below.refl _ _).alloc (Nat.le_refl _) _
  have h0 : Below w.heap.size w ((w.alloc (.cells #[.int .i64 el, .slice A 9 c, .int .i64 tag, .slice B 6 d] 37)).alloc (.cells #[.int .i64 0, .int .i64 0, .int .i64 0, .slice none 0 0, .int .i64 0, .slice none 0 0] 39)) := h0a.alloc h0a.size _
  have ht0 : TwoB ((w.alloc (.cells #[.int .i64 el, .slice A 9 c, .int .i64 tag, .slice B 6 d] 37)).alloc (.cells #[.int .i64 0, .int .i64 0, .int .i64 0, .slice none 0 0, .int .i64 0, .slice none 0 0] 39)) w.heap.size (.int .i64 el) (.slice A 9 c) (.int .i64 tag) (.slice B 6 d) := by
    refine ⟨(Below.heap_alloc _ _ _ (by simp)).trans (heap_alloc_new w _), ?_⟩
    have := heap_alloc_new (w.alloc (.cells #[.int .i64 el, .slice A 9 c, .int .i64 tag, .slice B 6 d] 37)) (.cells #[.int .i64 0, .int .i64 0, .int .i64 0, .slice none 0 0, .int .i64 0, .slice none 0 0] 39)
    simpa using this
  have hh0 := hh.below h0 (Nat.le_refl _)
  have hb0 := hb.below h0 (Nat.le_refl _)
  have hs0 : ((w.alloc (.cells #[.int .i64 el, .slice A 9 c, .int .i64 tag, .slice B 6 d] 37)).alloc (.cells #[.int .i64 0, .int .i64 0, .int .i64 0, .slice none 0 0, .int .i64 0, .slice none 0 0] 39)).heap.size = w.heap.size + 1 + 1 := by simp
  have HNO : Hid (∀ w', peelOk x ⟨el, hd, tag, bd⟩ = false → Below w.heap.size w w' → PldPost (peelF x ⟨el, hd, tag, bd⟩) (peelOk x ⟨el, hd, tag, bd⟩) w (.returned (.tuple #[.agg #[.int .i64 0, .int .i64 0, .int .i64 0, .slice none 0 0, .int .i64 0, .slice none 0 0], .bool false])) w') := fun w' h hb => by
    rw [peelF_no h, h]; exact pld_zero hb
  have HT0 := Lib.hid ht0
  have HH := Lib.hid hh0
  have HB := Lib.hid hb0
  have B0 := Lib.hid h0
  have HG := Lib.hid hg
  have HP := Lib.hid hp
  obtain ⟨g1, g2, g3, g4, g5, g6⟩ := pktOk_iff.1 hp
  dsimp only at g1 g2 g3 g4 g5 g6
  have HEG := Lib.hid g1
  have HOH := Lib.hid g2
  have HOB := Lib.hid g5
  have HKG : Hid (inG (mulG x el) = true) := mulG_pos HG.out g1
  have HKE : Hid (Pm.keyOf x ⟨el, hd, tag, bd⟩ = mulG x el) := rfl
  have hkk := inG_iff.1 HKG.out
  have HPN := Lib.hid (plainF_len (mulG x el) g3)
  have HPO : Hid (okL (hd ++ [0, 0, 0]) = true) := by
    refine okL_iff.2 ⟨fun y hy => ?_, by simp [g3]⟩
    rcases List.mem_append.1 hy with h | h
    · exact (okL_iff.1 g2).1 y h
    · simp at h; omega
  have HBN : Hid ((offL bd (mulG x el)).length = 6) := by show _ = _; rw [offL_len, g6]
  have HRAW : Hid (peelRaw x ⟨el, hd, tag, bd⟩ = ⟨(plainF hd (mulG x el)).getD 0 0, (plainF hd (mulG x el)).getD 1 0, ⟨mulG el (facG (mulG x el)), (plainF hd (mulG x el)).drop 3, (plainF hd (mulG x el)).getD 2 0, offL bd (mulG x el)⟩⟩) := rfl
  have HOK : Hid (peelOk x ⟨el, hd, tag, bd⟩ = (decide (tagL (mulG x el) hd = tag) && (decide (0 ≤ (plainF hd (mulG x el)).getD 0 0 ∧ (plainF hd (mulG x el)).getD 0 0 ≤ 1) && inName ((plainF hd (mulG x el)).getD 1 0)))) := by
    show peelOk _ _ = _
    unfold peelOk
    rw [HG.out, HP.out]
    rfl
  have hh3 := HH.out.cap_
  clear hh hb h0 h0a hg hp g1 g2 g3 g4 g5 g6 ht0 hh0 hb0
  obtain ⟨p0, p1, p2, p3, pf⟩ := four_cells HT0.out.1
  go_enter Try.func81, Try.ntmps81
  go_wp2_with fail
  ((with_reducible refine (l1Times x el _ HG.out HEG.out).mono ?_); rintro e w' ⟨rfl, rfl⟩)
  generalize mulG x el = s at *
  generalize ((w.alloc (.cells #[.int .i64 el, .slice A 9 c, .int .i64 tag, .slice B 6 d] 37)).alloc (.cells #[.int .i64 0, .int .i64 0, .int .i64 0, .slice none 0 0, .int .i64 0, .slice none 0 0] 39)) = w0 at *
  go_wp2_with fail
  go_quiet ((go_at_call 97; exact quiet_eq (Sp3.l3Tag _ _ _ _ _ hd s _ (HH.out.drewN _) HOH.out hkk.1 hkk.2)))
  generalize hw3e : w0.drewN _ = w1
  obtain ⟨nn, e1⟩ : ∃ nn, w1 = w0.drewN nn := ⟨_, hw3e.symm⟩
  clear hw3e
  have HT1 : Hid (TwoB w1 w.heap.size (.int .i64 el) (.slice A 9 c) (.int .i64 tag) (.slice B 6 d)) := by rw [e1]; exact HT0.out
  have HH1 : Hid (Ints lo hi w1 A 9 c hd) := by rw [e1]; exact HH.out
  have HB1 : Hid (Ints lo2 hi2 w1 B 6 d bd) := by rw [e1]; exact HB.out
  have B1 : Hid (Below w.heap.size w w1) := by rw [e1]; exact below_dr B0.out _
  have hs1 : w.heap.size + 1 + 1 ≤ w1.heap.size := by rw [e1]; exact Nat.le_of_eq hs0.symm
  clear e1 HT0 HH HB B0 hs0 p0 p1 p2 p3 pf
  obtain ⟨p0, p1, p2, p3, pf⟩ := four_cells HT1.out.1
  obtain ⟨z0, z1, z2, z3, z4, z5, zf⟩ := six_cells HT1.out.2
  by_cases ht : ¬ tagL s hd = tag
  · have hv : peelOk x ⟨el, hd, tag, bd⟩ = false := by
      rw [HOK.out, decide_eq_false ht]
      rfl
    have HV := Lib.hid hv
    have hne : (tagL s hd != tag) = true := by simpa using ht
    clear hv ht
    go_wp2
    refine bodyPost_ret (v := .tuple #[.agg #[.int .i64 0, .int .i64 0, .int .i64 0, .slice none 0 0, .int .i64 0, .slice none 0 0], .bool false]) ?_ rfl (HNO.out _ HV.out ?_)
    · rw [results_cell_tmp rfl]
      go_simp
    · exact ((((((B1.out.setCell (by simp) _).setCell (by simp) _).setCell (by simp) _).setCell (by simp) _).setCell (by simp) _).setCell (by simp) _)
  replace ht : tagL s hd = tag := by
    cases Decidable.em (tagL s hd = tag) with
    | inl h => exact h
    | inr h => exact absurd h ht
  have HTT := Lib.hid ht
  have hne : (tagL s hd != tag) = false := by simpa using ht
  clear ht
  have HA := Lib.hid (acc_new w1)
  have h1a : Below w1.heap.size w1 (w1.alloc (.cells #[] 3)) := (Below.refl _ _).alloc (Nat.le_refl _) _
  have IR := Lib.hid (HH1.out.below h1a (Nat.le_refl _))
  have p1a := (h1a.cell (p := ⟨w.heap.size, 1, none⟩) (show w.heap.size < w1.heap.size by omega)).trans p1
  clear h1a
  obtain ⟨bh, fh, rfl, _⟩ := HH1.out.at_ (k := 0) (by omega)
  go_wp2_with (first | (at_builtin; refine wpList_appL _ _ _ _ (hAcc.alloc _) _ _ _ _ _ _ (ints_three _ _ _ _) (by omega) (by simp; rw [L1.out]; omega) (.tmp 24) (.tmp 25) rfl rfl rfl rfl ?_; intro vb w2 hAcd _; rw [List.nil_append] at hAcd; obtain ⟨A2, c2, rfl, ho2⟩ := own_of hAcd.1) | (at_builtin; refine wpList_appL _ _ _ _ HA.out _ _ _ _ _ _ IR.out (by omega) (by simp) (.tmp 21) (.tmp 23) rfl rfl rfl rfl ?_; intro va wa hAcc _))
  have hb2 := Il.Acc.below hAcd
  have hl2 : (hd ++ [0, 0, 0]).length = 12 := by simp [L1.out]
  rw [hl2] at ho2
  have hgl : hd.length + 3 = 12 := by rw [L1.out]
  rw [hgl]
  have HT2 := Lib.hid (HT1.out.below hb2 (by omega))
  have B2 := Lib.hid (B1.out.trans (hb2.mono (by omega)))
  have HB2 := Lib.hid (HB1.out.below hb2 (Nat.le_refl _))
  have HO2 := Lib.hid ho2
  have hs2 := hb2.size
  clear hAcd hAcc ho2 hb2 hl2 hgl IR HA HT1 B1 HB1 HH1 p1a p0 p1 p2 p3 pf z0 z1 z2 z3 z4 z5 zf hne
  ((with_reducible refine (l2Off _ _ _ _ _ (hd ++ [0, 0, 0]) s w2 HO2.out.ints HPO.out hkk.1 hkk.2).mono ?_); rintro e w3 ⟨A3, c3, rfl, ho3, hb3⟩)
  have HPE : Hid (offL (hd ++ [0, 0, 0]) s = plainF hd s) := rfl
  rw [HPE.out, HPN.out] at ho3 ⊢
  have HT3 := Lib.hid (HT2.out.below hb3 (by omega))
  have B3 := Lib.hid (B2.out.trans (hb3.mono (by omega)))
  have HB3 := Lib.hid (HB2.out.below hb3 (Nat.le_refl _))
  have hs3 := hb3.size
  obtain ⟨bo, fo, rfl, hbo1, hbo2, o0⟩ := ho3.ints.at_ (k := 0) (by omega)
  obtain ⟨_, _, eo, _, _, o1⟩ := ho3.ints.at_ (k := 1) (by omega)
  simp only [Option.some.injEq, Addr.mk.injEq, and_true] at eo
  obtain ⟨rfl, rfl⟩ := eo
  obtain ⟨_, _, eo, _, _, o2⟩ := ho3.ints.at_ (k := 2) (by omega)
  simp only [Option.some.injEq, Addr.mk.injEq, and_true] at eo
  obtain ⟨rfl, rfl⟩ := eo
  have hcap3 := ho3.ints.cap_
  have HO3 := Lib.hid ho3
  clear hb3 ho3 HT2 B2 HB2 HO2
  generalize (plainF hd s).getD 0 0 = kind at *
  generalize (plainF hd s).getD 1 0 = next at *
  generalize (plainF hd s).getD 2 0 = tag2 at *
  rw [Nat.add_zero] at o0
  go_wp2_with fail
  go_region
  have hfl : Below w3.heap.size w3 (w3.alloc (.cells #[.int .i64 kind, .int .i64 next, .int .i64 0, .slice none 0 0, .int .i64 0, .slice none 0 0] 39)).drew := by
    have h := (Below.refl w3.heap.size w3).alloc (Nat.le_refl _) (.cells #[.int .i64 kind, .int .i64 next, .int .i64 0, .slice none 0 0, .int .i64 0, .slice none 0 0] 39)
    exact ⟨h.os, h.tape, h.output, h.size, h.block⟩
  have h4z : (w3.alloc (.cells #[.int .i64 kind, .int .i64 next, .int .i64 0, .slice none 0 0, .int .i64 0, .slice none 0 0] 39)).drew.heap[w3.heap.size]? = some (.cells #[.int .i64 kind, .int .i64 next, .int .i64 0, .slice none 0 0, .int .i64 0, .slice none 0 0] 39 (0, 0)) := heap_alloc_new _ _
  generalize (w3.alloc (.cells #[.int .i64 kind, .int .i64 next, .int .i64 0, .slice none 0 0, .int .i64 0, .slice none 0 0] 39)).drew = w4 at hfl h4z ⊢
  have HT4 := Lib.hid (HT3.out.below hfl (by omega))
  have B4 := Lib.hid (B3.out.trans (hfl.mono (by omega)))
  have HB4 := Lib.hid (HB3.out.below hfl (Nat.le_refl _))
  have HO4 := Lib.hid (HO3.out.below hfl (Nat.le_refl _))
  have e2 := (hfl.cell (p := ⟨bo, fo + 2, none⟩) hbo2).trans o2
  have hs4 := hfl.size
  have HZ4 := Lib.hid h4z
  have h43 : w3.heap.size < w4.heap.size := (Array.getElem?_eq_some_iff.1 h4z).1
  clear hfl h4z HT3 B3 HB3 HO3 o0 o1 o2
  obtain ⟨p0, p1, p2, p3, pf⟩ := four_cells HT4.out.1
  have HA : Hid (AccR none w4 (w4.alloc (.cells #[] 3)).drew (.slice (some ⟨w4.heap.size, 0, none⟩) 0 0) []) := (acc_new w4).drew
  have h4a : Below w4.heap.size w4 (w4.alloc (.cells #[] 3)) := (Below.refl w4.heap.size w4).alloc (Nat.le_refl _) _
  have pa0 := (h4a.cell (p := ⟨w.heap.size, 0, none⟩) (show w.heap.size < w4.heap.size by omega)).trans p0
  have pa3 := (h4a.cell (p := ⟨w.heap.size, 3, none⟩) (show w.heap.size < w4.heap.size by omega)).trans p3
  have ea2 := (h4a.cell (p := ⟨bo, fo + 2, none⟩) (show bo < w4.heap.size by omega)).trans e2
  have hsub := HO4.out.ints.sub_ (k := 3) (m := 9) (by omega)
  rw [List.take_of_length_le (by rw [List.length_drop, HPN.out]; exact Nat.le_refl _)] at hsub
  have IR : Hid (Ints w2.heap.size w3.heap.size (w4.alloc (.cells #[] 3)).drew (some ⟨bo, fo + 3, none⟩) 9 (c3 - 3) ((plainF hd s).drop 3)) := hsub.keep h4a.size fun b _ h2 _ => h4a.block b (by omega)
  have HD : Hid (((plainF hd s).drop 3).length = 9) := by show _ = _; rw [List.length_drop, HPN.out]
  have HP0 := Lib.hid p0
  have HP3 := Lib.hid p3
  have HE2 := Lib.hid e2
  generalize (plainF hd s).drop 3 = D at IR HD HRAW
  have hc33 : ¬ c3 = 3 := by omega
  have HFR0 : Hid (w.heap.size ≠ w3.heap.size) := by show _ ≠ _; omega
  have HFR1 : Hid (bo ≠ w3.heap.size) := by show _ ≠ _; omega
  clear p1 p2 pf hbo1
  have SA : Hid (w4.drew.cell? ⟨w.heap.size, 0, none⟩ = some (.int .i64 el) ∧ w4.drew.cell? ⟨w.heap.size, 3, none⟩ = some (.slice B 6 d) ∧ w4.drew.cell? ⟨bo, fo + 2, none⟩ = some (.int .i64 tag2)) := ⟨p0, p3, e2⟩
  have SB : Hid ((w4.drew.alloc (.cells #[] 3)).cell? ⟨w.heap.size, 0, none⟩ = some (.int .i64 el) ∧ (w4.drew.alloc (.cells #[] 3)).cell? ⟨w.heap.size, 3, none⟩ = some (.slice B 6 d) ∧ (w4.drew.alloc (.cells #[] 3)).cell? ⟨bo, fo + 2, none⟩ = some (.int .i64 tag2)) := ⟨pa0, pa3, ea2⟩
  have SC : Hid ((w4.alloc (.cells #[] 3)).drew.cell? ⟨w.heap.size, 0, none⟩ = some (.int .i64 el) ∧ (w4.alloc (.cells #[] 3)).drew.cell? ⟨w.heap.size, 3, none⟩ = some (.slice B 6 d) ∧ (w4.alloc (.cells #[] 3)).drew.cell? ⟨bo, fo + 2, none⟩ = some (.int .i64 tag2)) := ⟨pa0, pa3, ea2⟩
  clear h4a hsub pa0 pa3 ea2
  go_wp2_with fail
  go_region_held3 (fun w' => w'.cell? ⟨w.heap.size, 0, none⟩ = some (.int .i64 el) ∧ w'.cell? ⟨w.heap.size, 3, none⟩ = some (.slice B 6 d) ∧ w'.cell? ⟨bo, fo + 2, none⟩ = some (.int .i64 tag2))
    (first | with_reducible exact ⟨pb0, pb3, eb2⟩ | with_reducible exact ⟨pc0, pc3, ec2⟩ | with_reducible exact SA.out | with_reducible exact SB.out | with_reducible exact SC.out | with_reducible exact ⟨(far4 HFR0.out _ _ _ _).trans pc0, (far4 HFR0.out _ _ _ _).trans pc3, (far4 HFR1.out _ _ _ _).trans ec2⟩)
    (first
    | (refine step_appL _ _ _ _ HA.out _ _ _ _ _ _ IR.out (by omega) (by simp) (.tmp 41) (.tmp 43) rfl rfl (by go_simp) (by go_simp) ?_; intro v5 w5 hN5 hB5; rw [List.nil_append] at hN5; obtain ⟨A5, c5, rfl, ho5⟩ := own_of hN5.1; rw [HD.out] at ho5 ⊢; have hb5 : Below w4.heap.size w4 w5 := Il.Acc.below hN5; have pb0 := (hb5.cell (p := ⟨w.heap.size, 0, none⟩) (show w.heap.size < w4.heap.size by omega)).trans HP0.out; have pb3 := (hb5.cell (p := ⟨w.heap.size, 3, none⟩) (show w.heap.size < w4.heap.size by omega)).trans HP3.out; have eb2 := (hb5.cell (p := ⟨bo, fo + 2, none⟩) (show bo < w4.heap.size by omega)).trans HE2.out)
    | (go_at_call 99; refine (l1Factor s _ HKG.out).mono ?_; rintro e w' ⟨rfl, rfl⟩)
    | (go_at_call 80; refine (l1Times el (facG s) _ HEG.out (facG_pos HKG.out)).mono ?_; rintro e w' ⟨rfl, rfl⟩)
    | (go_at_call 98; refine (l2Off _ _ _ _ _ bd s _ (HB4.out.below hb5 (Nat.le_refl _)) HOB.out hkk.1 hkk.2).mono ?_; rintro e w6 ⟨A6, c6, rfl, ho6, hb6⟩; rw [HBN.out] at ho6 ⊢; have hb46 := hb5.trans (hb6.mono hb5.size); have pc0 := (hb46.cell (p := ⟨w.heap.size, 0, none⟩) (show w.heap.size < w4.heap.size by omega)).trans HP0.out; have pc3 := (hb46.cell (p := ⟨w.heap.size, 3, none⟩) (show w.heap.size < w4.heap.size by omega)).trans HP3.out; have ec2 := (hb46.cell (p := ⟨bo, fo + 2, none⟩) (show bo < w4.heap.size by omega)).trans HE2.out; have hz6 := (hb46.block w3.heap.size h43).trans HZ4.out; obtain ⟨z0, z1, z2, z3, z4, z5, zf⟩ := six_cells hz6))
  all_goals
    obtain ⟨b1, q1, q2, oh1⟩ := own_one (ho5.below hb6 (Nat.le_refl _)) (by omega)
    obtain ⟨b2, q3, q4, ob1⟩ := own_one ho6 (by omega)
    have hlie : Lies w6 b1 b2 A5 c5 A6 c6 ⟨mulG el (facG s), D, tag2, offL bd s⟩ := by
      refine ⟨?_, ?_, by omega⟩
      · show Il.Own b1 (b1 + 1) w6 _ D.length c5 D
        rw [HD.out]
        exact oh1
      · show Il.Own b2 (b2 + 1) w6 _ (offL bd s).length c6 (offL bd s)
        rw [HBN.out]
        exact ob1
    have HT6 := HT4.out.below hb46 (by omega)
    have hs46 := hb46.size
    obtain ⟨h7, hs7, hbl⟩ := set4b (v2 := .int .i64 (mulG el (facG s))) (v3 := .slice A5 9 c5) (v4 := .int .i64 tag2) (v5 := .slice A6 6 c6) hz6
    have hb67 := hbl w3.heap.size (Nat.le_refl _)
    have HL7 := Lib.hid ((((hlie.set (q := ⟨w3.heap.size, 2, none⟩) (by simp; omega) (by simp; omega) (.int .i64 (mulG el (facG s)))).set (q := ⟨w3.heap.size, 3, none⟩) (by simp; omega) (by simp; omega) (.slice A5 9 c5)).set (q := ⟨w3.heap.size, 4, none⟩) (by simp; omega) (by simp; omega) (.int .i64 tag2)).set (q := ⟨w3.heap.size, 5, none⟩) (by simp; omega) (by simp; omega) (.slice A6 6 c6))
    generalize ((((w6.setCell ⟨w3.heap.size, 2, none⟩ (.int .i64 (mulG el (facG s)))).setCell ⟨w3.heap.size, 3, none⟩ (.slice A5 9 c5)).setCell ⟨w3.heap.size, 4, none⟩ (.int .i64 tag2)).setCell ⟨w3.heap.size, 5, none⟩ (.slice A6 6 c6)) = w7 at h7 hs7 hb67 hbl HL7 ⊢
    have HT7 := HT6.below hb67 (by omega)
    have B7 := Lib.hid ((B4.out.trans (hb46.mono (by omega))).trans (hb67.mono (by omega)))
    generalize mulG el (facG s) = el2 at *
    clear z0 z1 z2 z3 z4 z5 zf hz6 hbl pb0 pb3 eb2 pc0 pc3 ec2 hN5 hB5 ho5 hb5 ho6 hb6 hb46 oh1 ob1 hlie HT6 hb67 hs7 p0 p3 e2
    obtain ⟨y0, y1, y2, y3, y4, y5, yf⟩ := six_cells h7
    obtain ⟨z0, z1, z2, z3, z4, z5, zf⟩ := six_cells HT7.2
    clear h7 HT7
    cases hk : decide (0 ≤ kind ∧ kind ≤ 1)
    · have hv : peelOk x ⟨el, hd, tag, bd⟩ = false := by
        rw [HOK.out, decide_eq_true HTT.out, hk]
        rfl
      have HV := Lib.hid hv
      clear hv
      go_wp2_with fail
      ((with_reducible refine (l6In kind 0 1 _).mono ?_); rintro e w' ⟨rfl, rfl⟩)
      rw [hk]
      clear hk
      go_wp2
      refine bodyPost_ret (v := .tuple #[.agg #[.int .i64 0, .int .i64 0, .int .i64 0, .slice none 0 0, .int .i64 0, .slice none 0 0], .bool false]) ?_ rfl (HNO.out _ HV.out ?_)
      · rw [results_cell_tmp rfl]
        go_simp
      · exact ((((((B7.out.setCell (by simp) _).setCell (by simp) _).setCell (by simp) _).setCell (by simp) _).setCell (by simp) _).setCell (by simp) _)
    cases hn : inName next
    · have hv : peelOk x ⟨el, hd, tag, bd⟩ = false := by
        rw [HOK.out, decide_eq_true HTT.out, hk, hn]
        rfl
      have HV := Lib.hid hv
      clear hv
      go_wp2_with fail
      ((with_reducible refine (l6In kind 0 1 _).mono ?_); rintro e w' ⟨rfl, rfl⟩)
      rw [hk]
      clear hk
      go_wp2_with fail
      ((with_reducible refine (l6In next 0 7 _).mono ?_); rintro e w' ⟨rfl, rfl⟩)
      rw [show decide (0 ≤ next ∧ next ≤ 7) = _ from hn]
      clear hn
      go_wp2
      refine bodyPost_ret (v := .tuple #[.agg #[.int .i64 0, .int .i64 0, .int .i64 0, .slice none 0 0, .int .i64 0, .slice none 0 0], .bool false]) ?_ rfl (HNO.out _ HV.out ?_)
      · rw [results_cell_tmp rfl]
        go_simp
      · exact ((((((B7.out.setCell (by simp) _).setCell (by simp) _).setCell (by simp) _).setCell (by simp) _).setCell (by simp) _).setCell (by simp) _)
    have hv : peelOk x ⟨el, hd, tag, bd⟩ = true := by
      rw [HOK.out, decide_eq_true HTT.out, hk, hn]
      rfl
    have HV := Lib.hid hv
    clear hv
    go_wp2_with fail
    ((with_reducible refine (l6In kind 0 1 _).mono ?_); rintro e w' ⟨rfl, rfl⟩)
    rw [hk]
    clear hk
    go_wp2_with fail
    ((with_reducible refine (l6In next 0 7 _).mono ?_); rintro e w' ⟨rfl, rfl⟩)
    rw [show decide (0 ≤ next ∧ next ≤ 7) = _ from hn]
    clear hn
    go_wp2
    refine bodyPost_ret (v := .tuple #[.agg #[.int .i64 kind, .int .i64 next, .int .i64 el2, .slice A5 9 c5, .int .i64 tag2, .slice A6 6 c6], .bool true]) ?_ rfl ?_
    · rw [results_cell_tmp rfl]
      go_simp
    · rw [peelF_yes HV.out, HRAW.out, HV.out]
      have hset := ((((((B7.out.setCell (p := ⟨w.heap.size + 1, 0, none⟩) (by simp) (.int .i64 kind)).setCell (p := ⟨w.heap.size + 1, 1, none⟩) (by simp) (.int .i64 next)).setCell (p := ⟨w.heap.size + 1, 2, none⟩) (by simp) (.int .i64 el2)).setCell (p := ⟨w.heap.size + 1, 3, none⟩) (by simp) (.slice A5 9 c5)).setCell (p := ⟨w.heap.size + 1, 4, none⟩) (by simp) (.int .i64 tag2)).setCell (p := ⟨w.heap.size + 1, 5, none⟩) (by simp) (.slice A6 6 c6))
      refine ⟨A5, c5, A6, c6, b1, b2, by rw [HD.out, HBN.out], ?_, by omega, by omega, hset⟩
      exact ((((((HL7.out.set (q := ⟨w.heap.size + 1, 0, none⟩) (by simp; omega) (by simp; omega) (.int .i64 kind)).set (q := ⟨w.heap.size + 1, 1, none⟩) (by simp; omega) (by simp; omega) (.int .i64 next)).set (q := ⟨w.heap.size + 1, 2, none⟩) (by simp; omega) (by simp; omega) (.int .i64 el2)).set (q := ⟨w.heap.size + 1, 3, none⟩) (by simp; omega) (by simp; omega) (.slice A5 9 c5)).set (q := ⟨w.heap.size + 1, 4, none⟩) (by simp; omega) (by simp; omega) (.int .i64 tag2)).set (q := ⟨w.heap.size + 1, 5, none⟩) (by simp; omega) (by simp; omega) (.slice A6 6 c6))

set_option maxHeartbeats 1000000 in
set_option maxRecDepth 20000 in
theorem PacketPeel (lo hi lo2 hi2 : Nat) (A B : Option Addr) (n c m d : Nat) (x el tag : Int) (hd bd : List Int) (w : World) (hh : Ints lo hi w A n c hd) (hb : Ints lo2 hi2 w B m d bd) :
    Calls Try.prog 93 #[.int .i64 x, .agg #[.int .i64 el, .slice A n c, .int .i64 tag, .slice B m d]] w (PldPost (peelF x ⟨el, hd, tag, bd⟩) (peelOk x ⟨el, hd, tag, bd⟩) w) := by
  have L1 := Lib.hid hh.1
  have L2 := Lib.hid hb.1
  have h0a : Below w.heap.size w (w.alloc (.cells #[.int .i64 el, .slice A n c, .int .i64 tag, .slice B m d] 37)) := (Below.refl _ _).alloc (Nat.le_refl _) _
  have h0 : Below w.heap.size w ((w.alloc (.cells #[.int .i64 el, .slice A n c, .int .i64 tag, .slice B m d] 37)).alloc (.cells #[.int .i64 0, .int .i64 0, .int .i64 0, .slice none 0 0, .int .i64 0, .slice none 0 0] 39)) := h0a.alloc h0a.size _
  have ht0 : TwoB ((w.alloc (.cells #[.int .i64 el, .slice A n c, .int .i64 tag, .slice B m d] 37)).alloc (.cells #[.int .i64 0, .int .i64 0, .int .i64 0, .slice none 0 0, .int .i64 0, .slice none 0 0] 39)) w.heap.size (.int .i64 el) (.slice A n c) (.int .i64 tag) (.slice B m d) := by
    refine ⟨(Below.heap_alloc _ _ _ (by simp)).trans (heap_alloc_new w _), ?_⟩
    have := heap_alloc_new (w.alloc (.cells #[.int .i64 el, .slice A n c, .int .i64 tag, .slice B m d] 37)) (.cells #[.int .i64 0, .int .i64 0, .int .i64 0, .slice none 0 0, .int .i64 0, .slice none 0 0] 39)
    simpa using this
  have HT0 := Lib.hid ht0
  have HH := Lib.hid (hh.below h0 (Nat.le_refl _))
  have HB := Lib.hid (hb.below h0 (Nat.le_refl _))
  have hs0 : ((w.alloc (.cells #[.int .i64 el, .slice A n c, .int .i64 tag, .slice B m d] 37)).alloc (.cells #[.int .i64 0, .int .i64 0, .int .i64 0, .slice none 0 0, .int .i64 0, .slice none 0 0] 39)).heap.size = w.heap.size + 1 + 1 := by simp
  have HNO : Hid (∀ w', peelOk x ⟨el, hd, tag, bd⟩ = false → Below w.heap.size w w' → PldPost (peelF x ⟨el, hd, tag, bd⟩) (peelOk x ⟨el, hd, tag, bd⟩) w (.returned (.tuple #[.agg #[.int .i64 0, .int .i64 0, .int .i64 0, .slice none 0 0, .int .i64 0, .slice none 0 0], .bool false])) w') := fun w' h hb => by
    rw [peelF_no h, h]; exact pld_zero hb
  have B0 := Lib.hid h0
  clear hh hb h0 h0a ht0
  cases hg : inG x
  · have hv : peelOk x ⟨el, hd, tag, bd⟩ = false := by simp [peelOk, hg]
    have HV := Lib.hid hv
    clear hv
    go_enter Try.func93, Try.ntmps93
    go_wp2_with fail
    ((with_reducible refine (l1Is x _).mono ?_); rintro e w' ⟨rfl, rfl⟩)
    rw [hg]
    clear hg
    go_wp2
    refine bodyPost_ret (v := .tuple #[.agg #[.int .i64 0, .int .i64 0, .int .i64 0, .slice none 0 0, .int .i64 0, .slice none 0 0], .bool false]) ?_ rfl (HNO.out _ HV.out ?_)
    · rw [results_cell_tmp rfl]
      go_simp
    · exact B0.out
  have HG := Lib.hid hg
  go_enter Try.func93, Try.ntmps93
  go_wp2_with fail
  ((with_reducible refine (l1Is x _).mono ?_); rintro e w' ⟨rfl, rfl⟩)
  rw [hg]
  clear hg
  go_wp2_with fail
  ((with_reducible refine (PacketValid _ _ _ _ _ _ _ _ _ _ el tag hd bd _ HH.out HB.out).mono ?_); rintro e w1 ⟨rfl, hb1⟩)
  have HT1 := Lib.hid (HT0.out.below hb1 (by omega))
  have B1 := Lib.hid (B0.out.trans (hb1.mono (by omega)))
  replace HH := Lib.hid (HH.out.below hb1 (Nat.le_refl _))
  replace HB := Lib.hid (HB.out.below hb1 (Nat.le_refl _))
  have hs1 := hb1.size
  rw [hs0] at hs1
  clear hb1 HT0 B0 hs0
  obtain ⟨p0, p1, p2, p3, pf⟩ := four_cells HT1.out.1
  obtain ⟨z0, z1, z2, z3, z4, z5, zf⟩ := six_cells HT1.out.2
  cases hp : pktOk ⟨el, hd, tag, bd⟩
  · have hv : peelOk x ⟨el, hd, tag, bd⟩ = false := by simp [peelOk, hp]
    have HV := Lib.hid hv
    clear hv hp
    go_wp2
    refine bodyPost_ret (v := .tuple #[.agg #[.int .i64 0, .int .i64 0, .int .i64 0, .slice none 0 0, .int .i64 0, .slice none 0 0], .bool false]) ?_ rfl (HNO.out _ HV.out ?_)
    · rw [results_cell_tmp rfl]
      go_simp
    · exact ((((((B1.out.setCell (by simp) _).setCell (by simp) _).setCell (by simp) _).setCell (by simp) _).setCell (by simp) _).setCell (by simp) _)
  have HP := Lib.hid hp
  obtain ⟨_, _, g3, _, _, g6⟩ := pktOk_iff.1 hp
  dsimp only at g3 g6
  have hn9 : n = 9 := by rw [← L1.out]; exact g3
  have hm6 : m = 6 := by rw [← L2.out]; exact g6
  subst hn9
  subst hm6
  clear hp g3 g6 HNO
  go_wp2_with fail
  ((with_reducible refine (l5Peel _ _ _ _ _ _ _ _ x el tag hd bd w1 HH.out HB.out HG.out HP.out).mono ?_); rintro e w2 ⟨A2, c2, B2, d2, b1, b2, rfl, hlie, hb1, hb2, hbl⟩)
  have hs2 := hbl.size
  have HT2 := HT1.out.below hbl (by omega)
  have HL2 := Lib.hid hlie
  have BB2 := Lib.hid (B1.out.trans (hbl.mono (by omega)))
  clear p0 p1 p2 p3 pf z0 z1 z2 z3 z4 z5 zf hlie hbl HT1 B1
  obtain ⟨z0, z1, z2, z3, z4, z5, zf⟩ := six_cells HT2.2
  clear HT2
  generalize hpl : peelF x ⟨el, hd, tag, bd⟩ = pl at *
  have HPLE := Lib.hid hpl
  generalize hpo : peelOk x ⟨el, hd, tag, bd⟩ = po at *
  have HPOE := Lib.hid hpo
  clear hpl hpo
  obtain ⟨kind, next, el2, hd2, tag2, bd2⟩ := pl
  dsimp only at *
  go_wp2
  refine bodyPost_ret (v := .tuple #[.agg #[.int .i64 kind, .int .i64 next, .int .i64 el2, .slice A2 hd2.length c2, .int .i64 tag2, .slice B2 bd2.length d2], .bool po]) ?_ rfl ?_
  · rw [results_cell_tmp rfl]
    go_simp
  · have hset := ((((((BB2.out.setCell (p := ⟨w.heap.size + 1, 0, none⟩) (by simp) (.int .i64 kind)).setCell (p := ⟨w.heap.size + 1, 1, none⟩) (by simp) (.int .i64 next)).setCell (p := ⟨w.heap.size + 1, 2, none⟩) (by simp) (.int .i64 el2)).setCell (p := ⟨w.heap.size + 1, 3, none⟩) (by simp) (.slice A2 hd2.length c2)).setCell (p := ⟨w.heap.size + 1, 4, none⟩) (by simp) (.int .i64 tag2)).setCell (p := ⟨w.heap.size + 1, 5, none⟩) (by simp) (.slice B2 bd2.length d2))
    refine ⟨A2, c2, B2, d2, b1, b2, rfl, ?_, by omega, by omega, hset⟩
    exact ((((((HL2.out.set (q := ⟨w.heap.size + 1, 0, none⟩) (by simp; omega) (by simp; omega) (.int .i64 kind)).set (q := ⟨w.heap.size + 1, 1, none⟩) (by simp; omega) (by simp; omega) (.int .i64 next)).set (q := ⟨w.heap.size + 1, 2, none⟩) (by simp; omega) (by simp; omega) (.int .i64 el2)).set (q := ⟨w.heap.size + 1, 3, none⟩) (by simp; omega) (by simp; omega) (.slice A2 hd2.length c2)).set (q := ⟨w.heap.size + 1, 4, none⟩) (by simp; omega) (by simp; omega) (.int .i64 tag2)).set (q := ⟨w.heap.size + 1, 5, none⟩) (by simp; omega) (by simp; omega) (.slice B2 bd2.length d2))

end Sp5
end Go.Proofs.Ytnjcpbkpcmemeac
