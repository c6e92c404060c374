/-
  Contracts of the model's chapter 5: making a packet.
-/
import Derived.Test.YtnjcpbkpcmemeacSp5
import Derived.Test.YtnjcpbkpcmemeacPq
import Derived.Test.YtnjcpbkpcmemeacPn
import Derived.Test.YtnjcpbkpcmemeacGrp
import Derived.Laws.ResultCell
import Derived.BigQuiet
namespace Go.Proofs.Ytnjcpbkpcmemeac
open Go.RowKit
namespace Sp5
open Il Gm Mm Tm Lm Pm Pn Pq Sp2 Sp3 Sp4

def MBody (lo : Nat) (w wr : World) (bd K : List Int) (k : Nat) (A : Option Addr) (c : Nat) : Prop :=
  Il.Own lo wr.heap.size wr A 6 c ((K.take k).foldl onL bd) ∧ Below w.heap.size w wr
set_option maxHeartbeats 1000000 in
set_option maxRecDepth 20000 in
theorem PacketMake (l1 h1 l2 h2 l3 h3 : Nat) (A B C : Option Addr) (n c m d q e : Nat) (ps ns ls : List Int) (x r : Int) (w : World) (ha : Ints l1 h1 w A n c ps) (hb : Ints l2 h2 w B m d ns) (hc : Ints l3 h3 w C q e ls) :
    Calls Try.prog 92 #[.int .i64 x, .slice A n c, .slice B m d, .int .i64 r, .slice C q e] w (PktPost (makeF x ps ns r ls) (makeOk x ps ns r ls) w) := by
  have hm1 := ha.2.1
  have hm2 := hb.2.1
  have hm3 := ha.2.2.1
  have hm4 := hb.2.2.1
  unfold maxLen at hm3 hm4
  have LA := Lib.hid ha.1
  have LB := Lib.hid hb.1
  have hw0 : Below w.heap.size w (w.alloc (.cells #[.int .i64 0, .slice none 0 0, .int .i64 0, .slice none 0 0] 37)) := (Below.refl _ _).alloc (Nat.le_refl _) _
  have hz0 : (w.alloc (.cells #[.int .i64 0, .slice none 0 0, .int .i64 0, .slice none 0 0] 37)).heap[w.heap.size]? = some (.cells #[.int .i64 0, .slice none 0 0, .int .i64 0, .slice none 0 0] 37 (0, 0)) := heap_alloc_new _ _
  have HNO : Hid (∀ w', makeOk x ps ns r ls = false → Below w.heap.size w w' → PktPost (makeF x ps ns r ls) (makeOk x ps ns r ls) w (.returned (.tuple #[.agg #[.int .i64 0, .slice none 0 0, .int .i64 0, .slice none 0 0], .bool false])) w') := fun w' h hb => by
    rw [makeF_no h, h]; exact pkt_zero hb
  have HA := Lib.hid (ha.below hw0 (Nat.le_refl _))
  have HB := Lib.hid (hb.below hw0 (Nat.le_refl _))
  have HC := Lib.hid (hc.below hw0 (Nat.le_refl _))
  have hs0 : (w.alloc (.cells #[.int .i64 0, .slice none 0 0, .int .i64 0, .slice none 0 0] 37)).heap.size = w.heap.size + 1 := by simp
  clear ha hb hc
  go_enter Try.func92, Try.ntmps92
  go_wp2_with fail
  ((with_reducible refine (LetterPack _ _ _ _ _ ls _ HC.out).mono ?_); rintro e w2 ⟨AL, cl, rfl, ol, hb2⟩)
  have hz2 := (hb2.block w.heap.size (by omega)).trans hz0
  have HB2 := Lib.hid (hw0.trans (hb2.mono (by omega)))
  replace HA := Lib.hid (HA.out.below hb2 (Nat.le_refl _))
  replace HB := Lib.hid (HB.out.below hb2 (Nat.le_refl _))
  have hs2 := hb2.size
  rw [hs0] at hs2
  have HL := Lib.hid (ol.mono (lo' := w.heap.size + 1) (by omega) (Nat.le_refl _))
  obtain ⟨k0, k1, k2, k3, f0⟩ := four_cells hz2
  have HZ2 := Lib.hid hz2
  clear ol hb2 HC hz2 hz0 hw0 hs0
  cases hq : packOk ls
  · have hv : makeOk x ps ns r ls = false := by
      cases h : makeOk x ps ns r ls
      · rfl
      · obtain ⟨q1, q2, q3, q4, q5, q6⟩ := makeOk_iff.1 h
        rw [q1] at hq; cases hq
    have HV := Lib.hid hv
    clear hv
    go_wp2
    refine bodyPost_ret (v := .tuple #[.agg #[.int .i64 0, .slice none 0 0, .int .i64 0, .slice none 0 0], .bool false]) ?_ rfl (HNO.out _ HV.out ?_)
    · rw [results_cell_tmp rfl]
      go_simp
    · exact (((HB2.out.setCell (by simp) _).setCell (by simp) _).setCell (by simp) _).setCell (by simp) _
  have HLO := Lib.hid hq
  clear hq
  cases hg : inG x
  · have hv : makeOk x ps ns r ls = false := by
      cases h : makeOk x ps ns r ls
      · rfl
      · obtain ⟨q1, q2, q3, q4, q5, q6⟩ := makeOk_iff.1 h
        rw [q2] at hg; cases hg
    have HV := Lib.hid hv
    clear hv
    go_wp2_with fail
    ((with_reducible refine (l1Is x w2).mono ?_); rintro e w' ⟨rfl, rfl⟩)
    rw [hg]
    clear hg
    go_wp2
    refine bodyPost_ret (v := .tuple #[.agg #[.int .i64 0, .slice none 0 0, .int .i64 0, .slice none 0 0], .bool false]) ?_ rfl (HNO.out _ HV.out ?_)
    · rw [results_cell_tmp rfl]
      go_simp
    · exact (((HB2.out.setCell (by simp) _).setCell (by simp) _).setCell (by simp) _).setCell (by simp) _
  cases hp : pubsOk ps
  · have hv : makeOk x ps ns r ls = false := by
      cases h : makeOk x ps ns r ls
      · rfl
      · obtain ⟨q1, q2, q3, q4, q5, q6⟩ := makeOk_iff.1 h
        rw [q3] at hp; cases hp
    have HV := Lib.hid hv
    clear hv
    go_wp2_with fail
    ((with_reducible refine (l1Is x w2).mono ?_); rintro e w' ⟨rfl, rfl⟩)
    rw [hg]
    clear hg
    go_wp2_with fail
    ((with_reducible refine (l5Publics _ _ _ _ _ ps w2 HA.out).mono ?_); rintro e w' ⟨rfl, rfl⟩)
    rw [hp]
    clear hp
    go_wp2
    refine bodyPost_ret (v := .tuple #[.agg #[.int .i64 0, .slice none 0 0, .int .i64 0, .slice none 0 0], .bool false]) ?_ rfl (HNO.out _ HV.out ?_)
    · rw [results_cell_tmp rfl]
      go_simp
    · exact (((HB2.out.setCell (by simp) _).setCell (by simp) _).setCell (by simp) _).setCell (by simp) _
  by_cases hmn : ¬ m = n
  · have hv : makeOk x ps ns r ls = false := by
      cases h : makeOk x ps ns r ls
      · rfl
      · obtain ⟨q1, q2, q3, q4, q5, q6⟩ := makeOk_iff.1 h
        exact absurd (LB.out.symm.trans (q4.trans LA.out)) hmn
    have HV := Lib.hid hv
    clear hv
    have en : ((m : Int) != (n : Int)) = true := by simp; omega
    clear hmn
    go_wp2_with fail
    ((with_reducible refine (l1Is x w2).mono ?_); rintro e w' ⟨rfl, rfl⟩)
    rw [hg]
    clear hg
    go_wp2_with fail
    ((with_reducible refine (l5Publics _ _ _ _ _ ps w2 HA.out).mono ?_); rintro e w' ⟨rfl, rfl⟩)
    rw [hp]
    clear hp
    go_wp2
    refine bodyPost_ret (v := .tuple #[.agg #[.int .i64 0, .slice none 0 0, .int .i64 0, .slice none 0 0], .bool false]) ?_ rfl (HNO.out _ HV.out ?_)
    · rw [results_cell_tmp rfl]
      go_simp
    · exact (((HB2.out.setCell (by simp) _).setCell (by simp) _).setCell (by simp) _).setCell (by simp) _
  replace hmn : m = n := by omega
  subst hmn
  cases hn : namesOk ns
  · have hv : makeOk x ps ns r ls = false := by
      cases h : makeOk x ps ns r ls
      · rfl
      · obtain ⟨q1, q2, q3, q4, q5, q6⟩ := makeOk_iff.1 h
        simp [namesOk] at hn; obtain ⟨y, hy, hy2⟩ := hn; exact absurd (q5 y hy) (by simp [hy2])
    have HV := Lib.hid hv
    clear hv
    go_wp2_with fail
    ((with_reducible refine (l1Is x w2).mono ?_); rintro e w' ⟨rfl, rfl⟩)
    rw [hg]
    clear hg
    go_wp2_with fail
    ((with_reducible refine (l5Publics _ _ _ _ _ ps w2 HA.out).mono ?_); rintro e w' ⟨rfl, rfl⟩)
    rw [hp]
    clear hp
    go_wp2_with fail
    ((with_reducible refine (l5Names _ _ _ _ _ ns w2 HB.out).mono ?_); rintro e w' ⟨rfl, rfl⟩)
    rw [hn]
    clear hn
    go_wp2
    refine bodyPost_ret (v := .tuple #[.agg #[.int .i64 0, .slice none 0 0, .int .i64 0, .slice none 0 0], .bool false]) ?_ rfl (HNO.out _ HV.out ?_)
    · rw [results_cell_tmp rfl]
      go_simp
    · exact (((HB2.out.setCell (by simp) _).setCell (by simp) _).setCell (by simp) _).setCell (by simp) _
  cases hr : inName r
  · have hv : makeOk x ps ns r ls = false := by
      cases h : makeOk x ps ns r ls
      · rfl
      · obtain ⟨q1, q2, q3, q4, q5, q6⟩ := makeOk_iff.1 h
        rw [q6] at hr; cases hr
    have HV := Lib.hid hv
    clear hv
    go_wp2_with fail
    ((with_reducible refine (l1Is x w2).mono ?_); rintro e w' ⟨rfl, rfl⟩)
    rw [hg]
    clear hg
    go_wp2_with fail
    ((with_reducible refine (l5Publics _ _ _ _ _ ps w2 HA.out).mono ?_); rintro e w' ⟨rfl, rfl⟩)
    rw [hp]
    clear hp
    go_wp2_with fail
    ((with_reducible refine (l5Names _ _ _ _ _ ns w2 HB.out).mono ?_); rintro e w' ⟨rfl, rfl⟩)
    rw [hn]
    clear hn
    go_wp2_with fail
    ((with_reducible refine (l6In r 0 7 w2).mono ?_); rintro e w' ⟨rfl, rfl⟩)
    rw [show decide (0 ≤ r ∧ r ≤ 7) = _ from hr]
    clear hr
    go_wp2
    refine bodyPost_ret (v := .tuple #[.agg #[.int .i64 0, .slice none 0 0, .int .i64 0, .slice none 0 0], .bool false]) ?_ rfl (HNO.out _ HV.out ?_)
    · rw [results_cell_tmp rfl]
      go_simp
    · exact (((HB2.out.setCell (by simp) _).setCell (by simp) _).setCell (by simp) _).setCell (by simp) _
  have HR := Lib.hid hr
  have HG := Lib.hid hg
  have HPB := Lib.hid (pubs_in hp)
  have HKI := Lib.hid (keysF_in x ps hg (pubs_in hp))
  have hkl : (keysF x ps).length = m := by rw [keysF_len, LA.out]
  have hm3 : m ≤ 3 := by rw [← LA.out]; exact pubs_len hp
  have hm1' : 1 ≤ m := by
    have hp' := hp
    rw [← LA.out]; unfold pubsOk at hp'; simp at hp'; omega
  have hnm : ∀ y ∈ ns, inName y = true := by
    have := hn
    unfold namesOk at this
    exact List.all_eq_true.1 this
  have HNM := Lib.hid hnm
  have hv : makeOk x ps ns r ls = true := makeOk_iff.2 ⟨HLO.out, hg, hp, by rw [LB.out, LA.out], hnm, HR.out⟩
  have HV := Lib.hid hv
  rw [packF_yes HLO.out, packL_len (packOk_iff.1 HLO.out).2] at HL ⊢
  have HOKP := Lib.hid (packL_ok HLO.out)
  have HEQ : Hid (makeF x ps ns r ls = ⟨mulG x 5, hdr r (fillF (keysF x ps)) (keysF x ps) ns, hdTag r (fillF (keysF x ps)) (keysF x ps) ns, bodyF (packL ls) (keysF x ps)⟩) := makeF_yes hv
  have HBL := Lib.hid (body_len (keysF x ps) (packL ls))
  have HPL := Lib.hid (packL_len (packOk_iff.1 HLO.out).2)
  have HHL : Hid ((hdr r (fillF (keysF x ps)) (keysF x ps) ns).length = 9) := by
    show _ = _
    have h := hdr_drop_len r (fillF (keysF x ps)) (keysF x ps) ns (by rw [fillF_len, hkl]; omega) (s := 0) (by rw [hkl]; omega)
    exact h
  have HKL := Lib.hid hkl
  clear hnm hv hkl HNO
  go_wp2_with fail
  ((with_reducible refine (l1Is x w2).mono ?_); rintro e w' ⟨rfl, rfl⟩)
  rw [hg]
  clear hg
  go_wp2_with fail
  ((with_reducible refine (l5Publics _ _ _ _ _ ps w2 HA.out).mono ?_); rintro e w' ⟨rfl, rfl⟩)
  rw [hp]
  clear hp
  go_wp2_with fail
  ((with_reducible refine (l5Names _ _ _ _ _ ns w2 HB.out).mono ?_); rintro e w' ⟨rfl, rfl⟩)
  rw [hn]
  clear hn
  go_wp2_with fail
  ((with_reducible refine (l6In r 0 7 w2).mono ?_); rintro e w' ⟨rfl, rfl⟩)
  rw [show decide (0 ≤ r ∧ r ≤ 7) = _ from hr]
  clear hr
  go_wp2_with fail
  ((with_reducible refine (l5Keys _ _ _ _ _ ps x w2 HA.out HG.out HPB.out hm3).mono ?_); rintro e w3 ⟨v3, rfl, ha3⟩)
  obtain ⟨AK, ck, rfl, ok⟩ := own_of ha3.1
  have hb3 := Il.Acc.below ha3
  rw [HKL.out] at ok ⊢
  generalize keysF x ps = K at *
  have HB3 := Lib.hid (HB2.out.trans (hb3.mono (by omega)))
  have HZ3 := Lib.hid ((hb3.block w.heap.size (by omega)).trans HZ2.out)
  have HN3 := Lib.hid (HB.out.below hb3 (Nat.le_refl _))
  have HK3 := Lib.hid ok
  have hs3 := hb3.size
  have HM0 : Hid (MBody (w.heap.size + 1) w3 w3 (packL ls) K 0 AL cl) := ⟨own_hi (HL.out.below hb3 (Nat.le_refl _)), Below.refl _ _⟩
  clear ha3 ok hb3 HL HA HB HZ2 HB2 k0 k1 k2 k3 f0
  go_wp2
  go_loopw [12, 15] (fun v i wr => ∃ (A : Option Addr) (c k : Nat), k ≤ m ∧ i = .int .i64 k ∧ v = .slice A 6 c ∧ Hid (MBody (w.heap.size + 1) w3 wr (packL ls) K k A c)) (fun _ i _ => m - (intOf i).toNat)
  case atStart => exact ⟨AL, cl, 0, Nat.zero_le _, rfl, rfl, HM0.out⟩
  case round =>
    obtain ⟨A1, c1, k, hk, rfl, rfl, hT⟩ := hrel
    clear HM0
    by_cases hlt : k < m
    · obtain ⟨b, off, rfl, _, _, hcx⟩ := HK3.out.ints.at_ hlt
      have hb4 : b < w3.heap.size := World.block_lt_of_cell? w3 _ hcx
      have ck := (hT.out.2.cell (p := ⟨b, off + k, none⟩) hb4).trans hcx
      have hkl : k < K.length := by rw [HKL.out]; exact hlt
      have hkk := inG_iff.1 (HKI.out _ (getD_mem hkl))
      have HST := Lib.hid (bodyTo_succ (b := packL ls) hkl)
      have hso : okL ((K.take k).foldl onL (packL ls)) = true := body_ok (K.take k) (packL ls) HOKP.out
      have HSO := Lib.hid hso
      have hln : ((K.take (k + 1)).foldl onL (packL ls)).length = 6 := by
        have := body_len (K.take (k + 1)) (packL ls)
        unfold bodyF at this
        rw [this, HPL.out]
      have HLN := Lib.hid hln
      have HT1 := Lib.hid hT.out.1
      have HT2 := Lib.hid hT.out.2
      generalize K.getD k 0 = key at ck hkk HST
      clear hT hcx hkl hso hln
      go_wp2_with fail
      ((with_reducible refine (l2On _ _ _ _ _ _ key wr HT1.out.ints HSO.out hkk.1 hkk.2).mono ?_); rintro e w4 ⟨A4, c4, rfl, ho4, hb4⟩)
      rw [← HST.out, HLN.out] at ho4 ⊢
      have HN : Hid (MBody (w.heap.size + 1) w3 w4 (packL ls) K (k + 1) A4 c4) := ⟨ho4.mono (by have := HT2.out.size; omega) (Nat.le_refl _), HT2.out.trans (hb4.mono HT2.out.size)⟩
      clear ho4 hb4 ck
      go_wp2
      go_roundw
      case rel => exact ⟨A4, c4, k + 1, by omega, by go_num, rfl, HN.out⟩
      case measure => simp [intOf]; omega
    · have hkm : k = m := by omega
      have hbt : (K.take k).foldl onL (packL ls) = bodyF (packL ls) K := by
        unfold bodyF
        rw [List.take_of_length_le (by rw [HKL.out]; omega)]
      have hT1 := hT.out.1
      rw [hbt] at hT1
      have HT1 := Lib.hid hT1
      have hbr := hT.out.2
      have HBR := Lib.hid (HB3.out.trans (hbr.mono (by omega)))
      have HZR := Lib.hid ((hbr.block w.heap.size (by omega)).trans HZ3.out)
      have HNR := Lib.hid (HN3.out.below hbr (Nat.le_refl _))
      have HKR := Lib.hid (HK3.out.below hbr (Nat.le_refl _))
      have hsr := hbr.size
      clear hT hT1 hbr hbt hkm HK3 HN3 HZ3 HB3
      go_wp2_with fail
      ((with_reducible refine (l5Header _ _ _ _ _ _ _ _ _ _ K ns r wr HKR.out.ints HNR.out HKI.out hm3 hm1' (Nat.le_refl _) HNM.out HR.out).mono ?_); rintro e w5 ⟨AH, ch, rfl, oh, hb5⟩)
      rw [HHL.out] at oh ⊢
      have HH5 := Lib.hid oh
      have HB5 := Lib.hid (HBR.out.trans (hb5.mono (by omega)))
      have hz5 := (hb5.block w.heap.size (by omega)).trans HZR.out
      have hs5 := hb5.size
      obtain ⟨b1, b2, hlie, hg1, hg2⟩ := lies_of (el := mulG x 5) (tag := hdTag r (fillF K) K ns) oh (HT1.out.below hb5 (Nat.le_refl _)) (by omega) (by omega) (.inr (Nat.le_refl _)) (lo := w.heap.size + 1) (by omega) (by omega)
      have HLIE := Lib.hid hlie
      clear oh hb5 hlie HT1 HZR HNR HKR HBR
      go_wp2_with fail
      ((with_reducible refine (Grp.sPublic x w5).mono ?_); rintro e w' ⟨rfl, rfl⟩)
      obtain ⟨k0, k1, k2, k3, f0⟩ := four_cells hz5
      clear hz5
      generalize hhe : hdr r (fillF K) K ns = H at HEQ HLIE HHL ⊢
      generalize hdTag r (fillF K) K ns = t at HEQ HLIE ⊢
      generalize hbe : bodyF (packL ls) K = bd at HEQ HLIE HBL ⊢
      have HBD : Hid (bd.length = 6) := by show _ = _; rw [HBL.out, HPL.out]
      clear hhe hbe
      go_wp2
      refine bodyPost_ret (v := .tuple #[.agg #[.int .i64 (mulG x 5), .slice AH 9 ch, .int .i64 t, .slice A1 6 c1], .bool true]) ?_ rfl ?_
      · rw [results_cell_tmp rfl]
        go_simp
      · rw [HEQ.out, HV.out]
        have hset := (((HB5.out.setCell (p := ⟨w.heap.size, 0, none⟩) (Nat.le_refl _) (.int .i64 (mulG x 5))).setCell (p := ⟨w.heap.size, 1, none⟩) (Nat.le_refl _) (.slice AH 9 ch)).setCell (p := ⟨w.heap.size, 2, none⟩) (Nat.le_refl _) (.int .i64 t)).setCell (p := ⟨w.heap.size, 3, none⟩) (Nat.le_refl _) (.slice A1 6 c1)
        refine ⟨AH, ch, A1, c1, b1, b2, by rw [HHL.out, HBD.out], ?_, by omega, by omega, hset⟩
        exact (((HLIE.out.set (q := ⟨w.heap.size, 0, none⟩) (by simp; omega) (by simp; omega) _).set (q := ⟨w.heap.size, 1, none⟩) (by simp; omega) (by simp; omega) _).set (q := ⟨w.heap.size, 2, none⟩) (by simp; omega) (by simp; omega) _).set (q := ⟨w.heap.size, 3, none⟩) (by simp; omega) (by simp; omega) _

end Sp5
end Go.Proofs.Ytnjcpbkpcmemeac
