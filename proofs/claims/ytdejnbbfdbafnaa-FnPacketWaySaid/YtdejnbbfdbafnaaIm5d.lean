/-
  Contracts of the program's chapter 5: valid packets, making a packet, peeling one.
-/
import Derived.Test.YtdejnbbfdbafnaaIm5c
import Derived.Laws.ResultCell
import Derived.BigQuiet
namespace Go.Proofs.Ytdejnbbfdbafnaa
open Go.RowKit
namespace Im5
open Il Gm Mm Tm Lm Pm Pn Pq Im2 Im3 Im4
open Sp5 (namesOk pathOk pathF pubs_in pubs_len)

set_option maxRecDepth 20000 in
theorem PacketValid (lo hi lo2 hi2 : Nat) (A B : Option Addr) (n c m d : Nat) (el tag : Int) (hd bd : List Int) (w : World) (hh : Ints lo hi w A n c hd) (hb : Ints lo2 hi2 w B m d bd) :
    Calls Try.prog 15 #[.agg #[.int .i64 el, .slice A n c, .int .i64 tag, .slice B m d]] w (BoolB (pktOk ⟨el, hd, tag, bd⟩) w) := by
  have hbA : Below w.heap.size w (w.alloc (.cells #[.int .i64 el, .slice A n c, .int .i64 tag, .slice B m d] 27)) := (Below.refl _ _).alloc (Nat.le_refl _) _
  have HH := Lib.hid (hh.below hbA (Nat.le_refl _))
  have HB := Lib.hid (hb.below hbA (Nat.le_refl _))
  have hc1 := hh.2.1
  have hc2 := hb.2.1
  have hc3 := hh.2.2.1
  have hc4 := hb.2.2.1
  unfold maxLen at hc3 hc4
  have L1 := Lib.hid hh.1
  have L2 := Lib.hid hb.1
  have BB := Lib.hid hbA
  clear hh hb hbA
  cases hg : inG el
  · have hv : pktOk ⟨el, hd, tag, bd⟩ = false := by
      cases h : pktOk ⟨el, hd, tag, bd⟩
      · rfl
      · obtain ⟨q1, q2, q3, q4, q5, q6⟩ := pktOk_iff.1 h
        dsimp only at q1 q2 q3 q4 q5 q6
        rw [hg] at q1; cases q1
    rw [hv]
    clear hv
    go_enter Try.func15, Try.ntmps15
    go_wp2_with fail
    ((with_reducible refine (inRange el _).mono ?_); rintro e w' ⟨rfl, rfl⟩)
    rw [hg]
    clear hg
    go_wp2
    go_ret
    exact ⟨rfl, BB.out⟩
  by_cases h9 : ¬ n = 9
  · have hv : pktOk ⟨el, hd, tag, bd⟩ = false := by
      cases h : pktOk ⟨el, hd, tag, bd⟩
      · rfl
      · obtain ⟨q1, q2, q3, q4, q5, q6⟩ := pktOk_iff.1 h
        dsimp only at q1 q2 q3 q4 q5 q6
        exact absurd (L1.out.symm.trans q3) h9
    rw [hv]
    clear hv
    have e9 : ((n : Int) == 9) = false := by simp; omega
    clear h9
    go_enter Try.func15, Try.ntmps15
    go_wp2_with fail
    ((with_reducible refine (inRange el _).mono ?_); rintro e w' ⟨rfl, rfl⟩)
    rw [hg]
    clear hg
    go_wp2
    go_ret
    exact ⟨rfl, BB.out⟩
  replace h9 : n = 9 := by omega
  subst h9
  cases hh : okL hd
  · have hv : pktOk ⟨el, hd, tag, bd⟩ = false := by
      cases h : pktOk ⟨el, hd, tag, bd⟩
      · rfl
      · obtain ⟨q1, q2, q3, q4, q5, q6⟩ := pktOk_iff.1 h
        dsimp only at q1 q2 q3 q4 q5 q6
        rw [hh] at q2; cases q2
    rw [hv]
    clear hv
    go_enter Try.func15, Try.ntmps15
    go_wp2_with fail
    ((with_reducible refine (inRange el _).mono ?_); rintro e w' ⟨rfl, rfl⟩)
    rw [hg]
    clear hg
    go_wp2_with fail
    ((with_reducible refine (listValid _ _ _ _ _ _ _ HH.out).mono ?_); rintro e w' ⟨rfl, rfl⟩)
    rw [hh]
    clear hh
    go_wp2
    go_ret
    exact ⟨rfl, BB.out⟩
  cases ht : inN tag
  · have hv : pktOk ⟨el, hd, tag, bd⟩ = false := by
      cases h : pktOk ⟨el, hd, tag, bd⟩
      · rfl
      · obtain ⟨q1, q2, q3, q4, q5, q6⟩ := pktOk_iff.1 h
        dsimp only at q1 q2 q3 q4 q5 q6
        rw [ht] at q4; cases q4
    rw [hv]
    clear hv
    go_enter Try.func15, Try.ntmps15
    go_wp2_with fail
    ((with_reducible refine (inRange el _).mono ?_); rintro e w' ⟨rfl, rfl⟩)
    rw [hg]
    clear hg
    go_wp2_with fail
    ((with_reducible refine (listValid _ _ _ _ _ _ _ HH.out).mono ?_); rintro e w' ⟨rfl, rfl⟩)
    rw [hh]
    clear hh
    go_wp2_with fail
    ((with_reducible refine (Nv.numberValid tag _).mono ?_); rintro e w' ⟨rfl, rfl⟩)
    rw [ht]
    clear ht
    go_wp2
    go_ret
    exact ⟨rfl, BB.out⟩
  by_cases h6 : ¬ m = 6
  · have hv : pktOk ⟨el, hd, tag, bd⟩ = false := by
      cases h : pktOk ⟨el, hd, tag, bd⟩
      · rfl
      · obtain ⟨q1, q2, q3, q4, q5, q6⟩ := pktOk_iff.1 h
        dsimp only at q1 q2 q3 q4 q5 q6
        exact absurd (L2.out.symm.trans q6) h6
    rw [hv]
    clear hv
    have e6 : ((m : Int) == 6) = false := by simp; omega
    clear h6
    go_enter Try.func15, Try.ntmps15
    go_wp2_with fail
    ((with_reducible refine (inRange el _).mono ?_); rintro e w' ⟨rfl, rfl⟩)
    rw [hg]
    clear hg
    go_wp2_with fail
    ((with_reducible refine (listValid _ _ _ _ _ _ _ HH.out).mono ?_); rintro e w' ⟨rfl, rfl⟩)
    rw [hh]
    clear hh
    go_wp2_with fail
    ((with_reducible refine (Nv.numberValid tag _).mono ?_); rintro e w' ⟨rfl, rfl⟩)
    rw [ht]
    clear ht
    go_wp2
    go_ret
    exact ⟨rfl, BB.out⟩
  replace h6 : m = 6 := by omega
  subst h6
  cases hb : okL bd
  · have hv : pktOk ⟨el, hd, tag, bd⟩ = false := by
      cases h : pktOk ⟨el, hd, tag, bd⟩
      · rfl
      · obtain ⟨q1, q2, q3, q4, q5, q6⟩ := pktOk_iff.1 h
        dsimp only at q1 q2 q3 q4 q5 q6
        rw [hb] at q5; cases q5
    rw [hv]
    clear hv
    go_enter Try.func15, Try.ntmps15
    go_wp2_with fail
    ((with_reducible refine (inRange el _).mono ?_); rintro e w' ⟨rfl, rfl⟩)
    rw [hg]
    clear hg
    go_wp2_with fail
    ((with_reducible refine (listValid _ _ _ _ _ _ _ HH.out).mono ?_); rintro e w' ⟨rfl, rfl⟩)
    rw [hh]
    clear hh
    go_wp2_with fail
    ((with_reducible refine (Nv.numberValid tag _).mono ?_); rintro e w' ⟨rfl, rfl⟩)
    rw [ht]
    clear ht
    go_wp2_with fail
    ((with_reducible refine (listValid _ _ _ _ _ _ _ HB.out).mono ?_); rintro e w' ⟨rfl, rfl⟩)
    rw [hb]
    clear hb
    go_wp2
    go_ret
    exact ⟨rfl, BB.out⟩
  have hv : pktOk ⟨el, hd, tag, bd⟩ = true := pktOk_iff.2 ⟨hg, hh, L1.out, ht, hb, L2.out⟩
  rw [hv]
  clear hv
  go_enter Try.func15, Try.ntmps15
  go_wp2_with fail
  ((with_reducible refine (inRange el _).mono ?_); rintro e w' ⟨rfl, rfl⟩)
  rw [hg]
  clear hg
  go_wp2_with fail
  ((with_reducible refine (listValid _ _ _ _ _ _ _ HH.out).mono ?_); rintro e w' ⟨rfl, rfl⟩)
  rw [hh]
  clear hh
  go_wp2_with fail
  ((with_reducible refine (Nv.numberValid tag _).mono ?_); rintro e w' ⟨rfl, rfl⟩)
  rw [ht]
  clear ht
  go_wp2_with fail
  ((with_reducible refine (listValid _ _ _ _ _ _ _ HB.out).mono ?_); rintro e w' ⟨rfl, rfl⟩)
  rw [hb]
  clear hb
  go_wp2
  go_ret
  exact ⟨rfl, BB.out⟩

set_option maxHeartbeats 1000000 in
set_option maxRecDepth 20000 in
theorem PacketMake (l1 h1 l2 h2 l3 h3 : Nat) (A B C : Option Addr) (n c m d q e : Nat) (ps ns ls : List Int) (x r : Int) (w : World) (ha : Ints l1 h1 w A n c ps) (hb : Ints l2 h2 w B m d ns) (hc : Ints l3 h3 w C q e ls) :
    Calls Try.prog 12 #[.int .i64 x, .slice A n c, .slice B m d, .int .i64 r, .slice C q e] w (PktPost (makeF x ps ns r ls) (makeOk x ps ns r ls) w) := by
  have hm1 := ha.2.1
  have hm2 := hb.2.1
  have hm3 := ha.2.2.1
  have hm4 := hb.2.2.1
  unfold maxLen at hm3 hm4
  have LA := Lib.hid ha.1
  have LB := Lib.hid hb.1
  have hw0 : Below w.heap.size w (w.alloc (.cells #[.int .i64 0, .slice none 0 0, .int .i64 0, .slice none 0 0] 27)) := (Below.refl _ _).alloc (Nat.le_refl _) _
  have hz0 : (w.alloc (.cells #[.int .i64 0, .slice none 0 0, .int .i64 0, .slice none 0 0] 27)).heap[w.heap.size]? = some (.cells #[.int .i64 0, .slice none 0 0, .int .i64 0, .slice none 0 0] 27 (0, 0)) := heap_alloc_new _ _
  have HNO : Hid (∀ w', makeOk x ps ns r ls = false → Below w.heap.size w w' → PktPost (makeF x ps ns r ls) (makeOk x ps ns r ls) w (.returned (.tuple #[.agg #[.int .i64 0, .slice none 0 0, .int .i64 0, .slice none 0 0], .bool false])) w') := fun w' h hb => by
    rw [makeF_no h, h]; exact pkt_zero hb
  have HA := Lib.hid (ha.below hw0 (Nat.le_refl _))
  have HB := Lib.hid (hb.below hw0 (Nat.le_refl _))
  have HC := Lib.hid (hc.below hw0 (Nat.le_refl _))
  have hs0 : (w.alloc (.cells #[.int .i64 0, .slice none 0 0, .int .i64 0, .slice none 0 0] 27)).heap.size = w.heap.size + 1 := by simp
  clear ha hb hc
  go_enter Try.func12, Try.ntmps12
  go_wp2_with fail
  ((with_reducible refine (PathKeys _ _ _ _ _ ps x _ HA.out).mono ?_); rintro e w1 ⟨AK, ck, rfl, ok, hb1⟩)
  have HZ1 := Lib.hid ((hb1.block w.heap.size (by omega)).trans hz0)
  have HB1 := Lib.hid (hw0.trans (hb1.mono (by omega)))
  replace HA := Lib.hid (HA.out.below hb1 (Nat.le_refl _))
  replace HB := Lib.hid (HB.out.below hb1 (Nat.le_refl _))
  replace HC := Lib.hid (HC.out.below hb1 (Nat.le_refl _))
  have hs1 := hb1.size
  have HK := Lib.hid ok
  clear ok hb1 hz0 hw0
  go_wp2_with fail
  ((with_reducible refine (LetterPack _ _ _ _ _ ls w1 HC.out).mono ?_); rintro e w2 ⟨AL, cl, rfl, ol, hb2⟩)
  have hz2 := (hb2.block w.heap.size (by omega)).trans HZ1.out
  have HB2 := Lib.hid (HB1.out.trans (hb2.mono (by omega)))
  replace HB := Lib.hid (HB.out.below hb2 (Nat.le_refl _))
  replace HK := Lib.hid (HK.out.below hb2 (Nat.le_refl _))
  have hs2 := hb2.size
  have HL := Lib.hid ol
  have k := fun j => cell_of_row w2 w.heap.size j _ _ _ hz2
  have f0 : ∀ j, w2.frozen? ⟨w.heap.size, j, none⟩ = false := fun j => by simp [World.frozen?, hz2]
  have k0 := k 0
  have k1 := k 1
  have k2 := k 2
  have k3 := k 3
  simp at k0 k1 k2 k3
  have HZ2 := Lib.hid hz2
  clear ol hb2 HA HC HZ1 HB1 hz2 k
  cases hp : pathOk x ps
  · have hv : makeOk x ps ns r ls = false := by
      cases h : makeOk x ps ns r ls
      · rfl
      · obtain ⟨q1, q2, q3, q4, q5, q6⟩ := makeOk_iff.1 h
        simp [pathOk, q2, q3] at hp
    have HV := Lib.hid hv
    clear hv
    go_wp2
    refine bodyPost_ret (v := .tuple #[.agg #[.int .i64 0, .slice none 0 0, .int .i64 0, .slice none 0 0], .bool false]) ?_ rfl (HNO.out _ HV.out ?_)
    · rw [results_cell_tmp rfl]
      go_simp
    · exact (((HB2.out.setCell (by simp) _).setCell (by simp) _).setCell (by simp) _).setCell (by simp) _
  have HPO := Lib.hid hp
  cases hq : packOk ls
  · have hv : makeOk x ps ns r ls = false := by
      cases h : makeOk x ps ns r ls
      · rfl
      · obtain ⟨q1, q2, q3, q4, q5, q6⟩ := makeOk_iff.1 h
        rw [q1] at hq; cases hq
    have HV := Lib.hid hv
    clear hv
    go_wp2
    refine bodyPost_ret (v := .tuple #[.agg #[.int .i64 0, .slice none 0 0, .int .i64 0, .slice none 0 0], .bool false]) ?_ rfl (HNO.out _ HV.out ?_)
    · rw [results_cell_tmp rfl]
      go_simp
    · exact (((HB2.out.setCell (by simp) _).setCell (by simp) _).setCell (by simp) _).setCell (by simp) _
  have HLO := Lib.hid hq
  by_cases hmn : ¬ m = n
  · have hv : makeOk x ps ns r ls = false := by
      cases h : makeOk x ps ns r ls
      · rfl
      · obtain ⟨q1, q2, q3, q4, q5, q6⟩ := makeOk_iff.1 h
        exact absurd (LB.out.symm.trans (q4.trans LA.out)) hmn
    have HV := Lib.hid hv
    clear hv
    have en : ((m : Int) != (n : Int)) = true := by simp; omega
    clear hmn
    go_wp2
    refine bodyPost_ret (v := .tuple #[.agg #[.int .i64 0, .slice none 0 0, .int .i64 0, .slice none 0 0], .bool false]) ?_ rfl (HNO.out _ HV.out ?_)
    · rw [results_cell_tmp rfl]
      go_simp
    · exact (((HB2.out.setCell (by simp) _).setCell (by simp) _).setCell (by simp) _).setCell (by simp) _
  replace hmn : m = n := by omega
  subst hmn
  cases hn : namesOk ns
  · have hv : makeOk x ps ns r ls = false := by
      cases h : makeOk x ps ns r ls
      · rfl
      · obtain ⟨q1, q2, q3, q4, q5, q6⟩ := makeOk_iff.1 h
        simp [namesOk] at hn; obtain ⟨y, hy, hy2⟩ := hn; exact absurd (q5 y hy) (by simp [hy2])
    have HV := Lib.hid hv
    clear hv
    go_wp2_with fail
    ((with_reducible refine (namesValid _ _ _ _ _ ns w2 HB.out).mono ?_); rintro e w' ⟨rfl, rfl⟩)
    rw [hn]
    clear hn
    go_wp2
    refine bodyPost_ret (v := .tuple #[.agg #[.int .i64 0, .slice none 0 0, .int .i64 0, .slice none 0 0], .bool false]) ?_ rfl (HNO.out _ HV.out ?_)
    · rw [results_cell_tmp rfl]
      go_simp
    · exact (((HB2.out.setCell (by simp) _).setCell (by simp) _).setCell (by simp) _).setCell (by simp) _
  have HNM := Lib.hid hn
  cases hr : inName r
  · have hv : makeOk x ps ns r ls = false := by
      cases h : makeOk x ps ns r ls
      · rfl
      · obtain ⟨q1, q2, q3, q4, q5, q6⟩ := makeOk_iff.1 h
        rw [q6] at hr; cases hr
    have HV := Lib.hid hv
    clear hv
    go_wp2_with fail
    ((with_reducible refine (namesValid _ _ _ _ _ ns w2 HB.out).mono ?_); rintro e w' ⟨rfl, rfl⟩)
    rw [hn]
    clear hn
    go_wp2_with fail
    ((with_reducible refine (nameValid r w2).mono ?_); rintro e w' ⟨rfl, rfl⟩)
    rw [hr]
    clear hr
    go_wp2
    refine bodyPost_ret (v := .tuple #[.agg #[.int .i64 0, .slice none 0 0, .int .i64 0, .slice none 0 0], .bool false]) ?_ rfl (HNO.out _ HV.out ?_)
    · rw [results_cell_tmp rfl]
      go_simp
    · exact (((HB2.out.setCell (by simp) _).setCell (by simp) _).setCell (by simp) _).setCell (by simp) _
  have HR := Lib.hid hr
  have hpo := HPO.out
  have hg : inG x = true := by unfold pathOk at hpo; simp at hpo; exact hpo.1
  have hpb : pubsOk ps = true := by unfold pathOk at hpo; simp at hpo; exact hpo.2
  have hpf : pathF x ps = keysF x ps := by simp [pathF, hpo]
  have HKI := Lib.hid (keysF_in x ps hg (pubs_in hpb))
  have hkl : (keysF x ps).length = m := by rw [keysF_len, LA.out]
  have hm3 : m ≤ 3 := by rw [← LA.out]; exact pubs_len hpb
  have hm1' : 1 ≤ m := by rw [← LA.out]; unfold pubsOk at hpb; simp at hpb; omega
  have hnm : ∀ y ∈ ns, inName y = true := by
    have := HNM.out
    unfold namesOk at this
    exact List.all_eq_true.1 this
  have hv : makeOk x ps ns r ls = true := makeOk_iff.2 ⟨HLO.out, hg, hpb, by rw [LB.out, LA.out], hnm, HR.out⟩
  have hkc : ∃ k ks, keysF x ps = k :: ks := by
    match hks : keysF x ps, hkl with
    | [], hl => simp at hl; omega
    | k :: ks, _ => exact ⟨k, ks, rfl⟩
  have HV := Lib.hid hv
  rw [hpf, hkl] at HK ⊢
  rw [packF_yes HLO.out, packL_len (packOk_iff.1 HLO.out).2] at HL ⊢
  have HIN := Lib.hid (layL_in (keysF x ps) ns r HKI.out (by rw [hkl, LB.out]) hnm HR.out)
  have HLL : Hid ((layL (keysF x ps) ns r).length = m) := by show _ = _; rw [layL_len, hkl]
  have HLK := Lib.hid (layL_keys (keysF x ps) ns r)
  have HFI := Lib.hid (fillF_in (keysF x ps))
  have HFL : Hid ((fillF (keysF x ps)).length ≤ 6) := by show _ ≤ _; rw [fillF_len, hkl]; omega
  have HHD := fun f => hdrL_lay f (keysF x ps) ns r
  obtain ⟨k, ks, hks⟩ := hkc
  obtain ⟨y, L, hlay⟩ := layL_cons k ks ns r
  rw [← hks] at hlay
  have HOKP := Lib.hid (packL_ok HLO.out)
  have HMK := Lib.hid (makeF_yes hv)
  have hhead : (keysF x ps).headD 0 = k := by rw [hks]; rfl
  have HEQ : Hid (makeF x ps ns r ls = ⟨mulG x 5, hdrL (fillF (keysF x ps)) ((k, y) :: L), tagL k (hdrL (fillF (keysF x ps)) ((k, y) :: L)), bodyF (packL ls) (keysF x ps)⟩) := by
    show _ = _
    rw [HMK.out, ← hlay, HHD]
    unfold pkt
    rw [hhead]
  have HBL := Lib.hid (body_len (keysF x ps) (packL ls))
  have HPL := Lib.hid (packL_len (packOk_iff.1 HLO.out).2)
  have HLAY := Lib.hid hlay
  clear hpo hg hpb hpf hnm hv hkl HHD hks hlay hhead HMK HNO
  generalize keysF x ps = K at *
  go_wp2_with fail
  ((with_reducible refine (namesValid _ _ _ _ _ ns w2 HB.out).mono ?_); rintro e w' ⟨rfl, rfl⟩)
  rw [hn]
  clear hn
  go_wp2_with fail
  ((with_reducible refine (nameValid r w2).mono ?_); rintro e w' ⟨rfl, rfl⟩)
  rw [hr]
  clear hr hp hq
  go_wp2_with fail
  ((with_reducible refine (layersOf _ _ _ _ _ _ _ _ _ _ K ns r w2 HK.out.ints HB.out (Nat.le_refl _) hm3).mono ?_); rintro e w3 ⟨a, rfl, hch, hb3⟩)
  have HB3 := Lib.hid (HB2.out.trans (hb3.mono (by omega)))
  have HC3 := Lib.hid hch
  have HZ3 := Lib.hid ((hb3.block w.heap.size (by omega)).trans HZ2.out)
  have HL3 := Lib.hid (HL.out.below hb3 (Nat.le_refl _))
  have hs3 := hb3.size
  clear hch hb3 k0 k1 k2 k3 f0 HK HB
  go_wp2_with fail
  ((with_reducible refine (filler a (layL K ns r) w3 HC3.out (fun p hp => (HIN.out p hp).1) (by rw [HLL.out]; exact hm1') (by rw [HLL.out]; exact hm3)).mono ?_); rintro e w4 ⟨AF, cf, rfl, hif, hb4⟩)
  rw [HLK.out] at hif ⊢
  have HB4 := Lib.hid (HB3.out.trans (hb4.mono (by omega)))
  have HC4 := Lib.hid (Chain.below hb4 (Nat.le_refl _) HC3.out)
  have HZ4 := Lib.hid ((hb4.block w.heap.size (by omega)).trans HZ3.out)
  have HL4 := Lib.hid (HL3.out.below hb4 (Nat.le_refl _))
  have HF4 := Lib.hid hif
  have hs4 := hb4.size
  clear hif hb4 HC3 HZ3 HL3 HB3
  have hc4 := HC4.out
  rw [HLAY.out] at hc4
  have HC4b := Lib.hid hc4
  have HIN2 : Hid (∀ q ∈ (k, y) :: L, inG q.1 = true ∧ inName q.2 = true) := by rw [← HLAY.out]; exact HIN.out
  clear hc4
  go_wp2_with fail
  ((with_reducible refine (header (fillF K) _ _ _ _ _ HFL.out HFI.out L (k, y) a w4 HC4b.out HIN2.out HF4.out).mono ?_); rintro e w5 ⟨AH, ch, rfl, oh, hb5⟩)
  have HHL := Lib.hid (hdrL_len (fillF K) HFL.out (k, y) L)
  rw [HHL.out] at oh ⊢
  have HB5 := Lib.hid (HB4.out.trans (hb5.mono (by omega)))
  have HC5 := Lib.hid (Chain.below hb5 (Nat.le_refl _) HC4.out)
  have HZ5 := Lib.hid ((hb5.block w.heap.size (by omega)).trans HZ4.out)
  have HL5 := Lib.hid (HL4.out.below hb5 (Nat.le_refl _))
  have HH5 := Lib.hid oh
  have hs5 := hb5.size
  clear oh hb5 HC4 HC4b HZ4 HL4 HB4 HF4 HIN2
  go_wp2_with fail
  ((with_reducible refine (Grp.iPublic x w5).mono ?_); rintro e w' ⟨rfl, rfl⟩)
  go_wp2_with fail
  ((with_reducible refine (maskBody a (layL K ns r) _ _ _ _ (packL ls) w5 HC5.out (fun p hp => (HIN.out p hp).1) (by rw [HLL.out]; exact hm1') (by rw [HLL.out]; exact hm3) HL5.out HOKP.out).mono ?_); rintro e w6 ⟨AB, cb, rfl, ob, hb6⟩)
  rw [HLK.out, HBL.out, HPL.out] at ob ⊢
  have HB6 := Lib.hid (HB5.out.trans (hb6.mono (by omega)))
  have hz6 := (hb6.block w.heap.size (by omega)).trans HZ5.out
  have hlie := lies_of (el := mulG x 5) (tag := tagL k (hdrL (fillF K) ((k, y) :: L))) (HH5.out.below hb6 (Nat.le_refl _)) ob (by omega) (by omega) (.inl (Nat.le_refl _)) (lo := w.heap.size + 1) (by omega) (by omega)
  have kk := fun j => cell_of_row w6 w.heap.size j _ _ _ hz6
  have f0 : ∀ j, w6.frozen? ⟨w.heap.size, j, none⟩ = false := fun j => by simp [World.frozen?, hz6]
  have k0 := kk 0
  have k1 := kk 1
  have k2 := kk 2
  have k3 := kk 3
  simp at k0 k1 k2 k3
  obtain ⟨b1, b2, hlie, hg1, hg2⟩ := hlie
  have HLIE := Lib.hid hlie
  clear hz6 kk hlie ob hb6 HC5 HZ5 HL5 HB5 HH5
  generalize hhe : hdrL (fillF K) ((k, y) :: L) = H at HEQ HLIE HHL ⊢
  generalize tagL k H = t at HEQ HLIE ⊢
  generalize hbe : bodyF (packL ls) K = bd at HEQ HLIE HBL ⊢
  have HBD : Hid (bd.length = 6) := by show _ = _; rw [HBL.out, HPL.out]
  clear hhe hbe
  go_wp2
  refine bodyPost_ret (v := .tuple #[.agg #[.int .i64 (mulG x 5), .slice AH 9 ch, .int .i64 t, .slice AB 6 cb], .bool true]) ?_ rfl ?_
  · rw [results_cell_tmp rfl]
    go_simp
  · rw [HEQ.out, HV.out]
    have hset := (((HB6.out.setCell (p := ⟨w.heap.size, 0, none⟩) (Nat.le_refl _) (.int .i64 (mulG x 5))).setCell (p := ⟨w.heap.size, 1, none⟩) (Nat.le_refl _) (.slice AH 9 ch)).setCell (p := ⟨w.heap.size, 2, none⟩) (Nat.le_refl _) (.int .i64 t)).setCell (p := ⟨w.heap.size, 3, none⟩) (Nat.le_refl _) (.slice AB 6 cb)
    refine ⟨AH, ch, AB, cb, b1, b2, by rw [HHL.out, HBD.out], ?_, by omega, by omega, hset⟩
    exact (((HLIE.out.set (q := ⟨w.heap.size, 0, none⟩) (by simp; omega) (by simp; omega) _).set (q := ⟨w.heap.size, 1, none⟩) (by simp; omega) (by simp; omega) _).set (q := ⟨w.heap.size, 2, none⟩) (by simp; omega) (by simp; omega) _).set (q := ⟨w.heap.size, 3, none⟩) (by simp; omega) (by simp; omega) _

end Im5
end Go.Proofs.Ytdejnbbfdbafnaa
