/-
  The laws of chapter 5 on the way of packets, by the contracts of the functions that they call: each returns true and writes nothing that was there.
-/
import Derived.Test.YtdejnbbfdbafnaaSp5b
import Derived.Test.YtdejnbbfdbafnaaIm5e
import Derived.Test.YtdejnbbfdbafnaaDr5
import Derived.Test.YtdejnbbfdbafnaaHlp5
import Derived.Test.YtdejnbbfdbafnaaPo2
import Derived.Test.YtdejnbbfdbafnaaSec
import Derived.Deep.RegionLaw
import Derived.Deep.RegionHeld3
import Derived.Deep.QuietTactic
import Derived.Deep.Cut
import Derived.BigQuiet
namespace Go.Proofs.Ytdejnbbfdbafnaa
open Go.RowKit
namespace Law5w
open Gm Mm Tm Lm Pm Po Pq Il Rd Hlp5 LawB Sec
open Sp5 (pathOk pathF)

theorem pubL_ok (s : Int) {k : Nat} (h1 : 1 ≤ k) (h3 : k ≤ 3) : pubsOk (pubL s k) = true := by
  unfold pubsOk
  have ha : (pubL s k).all inG = true := by
    rw [List.all_eq_true]
    intro x hx
    unfold pubL at hx
    obtain ⟨y, hy, rfl⟩ := List.mem_map.1 hx
    exact mulG_pos (secL_in s k y hy) (by decide)
  rw [ha, pubL_len]
  simp
  omega
theorem way_ok {x r : Int} {ps ns ls : List Int} (s : Int) (h : makeOk x ps ns r ls = true) : makeOk x (pubL s ns.length) ns r ls = true ∧ 1 ≤ ns.length ∧ ns.length ≤ 3 := by
  obtain ⟨q1, q2, q3, q4, q5, q6⟩ := makeOk_iff.1 h
  have hl : 1 ≤ ns.length ∧ ns.length ≤ 3 := by
    unfold pubsOk at q3
    simp at q3
    omega
  exact ⟨makeOk_iff.2 ⟨q1, q2, pubL_ok s hl.1 hl.2, (pubL_len s ns.length).symm, q5, q6⟩, hl⟩

theorem make_body {x r : Int} {ps ns ls : List Int} (h : makeOk x ps ns r ls = true) : (makeF x ps ns r ls).bd = bodyF (packL ls) (keysF x ps) := by
  rw [makeF_yes h]
  rfl
theorem make_path {x r : Int} {ps ns ls : List Int} (h : makeOk x ps ns r ls = true) : pathOk x ps = true ∧ pathF x ps = keysF x ps ∧ ∀ k ∈ keysF x ps, inG k = true := by
  obtain ⟨q1, q2, q3, q4, q5, q6⟩ := makeOk_iff.1 h
  have h1 : pathOk x ps = true := by unfold pathOk; rw [q2, q3]; rfl
  refine ⟨h1, by simp [pathF, h1], keysF_in x ps q2 fun p hp => ?_⟩
  unfold pubsOk at q3
  simp at q3
  exact q3.1 p hp
def BodyRel (w wr : World) (b K : List Int) (k : Nat) (A : Option Addr) (c : Nat) : Prop := Ints 0 wr.heap.size wr A 6 c ((K.take k).foldl onL b) ∧ Below w.heap.size w wr
set_option maxRecDepth 20000 in
set_option maxHeartbeats 2000000 in
theorem fnPacketHidden (A : Option Addr) (n c : Nat) (A1 : Option Addr) (n1 c1 : Nat) (w : World) (h : CodeIs w A n c) :
    Calls Try.prog 6 #[.slice A n c, .slice A1 n1 c1] w (TruePost w) := by
  have HC := Lib.hid h
  clear h
  by_cases hn : 1048576 < n
  · go_enter Try.func6, Try.ntmps6
    go_wp2
    go_ret
    exact ⟨rfl, Below.refl _ _⟩
  by_cases hn1 : 1048576 < n1
  · go_enter Try.func6, Try.ntmps6
    go_wp2
    go_ret
    exact ⟨rfl, Below.refl _ _⟩
  have B : Hid (Below w.heap.size w w) := Below.refl _ _
  go_enter Try.func6, Try.ntmps6
  have hq : n ≤ 1048576 := by omega
  go_wp2_with fail
  ((with_reducible refine (DrawPacketMake _ _ _ _ HC.out).mono ?_); rintro e w1 ⟨x, r, AP, AN, AL, cp, cn, cl, ps, ns, ls, rfl, hx, hl1, hl2, hl3, i1, i2, i3, hb⟩)
  replace B := Lib.hid (B.out.trans (hb.mono B.out.size))
  have z1 := hb.size
  have IP := Lib.hid i1
  have IN := Lib.hid i2
  have IL := Lib.hid i3
  clear i1 i2 i3 hb
  go_wp2_with fail
  ((with_reducible refine (Im5.PacketMake _ _ _ _ _ _ _ _ _ _ _ _ _ _ _ ps ns ls x r _ IP.out IN.out IL.out).mono ?_); rintro e w2 ⟨AM, cm, BM, dm, g1, g2, rfl, hlie, hg1, hg2, hb⟩)
  replace IP := Lib.hid (IP.out.below hb (Nat.le_refl _))
  replace IN := Lib.hid (IN.out.below hb (Nat.le_refl _))
  replace IL := Lib.hid (IL.out.below hb (Nat.le_refl _))
  replace B := Lib.hid (B.out.trans (hb.mono B.out.size))
  have z2 := hb.size
  have LM := Lib.hid hlie
  clear hlie hb
  generalize hpe : makeF x ps ns r ls = p at *
  have hal : Below w2.heap.size w2 (w2.alloc (.cells #[.int .i64 p.el, .slice AM p.hd.length cm, .int .i64 p.tag, .slice BM p.bd.length dm] 27)) := (Below.refl _ _).alloc (Nat.le_refl _) _
  have hzz : Blk (w2.alloc (.cells #[.int .i64 p.el, .slice AM p.hd.length cm, .int .i64 p.tag, .slice BM p.bd.length dm] 27)) w2.heap.size #[.int .i64 p.el, .slice AM p.hd.length cm, .int .i64 p.tag, .slice BM p.bd.length dm] 27 := heap_alloc_new _ _
  replace IP := Lib.hid (IP.out.below hal (Nat.le_refl _))
  replace IN := Lib.hid (IN.out.below hal (Nat.le_refl _))
  replace IL := Lib.hid (IL.out.below hal (Nat.le_refl _))
  replace LM := Lib.hid (LM.out.below hal (Nat.le_refl _))
  replace B := Lib.hid (B.out.trans (hal.mono B.out.size))
  have ZM := Lib.hid hzz
  clear hzz
  clear hal
  go_wp2_with fail
  ((with_reducible refine (Sp5.PacketMake _ _ _ _ _ _ _ _ _ _ _ _ _ _ _ ps ns ls x r _ IP.out IN.out IL.out).mono ?_); rintro e w4 ⟨AS, cs, BS, ds, g3, g4, rfl, hlie, hg3, hg4, hb⟩)
  replace IP := Lib.hid (IP.out.below hb (Nat.le_refl _))
  replace IN := Lib.hid (IN.out.below hb (Nat.le_refl _))
  replace IL := Lib.hid (IL.out.below hb (Nat.le_refl _))
  replace LM := Lib.hid (LM.out.below hb (Nat.le_refl _))
  replace ZM := Lib.hid (ZM.out.below hb (Nat.le_refl _))
  replace B := Lib.hid (B.out.trans (hb.mono B.out.size))
  have z4 := hb.size
  have LS := Lib.hid hlie
  clear hlie hb
  rw [hpe] at LS ⊢
  have HPE := Lib.hid hpe
  clear hpe
  have hal : Below w4.heap.size w4 (w4.alloc (.cells #[.int .i64 p.el, .slice AS p.hd.length cs, .int .i64 p.tag, .slice BS p.bd.length ds] 27)) := (Below.refl _ _).alloc (Nat.le_refl _) _
  have hzz : Blk (w4.alloc (.cells #[.int .i64 p.el, .slice AS p.hd.length cs, .int .i64 p.tag, .slice BS p.bd.length ds] 27)) w4.heap.size #[.int .i64 p.el, .slice AS p.hd.length cs, .int .i64 p.tag, .slice BS p.bd.length ds] 27 := heap_alloc_new _ _
  replace IP := Lib.hid (IP.out.below hal (Nat.le_refl _))
  replace IN := Lib.hid (IN.out.below hal (Nat.le_refl _))
  replace IL := Lib.hid (IL.out.below hal (Nat.le_refl _))
  replace LM := Lib.hid (LM.out.below hal (Nat.le_refl _))
  replace ZM := Lib.hid (ZM.out.below hal (Nat.le_refl _))
  replace LS := Lib.hid (LS.out.below hal (Nat.le_refl _))
  replace B := Lib.hid (B.out.trans (hal.mono B.out.size))
  have ZS := Lib.hid hzz
  clear hzz
  clear hal
  cases hok : makeOk x ps ns r ls
  · obtain ⟨m0, m1, m2, m3, mf⟩ := four_cells ZM.out
    obtain ⟨s0, s1, s2, s3, sf⟩ := four_cells ZS.out
    go_wp2_with fail
    ((with_reducible refine (samePacket p _ _ _ _ _ _ _ _ _ _ _ _ _ _ _ _ _ LM.out.hdr.ints LM.out.bdy.ints LS.out.hdr.ints LS.out.bdy.ints).mono ?_); rintro e w6 ⟨rfl, hb⟩)
    replace IP := Lib.hid (IP.out.below hb (Nat.le_refl _))
    replace IN := Lib.hid (IN.out.below hb (Nat.le_refl _))
    replace IL := Lib.hid (IL.out.below hb (Nat.le_refl _))
    replace LM := Lib.hid (LM.out.below hb (Nat.le_refl _))
    replace ZM := Lib.hid (ZM.out.below hb (Nat.le_refl _))
    replace LS := Lib.hid (LS.out.below hb (Nat.le_refl _))
    replace ZS := Lib.hid (ZS.out.below hb (Nat.le_refl _))
    replace B := Lib.hid (B.out.trans (hb.mono B.out.size))
    have z6 := hb.size
    clear hb
    clear m0 m1 m2 m3 mf s0 s1 s2 s3 sf
    obtain ⟨m0, m1, m2, m3, mf⟩ := four_cells ZM.out
    obtain ⟨s0, s1, s2, s3, sf⟩ := four_cells ZS.out
    go_wp2_with fail
    ((with_reducible refine (samePacket p _ _ _ _ _ _ _ _ _ _ _ _ _ _ _ _ _ LM.out.hdr.ints LM.out.bdy.ints LS.out.hdr.ints LS.out.bdy.ints).mono ?_); rintro e w7 ⟨rfl, hb⟩)
    replace IP := Lib.hid (IP.out.below hb (Nat.le_refl _))
    replace IN := Lib.hid (IN.out.below hb (Nat.le_refl _))
    replace IL := Lib.hid (IL.out.below hb (Nat.le_refl _))
    replace LM := Lib.hid (LM.out.below hb (Nat.le_refl _))
    replace ZM := Lib.hid (ZM.out.below hb (Nat.le_refl _))
    replace LS := Lib.hid (LS.out.below hb (Nat.le_refl _))
    replace ZS := Lib.hid (ZS.out.below hb (Nat.le_refl _))
    replace B := Lib.hid (B.out.trans (hb.mono B.out.size))
    have z7 := hb.size
    clear hb
    clear m0 m1 m2 m3 mf s0 s1 s2 s3 sf
    clear hok
    go_wp2
    go_ret
    exact ⟨rfl, B.out⟩
  obtain ⟨m0, m1, m2, m3, mf⟩ := four_cells ZM.out
  obtain ⟨s0, s1, s2, s3, sf⟩ := four_cells ZS.out
  go_wp2_with fail
  ((with_reducible refine (samePacket p _ _ _ _ _ _ _ _ _ _ _ _ _ _ _ _ _ LM.out.hdr.ints LM.out.bdy.ints LS.out.hdr.ints LS.out.bdy.ints).mono ?_); rintro e w6 ⟨rfl, hb⟩)
  replace IP := Lib.hid (IP.out.below hb (Nat.le_refl _))
  replace IN := Lib.hid (IN.out.below hb (Nat.le_refl _))
  replace IL := Lib.hid (IL.out.below hb (Nat.le_refl _))
  replace LM := Lib.hid (LM.out.below hb (Nat.le_refl _))
  replace ZM := Lib.hid (ZM.out.below hb (Nat.le_refl _))
  replace LS := Lib.hid (LS.out.below hb (Nat.le_refl _))
  replace ZS := Lib.hid (ZS.out.below hb (Nat.le_refl _))
  replace B := Lib.hid (B.out.trans (hb.mono B.out.size))
  have z6 := hb.size
  clear hb
  clear m0 m1 m2 m3 mf s0 s1 s2 s3 sf
  have HK := Lib.hid hok
  clear hok
  clear LM LS ZM ZS IP
  obtain ⟨hk2, hn1, hn3⟩ := way_ok (n1 : Int) HK.out
  have HK2 := Lib.hid hk2
  clear hk2
  go_wp2_with fail
  ((with_reducible refine (Sec.secrets ns.length (n1 : Int) _ hn3 (by omega) (by omega)).mono ?_); rintro e w7 ⟨AA, ca, AB, cb, rfl, ia, ib, hb⟩)
  replace IN := Lib.hid (IN.out.below hb (Nat.le_refl _))
  replace IL := Lib.hid (IL.out.below hb (Nat.le_refl _))
  replace B := Lib.hid (B.out.trans (hb.mono B.out.size))
  have z7 := hb.size
  have IA := Lib.hid ia
  have IB := Lib.hid ib
  clear ia ib hb
  have hbl := pubL_len (n1 : Int) ns.length
  generalize pubL (n1 : Int) ns.length = bs at *
  have HBL := Lib.hid hbl
  clear hbl
  go_wp2_with fail
  ((with_reducible refine (Im5.PacketMake _ _ _ _ _ _ _ _ _ _ _ _ _ _ _ bs ns ls x r _ IB.out IN.out IL.out).mono ?_); rintro e w8 ⟨AX, cx, BX, dx, g5, g6, rfl, hlie, hg5, hg6, hb⟩)
  replace IN := Lib.hid (IN.out.below hb (Nat.le_refl _))
  replace IL := Lib.hid (IL.out.below hb (Nat.le_refl _))
  replace IA := Lib.hid (IA.out.below hb (Nat.le_refl _))
  replace IB := Lib.hid (IB.out.below hb (Nat.le_refl _))
  replace B := Lib.hid (B.out.trans (hb.mono B.out.size))
  have z8 := hb.size
  have LX := Lib.hid hlie
  clear hlie hb
  rw [HK2.out]
  have hbody := make_body HK2.out
  generalize makeF x bs ns r ls = q at *
  have HBODY := Lib.hid hbody
  clear hbody
  have hal : Below w8.heap.size w8 (w8.alloc (.cells #[.int .i64 q.el, .slice AX q.hd.length cx, .int .i64 q.tag, .slice BX q.bd.length dx] 27)) := (Below.refl _ _).alloc (Nat.le_refl _) _
  have hzz : Blk (w8.alloc (.cells #[.int .i64 q.el, .slice AX q.hd.length cx, .int .i64 q.tag, .slice BX q.bd.length dx] 27)) w8.heap.size #[.int .i64 q.el, .slice AX q.hd.length cx, .int .i64 q.tag, .slice BX q.bd.length dx] 27 := heap_alloc_new _ _
  replace IN := Lib.hid (IN.out.below hal (Nat.le_refl _))
  replace IL := Lib.hid (IL.out.below hal (Nat.le_refl _))
  replace IA := Lib.hid (IA.out.below hal (Nat.le_refl _))
  replace IB := Lib.hid (IB.out.below hal (Nat.le_refl _))
  replace LX := Lib.hid (LX.out.below hal (Nat.le_refl _))
  replace B := Lib.hid (B.out.trans (hal.mono B.out.size))
  have ZX := Lib.hid hzz
  clear hzz
  clear hal
  go_wp2_with fail
  ((with_reducible refine (Im5.PathKeys _ _ _ _ _ bs x _ IB.out).mono ?_); rintro e w10 ⟨AK, ck, rfl, ho, hb⟩)
  replace IN := Lib.hid (IN.out.below hb (Nat.le_refl _))
  replace IL := Lib.hid (IL.out.below hb (Nat.le_refl _))
  replace IA := Lib.hid (IA.out.below hb (Nat.le_refl _))
  replace IB := Lib.hid (IB.out.below hb (Nat.le_refl _))
  replace LX := Lib.hid (LX.out.below hb (Nat.le_refl _))
  replace ZX := Lib.hid (ZX.out.below hb (Nat.le_refl _))
  replace B := Lib.hid (B.out.trans (hb.mono B.out.size))
  have z10 := hb.size
  have OY := Lib.hid ho
  clear ho hb
  obtain ⟨hpo, hpf, hpi⟩ := make_path HK2.out
  rw [hpo]
  rw [hpf] at OY ⊢
  clear hpo hpf
  have hkl : (keysF x bs).length = ns.length := by rw [keysF_len, HBL.out]
  generalize keysF x bs = K at *
  have HKI := Lib.hid hpi
  have HKL := Lib.hid hkl
  rw [hkl] at OY ⊢
  clear hpi hkl
  go_wp2_with fail
  ((with_reducible refine (Im4.LetterPack _ _ _ _ _ ls _ IL.out).mono ?_); rintro e w11 ⟨AL2, cl2, rfl, ho, hb⟩)
  replace IN := Lib.hid (IN.out.below hb (Nat.le_refl _))
  replace IL := Lib.hid (IL.out.below hb (Nat.le_refl _))
  replace IA := Lib.hid (IA.out.below hb (Nat.le_refl _))
  replace IB := Lib.hid (IB.out.below hb (Nat.le_refl _))
  replace LX := Lib.hid (LX.out.below hb (Nat.le_refl _))
  replace ZX := Lib.hid (ZX.out.below hb (Nat.le_refl _))
  replace OY := Lib.hid (OY.out.below hb (Nat.le_refl _))
  replace B := Lib.hid (B.out.trans (hb.mono B.out.size))
  have z11 := hb.size
  have OL := Lib.hid ho
  clear ho hb
  have hpk := (makeOk_iff.1 HK2.out).1
  have HOKP := Lib.hid (packL_ok hpk)
  have hp6 := packL_len (packOk_iff.1 hpk).2
  rw [hpk]
  rw [packF_yes hpk] at OL ⊢
  rw [hp6] at OL ⊢
  have HPL := Lib.hid hp6
  clear hpk hp6
  have HM0 : Hid (BodyRel w11 w11 (packL ls) K 0 AL2 cl2) := ⟨ints_w OL.out.ints (Nat.zero_le _), Below.refl _ _⟩
  go_wp2
  go_loopw [21, 23] (fun v i wr => ∃ (A : Option Addr) (c k : Nat), k ≤ ns.length ∧ i = .int .i64 k ∧ v = .slice A 6 c ∧ Hid (BodyRel w11 wr (packL ls) K k A c)) (fun _ i _ => ns.length - (intOf i).toNat)
  case atStart => exact ⟨AL2, cl2, 0, Nat.zero_le _, rfl, rfl, HM0.out⟩
  case round =>
    obtain ⟨A1, c1, k, hk, rfl, rfl, hT⟩ := hrel
    clear HM0
    by_cases hlt : k < ns.length
    · obtain ⟨b, off, rfl, _, _, hcx⟩ := OY.out.ints.at_ hlt
      have hb4 : b < w11.heap.size := World.block_lt_of_cell? w11 _ hcx
      have ck := (hT.out.2.cell (p := ⟨b, off + k, none⟩) hb4).trans hcx
      have hkl : k < K.length := by rw [HKL.out]; exact hlt
      have hkk := HKI.out _ (getD_mem hkl)
      have HST := Lib.hid (Pn.bodyTo_succ (b := packL ls) hkl)
      have hso : okL ((K.take k).foldl onL (packL ls)) = true := body_ok (K.take k) (packL ls) HOKP.out
      have hon := onF_yes hso hkk
      have hln : ((K.take (k + 1)).foldl onL (packL ls)).length = 6 := by
        have := body_len (K.take (k + 1)) (packL ls)
        unfold bodyF at this
        rw [this, HPL.out]
      have HON := Lib.hid hon
      have HLN := Lib.hid hln
      have HT1 := Lib.hid hT.out.1
      have HT2 := Lib.hid hT.out.2
      generalize K.getD k 0 = key at *
      clear hT hcx hkl hso hln hon hkk
      go_wp2_with fail
      ((with_reducible refine (Im2.MaskOn _ _ _ _ _ _ key _ HT1.out).mono ?_); rintro e w40 ⟨A4, c4, rfl, ho4, hb4⟩)
      rw [HON.out, ← HST.out, HLN.out] at ho4 ⊢
      have HN : Hid (BodyRel w11 w40 (packL ls) K (k + 1) A4 c4) := ⟨ints_w ho4.1 (Nat.zero_le _), HT2.out.trans (hb4.mono HT2.out.size)⟩
      clear ho4 hb4 ck
      go_wp2
      go_roundw
      case rel => exact ⟨A4, c4, k + 1, by omega, by go_num, rfl, HN.out⟩
      case measure => simp [intOf]; omega
    · have hbt : (K.take k).foldl onL (packL ls) = bodyF (packL ls) K := by
        unfold bodyF
        rw [List.take_of_length_le (by rw [HKL.out]; omega)]
      have hT1 := hT.out.1
      rw [hbt] at hT1
      have HT1 := Lib.hid hT1
      have hbr := hT.out.2
      have LR := Lib.hid (LX.out.below hbr (Nat.le_refl _))
      have ZR := Lib.hid (ZX.out.below hbr (Nat.le_refl _))
      have BR := Lib.hid (B.out.trans (hbr.mono B.out.size))
      clear hT hT1 hbr hbt
      obtain ⟨k0, k1, k2, k3, kf⟩ := four_cells ZR.out
      go_wp2_with fail
      ((with_reducible refine (Hlp.sameInts _ _ _ _ _ _ _ _ _ _ _ _ _ LR.out.bdy.ints HT1.out).mono ?_); rintro e wf ⟨rfl, nn, rfl⟩)
      rw [decide_eq_true HBODY.out]
      go_wp2
      go_ret
      exact ⟨rfl, BR.out.os, BR.out.tape, BR.out.output, BR.out.size, BR.out.block⟩

end Law5w
end Go.Proofs.Ytdejnbbfdbafnaa
