/-
  The laws of chapter 5 on peeling packets, by the contracts of the functions that they call: each returns true and writes nothing that was there.
-/
import Derived.Test.YtebehilddklcfabSp5c
import Derived.Test.YtebehilddklcfabIm5e
import Derived.Test.YtebehilddklcfabDr5r
import Derived.Test.YtebehilddklcfabHlp5
import Derived.Test.YtebehilddklcfabPo
import Derived.Test.YtebehilddklcfabElt
import Derived.Deep.RegionLaw
namespace Go.Proofs.Ytebehilddklcfab
open Go.RowKit
namespace Law5p
open Gm Mm Tm Lm Pm Po Pq Il Rd Hlp5 LawB

theorem fnPeelOther (A : Option Addr) (n c : Nat) (w : World) (h : CodeIs w A n c) :
    Calls Try.prog 3 #[.slice A n c] w (TruePost w) := by
  have HC := Lib.hid h
  clear h
  by_cases hn : 1048576 < n
  · go_enter Try.func3, Try.ntmps3
    go_wp2
    go_ret
    exact ⟨rfl, Below.refl _ _⟩
  have B : Hid (Below w.heap.size w w) := Below.refl _ _
  go_enter Try.func3, Try.ntmps3
  have hq : n ≤ 1048576 := by omega
  go_wp2_with fail
  ((with_reducible refine (DrawPacketPeel _ _ _ _ HC.out).mono ?_); rintro e w1 ⟨x, q, AP, cp, BP, dp, rfl, hm1, hm2, i1, i2, hb⟩)
  replace B := Lib.hid (B.out.trans (hb.mono B.out.size))
  have z1 := hb.size
  have IH := Lib.hid i1
  have IB := Lib.hid i2
  clear i1 i2 hb
  have hal : Below w1.heap.size w1 (w1.alloc (.cells #[.int .i64 q.el, .slice AP q.hd.length cp, .int .i64 q.tag, .slice BP q.bd.length dp] 25)) := (Below.refl _ _).alloc (Nat.le_refl _) _
  have hzz : Blk (w1.alloc (.cells #[.int .i64 q.el, .slice AP q.hd.length cp, .int .i64 q.tag, .slice BP q.bd.length dp] 25)) w1.heap.size #[.int .i64 q.el, .slice AP q.hd.length cp, .int .i64 q.tag, .slice BP q.bd.length dp] 25 := heap_alloc_new _ _
  replace IH := Lib.hid (IH.out.below hal (Nat.le_refl _))
  replace IB := Lib.hid (IB.out.below hal (Nat.le_refl _))
  replace B := Lib.hid (B.out.trans (hal.mono B.out.size))
  have ZP := Lib.hid hzz
  clear hzz
  clear hal
  obtain ⟨k0, k1, k2, k3, kf⟩ := four_cells ZP.out
  go_wp2_with fail
  ((with_reducible refine (Im5.PacketPeel _ _ _ _ _ _ _ _ _ _ x q.el q.tag q.hd q.bd _ IH.out IB.out).mono ?_); rintro e w3 ⟨AM, cm, BM, dm, g1, g2, rfl, hlie, hg1, hg2, hb⟩)
  replace IH := Lib.hid (IH.out.below hb (Nat.le_refl _))
  replace IB := Lib.hid (IB.out.below hb (Nat.le_refl _))
  replace ZP := Lib.hid (ZP.out.below hb (Nat.le_refl _))
  replace B := Lib.hid (B.out.trans (hb.mono B.out.size))
  have z3 := hb.size
  have LM := Lib.hid hlie
  clear hlie hb
  clear k0 k1 k2 k3 kf
  generalize hpe : peelF x ⟨q.el, q.hd, q.tag, q.bd⟩ = p at *
  have hal : Below w3.heap.size w3 (w3.alloc (.cells #[.int .i64 p.kind, .int .i64 p.next, .int .i64 p.pk.el, .slice AM p.pk.hd.length cm, .int .i64 p.pk.tag, .slice BM p.pk.bd.length dm] 29)) := (Below.refl _ _).alloc (Nat.le_refl _) _
  have hzz : Blk (w3.alloc (.cells #[.int .i64 p.kind, .int .i64 p.next, .int .i64 p.pk.el, .slice AM p.pk.hd.length cm, .int .i64 p.pk.tag, .slice BM p.pk.bd.length dm] 29)) w3.heap.size #[.int .i64 p.kind, .int .i64 p.next, .int .i64 p.pk.el, .slice AM p.pk.hd.length cm, .int .i64 p.pk.tag, .slice BM p.pk.bd.length dm] 29 := heap_alloc_new _ _
  replace IH := Lib.hid (IH.out.below hal (Nat.le_refl _))
  replace IB := Lib.hid (IB.out.below hal (Nat.le_refl _))
  replace ZP := Lib.hid (ZP.out.below hal (Nat.le_refl _))
  replace LM := Lib.hid (LM.out.below hal (Nat.le_refl _))
  replace B := Lib.hid (B.out.trans (hal.mono B.out.size))
  have ZM := Lib.hid hzz
  clear hzz
  clear hal
  obtain ⟨k0, k1, k2, k3, kf⟩ := four_cells ZP.out
  go_wp2_with fail
  ((with_reducible refine (Sp5.PacketPeel _ _ _ _ _ _ _ _ _ _ x q.el q.tag q.hd q.bd _ IH.out IB.out).mono ?_); rintro e w5 ⟨AS, cs, BS, ds, g3, g4, rfl, hlie, hg3, hg4, hb⟩)
  replace IH := Lib.hid (IH.out.below hb (Nat.le_refl _))
  replace IB := Lib.hid (IB.out.below hb (Nat.le_refl _))
  replace ZP := Lib.hid (ZP.out.below hb (Nat.le_refl _))
  replace LM := Lib.hid (LM.out.below hb (Nat.le_refl _))
  replace ZM := Lib.hid (ZM.out.below hb (Nat.le_refl _))
  replace B := Lib.hid (B.out.trans (hb.mono B.out.size))
  have z5 := hb.size
  have LS := Lib.hid hlie
  clear hlie hb
  clear k0 k1 k2 k3 kf
  rw [hpe] at LS ⊢
  have HPE := Lib.hid hpe
  clear hpe
  have hal : Below w5.heap.size w5 (w5.alloc (.cells #[.int .i64 p.kind, .int .i64 p.next, .int .i64 p.pk.el, .slice AS p.pk.hd.length cs, .int .i64 p.pk.tag, .slice BS p.pk.bd.length ds] 29)) := (Below.refl _ _).alloc (Nat.le_refl _) _
  have hzz : Blk (w5.alloc (.cells #[.int .i64 p.kind, .int .i64 p.next, .int .i64 p.pk.el, .slice AS p.pk.hd.length cs, .int .i64 p.pk.tag, .slice BS p.pk.bd.length ds] 29)) w5.heap.size #[.int .i64 p.kind, .int .i64 p.next, .int .i64 p.pk.el, .slice AS p.pk.hd.length cs, .int .i64 p.pk.tag, .slice BS p.pk.bd.length ds] 29 := heap_alloc_new _ _
  replace IH := Lib.hid (IH.out.below hal (Nat.le_refl _))
  replace IB := Lib.hid (IB.out.below hal (Nat.le_refl _))
  replace ZP := Lib.hid (ZP.out.below hal (Nat.le_refl _))
  replace LM := Lib.hid (LM.out.below hal (Nat.le_refl _))
  replace ZM := Lib.hid (ZM.out.below hal (Nat.le_refl _))
  replace LS := Lib.hid (LS.out.below hal (Nat.le_refl _))
  replace B := Lib.hid (B.out.trans (hal.mono B.out.size))
  have ZS := Lib.hid hzz
  clear hzz
  clear hal
  cases hok : peelOk x ⟨q.el, q.hd, q.tag, q.bd⟩
  · obtain ⟨m0, m1, m2, m3, m4, m5, mf⟩ := six_cells ZM.out
    obtain ⟨s0, s1, s2, s3, s4, s5, sf⟩ := six_cells ZS.out
    go_wp2_with fail
    ((with_reducible refine (samePeeled p _ _ _ _ _ _ _ _ _ _ _ _ _ _ _ _ _ LM.out.hdr.ints LM.out.bdy.ints LS.out.hdr.ints LS.out.bdy.ints).mono ?_); rintro e w7 ⟨rfl, hb⟩)
    replace IH := Lib.hid (IH.out.below hb (Nat.le_refl _))
    replace IB := Lib.hid (IB.out.below hb (Nat.le_refl _))
    replace ZP := Lib.hid (ZP.out.below hb (Nat.le_refl _))
    replace LM := Lib.hid (LM.out.below hb (Nat.le_refl _))
    replace ZM := Lib.hid (ZM.out.below hb (Nat.le_refl _))
    replace LS := Lib.hid (LS.out.below hb (Nat.le_refl _))
    replace ZS := Lib.hid (ZS.out.below hb (Nat.le_refl _))
    replace B := Lib.hid (B.out.trans (hb.mono B.out.size))
    have z7 := hb.size
    clear hb
    clear m0 m1 m2 m3 m4 m5 mf s0 s1 s2 s3 s4 s5 sf
    obtain ⟨m0, m1, m2, m3, m4, m5, mf⟩ := six_cells ZM.out
    obtain ⟨s0, s1, s2, s3, s4, s5, sf⟩ := six_cells ZS.out
    go_wp2_with fail
    ((with_reducible refine (samePeeled p _ _ _ _ _ _ _ _ _ _ _ _ _ _ _ _ _ LM.out.hdr.ints LM.out.bdy.ints LS.out.hdr.ints LS.out.bdy.ints).mono ?_); rintro e w8 ⟨rfl, hb⟩)
    replace IH := Lib.hid (IH.out.below hb (Nat.le_refl _))
    replace IB := Lib.hid (IB.out.below hb (Nat.le_refl _))
    replace ZP := Lib.hid (ZP.out.below hb (Nat.le_refl _))
    replace LM := Lib.hid (LM.out.below hb (Nat.le_refl _))
    replace ZM := Lib.hid (ZM.out.below hb (Nat.le_refl _))
    replace LS := Lib.hid (LS.out.below hb (Nat.le_refl _))
    replace ZS := Lib.hid (ZS.out.below hb (Nat.le_refl _))
    replace B := Lib.hid (B.out.trans (hb.mono B.out.size))
    have z8 := hb.size
    clear hb
    clear m0 m1 m2 m3 m4 m5 mf s0 s1 s2 s3 s4 s5 sf
    clear hok
    go_wp2
    go_ret
    exact ⟨rfl, B.out⟩
  obtain ⟨m0, m1, m2, m3, m4, m5, mf⟩ := six_cells ZM.out
  obtain ⟨s0, s1, s2, s3, s4, s5, sf⟩ := six_cells ZS.out
  go_wp2_with fail
  ((with_reducible refine (samePeeled p _ _ _ _ _ _ _ _ _ _ _ _ _ _ _ _ _ LM.out.hdr.ints LM.out.bdy.ints LS.out.hdr.ints LS.out.bdy.ints).mono ?_); rintro e w7 ⟨rfl, hb⟩)
  replace IH := Lib.hid (IH.out.below hb (Nat.le_refl _))
  replace IB := Lib.hid (IB.out.below hb (Nat.le_refl _))
  replace ZP := Lib.hid (ZP.out.below hb (Nat.le_refl _))
  replace LM := Lib.hid (LM.out.below hb (Nat.le_refl _))
  replace ZM := Lib.hid (ZM.out.below hb (Nat.le_refl _))
  replace LS := Lib.hid (LS.out.below hb (Nat.le_refl _))
  replace ZS := Lib.hid (ZS.out.below hb (Nat.le_refl _))
  replace B := Lib.hid (B.out.trans (hb.mono B.out.size))
  have z7 := hb.size
  clear hb
  clear m0 m1 m2 m3 m4 m5 mf s0 s1 s2 s3 s4 s5 sf
  have HK := Lib.hid hok
  clear hok
  obtain ⟨k0, k1, k2, k3, kf⟩ := four_cells ZP.out
  obtain ⟨o1, o2, o3, o4, o5⟩ := peelOk_iff.1 HK.out
  obtain ⟨u1, u2, u3, u4, u5, u6⟩ := pktOk_iff.1 o2
  dsimp only at u1 u2 u3 u4 u5 u6
  have htc : tagC (mulG x q.el) q.hd q.tag = true := tagC_iff.2 ⟨(inN_iff.1 u4).1, by rw [tagF_yes (mulG_pos o1 u1) u2]; exact o3⟩
  have HTC := Lib.hid htc
  clear htc o1 o2 o3 o4 o5 u1 u2 u3 u4 u5 u6
  have IHD : Hid (Ints _ _ w7.drew AP q.hd.length cp q.hd) := IH.out
  go_wp2_with fail
  go_region_law (first | (go_simp; go_at_call 15; refine (Grp.iShared x q.el _).mono ?_; rintro e w2 ⟨rfl, rfl⟩) | (go_simp; go_at_call 14; refine (Im3.TagCheck _ _ _ _ _ q.hd (mulG x q.el) q.tag _ IHD.out).mono ?_; rintro e wv ⟨rfl, hbv0⟩; rw [HTC.out]))
  all_goals
    have hbv : Below w7.heap.size w7 wv := below_drew hbv0
    have B9 := Lib.hid (B.out.trans (hbv.mono B.out.size))
    clear hbv hbv0
    go_wp2
    go_ret
    exact ⟨rfl, B9.out⟩

end Law5p
end Go.Proofs.Ytebehilddklcfab
