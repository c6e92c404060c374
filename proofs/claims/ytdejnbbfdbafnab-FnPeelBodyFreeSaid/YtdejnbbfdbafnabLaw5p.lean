/-
  The laws of chapter 5 on peeling packets, by the contracts of the functions that they call: each returns true and writes nothing that was there.
-/
import Derived.Test.YtdejnbbfdbafnabSp5c
import Derived.Test.YtdejnbbfdbafnabIm5e
import Derived.Test.YtdejnbbfdbafnabDr5r
import Derived.Test.YtdejnbbfdbafnabHlp5
import Derived.Test.YtdejnbbfdbafnabPo2
import Derived.Test.YtdejnbbfdbafnabElt
import Derived.Deep.RegionLaw
import Derived.Deep.RegionHeld3
import Derived.Deep.Cut
import Derived.Deep.QuietTactic
import Derived.BigQuiet
namespace Go.Proofs.Ytdejnbbfdbafnab
open Go.RowKit
namespace Law5p
open Gm Mm Tm Lm Pm Po Pq Il Rd Hlp5 LawB

theorem samePeeled0 (A B : Option Addr) (c d : Nat) (hc : c ≤ maxLen) (hd : d ≤ maxLen) (w : World) :
    Calls Try.prog 21 #[.agg #[.int .i64 0, .int .i64 0, .int .i64 0, .slice A 0 c, .int .i64 0, .slice B 0 d], .agg #[.int .i64 0, .int .i64 0, .int .i64 0, .slice none 0 0, .int .i64 0, .slice none 0 0]] w (BoolB true w) :=
  samePeeled Pld.zero A B none none c d 0 0 0 0 0 0 0 0 0 0 w (Ints.nil_ hc) (Ints.nil_ hd) (Ints.nil_ (Nat.zero_le _)) (Ints.nil_ (Nat.zero_le _))

theorem fnPeelOther (A : Option Addr) (n c : Nat) (w : World) (h : CodeIs w A n c) :
    Calls Try.prog 8 #[.slice A n c] w (TruePost w) := by
  have HC := Lib.hid h
  clear h
  by_cases hn : 1048576 < n
  · go_enter Try.func8, Try.ntmps8
    go_wp2
    go_ret
    exact ⟨rfl, Below.refl _ _⟩
  have B : Hid (Below w.heap.size w w) := Below.refl _ _
  go_enter Try.func8, Try.ntmps8
  have hq : n ≤ 1048576 := by omega
  go_wp2_with fail
  ((with_reducible refine (DrawPacketPeel _ _ _ _ HC.out).mono ?_); rintro e w1 ⟨x, q, AP, cp, BP, dp, rfl, hm1, hm2, i1, i2, hb⟩)
  replace B := Lib.hid (B.out.trans (hb.mono B.out.size))
  have z1 := hb.size
  have IH := Lib.hid i1
  have IB := Lib.hid i2
  clear i1 i2 hb
  have hal : Below w1.heap.size w1 (w1.alloc (.cells #[.int .i64 q.el, .slice AP q.hd.length cp, .int .i64 q.tag, .slice BP q.bd.length dp] 26)) := (Below.refl _ _).alloc (Nat.le_refl _) _
  have hzz : Blk (w1.alloc (.cells #[.int .i64 q.el, .slice AP q.hd.length cp, .int .i64 q.tag, .slice BP q.bd.length dp] 26)) w1.heap.size #[.int .i64 q.el, .slice AP q.hd.length cp, .int .i64 q.tag, .slice BP q.bd.length dp] 26 := heap_alloc_new _ _
  replace IH := Lib.hid (IH.out.below hal (Nat.le_refl _))
  replace IB := Lib.hid (IB.out.below hal (Nat.le_refl _))
  replace B := Lib.hid (B.out.trans (hal.mono B.out.size))
  have ZP := Lib.hid hzz
  clear hzz
  clear hal
  obtain ⟨k0, k1, k2, k3, kf⟩ := four_cells ZP.out
  go_wp2_with fail
  ((with_reducible refine (Im5.PacketPeel _ _ _ _ _ _ _ _ _ _ x q.el q.tag q.hd q.bd _ IH.out IB.out).mono ?_); rintro e w3 ⟨AM, cm, BM, dm, g1, g2, rfl, hlie, hg1, hg2, hb⟩)
  replace IH := Lib.hid (IH.out.below hb (Nat.le_refl _))
  replace IB := Lib.hid (IB.out.below hb (Nat.le_refl _))
  replace ZP := Lib.hid (ZP.out.below hb (Nat.le_refl _))
  replace B := Lib.hid (B.out.trans (hb.mono B.out.size))
  have z3 := hb.size
  have LM := Lib.hid hlie
  clear hlie hb
  clear k0 k1 k2 k3 kf
  generalize hpe : peelF x ⟨q.el, q.hd, q.tag, q.bd⟩ = p at *
  have hal : Below w3.heap.size w3 (w3.alloc (.cells #[.int .i64 p.kind, .int .i64 p.next, .int .i64 p.pk.el, .slice AM p.pk.hd.length cm, .int .i64 p.pk.tag, .slice BM p.pk.bd.length dm] 28)) := (Below.refl _ _).alloc (Nat.le_refl _) _
  have hzz : Blk (w3.alloc (.cells #[.int .i64 p.kind, .int .i64 p.next, .int .i64 p.pk.el, .slice AM p.pk.hd.length cm, .int .i64 p.pk.tag, .slice BM p.pk.bd.length dm] 28)) w3.heap.size #[.int .i64 p.kind, .int .i64 p.next, .int .i64 p.pk.el, .slice AM p.pk.hd.length cm, .int .i64 p.pk.tag, .slice BM p.pk.bd.length dm] 28 := heap_alloc_new _ _
  replace IH := Lib.hid (IH.out.below hal (Nat.le_refl _))
  replace IB := Lib.hid (IB.out.below hal (Nat.le_refl _))
  replace ZP := Lib.hid (ZP.out.below hal (Nat.le_refl _))
  replace LM := Lib.hid (LM.out.below hal (Nat.le_refl _))
  replace B := Lib.hid (B.out.trans (hal.mono B.out.size))
  have ZM := Lib.hid hzz
  clear hzz
  clear hal
  obtain ⟨k0, k1, k2, k3, kf⟩ := four_cells ZP.out
  go_wp2_with fail
  ((with_reducible refine (Sp5.PacketPeel _ _ _ _ _ _ _ _ _ _ x q.el q.tag q.hd q.bd _ IH.out IB.out).mono ?_); rintro e w5 ⟨AS, cs, BS, ds, g3, g4, rfl, hlie, hg3, hg4, hb⟩)
  replace IH := Lib.hid (IH.out.below hb (Nat.le_refl _))
  replace IB := Lib.hid (IB.out.below hb (Nat.le_refl _))
  replace ZP := Lib.hid (ZP.out.below hb (Nat.le_refl _))
  replace LM := Lib.hid (LM.out.below hb (Nat.le_refl _))
  replace ZM := Lib.hid (ZM.out.below hb (Nat.le_refl _))
  replace B := Lib.hid (B.out.trans (hb.mono B.out.size))
  have z5 := hb.size
  have LS := Lib.hid hlie
  clear hlie hb
  clear k0 k1 k2 k3 kf
  rw [hpe] at LS ⊢
  have HPE := Lib.hid hpe
  clear hpe
  have hal : Below w5.heap.size w5 (w5.alloc (.cells #[.int .i64 p.kind, .int .i64 p.next, .int .i64 p.pk.el, .slice AS p.pk.hd.length cs, .int .i64 p.pk.tag, .slice BS p.pk.bd.length ds] 28)) := (Below.refl _ _).alloc (Nat.le_refl _) _
  have hzz : Blk (w5.alloc (.cells #[.int .i64 p.kind, .int .i64 p.next, .int .i64 p.pk.el, .slice AS p.pk.hd.length cs, .int .i64 p.pk.tag, .slice BS p.pk.bd.length ds] 28)) w5.heap.size #[.int .i64 p.kind, .int .i64 p.next, .int .i64 p.pk.el, .slice AS p.pk.hd.length cs, .int .i64 p.pk.tag, .slice BS p.pk.bd.length ds] 28 := heap_alloc_new _ _
  replace IH := Lib.hid (IH.out.below hal (Nat.le_refl _))
  replace IB := Lib.hid (IB.out.below hal (Nat.le_refl _))
  replace ZP := Lib.hid (ZP.out.below hal (Nat.le_refl _))
  replace LM := Lib.hid (LM.out.below hal (Nat.le_refl _))
  replace ZM := Lib.hid (ZM.out.below hal (Nat.le_refl _))
  replace LS := Lib.hid (LS.out.below hal (Nat.le_refl _))
  replace B := Lib.hid (B.out.trans (hal.mono B.out.size))
  have ZS := Lib.hid hzz
  clear hzz
  clear hal
  cases hok : peelOk x ⟨q.el, q.hd, q.tag, q.bd⟩
  · obtain ⟨m0, m1, m2, m3, m4, m5, mf⟩ := six_cells ZM.out
    obtain ⟨s0, s1, s2, s3, s4, s5, sf⟩ := six_cells ZS.out
    go_wp2_with fail
    ((with_reducible refine (samePeeled p _ _ _ _ _ _ _ _ _ _ _ _ _ _ _ _ _ LM.out.hdr.ints LM.out.bdy.ints LS.out.hdr.ints LS.out.bdy.ints).mono ?_); rintro e w7 ⟨rfl, hb⟩)
    replace IH := Lib.hid (IH.out.below hb (Nat.le_refl _))
    replace IB := Lib.hid (IB.out.below hb (Nat.le_refl _))
    replace ZP := Lib.hid (ZP.out.below hb (Nat.le_refl _))
    replace LM := Lib.hid (LM.out.below hb (Nat.le_refl _))
    replace ZM := Lib.hid (ZM.out.below hb (Nat.le_refl _))
    replace LS := Lib.hid (LS.out.below hb (Nat.le_refl _))
    replace ZS := Lib.hid (ZS.out.below hb (Nat.le_refl _))
    replace B := Lib.hid (B.out.trans (hb.mono B.out.size))
    have z7 := hb.size
    clear hb
    clear m0 m1 m2 m3 m4 m5 mf s0 s1 s2 s3 s4 s5 sf
    obtain ⟨m0, m1, m2, m3, m4, m5, mf⟩ := six_cells ZM.out
    obtain ⟨s0, s1, s2, s3, s4, s5, sf⟩ := six_cells ZS.out
    go_wp2_with fail
    ((with_reducible refine (samePeeled p _ _ _ _ _ _ _ _ _ _ _ _ _ _ _ _ _ LM.out.hdr.ints LM.out.bdy.ints LS.out.hdr.ints LS.out.bdy.ints).mono ?_); rintro e w8 ⟨rfl, hb⟩)
    replace IH := Lib.hid (IH.out.below hb (Nat.le_refl _))
    replace IB := Lib.hid (IB.out.below hb (Nat.le_refl _))
    replace ZP := Lib.hid (ZP.out.below hb (Nat.le_refl _))
    replace LM := Lib.hid (LM.out.below hb (Nat.le_refl _))
    replace ZM := Lib.hid (ZM.out.below hb (Nat.le_refl _))
    replace LS := Lib.hid (LS.out.below hb (Nat.le_refl _))
    replace ZS := Lib.hid (ZS.out.below hb (Nat.le_refl _))
    replace B := Lib.hid (B.out.trans (hb.mono B.out.size))
    have z8 := hb.size
    clear hb
    clear m0 m1 m2 m3 m4 m5 mf s0 s1 s2 s3 s4 s5 sf
    clear hok
    go_wp2
    go_ret
    exact ⟨rfl, B.out⟩
  obtain ⟨m0, m1, m2, m3, m4, m5, mf⟩ := six_cells ZM.out
  obtain ⟨s0, s1, s2, s3, s4, s5, sf⟩ := six_cells ZS.out
  go_wp2_with fail
  ((with_reducible refine (samePeeled p _ _ _ _ _ _ _ _ _ _ _ _ _ _ _ _ _ LM.out.hdr.ints LM.out.bdy.ints LS.out.hdr.ints LS.out.bdy.ints).mono ?_); rintro e w7 ⟨rfl, hb⟩)
  replace IH := Lib.hid (IH.out.below hb (Nat.le_refl _))
  replace IB := Lib.hid (IB.out.below hb (Nat.le_refl _))
  replace ZP := Lib.hid (ZP.out.below hb (Nat.le_refl _))
  replace LM := Lib.hid (LM.out.below hb (Nat.le_refl _))
  replace ZM := Lib.hid (ZM.out.below hb (Nat.le_refl _))
  replace LS := Lib.hid (LS.out.below hb (Nat.le_refl _))
  replace ZS := Lib.hid (ZS.out.below hb (Nat.le_refl _))
  replace B := Lib.hid (B.out.trans (hb.mono B.out.size))
  have z7 := hb.size
  clear hb
  clear m0 m1 m2 m3 m4 m5 mf s0 s1 s2 s3 s4 s5 sf
  have HK := Lib.hid hok
  clear hok
  obtain ⟨k0, k1, k2, k3, kf⟩ := four_cells ZP.out
  obtain ⟨o1, o2, o3, o4, o5⟩ := peelOk_iff.1 HK.out
  obtain ⟨u1, u2, u3, u4, u5, u6⟩ := pktOk_iff.1 o2
  dsimp only at u1 u2 u3 u4 u5 u6
  have htc : tagC (mulG x q.el) q.hd q.tag = true := tagC_iff.2 ⟨(inN_iff.1 u4).1, by rw [tagF_yes (mulG_pos o1 u1) u2]; exact o3⟩
  have HTC := Lib.hid htc
  clear htc o1 o2 o3 o4 o5 u1 u2 u3 u4 u5 u6
  have IHD : Hid (Ints _ _ w7.drew AP q.hd.length cp q.hd) := IH.out
  go_wp2_with fail
  go_region_law (first | (go_simp; go_at_call 24; refine (Grp.iShared x q.el _).mono ?_; rintro e w2 ⟨rfl, rfl⟩) | (go_simp; go_at_call 29; refine (Im3.TagCheck _ _ _ _ _ q.hd (mulG x q.el) q.tag _ IHD.out).mono ?_; rintro e wv ⟨rfl, hbv0⟩; rw [HTC.out]))
  all_goals
    have hbv : Below w7.heap.size w7 wv := below_drew hbv0
    have B9 := Lib.hid (B.out.trans (hbv.mono B.out.size))
    clear hbv hbv0
    go_wp2
    go_ret
    exact ⟨rfl, B9.out⟩

theorem fnPeelElement (A : Option Addr) (n c : Nat) (w : World) (h : CodeIs w A n c) :
    Calls Try.prog 5 #[.slice A n c] w (TruePost w) := by
  have HC := Lib.hid h
  clear h
  by_cases hn : 1048576 < n
  · go_enter Try.func5, Try.ntmps5
    go_wp2
    go_ret
    exact ⟨rfl, Below.refl _ _⟩
  have B : Hid (Below w.heap.size w w) := Below.refl _ _
  go_enter Try.func5, Try.ntmps5
  have hq : n ≤ 1048576 := by omega
  go_wp2_with fail
  ((with_reducible refine (DrawPacketPeel _ _ _ _ HC.out).mono ?_); rintro e w1 ⟨x, q, AP, cp, BP, dp, rfl, hm1, hm2, i1, i2, hb⟩)
  replace B := Lib.hid (B.out.trans (hb.mono B.out.size))
  have z1 := hb.size
  have IH := Lib.hid i1
  have IB := Lib.hid i2
  clear i1 i2 hb
  have hal : Below w1.heap.size w1 (w1.alloc (.cells #[.int .i64 q.el, .slice AP q.hd.length cp, .int .i64 q.tag, .slice BP q.bd.length dp] 26)) := (Below.refl _ _).alloc (Nat.le_refl _) _
  have hzz : Blk (w1.alloc (.cells #[.int .i64 q.el, .slice AP q.hd.length cp, .int .i64 q.tag, .slice BP q.bd.length dp] 26)) w1.heap.size #[.int .i64 q.el, .slice AP q.hd.length cp, .int .i64 q.tag, .slice BP q.bd.length dp] 26 := heap_alloc_new _ _
  replace IH := Lib.hid (IH.out.below hal (Nat.le_refl _))
  replace IB := Lib.hid (IB.out.below hal (Nat.le_refl _))
  replace B := Lib.hid (B.out.trans (hal.mono B.out.size))
  have ZP := Lib.hid hzz
  clear hzz
  clear hal
  obtain ⟨k0, k1, k2, k3, kf⟩ := four_cells ZP.out
  go_wp2_with fail
  ((with_reducible refine (Im5.PacketPeel _ _ _ _ _ _ _ _ _ _ x q.el q.tag q.hd q.bd _ IH.out IB.out).mono ?_); rintro e w3 ⟨AM, cm, BM, dm, g1, g2, rfl, hlie, hg1, hg2, hb⟩)
  replace IH := Lib.hid (IH.out.below hb (Nat.le_refl _))
  replace IB := Lib.hid (IB.out.below hb (Nat.le_refl _))
  replace ZP := Lib.hid (ZP.out.below hb (Nat.le_refl _))
  replace B := Lib.hid (B.out.trans (hb.mono B.out.size))
  have z3 := hb.size
  have LM := Lib.hid hlie
  clear hlie hb
  clear k0 k1 k2 k3 kf
  generalize hpe : peelF x ⟨q.el, q.hd, q.tag, q.bd⟩ = p at *
  have hal : Below w3.heap.size w3 (w3.alloc (.cells #[.int .i64 p.kind, .int .i64 p.next, .int .i64 p.pk.el, .slice AM p.pk.hd.length cm, .int .i64 p.pk.tag, .slice BM p.pk.bd.length dm] 28)) := (Below.refl _ _).alloc (Nat.le_refl _) _
  have hzz : Blk (w3.alloc (.cells #[.int .i64 p.kind, .int .i64 p.next, .int .i64 p.pk.el, .slice AM p.pk.hd.length cm, .int .i64 p.pk.tag, .slice BM p.pk.bd.length dm] 28)) w3.heap.size #[.int .i64 p.kind, .int .i64 p.next, .int .i64 p.pk.el, .slice AM p.pk.hd.length cm, .int .i64 p.pk.tag, .slice BM p.pk.bd.length dm] 28 := heap_alloc_new _ _
  replace IH := Lib.hid (IH.out.below hal (Nat.le_refl _))
  replace IB := Lib.hid (IB.out.below hal (Nat.le_refl _))
  replace ZP := Lib.hid (ZP.out.below hal (Nat.le_refl _))
  replace LM := Lib.hid (LM.out.below hal (Nat.le_refl _))
  replace B := Lib.hid (B.out.trans (hal.mono B.out.size))
  have ZM := Lib.hid hzz
  clear hzz
  clear hal
  obtain ⟨k0, k1, k2, k3, kf⟩ := four_cells ZP.out
  go_wp2_with fail
  ((with_reducible refine (Sp5.PacketPeel _ _ _ _ _ _ _ _ _ _ x q.el q.tag q.hd q.bd _ IH.out IB.out).mono ?_); rintro e w5 ⟨AS, cs, BS, ds, g3, g4, rfl, hlie, hg3, hg4, hb⟩)
  replace IH := Lib.hid (IH.out.below hb (Nat.le_refl _))
  replace IB := Lib.hid (IB.out.below hb (Nat.le_refl _))
  replace ZP := Lib.hid (ZP.out.below hb (Nat.le_refl _))
  replace LM := Lib.hid (LM.out.below hb (Nat.le_refl _))
  replace ZM := Lib.hid (ZM.out.below hb (Nat.le_refl _))
  replace B := Lib.hid (B.out.trans (hb.mono B.out.size))
  have z5 := hb.size
  have LS := Lib.hid hlie
  clear hlie hb
  clear k0 k1 k2 k3 kf
  rw [hpe] at LS ⊢
  have HPE := Lib.hid hpe
  clear hpe
  have hal : Below w5.heap.size w5 (w5.alloc (.cells #[.int .i64 p.kind, .int .i64 p.next, .int .i64 p.pk.el, .slice AS p.pk.hd.length cs, .int .i64 p.pk.tag, .slice BS p.pk.bd.length ds] 28)) := (Below.refl _ _).alloc (Nat.le_refl _) _
  have hzz : Blk (w5.alloc (.cells #[.int .i64 p.kind, .int .i64 p.next, .int .i64 p.pk.el, .slice AS p.pk.hd.length cs, .int .i64 p.pk.tag, .slice BS p.pk.bd.length ds] 28)) w5.heap.size #[.int .i64 p.kind, .int .i64 p.next, .int .i64 p.pk.el, .slice AS p.pk.hd.length cs, .int .i64 p.pk.tag, .slice BS p.pk.bd.length ds] 28 := heap_alloc_new _ _
  replace IH := Lib.hid (IH.out.below hal (Nat.le_refl _))
  replace IB := Lib.hid (IB.out.below hal (Nat.le_refl _))
  replace ZP := Lib.hid (ZP.out.below hal (Nat.le_refl _))
  replace LM := Lib.hid (LM.out.below hal (Nat.le_refl _))
  replace ZM := Lib.hid (ZM.out.below hal (Nat.le_refl _))
  replace LS := Lib.hid (LS.out.below hal (Nat.le_refl _))
  replace B := Lib.hid (B.out.trans (hal.mono B.out.size))
  have ZS := Lib.hid hzz
  clear hzz
  clear hal
  cases hok : peelOk x ⟨q.el, q.hd, q.tag, q.bd⟩
  · obtain ⟨m0, m1, m2, m3, m4, m5, mf⟩ := six_cells ZM.out
    obtain ⟨s0, s1, s2, s3, s4, s5, sf⟩ := six_cells ZS.out
    go_wp2_with fail
    ((with_reducible refine (samePeeled p _ _ _ _ _ _ _ _ _ _ _ _ _ _ _ _ _ LM.out.hdr.ints LM.out.bdy.ints LS.out.hdr.ints LS.out.bdy.ints).mono ?_); rintro e w7 ⟨rfl, hb⟩)
    replace IH := Lib.hid (IH.out.below hb (Nat.le_refl _))
    replace IB := Lib.hid (IB.out.below hb (Nat.le_refl _))
    replace ZP := Lib.hid (ZP.out.below hb (Nat.le_refl _))
    replace LM := Lib.hid (LM.out.below hb (Nat.le_refl _))
    replace ZM := Lib.hid (ZM.out.below hb (Nat.le_refl _))
    replace LS := Lib.hid (LS.out.below hb (Nat.le_refl _))
    replace ZS := Lib.hid (ZS.out.below hb (Nat.le_refl _))
    replace B := Lib.hid (B.out.trans (hb.mono B.out.size))
    have z7 := hb.size
    clear hb
    clear m0 m1 m2 m3 m4 m5 mf s0 s1 s2 s3 s4 s5 sf
    obtain ⟨m0, m1, m2, m3, m4, m5, mf⟩ := six_cells ZM.out
    obtain ⟨s0, s1, s2, s3, s4, s5, sf⟩ := six_cells ZS.out
    go_wp2_with fail
    ((with_reducible refine (samePeeled p _ _ _ _ _ _ _ _ _ _ _ _ _ _ _ _ _ LM.out.hdr.ints LM.out.bdy.ints LS.out.hdr.ints LS.out.bdy.ints).mono ?_); rintro e w8 ⟨rfl, hb⟩)
    replace IH := Lib.hid (IH.out.below hb (Nat.le_refl _))
    replace IB := Lib.hid (IB.out.below hb (Nat.le_refl _))
    replace ZP := Lib.hid (ZP.out.below hb (Nat.le_refl _))
    replace LM := Lib.hid (LM.out.below hb (Nat.le_refl _))
    replace ZM := Lib.hid (ZM.out.below hb (Nat.le_refl _))
    replace LS := Lib.hid (LS.out.below hb (Nat.le_refl _))
    replace ZS := Lib.hid (ZS.out.below hb (Nat.le_refl _))
    replace B := Lib.hid (B.out.trans (hb.mono B.out.size))
    have z8 := hb.size
    clear hb
    clear m0 m1 m2 m3 m4 m5 mf s0 s1 s2 s3 s4 s5 sf
    clear hok
    go_wp2
    go_ret
    exact ⟨rfl, B.out⟩
  obtain ⟨m0, m1, m2, m3, m4, m5, mf⟩ := six_cells ZM.out
  obtain ⟨s0, s1, s2, s3, s4, s5, sf⟩ := six_cells ZS.out
  go_wp2_with fail
  ((with_reducible refine (samePeeled p _ _ _ _ _ _ _ _ _ _ _ _ _ _ _ _ _ LM.out.hdr.ints LM.out.bdy.ints LS.out.hdr.ints LS.out.bdy.ints).mono ?_); rintro e w7 ⟨rfl, hb⟩)
  replace IH := Lib.hid (IH.out.below hb (Nat.le_refl _))
  replace IB := Lib.hid (IB.out.below hb (Nat.le_refl _))
  replace ZP := Lib.hid (ZP.out.below hb (Nat.le_refl _))
  replace LM := Lib.hid (LM.out.below hb (Nat.le_refl _))
  replace ZM := Lib.hid (ZM.out.below hb (Nat.le_refl _))
  replace LS := Lib.hid (LS.out.below hb (Nat.le_refl _))
  replace ZS := Lib.hid (ZS.out.below hb (Nat.le_refl _))
  replace B := Lib.hid (B.out.trans (hb.mono B.out.size))
  have z7 := hb.size
  clear hb
  clear m0 m1 m2 m3 m4 m5 mf s0 s1 s2 s3 s4 s5 sf
  have HK := Lib.hid hok
  clear hok
  obtain ⟨hv, he, _⟩ := peel_valid HK.out
  rw [HPE.out] at hv he
  have e0 : (p.pk.el == mulG q.el (facG (mulG x q.el))) = true := by simpa using he
  have HV := Lib.hid hv
  clear hv he
  obtain ⟨k0, k1, k2, k3, kf⟩ := four_cells ZP.out
  obtain ⟨m0, m1, m2, m3, m4, m5, mf⟩ := six_cells ZM.out
  go_wp2_with fail
  ((with_reducible refine (Grp.iShared x q.el _).mono ?_); rintro e w' ⟨rfl, rfl⟩)
  go_wp2_with fail
  ((with_reducible refine (Grp.iFactor (mulG x q.el) _).mono ?_); rintro e w' ⟨rfl, rfl⟩)
  generalize facG (mulG x q.el) = f at *
  have IHD : Hid (Ints g1 (g1 + 1) w7.drew AM p.pk.hd.length cm p.pk.hd) := LM.out.hdr.ints
  have IBD : Hid (Ints g2 (g2 + 1) w7.drew BM p.pk.bd.length dm p.pk.bd) := LM.out.bdy.ints
  go_wp2_with fail
  go_region_law (first | (go_simp; go_at_call 25; refine (Grp.iBlind q.el f _).mono ?_; rintro e w2 ⟨rfl, rfl⟩) | (go_simp; go_at_call 26; refine (Im5.PacketValid _ _ _ _ _ _ _ _ _ _ p.pk.el p.pk.tag p.pk.hd p.pk.bd _ IHD.out IBD.out).mono ?_; rintro e wv ⟨rfl, hbv0⟩; rw [show pktOk ⟨p.pk.el, p.pk.hd, p.pk.tag, p.pk.bd⟩ = true from HV.out]))
  all_goals
    have hbv : Below w7.heap.size w7 wv := below_drew hbv0
    have B9 := Lib.hid (B.out.trans (hbv.mono B.out.size))
    clear hbv hbv0
    go_wp2
    go_ret
    exact ⟨rfl, B9.out⟩

theorem fnPeelTwice (A : Option Addr) (n c : Nat) (w : World) (h : CodeIs w A n c) :
    Calls Try.prog 10 #[.slice A n c] w (TruePost w) := by
  have HC := Lib.hid h
  clear h
  by_cases hn : 1048576 < n
  · go_enter Try.func10, Try.ntmps10
    go_wp2
    go_ret
    exact ⟨rfl, Below.refl _ _⟩
  have B : Hid (Below w.heap.size w w) := Below.refl _ _
  go_enter Try.func10, Try.ntmps10
  have hq : n ≤ 1048576 := by omega
  go_wp2_with fail
  ((with_reducible refine (DrawPacketPeel _ _ _ _ HC.out).mono ?_); rintro e w1 ⟨x, q, AP, cp, BP, dp, rfl, hm1, hm2, i1, i2, hb⟩)
  replace B := Lib.hid (B.out.trans (hb.mono B.out.size))
  have z1 := hb.size
  have IH := Lib.hid i1
  have IB := Lib.hid i2
  clear i1 i2 hb
  have hal : Below w1.heap.size w1 (w1.alloc (.cells #[.int .i64 q.el, .slice AP q.hd.length cp, .int .i64 q.tag, .slice BP q.bd.length dp] 26)) := (Below.refl _ _).alloc (Nat.le_refl _) _
  have hzz : Blk (w1.alloc (.cells #[.int .i64 q.el, .slice AP q.hd.length cp, .int .i64 q.tag, .slice BP q.bd.length dp] 26)) w1.heap.size #[.int .i64 q.el, .slice AP q.hd.length cp, .int .i64 q.tag, .slice BP q.bd.length dp] 26 := heap_alloc_new _ _
  replace IH := Lib.hid (IH.out.below hal (Nat.le_refl _))
  replace IB := Lib.hid (IB.out.below hal (Nat.le_refl _))
  replace B := Lib.hid (B.out.trans (hal.mono B.out.size))
  have ZP := Lib.hid hzz
  clear hzz
  clear hal
  obtain ⟨k0, k1, k2, k3, kf⟩ := four_cells ZP.out
  go_wp2_with fail
  ((with_reducible refine (Im5.PacketPeel _ _ _ _ _ _ _ _ _ _ x q.el q.tag q.hd q.bd _ IH.out IB.out).mono ?_); rintro e w3 ⟨AM, cm, BM, dm, g1, g2, rfl, hlie, hg1, hg2, hb⟩)
  replace IH := Lib.hid (IH.out.below hb (Nat.le_refl _))
  replace IB := Lib.hid (IB.out.below hb (Nat.le_refl _))
  replace ZP := Lib.hid (ZP.out.below hb (Nat.le_refl _))
  replace B := Lib.hid (B.out.trans (hb.mono B.out.size))
  have z3 := hb.size
  have LM := Lib.hid hlie
  clear hlie hb
  clear k0 k1 k2 k3 kf
  generalize hpe : peelF x ⟨q.el, q.hd, q.tag, q.bd⟩ = p at *
  have hal : Below w3.heap.size w3 (w3.alloc (.cells #[.int .i64 p.kind, .int .i64 p.next, .int .i64 p.pk.el, .slice AM p.pk.hd.length cm, .int .i64 p.pk.tag, .slice BM p.pk.bd.length dm] 28)) := (Below.refl _ _).alloc (Nat.le_refl _) _
  have hzz : Blk (w3.alloc (.cells #[.int .i64 p.kind, .int .i64 p.next, .int .i64 p.pk.el, .slice AM p.pk.hd.length cm, .int .i64 p.pk.tag, .slice BM p.pk.bd.length dm] 28)) w3.heap.size #[.int .i64 p.kind, .int .i64 p.next, .int .i64 p.pk.el, .slice AM p.pk.hd.length cm, .int .i64 p.pk.tag, .slice BM p.pk.bd.length dm] 28 := heap_alloc_new _ _
  replace IH := Lib.hid (IH.out.below hal (Nat.le_refl _))
  replace IB := Lib.hid (IB.out.below hal (Nat.le_refl _))
  replace ZP := Lib.hid (ZP.out.below hal (Nat.le_refl _))
  replace LM := Lib.hid (LM.out.below hal (Nat.le_refl _))
  replace B := Lib.hid (B.out.trans (hal.mono B.out.size))
  have ZM := Lib.hid hzz
  clear hzz
  clear hal
  obtain ⟨k0, k1, k2, k3, kf⟩ := four_cells ZP.out
  go_wp2_with fail
  ((with_reducible refine (Sp5.PacketPeel _ _ _ _ _ _ _ _ _ _ x q.el q.tag q.hd q.bd _ IH.out IB.out).mono ?_); rintro e w5 ⟨AS, cs, BS, ds, g3, g4, rfl, hlie, hg3, hg4, hb⟩)
  replace IH := Lib.hid (IH.out.below hb (Nat.le_refl _))
  replace IB := Lib.hid (IB.out.below hb (Nat.le_refl _))
  replace ZP := Lib.hid (ZP.out.below hb (Nat.le_refl _))
  replace LM := Lib.hid (LM.out.below hb (Nat.le_refl _))
  replace ZM := Lib.hid (ZM.out.below hb (Nat.le_refl _))
  replace B := Lib.hid (B.out.trans (hb.mono B.out.size))
  have z5 := hb.size
  have LS := Lib.hid hlie
  clear hlie hb
  clear k0 k1 k2 k3 kf
  rw [hpe] at LS ⊢
  have HPE := Lib.hid hpe
  clear hpe
  have hal : Below w5.heap.size w5 (w5.alloc (.cells #[.int .i64 p.kind, .int .i64 p.next, .int .i64 p.pk.el, .slice AS p.pk.hd.length cs, .int .i64 p.pk.tag, .slice BS p.pk.bd.length ds] 28)) := (Below.refl _ _).alloc (Nat.le_refl _) _
  have hzz : Blk (w5.alloc (.cells #[.int .i64 p.kind, .int .i64 p.next, .int .i64 p.pk.el, .slice AS p.pk.hd.length cs, .int .i64 p.pk.tag, .slice BS p.pk.bd.length ds] 28)) w5.heap.size #[.int .i64 p.kind, .int .i64 p.next, .int .i64 p.pk.el, .slice AS p.pk.hd.length cs, .int .i64 p.pk.tag, .slice BS p.pk.bd.length ds] 28 := heap_alloc_new _ _
  replace IH := Lib.hid (IH.out.below hal (Nat.le_refl _))
  replace IB := Lib.hid (IB.out.below hal (Nat.le_refl _))
  replace ZP := Lib.hid (ZP.out.below hal (Nat.le_refl _))
  replace LM := Lib.hid (LM.out.below hal (Nat.le_refl _))
  replace ZM := Lib.hid (ZM.out.below hal (Nat.le_refl _))
  replace LS := Lib.hid (LS.out.below hal (Nat.le_refl _))
  replace B := Lib.hid (B.out.trans (hal.mono B.out.size))
  have ZS := Lib.hid hzz
  clear hzz
  clear hal
  cases hok : peelOk x ⟨q.el, q.hd, q.tag, q.bd⟩
  · obtain ⟨m0, m1, m2, m3, m4, m5, mf⟩ := six_cells ZM.out
    obtain ⟨s0, s1, s2, s3, s4, s5, sf⟩ := six_cells ZS.out
    go_wp2_with fail
    ((with_reducible refine (samePeeled p _ _ _ _ _ _ _ _ _ _ _ _ _ _ _ _ _ LM.out.hdr.ints LM.out.bdy.ints LS.out.hdr.ints LS.out.bdy.ints).mono ?_); rintro e w7 ⟨rfl, hb⟩)
    replace IH := Lib.hid (IH.out.below hb (Nat.le_refl _))
    replace IB := Lib.hid (IB.out.below hb (Nat.le_refl _))
    replace ZP := Lib.hid (ZP.out.below hb (Nat.le_refl _))
    replace LM := Lib.hid (LM.out.below hb (Nat.le_refl _))
    replace ZM := Lib.hid (ZM.out.below hb (Nat.le_refl _))
    replace LS := Lib.hid (LS.out.below hb (Nat.le_refl _))
    replace ZS := Lib.hid (ZS.out.below hb (Nat.le_refl _))
    replace B := Lib.hid (B.out.trans (hb.mono B.out.size))
    have z7 := hb.size
    clear hb
    clear m0 m1 m2 m3 m4 m5 mf s0 s1 s2 s3 s4 s5 sf
    obtain ⟨m0, m1, m2, m3, m4, m5, mf⟩ := six_cells ZM.out
    obtain ⟨s0, s1, s2, s3, s4, s5, sf⟩ := six_cells ZS.out
    go_wp2_with fail
    ((with_reducible refine (samePeeled p _ _ _ _ _ _ _ _ _ _ _ _ _ _ _ _ _ LM.out.hdr.ints LM.out.bdy.ints LS.out.hdr.ints LS.out.bdy.ints).mono ?_); rintro e w8 ⟨rfl, hb⟩)
    replace IH := Lib.hid (IH.out.below hb (Nat.le_refl _))
    replace IB := Lib.hid (IB.out.below hb (Nat.le_refl _))
    replace ZP := Lib.hid (ZP.out.below hb (Nat.le_refl _))
    replace LM := Lib.hid (LM.out.below hb (Nat.le_refl _))
    replace ZM := Lib.hid (ZM.out.below hb (Nat.le_refl _))
    replace LS := Lib.hid (LS.out.below hb (Nat.le_refl _))
    replace ZS := Lib.hid (ZS.out.below hb (Nat.le_refl _))
    replace B := Lib.hid (B.out.trans (hb.mono B.out.size))
    have z8 := hb.size
    clear hb
    clear m0 m1 m2 m3 m4 m5 mf s0 s1 s2 s3 s4 s5 sf
    clear hok
    go_wp2
    go_ret
    exact ⟨rfl, B.out⟩
  obtain ⟨m0, m1, m2, m3, m4, m5, mf⟩ := six_cells ZM.out
  obtain ⟨s0, s1, s2, s3, s4, s5, sf⟩ := six_cells ZS.out
  go_wp2_with fail
  ((with_reducible refine (samePeeled p _ _ _ _ _ _ _ _ _ _ _ _ _ _ _ _ _ LM.out.hdr.ints LM.out.bdy.ints LS.out.hdr.ints LS.out.bdy.ints).mono ?_); rintro e w7 ⟨rfl, hb⟩)
  replace IH := Lib.hid (IH.out.below hb (Nat.le_refl _))
  replace IB := Lib.hid (IB.out.below hb (Nat.le_refl _))
  replace ZP := Lib.hid (ZP.out.below hb (Nat.le_refl _))
  replace LM := Lib.hid (LM.out.below hb (Nat.le_refl _))
  replace ZM := Lib.hid (ZM.out.below hb (Nat.le_refl _))
  replace LS := Lib.hid (LS.out.below hb (Nat.le_refl _))
  replace ZS := Lib.hid (ZS.out.below hb (Nat.le_refl _))
  replace B := Lib.hid (B.out.trans (hb.mono B.out.size))
  have z7 := hb.size
  clear hb
  clear m0 m1 m2 m3 m4 m5 mf s0 s1 s2 s3 s4 s5 sf
  have HK := Lib.hid hok
  clear hok
  obtain ⟨m0, m1, m2, m3, m4, m5, mf⟩ := six_cells ZM.out
  go_wp2_with fail
  ((with_reducible refine (Im5.PacketPeel _ _ _ _ _ _ _ _ _ _ x p.pk.el p.pk.tag p.pk.hd p.pk.bd _ LM.out.hdr.ints LM.out.bdy.ints).mono ?_); rintro e w8 ⟨AX, cx, BX, dx, g5, g6, rfl, hlie, hg5, hg6, hb⟩)
  replace IH := Lib.hid (IH.out.below hb (Nat.le_refl _))
  replace IB := Lib.hid (IB.out.below hb (Nat.le_refl _))
  replace ZP := Lib.hid (ZP.out.below hb (Nat.le_refl _))
  replace LM := Lib.hid (LM.out.below hb (Nat.le_refl _))
  replace ZM := Lib.hid (ZM.out.below hb (Nat.le_refl _))
  replace LS := Lib.hid (LS.out.below hb (Nat.le_refl _))
  replace ZS := Lib.hid (ZS.out.below hb (Nat.le_refl _))
  replace B := Lib.hid (B.out.trans (hb.mono B.out.size))
  have z8 := hb.size
  have LX := Lib.hid hlie
  clear hlie hb
  clear m0 m1 m2 m3 m4 m5 mf
  cases hag : peelOk x ⟨p.pk.el, p.pk.hd, p.pk.tag, p.pk.bd⟩
  · have hc1 := LX.out.hdr.ints.2.2.1
    have hc2 := LX.out.bdy.ints.2.2.1
    rw [peelF_no hag] at LX ⊢
    dsimp only [Pld.zero, Pkt.zero, List.length_nil] at LX ⊢
    clear hag
    have hcl : ∀ v0 v1 : Value, True := fun _ _ => trivial
    clear hcl
    have hal : Below w8.heap.size w8 (w8.alloc (.cells #[.int .i64 0, .int .i64 0, .int .i64 0, .slice AX 0 cx, .int .i64 0, .slice BX 0 dx] 28)) := (Below.refl _ _).alloc (Nat.le_refl _) _
    have hzz : Blk (w8.alloc (.cells #[.int .i64 0, .int .i64 0, .int .i64 0, .slice AX 0 cx, .int .i64 0, .slice BX 0 dx] 28)) w8.heap.size #[.int .i64 0, .int .i64 0, .int .i64 0, .slice AX 0 cx, .int .i64 0, .slice BX 0 dx] 28 := heap_alloc_new _ _
    replace IH := Lib.hid (IH.out.below hal (Nat.le_refl _))
    replace IB := Lib.hid (IB.out.below hal (Nat.le_refl _))
    replace ZP := Lib.hid (ZP.out.below hal (Nat.le_refl _))
    replace LM := Lib.hid (LM.out.below hal (Nat.le_refl _))
    replace ZM := Lib.hid (ZM.out.below hal (Nat.le_refl _))
    replace LS := Lib.hid (LS.out.below hal (Nat.le_refl _))
    replace ZS := Lib.hid (ZS.out.below hal (Nat.le_refl _))
    replace LX := Lib.hid (LX.out.below hal (Nat.le_refl _))
    replace B := Lib.hid (B.out.trans (hal.mono B.out.size))
    have ZX := Lib.hid hzz
    clear hzz
    clear hal
    obtain ⟨m0, m1, m2, m3, m4, m5, mf⟩ := six_cells ZM.out
    obtain ⟨s0, s1, s2, s3, s4, s5, sf⟩ := six_cells ZX.out
    go_wp2_with fail
    ((with_reducible refine (Grp.iShared x p.pk.el _).mono ?_); rintro e w' ⟨rfl, rfl⟩)
    go_wp2_with fail
    ((with_reducible refine (samePeeled0 AX BX cx dx hc1 hc2 _).mono ?_); rintro e w11 ⟨rfl, hb⟩)
    replace IH := Lib.hid (IH.out.below hb (Nat.le_refl _))
    replace IB := Lib.hid (IB.out.below hb (Nat.le_refl _))
    replace ZP := Lib.hid (ZP.out.below hb (Nat.le_refl _))
    replace LM := Lib.hid (LM.out.below hb (Nat.le_refl _))
    replace ZM := Lib.hid (ZM.out.below hb (Nat.le_refl _))
    replace LS := Lib.hid (LS.out.below hb (Nat.le_refl _))
    replace ZS := Lib.hid (ZS.out.below hb (Nat.le_refl _))
    replace LX := Lib.hid (LX.out.below hb (Nat.le_refl _))
    replace ZX := Lib.hid (ZX.out.below hb (Nat.le_refl _))
    replace B := Lib.hid (B.out.trans (hb.mono B.out.size))
    have z11 := hb.size
    clear hb
    clear m0 m1 m2 m3 m4 m5 mf s0 s1 s2 s3 s4 s5 sf
    go_wp2
    go_ret
    exact ⟨rfl, B.out⟩
  have HT := Lib.hid (peel_tag hag)
  generalize peelF x ⟨p.pk.el, p.pk.hd, p.pk.tag, p.pk.bd⟩ = p2 at *
  clear hag
  have hal : Below w8.heap.size w8 (w8.alloc (.cells #[.int .i64 p2.kind, .int .i64 p2.next, .int .i64 p2.pk.el, .slice AX p2.pk.hd.length cx, .int .i64 p2.pk.tag, .slice BX p2.pk.bd.length dx] 28)) := (Below.refl _ _).alloc (Nat.le_refl _) _
  have hzz : Blk (w8.alloc (.cells #[.int .i64 p2.kind, .int .i64 p2.next, .int .i64 p2.pk.el, .slice AX p2.pk.hd.length cx, .int .i64 p2.pk.tag, .slice BX p2.pk.bd.length dx] 28)) w8.heap.size #[.int .i64 p2.kind, .int .i64 p2.next, .int .i64 p2.pk.el, .slice AX p2.pk.hd.length cx, .int .i64 p2.pk.tag, .slice BX p2.pk.bd.length dx] 28 := heap_alloc_new _ _
  replace IH := Lib.hid (IH.out.below hal (Nat.le_refl _))
  replace IB := Lib.hid (IB.out.below hal (Nat.le_refl _))
  replace ZP := Lib.hid (ZP.out.below hal (Nat.le_refl _))
  replace LM := Lib.hid (LM.out.below hal (Nat.le_refl _))
  replace ZM := Lib.hid (ZM.out.below hal (Nat.le_refl _))
  replace LS := Lib.hid (LS.out.below hal (Nat.le_refl _))
  replace ZS := Lib.hid (ZS.out.below hal (Nat.le_refl _))
  replace LX := Lib.hid (LX.out.below hal (Nat.le_refl _))
  replace B := Lib.hid (B.out.trans (hal.mono B.out.size))
  have ZX := Lib.hid hzz
  clear hzz
  clear hal
  obtain ⟨m0, m1, m2, m3, m4, m5, mf⟩ := six_cells ZM.out
  go_wp2_with fail
  ((with_reducible refine (Grp.iShared x p.pk.el _).mono ?_); rintro e w' ⟨rfl, rfl⟩)
  go_wp2_with fail
  ((with_reducible refine (Im3.TagCheck _ _ _ _ _ p.pk.hd (mulG x p.pk.el) p.pk.tag _ LM.out.hdr.ints).mono ?_); rintro e w11 ⟨rfl, hb⟩)
  replace IH := Lib.hid (IH.out.below hb (Nat.le_refl _))
  replace IB := Lib.hid (IB.out.below hb (Nat.le_refl _))
  replace ZP := Lib.hid (ZP.out.below hb (Nat.le_refl _))
  replace LM := Lib.hid (LM.out.below hb (Nat.le_refl _))
  replace ZM := Lib.hid (ZM.out.below hb (Nat.le_refl _))
  replace LS := Lib.hid (LS.out.below hb (Nat.le_refl _))
  replace ZS := Lib.hid (ZS.out.below hb (Nat.le_refl _))
  replace LX := Lib.hid (LX.out.below hb (Nat.le_refl _))
  replace ZX := Lib.hid (ZX.out.below hb (Nat.le_refl _))
  replace B := Lib.hid (B.out.trans (hb.mono B.out.size))
  have z11 := hb.size
  clear hb
  rw [show tagC (mulG x p.pk.el) p.pk.hd p.pk.tag = true from HT.out]
  clear m0 m1 m2 m3 m4 m5 mf
  go_wp2
  go_ret
  exact ⟨rfl, B.out⟩

theorem fnPeelBody (A : Option Addr) (n c : Nat) (w : World) (h : CodeIs w A n c) :
    Calls Try.prog 6 #[.slice A n c] w (TruePost w) := by
  have HC := Lib.hid h
  clear h
  by_cases hn : 1048576 < n
  · go_enter Try.func6, Try.ntmps6
    go_wp2
    go_ret
    exact ⟨rfl, Below.refl _ _⟩
  have B : Hid (Below w.heap.size w w) := Below.refl _ _
  go_enter Try.func6, Try.ntmps6
  have hq : n ≤ 1048576 := by omega
  go_wp2_with fail
  ((with_reducible refine (DrawPacketPeel _ _ _ _ HC.out).mono ?_); rintro e w1 ⟨x, q, AP, cp, BP, dp, rfl, hm1, hm2, i1, i2, hb⟩)
  replace B := Lib.hid (B.out.trans (hb.mono B.out.size))
  have z1 := hb.size
  have IH := Lib.hid i1
  have IB := Lib.hid i2
  clear i1 i2 hb
  have hal : Below w1.heap.size w1 (w1.alloc (.cells #[.int .i64 q.el, .slice AP q.hd.length cp, .int .i64 q.tag, .slice BP q.bd.length dp] 26)) := (Below.refl _ _).alloc (Nat.le_refl _) _
  have hzz : Blk (w1.alloc (.cells #[.int .i64 q.el, .slice AP q.hd.length cp, .int .i64 q.tag, .slice BP q.bd.length dp] 26)) w1.heap.size #[.int .i64 q.el, .slice AP q.hd.length cp, .int .i64 q.tag, .slice BP q.bd.length dp] 26 := heap_alloc_new _ _
  replace IH := Lib.hid (IH.out.below hal (Nat.le_refl _))
  replace IB := Lib.hid (IB.out.below hal (Nat.le_refl _))
  replace B := Lib.hid (B.out.trans (hal.mono B.out.size))
  have ZP := Lib.hid hzz
  clear hzz
  clear hal
  obtain ⟨k0, k1, k2, k3, kf⟩ := four_cells ZP.out
  go_wp2_with fail
  ((with_reducible refine (Im5.PacketPeel _ _ _ _ _ _ _ _ _ _ x q.el q.tag q.hd q.bd _ IH.out IB.out).mono ?_); rintro e w3 ⟨AM, cm, BM, dm, g1, g2, rfl, hlie, hg1, hg2, hb⟩)
  replace IH := Lib.hid (IH.out.below hb (Nat.le_refl _))
  replace IB := Lib.hid (IB.out.below hb (Nat.le_refl _))
  replace ZP := Lib.hid (ZP.out.below hb (Nat.le_refl _))
  replace B := Lib.hid (B.out.trans (hb.mono B.out.size))
  have z3 := hb.size
  have LM := Lib.hid hlie
  clear hlie hb
  clear k0 k1 k2 k3 kf
  generalize hpe : peelF x ⟨q.el, q.hd, q.tag, q.bd⟩ = p at *
  have hal : Below w3.heap.size w3 (w3.alloc (.cells #[.int .i64 p.kind, .int .i64 p.next, .int .i64 p.pk.el, .slice AM p.pk.hd.length cm, .int .i64 p.pk.tag, .slice BM p.pk.bd.length dm] 28)) := (Below.refl _ _).alloc (Nat.le_refl _) _
  have hzz : Blk (w3.alloc (.cells #[.int .i64 p.kind, .int .i64 p.next, .int .i64 p.pk.el, .slice AM p.pk.hd.length cm, .int .i64 p.pk.tag, .slice BM p.pk.bd.length dm] 28)) w3.heap.size #[.int .i64 p.kind, .int .i64 p.next, .int .i64 p.pk.el, .slice AM p.pk.hd.length cm, .int .i64 p.pk.tag, .slice BM p.pk.bd.length dm] 28 := heap_alloc_new _ _
  replace IH := Lib.hid (IH.out.below hal (Nat.le_refl _))
  replace IB := Lib.hid (IB.out.below hal (Nat.le_refl _))
  replace ZP := Lib.hid (ZP.out.below hal (Nat.le_refl _))
  replace LM := Lib.hid (LM.out.below hal (Nat.le_refl _))
  replace B := Lib.hid (B.out.trans (hal.mono B.out.size))
  have ZM := Lib.hid hzz
  clear hzz
  clear hal
  obtain ⟨k0, k1, k2, k3, kf⟩ := four_cells ZP.out
  go_wp2_with fail
  ((with_reducible refine (Sp5.PacketPeel _ _ _ _ _ _ _ _ _ _ x q.el q.tag q.hd q.bd _ IH.out IB.out).mono ?_); rintro e w5 ⟨AS, cs, BS, ds, g3, g4, rfl, hlie, hg3, hg4, hb⟩)
  replace IH := Lib.hid (IH.out.below hb (Nat.le_refl _))
  replace IB := Lib.hid (IB.out.below hb (Nat.le_refl _))
  replace ZP := Lib.hid (ZP.out.below hb (Nat.le_refl _))
  replace LM := Lib.hid (LM.out.below hb (Nat.le_refl _))
  replace ZM := Lib.hid (ZM.out.below hb (Nat.le_refl _))
  replace B := Lib.hid (B.out.trans (hb.mono B.out.size))
  have z5 := hb.size
  have LS := Lib.hid hlie
  clear hlie hb
  clear k0 k1 k2 k3 kf
  rw [hpe] at LS ⊢
  have HPE := Lib.hid hpe
  clear hpe
  have hal : Below w5.heap.size w5 (w5.alloc (.cells #[.int .i64 p.kind, .int .i64 p.next, .int .i64 p.pk.el, .slice AS p.pk.hd.length cs, .int .i64 p.pk.tag, .slice BS p.pk.bd.length ds] 28)) := (Below.refl _ _).alloc (Nat.le_refl _) _
  have hzz : Blk (w5.alloc (.cells #[.int .i64 p.kind, .int .i64 p.next, .int .i64 p.pk.el, .slice AS p.pk.hd.length cs, .int .i64 p.pk.tag, .slice BS p.pk.bd.length ds] 28)) w5.heap.size #[.int .i64 p.kind, .int .i64 p.next, .int .i64 p.pk.el, .slice AS p.pk.hd.length cs, .int .i64 p.pk.tag, .slice BS p.pk.bd.length ds] 28 := heap_alloc_new _ _
  replace IH := Lib.hid (IH.out.below hal (Nat.le_refl _))
  replace IB := Lib.hid (IB.out.below hal (Nat.le_refl _))
  replace ZP := Lib.hid (ZP.out.below hal (Nat.le_refl _))
  replace LM := Lib.hid (LM.out.below hal (Nat.le_refl _))
  replace ZM := Lib.hid (ZM.out.below hal (Nat.le_refl _))
  replace LS := Lib.hid (LS.out.below hal (Nat.le_refl _))
  replace B := Lib.hid (B.out.trans (hal.mono B.out.size))
  have ZS := Lib.hid hzz
  clear hzz
  clear hal
  cases hok : peelOk x ⟨q.el, q.hd, q.tag, q.bd⟩
  · obtain ⟨m0, m1, m2, m3, m4, m5, mf⟩ := six_cells ZM.out
    obtain ⟨s0, s1, s2, s3, s4, s5, sf⟩ := six_cells ZS.out
    go_wp2_with fail
    ((with_reducible refine (samePeeled p _ _ _ _ _ _ _ _ _ _ _ _ _ _ _ _ _ LM.out.hdr.ints LM.out.bdy.ints LS.out.hdr.ints LS.out.bdy.ints).mono ?_); rintro e w7 ⟨rfl, hb⟩)
    replace IH := Lib.hid (IH.out.below hb (Nat.le_refl _))
    replace IB := Lib.hid (IB.out.below hb (Nat.le_refl _))
    replace ZP := Lib.hid (ZP.out.below hb (Nat.le_refl _))
    replace LM := Lib.hid (LM.out.below hb (Nat.le_refl _))
    replace ZM := Lib.hid (ZM.out.below hb (Nat.le_refl _))
    replace LS := Lib.hid (LS.out.below hb (Nat.le_refl _))
    replace ZS := Lib.hid (ZS.out.below hb (Nat.le_refl _))
    replace B := Lib.hid (B.out.trans (hb.mono B.out.size))
    have z7 := hb.size
    clear hb
    clear m0 m1 m2 m3 m4 m5 mf s0 s1 s2 s3 s4 s5 sf
    obtain ⟨m0, m1, m2, m3, m4, m5, mf⟩ := six_cells ZM.out
    obtain ⟨s0, s1, s2, s3, s4, s5, sf⟩ := six_cells ZS.out
    go_wp2_with fail
    ((with_reducible refine (samePeeled p _ _ _ _ _ _ _ _ _ _ _ _ _ _ _ _ _ LM.out.hdr.ints LM.out.bdy.ints LS.out.hdr.ints LS.out.bdy.ints).mono ?_); rintro e w8 ⟨rfl, hb⟩)
    replace IH := Lib.hid (IH.out.below hb (Nat.le_refl _))
    replace IB := Lib.hid (IB.out.below hb (Nat.le_refl _))
    replace ZP := Lib.hid (ZP.out.below hb (Nat.le_refl _))
    replace LM := Lib.hid (LM.out.below hb (Nat.le_refl _))
    replace ZM := Lib.hid (ZM.out.below hb (Nat.le_refl _))
    replace LS := Lib.hid (LS.out.below hb (Nat.le_refl _))
    replace ZS := Lib.hid (ZS.out.below hb (Nat.le_refl _))
    replace B := Lib.hid (B.out.trans (hb.mono B.out.size))
    have z8 := hb.size
    clear hb
    clear m0 m1 m2 m3 m4 m5 mf s0 s1 s2 s3 s4 s5 sf
    clear hok
    go_wp2
    go_ret
    exact ⟨rfl, B.out⟩
  obtain ⟨m0, m1, m2, m3, m4, m5, mf⟩ := six_cells ZM.out
  obtain ⟨s0, s1, s2, s3, s4, s5, sf⟩ := six_cells ZS.out
  go_wp2_with fail
  ((with_reducible refine (samePeeled p _ _ _ _ _ _ _ _ _ _ _ _ _ _ _ _ _ LM.out.hdr.ints LM.out.bdy.ints LS.out.hdr.ints LS.out.bdy.ints).mono ?_); rintro e w7 ⟨rfl, hb⟩)
  replace IH := Lib.hid (IH.out.below hb (Nat.le_refl _))
  replace IB := Lib.hid (IB.out.below hb (Nat.le_refl _))
  replace ZP := Lib.hid (ZP.out.below hb (Nat.le_refl _))
  replace LM := Lib.hid (LM.out.below hb (Nat.le_refl _))
  replace ZM := Lib.hid (ZM.out.below hb (Nat.le_refl _))
  replace LS := Lib.hid (LS.out.below hb (Nat.le_refl _))
  replace ZS := Lib.hid (ZS.out.below hb (Nat.le_refl _))
  replace B := Lib.hid (B.out.trans (hb.mono B.out.size))
  have z7 := hb.size
  clear hb
  clear m0 m1 m2 m3 m4 m5 mf s0 s1 s2 s3 s4 s5 sf
  have HK := Lib.hid hok
  clear hok
  obtain ⟨_, _, hbd⟩ := peel_valid HK.out
  rw [HPE.out] at hbd
  have HBD : Hid (p.pk.bd = offF q.bd (mulG x q.el)) := hbd
  clear hbd
  obtain ⟨k0, k1, k2, k3, kf⟩ := four_cells ZP.out
  obtain ⟨m0, m1, m2, m3, m4, m5, mf⟩ := six_cells ZM.out
  have SA : Hid (w7.drew.cell? ⟨w3.heap.size, 5, none⟩ = some (.slice BM p.pk.bd.length dm) ∧ w7.drew.cell? ⟨w1.heap.size, 3, none⟩ = some (.slice BP q.bd.length dp) ∧ w7.drew.cell? ⟨w1.heap.size, 0, none⟩ = some (.int .i64 q.el)) := ⟨m5, k3, k0⟩
  have IBD : Hid (Ints _ _ w7.drew BP q.bd.length dp q.bd) := IB.out
  go_wp2_with fail
  go_region_held3 (fun w' => w'.cell? ⟨w3.heap.size, 5, none⟩ = some (.slice BM p.pk.bd.length dm) ∧ w'.cell? ⟨w1.heap.size, 3, none⟩ = some (.slice BP q.bd.length dp) ∧ w'.cell? ⟨w1.heap.size, 0, none⟩ = some (.int .i64 q.el))
    (first | with_reducible exact SA.out | with_reducible exact kB | with_reducible exact kC)
    (first
    | (go_at_call 24; refine (Grp.iShared x q.el _).mono ?_; rintro e w2 ⟨rfl, rfl⟩)
    | (go_at_call 28; refine (Im2.MaskOff _ _ _ _ _ q.bd (mulG x q.el) _ IBD.out).mono ?_; rintro e wv ⟨AV, cv, rfl, ov, hbv0⟩; have hbv : Below w7.heap.size w7 wv := below_drew hbv0; have kB : (wv.cell? ⟨w3.heap.size, 5, none⟩ = some (.slice BM p.pk.bd.length dm) ∧ wv.cell? ⟨w1.heap.size, 3, none⟩ = some (.slice BP q.bd.length dp) ∧ wv.cell? ⟨w1.heap.size, 0, none⟩ = some (.int .i64 q.el)) := ⟨(six_cells (ZM.out.below hbv (Nat.le_refl _))).2.2.2.2.2.1, (four_cells (ZP.out.below hbv (Nat.le_refl _))).2.2.2.1, (four_cells (ZP.out.below hbv (Nat.le_refl _))).1⟩; have lv := LM.out.below hbv (Nat.le_refl _))
    | (go_at_call 27; refine (Hlp.sameInts _ _ _ _ _ _ _ _ _ _ _ _ _ lv.bdy.ints ov.ints).mono ?_; rintro e wz ⟨rfl, nn, rfl⟩; rw [decide_eq_true HBD.out]; have kC : ((wv.drewN nn).cell? ⟨w3.heap.size, 5, none⟩ = some (.slice BM p.pk.bd.length dm) ∧ (wv.drewN nn).cell? ⟨w1.heap.size, 3, none⟩ = some (.slice BP q.bd.length dp) ∧ (wv.drewN nn).cell? ⟨w1.heap.size, 0, none⟩ = some (.int .i64 q.el)) := kB))
  all_goals
    have B9 := Lib.hid (B.out.trans (hbv.mono B.out.size))
    clear hbv hbv0 kB kC ov lv
    go_wp2
    go_ret
    exact ⟨rfl, B9.out.os, B9.out.tape, B9.out.output, B9.out.size, B9.out.block⟩

set_option maxHeartbeats 1000000 in
theorem fnPeelInfo (A : Option Addr) (n c : Nat) (w : World) (h : CodeIs w A n c) :
    Calls Try.prog 7 #[.slice A n c] w (TruePost w) := by
  have HC := Lib.hid h
  clear h
  by_cases hn : 1048576 < n
  · go_enter Try.func7, Try.ntmps7
    go_wp2
    go_ret
    exact ⟨rfl, Below.refl _ _⟩
  have B : Hid (Below w.heap.size w w) := Below.refl _ _
  go_enter Try.func7, Try.ntmps7
  have hq : n ≤ 1048576 := by omega
  go_wp2_with fail
  ((with_reducible refine (DrawPacketPeel _ _ _ _ HC.out).mono ?_); rintro e w1 ⟨x, q, AP, cp, BP, dp, rfl, hm1, hm2, i1, i2, hb⟩)
  replace B := Lib.hid (B.out.trans (hb.mono B.out.size))
  have z1 := hb.size
  have IH := Lib.hid i1
  have IB := Lib.hid i2
  clear i1 i2 hb
  have hal : Below w1.heap.size w1 (w1.alloc (.cells #[.int .i64 q.el, .slice AP q.hd.length cp, .int .i64 q.tag, .slice BP q.bd.length dp] 26)) := (Below.refl _ _).alloc (Nat.le_refl _) _
  have hzz : Blk (w1.alloc (.cells #[.int .i64 q.el, .slice AP q.hd.length cp, .int .i64 q.tag, .slice BP q.bd.length dp] 26)) w1.heap.size #[.int .i64 q.el, .slice AP q.hd.length cp, .int .i64 q.tag, .slice BP q.bd.length dp] 26 := heap_alloc_new _ _
  replace IH := Lib.hid (IH.out.below hal (Nat.le_refl _))
  replace IB := Lib.hid (IB.out.below hal (Nat.le_refl _))
  replace B := Lib.hid (B.out.trans (hal.mono B.out.size))
  have ZP := Lib.hid hzz
  clear hzz
  clear hal
  obtain ⟨k0, k1, k2, k3, kf⟩ := four_cells ZP.out
  go_wp2_with fail
  ((with_reducible refine (Im5.PacketPeel _ _ _ _ _ _ _ _ _ _ x q.el q.tag q.hd q.bd _ IH.out IB.out).mono ?_); rintro e w3 ⟨AM, cm, BM, dm, g1, g2, rfl, hlie, hg1, hg2, hb⟩)
  replace IH := Lib.hid (IH.out.below hb (Nat.le_refl _))
  replace IB := Lib.hid (IB.out.below hb (Nat.le_refl _))
  replace ZP := Lib.hid (ZP.out.below hb (Nat.le_refl _))
  replace B := Lib.hid (B.out.trans (hb.mono B.out.size))
  have z3 := hb.size
  have LM := Lib.hid hlie
  clear hlie hb
  clear k0 k1 k2 k3 kf
  generalize hpe : peelF x ⟨q.el, q.hd, q.tag, q.bd⟩ = p at *
  have hal : Below w3.heap.size w3 (w3.alloc (.cells #[.int .i64 p.kind, .int .i64 p.next, .int .i64 p.pk.el, .slice AM p.pk.hd.length cm, .int .i64 p.pk.tag, .slice BM p.pk.bd.length dm] 28)) := (Below.refl _ _).alloc (Nat.le_refl _) _
  have hzz : Blk (w3.alloc (.cells #[.int .i64 p.kind, .int .i64 p.next, .int .i64 p.pk.el, .slice AM p.pk.hd.length cm, .int .i64 p.pk.tag, .slice BM p.pk.bd.length dm] 28)) w3.heap.size #[.int .i64 p.kind, .int .i64 p.next, .int .i64 p.pk.el, .slice AM p.pk.hd.length cm, .int .i64 p.pk.tag, .slice BM p.pk.bd.length dm] 28 := heap_alloc_new _ _
  replace IH := Lib.hid (IH.out.below hal (Nat.le_refl _))
  replace IB := Lib.hid (IB.out.below hal (Nat.le_refl _))
  replace ZP := Lib.hid (ZP.out.below hal (Nat.le_refl _))
  replace LM := Lib.hid (LM.out.below hal (Nat.le_refl _))
  replace B := Lib.hid (B.out.trans (hal.mono B.out.size))
  have ZM := Lib.hid hzz
  clear hzz
  clear hal
  obtain ⟨k0, k1, k2, k3, kf⟩ := four_cells ZP.out
  go_wp2_with fail
  ((with_reducible refine (Sp5.PacketPeel _ _ _ _ _ _ _ _ _ _ x q.el q.tag q.hd q.bd _ IH.out IB.out).mono ?_); rintro e w5 ⟨AS, cs, BS, ds, g3, g4, rfl, hlie, hg3, hg4, hb⟩)
  replace IH := Lib.hid (IH.out.below hb (Nat.le_refl _))
  replace IB := Lib.hid (IB.out.below hb (Nat.le_refl _))
  replace ZP := Lib.hid (ZP.out.below hb (Nat.le_refl _))
  replace LM := Lib.hid (LM.out.below hb (Nat.le_refl _))
  replace ZM := Lib.hid (ZM.out.below hb (Nat.le_refl _))
  replace B := Lib.hid (B.out.trans (hb.mono B.out.size))
  have z5 := hb.size
  have LS := Lib.hid hlie
  clear hlie hb
  clear k0 k1 k2 k3 kf
  rw [hpe] at LS ⊢
  have HPE := Lib.hid hpe
  clear hpe
  have hal : Below w5.heap.size w5 (w5.alloc (.cells #[.int .i64 p.kind, .int .i64 p.next, .int .i64 p.pk.el, .slice AS p.pk.hd.length cs, .int .i64 p.pk.tag, .slice BS p.pk.bd.length ds] 28)) := (Below.refl _ _).alloc (Nat.le_refl _) _
  have hzz : Blk (w5.alloc (.cells #[.int .i64 p.kind, .int .i64 p.next, .int .i64 p.pk.el, .slice AS p.pk.hd.length cs, .int .i64 p.pk.tag, .slice BS p.pk.bd.length ds] 28)) w5.heap.size #[.int .i64 p.kind, .int .i64 p.next, .int .i64 p.pk.el, .slice AS p.pk.hd.length cs, .int .i64 p.pk.tag, .slice BS p.pk.bd.length ds] 28 := heap_alloc_new _ _
  replace IH := Lib.hid (IH.out.below hal (Nat.le_refl _))
  replace IB := Lib.hid (IB.out.below hal (Nat.le_refl _))
  replace ZP := Lib.hid (ZP.out.below hal (Nat.le_refl _))
  replace LM := Lib.hid (LM.out.below hal (Nat.le_refl _))
  replace ZM := Lib.hid (ZM.out.below hal (Nat.le_refl _))
  replace LS := Lib.hid (LS.out.below hal (Nat.le_refl _))
  replace B := Lib.hid (B.out.trans (hal.mono B.out.size))
  have ZS := Lib.hid hzz
  clear hzz
  clear hal
  cases hok : peelOk x ⟨q.el, q.hd, q.tag, q.bd⟩
  · obtain ⟨m0, m1, m2, m3, m4, m5, mf⟩ := six_cells ZM.out
    obtain ⟨s0, s1, s2, s3, s4, s5, sf⟩ := six_cells ZS.out
    go_wp2_with fail
    ((with_reducible refine (samePeeled p _ _ _ _ _ _ _ _ _ _ _ _ _ _ _ _ _ LM.out.hdr.ints LM.out.bdy.ints LS.out.hdr.ints LS.out.bdy.ints).mono ?_); rintro e w7 ⟨rfl, hb⟩)
    replace IH := Lib.hid (IH.out.below hb (Nat.le_refl _))
    replace IB := Lib.hid (IB.out.below hb (Nat.le_refl _))
    replace ZP := Lib.hid (ZP.out.below hb (Nat.le_refl _))
    replace LM := Lib.hid (LM.out.below hb (Nat.le_refl _))
    replace ZM := Lib.hid (ZM.out.below hb (Nat.le_refl _))
    replace LS := Lib.hid (LS.out.below hb (Nat.le_refl _))
    replace ZS := Lib.hid (ZS.out.below hb (Nat.le_refl _))
    replace B := Lib.hid (B.out.trans (hb.mono B.out.size))
    have z7 := hb.size
    clear hb
    clear m0 m1 m2 m3 m4 m5 mf s0 s1 s2 s3 s4 s5 sf
    obtain ⟨m0, m1, m2, m3, m4, m5, mf⟩ := six_cells ZM.out
    obtain ⟨s0, s1, s2, s3, s4, s5, sf⟩ := six_cells ZS.out
    go_wp2_with fail
    ((with_reducible refine (samePeeled p _ _ _ _ _ _ _ _ _ _ _ _ _ _ _ _ _ LM.out.hdr.ints LM.out.bdy.ints LS.out.hdr.ints LS.out.bdy.ints).mono ?_); rintro e w8 ⟨rfl, hb⟩)
    replace IH := Lib.hid (IH.out.below hb (Nat.le_refl _))
    replace IB := Lib.hid (IB.out.below hb (Nat.le_refl _))
    replace ZP := Lib.hid (ZP.out.below hb (Nat.le_refl _))
    replace LM := Lib.hid (LM.out.below hb (Nat.le_refl _))
    replace ZM := Lib.hid (ZM.out.below hb (Nat.le_refl _))
    replace LS := Lib.hid (LS.out.below hb (Nat.le_refl _))
    replace ZS := Lib.hid (ZS.out.below hb (Nat.le_refl _))
    replace B := Lib.hid (B.out.trans (hb.mono B.out.size))
    have z8 := hb.size
    clear hb
    clear m0 m1 m2 m3 m4 m5 mf s0 s1 s2 s3 s4 s5 sf
    clear hok
    go_wp2
    go_ret
    exact ⟨rfl, B.out⟩
  obtain ⟨m0, m1, m2, m3, m4, m5, mf⟩ := six_cells ZM.out
  obtain ⟨s0, s1, s2, s3, s4, s5, sf⟩ := six_cells ZS.out
  go_wp2_with fail
  ((with_reducible refine (samePeeled p _ _ _ _ _ _ _ _ _ _ _ _ _ _ _ _ _ LM.out.hdr.ints LM.out.bdy.ints LS.out.hdr.ints LS.out.bdy.ints).mono ?_); rintro e w7 ⟨rfl, hb⟩)
  replace IH := Lib.hid (IH.out.below hb (Nat.le_refl _))
  replace IB := Lib.hid (IB.out.below hb (Nat.le_refl _))
  replace ZP := Lib.hid (ZP.out.below hb (Nat.le_refl _))
  replace LM := Lib.hid (LM.out.below hb (Nat.le_refl _))
  replace ZM := Lib.hid (ZM.out.below hb (Nat.le_refl _))
  replace LS := Lib.hid (LS.out.below hb (Nat.le_refl _))
  replace ZS := Lib.hid (ZS.out.below hb (Nat.le_refl _))
  replace B := Lib.hid (B.out.trans (hb.mono B.out.size))
  have z7 := hb.size
  clear hb
  clear m0 m1 m2 m3 m4 m5 mf s0 s1 s2 s3 s4 s5 sf
  have HK := Lib.hid hok
  clear hok
  obtain ⟨f9, f0, f1, f2, f3, f4⟩ := peel_info HK.out
  rw [HPE.out] at f0 f1 f2 f3 f4
  dsimp only at f9 f0 f1 f2 f3
  have F9 := Lib.hid f9
  have F0 := Lib.hid f0
  have F1 := Lib.hid f1
  have F2 := Lib.hid f2
  have F3 := Lib.hid f3
  have F4 := Lib.hid f4
  clear f9 f0 f1 f2 f3 f4
  obtain ⟨k0, k1, k2, k3, kf⟩ := four_cells ZP.out
  have SA : Hid (w7.drew.cell? ⟨w1.heap.size, 1, none⟩ = some (.slice AP q.hd.length cp) ∧ w7.drew.cell? ⟨w1.heap.size, 0, none⟩ = some (.int .i64 q.el)) := ⟨k1, k0⟩
  have IHD : Hid (Ints _ _ w7.drew AP q.hd.length cp q.hd) := IH.out
  go_wp2_with fail
  go_region_held3 (fun w' => w'.cell? ⟨w1.heap.size, 1, none⟩ = some (.slice AP q.hd.length cp) ∧ w'.cell? ⟨w1.heap.size, 0, none⟩ = some (.int .i64 q.el))
    (first | with_reducible exact SA.out | with_reducible exact kB)
    (first
    | (go_at_call 24; refine (Grp.iShared x q.el _).mono ?_; rintro e w2 ⟨rfl, rfl⟩)
    | (go_at_call 28; refine (Im2.MaskOff _ _ _ _ _ q.hd (mulG x q.el) _ IHD.out).mono ?_; rintro e wv ⟨AV, cv, rfl, ov, hbv0⟩; rw [F9.out] at ov ⊢; have hbv : Below w7.heap.size w7 wv := below_drew hbv0; have kB : (wv.cell? ⟨w1.heap.size, 1, none⟩ = some (.slice AP q.hd.length cp) ∧ wv.cell? ⟨w1.heap.size, 0, none⟩ = some (.int .i64 q.el)) := ⟨(four_cells (ZP.out.below hbv (Nat.le_refl _))).2.1, (four_cells (ZP.out.below hbv (Nat.le_refl _))).1⟩))
  all_goals
    have B9 := Lib.hid (B.out.trans (hbv.mono B.out.size))
    have lv := LM.out.below hbv (Nat.le_refl _)
    obtain ⟨m0, m1, m2, m3, m4, m5, mf⟩ := six_cells (ZM.out.below hbv (Nat.le_refl _))
    obtain ⟨bv, fv, rfl, _, _, c0⟩ := ov.ints.at_ (k := 0) (by omega)
    obtain ⟨_, _, ee, _, _, c1⟩ := ov.ints.at_ (k := 1) (by omega)
    simp only [Option.some.injEq, Addr.mk.injEq, and_true] at ee
    obtain ⟨rfl, rfl⟩ := ee
    obtain ⟨_, _, ee, _, _, c2⟩ := ov.ints.at_ (k := 2) (by omega)
    simp only [Option.some.injEq, Addr.mk.injEq, and_true] at ee
    obtain ⟨rfl, rfl⟩ := ee
    rw [F0.out, Nat.add_zero] at c0
    rw [F1.out] at c1
    rw [F2.out] at c2
    have s1 := ov.ints.sub_ (k := 3) (m := 6) (by omega)
    rw [F3.out] at s1
    have h9 := lv.hdr.ints.1
    have hcp := lv.hdr.ints.cap_
    have hcv := ov.ints.cap_
    have h6 : (6 : Int) ≤ (cm : Int) := by have := F4.out; omega
    have hc3 : ¬ cv = 3 := by omega
    have s2 := lv.hdr.ints.take (k := 6) (by have := F4.out; omega)
    rw [List.take_take] at s1
    simp only [Nat.min_self] at s1
    have S1 : Hid (Ints _ _ wv.drew (some ⟨bv, fv + 3, none⟩) 6 (cv - 3) (p.pk.hd.take 6)) := s1
    have S2 : Hid (Ints _ _ wv.drew AM 6 cm (p.pk.hd.take 6)) := s2
    have kB2 : (wv.drew.cell? ⟨w3.heap.size, 0, none⟩ = some (.int .i64 p.kind) ∧ wv.drew.cell? ⟨w3.heap.size, 1, none⟩ = some (.int .i64 p.next) ∧ wv.drew.cell? ⟨w3.heap.size, 3, none⟩ = some (.slice AM p.pk.hd.length cm) ∧ wv.drew.cell? ⟨w3.heap.size, 4, none⟩ = some (.int .i64 p.pk.tag) ∧ wv.drew.cell? ⟨bv, fv, none⟩ = some (.int .i64 p.kind) ∧ wv.drew.cell? ⟨bv, fv + 1, none⟩ = some (.int .i64 p.next) ∧ wv.drew.cell? ⟨bv, fv + 2, none⟩ = some (.int .i64 p.pk.tag)) := ⟨m0, m1, m3, m4, c0, c1, c2⟩
    have SB := Lib.hid kB2
    clear s1 s2 ov lv kB kB2 hbv hbv0 h9 hcp m0 m1 m2 m3 m4 m5 mf c0 c1 c2
    go_wp2_with fail
    go_region_held3 (fun w' => (w'.cell? ⟨w3.heap.size, 0, none⟩ = some (.int .i64 p.kind) ∧ w'.cell? ⟨w3.heap.size, 1, none⟩ = some (.int .i64 p.next) ∧ w'.cell? ⟨w3.heap.size, 3, none⟩ = some (.slice AM p.pk.hd.length cm) ∧ w'.cell? ⟨w3.heap.size, 4, none⟩ = some (.int .i64 p.pk.tag) ∧ w'.cell? ⟨bv, fv, none⟩ = some (.int .i64 p.kind) ∧ w'.cell? ⟨bv, fv + 1, none⟩ = some (.int .i64 p.next) ∧ w'.cell? ⟨bv, fv + 2, none⟩ = some (.int .i64 p.pk.tag)))
      (first | with_reducible exact SB.out | with_reducible exact kC | fail)
      (first
      | (go_at_call 27; refine (Hlp.sameInts _ _ _ _ _ _ _ _ _ _ _ _ _ S1.out S2.out).mono ?_; rintro e wz ⟨rfl, nn, rfl⟩; rw [decide_eq_true rfl]; have kC : ((wv.drewN (1 + nn)).cell? ⟨w3.heap.size, 0, none⟩ = some (.int .i64 p.kind) ∧ (wv.drewN (1 + nn)).cell? ⟨w3.heap.size, 1, none⟩ = some (.int .i64 p.next) ∧ (wv.drewN (1 + nn)).cell? ⟨w3.heap.size, 3, none⟩ = some (.slice AM p.pk.hd.length cm) ∧ (wv.drewN (1 + nn)).cell? ⟨w3.heap.size, 4, none⟩ = some (.int .i64 p.pk.tag) ∧ (wv.drewN (1 + nn)).cell? ⟨bv, fv, none⟩ = some (.int .i64 p.kind) ∧ (wv.drewN (1 + nn)).cell? ⟨bv, fv + 1, none⟩ = some (.int .i64 p.next) ∧ (wv.drewN (1 + nn)).cell? ⟨bv, fv + 2, none⟩ = some (.int .i64 p.pk.tag)) := SB.out))
    all_goals
      clear kC
      go_wp2
      go_ret
      exact ⟨rfl, B9.out.os, B9.out.tape, B9.out.output, B9.out.size, B9.out.block⟩

set_option maxHeartbeats 2000000 in
theorem fnPeelHeader (A : Option Addr) (n c : Nat) (A1 : Option Addr) (n1 c1 : Nat) (w : World) (h : CodeIs w A n c) :
    Calls Try.prog 4 #[.slice A n c, .slice A1 n1 c1] w (TruePost w) := by
  have HC := Lib.hid h
  clear h
  by_cases hn : 1048576 < n
  · go_enter Try.func4, Try.ntmps4
    go_wp2
    go_ret
    exact ⟨rfl, Below.refl _ _⟩
  by_cases hn1 : 1048576 < n1
  · go_enter Try.func4, Try.ntmps4
    go_wp2
    go_ret
    exact ⟨rfl, Below.refl _ _⟩
  have B : Hid (Below w.heap.size w w) := Below.refl _ _
  go_enter Try.func4, Try.ntmps4
  have hq : n ≤ 1048576 := by omega
  go_wp2_with fail
  ((with_reducible refine (DrawPacketPeel _ _ _ _ HC.out).mono ?_); rintro e w1 ⟨x, q, AP, cp, BP, dp, rfl, hm1, hm2, i1, i2, hb⟩)
  replace B := Lib.hid (B.out.trans (hb.mono B.out.size))
  have z1 := hb.size
  have IH := Lib.hid i1
  have IB := Lib.hid i2
  clear i1 i2 hb
  have hal : Below w1.heap.size w1 (w1.alloc (.cells #[.int .i64 q.el, .slice AP q.hd.length cp, .int .i64 q.tag, .slice BP q.bd.length dp] 26)) := (Below.refl _ _).alloc (Nat.le_refl _) _
  have hzz : Blk (w1.alloc (.cells #[.int .i64 q.el, .slice AP q.hd.length cp, .int .i64 q.tag, .slice BP q.bd.length dp] 26)) w1.heap.size #[.int .i64 q.el, .slice AP q.hd.length cp, .int .i64 q.tag, .slice BP q.bd.length dp] 26 := heap_alloc_new _ _
  replace IH := Lib.hid (IH.out.below hal (Nat.le_refl _))
  replace IB := Lib.hid (IB.out.below hal (Nat.le_refl _))
  replace B := Lib.hid (B.out.trans (hal.mono B.out.size))
  have ZP := Lib.hid hzz
  clear hzz
  clear hal
  obtain ⟨k0, k1, k2, k3, kf⟩ := four_cells ZP.out
  go_wp2_with fail
  ((with_reducible refine (Im5.PacketPeel _ _ _ _ _ _ _ _ _ _ x q.el q.tag q.hd q.bd _ IH.out IB.out).mono ?_); rintro e w3 ⟨AM, cm, BM, dm, g1, g2, rfl, hlie, hg1, hg2, hb⟩)
  replace IH := Lib.hid (IH.out.below hb (Nat.le_refl _))
  replace IB := Lib.hid (IB.out.below hb (Nat.le_refl _))
  replace ZP := Lib.hid (ZP.out.below hb (Nat.le_refl _))
  replace B := Lib.hid (B.out.trans (hb.mono B.out.size))
  have z3 := hb.size
  have LM := Lib.hid hlie
  clear hlie hb
  clear k0 k1 k2 k3 kf
  generalize hpe : peelF x ⟨q.el, q.hd, q.tag, q.bd⟩ = p at *
  have hal : Below w3.heap.size w3 (w3.alloc (.cells #[.int .i64 p.kind, .int .i64 p.next, .int .i64 p.pk.el, .slice AM p.pk.hd.length cm, .int .i64 p.pk.tag, .slice BM p.pk.bd.length dm] 28)) := (Below.refl _ _).alloc (Nat.le_refl _) _
  have hzz : Blk (w3.alloc (.cells #[.int .i64 p.kind, .int .i64 p.next, .int .i64 p.pk.el, .slice AM p.pk.hd.length cm, .int .i64 p.pk.tag, .slice BM p.pk.bd.length dm] 28)) w3.heap.size #[.int .i64 p.kind, .int .i64 p.next, .int .i64 p.pk.el, .slice AM p.pk.hd.length cm, .int .i64 p.pk.tag, .slice BM p.pk.bd.length dm] 28 := heap_alloc_new _ _
  replace IH := Lib.hid (IH.out.below hal (Nat.le_refl _))
  replace IB := Lib.hid (IB.out.below hal (Nat.le_refl _))
  replace ZP := Lib.hid (ZP.out.below hal (Nat.le_refl _))
  replace LM := Lib.hid (LM.out.below hal (Nat.le_refl _))
  replace B := Lib.hid (B.out.trans (hal.mono B.out.size))
  have ZM := Lib.hid hzz
  clear hzz
  clear hal
  obtain ⟨k0, k1, k2, k3, kf⟩ := four_cells ZP.out
  go_wp2_with fail
  ((with_reducible refine (Sp5.PacketPeel _ _ _ _ _ _ _ _ _ _ x q.el q.tag q.hd q.bd _ IH.out IB.out).mono ?_); rintro e w5 ⟨AS, cs, BS, ds, g3, g4, rfl, hlie, hg3, hg4, hb⟩)
  replace IH := Lib.hid (IH.out.below hb (Nat.le_refl _))
  replace IB := Lib.hid (IB.out.below hb (Nat.le_refl _))
  replace ZP := Lib.hid (ZP.out.below hb (Nat.le_refl _))
  replace LM := Lib.hid (LM.out.below hb (Nat.le_refl _))
  replace ZM := Lib.hid (ZM.out.below hb (Nat.le_refl _))
  replace B := Lib.hid (B.out.trans (hb.mono B.out.size))
  have z5 := hb.size
  have LS := Lib.hid hlie
  clear hlie hb
  clear k0 k1 k2 k3 kf
  rw [hpe] at LS ⊢
  have HPE := Lib.hid hpe
  clear hpe
  have hal : Below w5.heap.size w5 (w5.alloc (.cells #[.int .i64 p.kind, .int .i64 p.next, .int .i64 p.pk.el, .slice AS p.pk.hd.length cs, .int .i64 p.pk.tag, .slice BS p.pk.bd.length ds] 28)) := (Below.refl _ _).alloc (Nat.le_refl _) _
  have hzz : Blk (w5.alloc (.cells #[.int .i64 p.kind, .int .i64 p.next, .int .i64 p.pk.el, .slice AS p.pk.hd.length cs, .int .i64 p.pk.tag, .slice BS p.pk.bd.length ds] 28)) w5.heap.size #[.int .i64 p.kind, .int .i64 p.next, .int .i64 p.pk.el, .slice AS p.pk.hd.length cs, .int .i64 p.pk.tag, .slice BS p.pk.bd.length ds] 28 := heap_alloc_new _ _
  replace IH := Lib.hid (IH.out.below hal (Nat.le_refl _))
  replace IB := Lib.hid (IB.out.below hal (Nat.le_refl _))
  replace ZP := Lib.hid (ZP.out.below hal (Nat.le_refl _))
  replace LM := Lib.hid (LM.out.below hal (Nat.le_refl _))
  replace ZM := Lib.hid (ZM.out.below hal (Nat.le_refl _))
  replace LS := Lib.hid (LS.out.below hal (Nat.le_refl _))
  replace B := Lib.hid (B.out.trans (hal.mono B.out.size))
  have ZS := Lib.hid hzz
  clear hzz
  clear hal
  cases hok : peelOk x ⟨q.el, q.hd, q.tag, q.bd⟩
  · obtain ⟨m0, m1, m2, m3, m4, m5, mf⟩ := six_cells ZM.out
    obtain ⟨s0, s1, s2, s3, s4, s5, sf⟩ := six_cells ZS.out
    go_wp2_with fail
    ((with_reducible refine (samePeeled p _ _ _ _ _ _ _ _ _ _ _ _ _ _ _ _ _ LM.out.hdr.ints LM.out.bdy.ints LS.out.hdr.ints LS.out.bdy.ints).mono ?_); rintro e w7 ⟨rfl, hb⟩)
    replace IH := Lib.hid (IH.out.below hb (Nat.le_refl _))
    replace IB := Lib.hid (IB.out.below hb (Nat.le_refl _))
    replace ZP := Lib.hid (ZP.out.below hb (Nat.le_refl _))
    replace LM := Lib.hid (LM.out.below hb (Nat.le_refl _))
    replace ZM := Lib.hid (ZM.out.below hb (Nat.le_refl _))
    replace LS := Lib.hid (LS.out.below hb (Nat.le_refl _))
    replace ZS := Lib.hid (ZS.out.below hb (Nat.le_refl _))
    replace B := Lib.hid (B.out.trans (hb.mono B.out.size))
    have z7 := hb.size
    clear hb
    clear m0 m1 m2 m3 m4 m5 mf s0 s1 s2 s3 s4 s5 sf
    obtain ⟨m0, m1, m2, m3, m4, m5, mf⟩ := six_cells ZM.out
    obtain ⟨s0, s1, s2, s3, s4, s5, sf⟩ := six_cells ZS.out
    go_wp2_with fail
    ((with_reducible refine (samePeeled p _ _ _ _ _ _ _ _ _ _ _ _ _ _ _ _ _ LM.out.hdr.ints LM.out.bdy.ints LS.out.hdr.ints LS.out.bdy.ints).mono ?_); rintro e w8 ⟨rfl, hb⟩)
    replace IH := Lib.hid (IH.out.below hb (Nat.le_refl _))
    replace IB := Lib.hid (IB.out.below hb (Nat.le_refl _))
    replace ZP := Lib.hid (ZP.out.below hb (Nat.le_refl _))
    replace LM := Lib.hid (LM.out.below hb (Nat.le_refl _))
    replace ZM := Lib.hid (ZM.out.below hb (Nat.le_refl _))
    replace LS := Lib.hid (LS.out.below hb (Nat.le_refl _))
    replace ZS := Lib.hid (ZS.out.below hb (Nat.le_refl _))
    replace B := Lib.hid (B.out.trans (hb.mono B.out.size))
    have z8 := hb.size
    clear hb
    clear m0 m1 m2 m3 m4 m5 mf s0 s1 s2 s3 s4 s5 sf
    clear hok
    go_wp2
    go_ret
    exact ⟨rfl, B.out⟩
  obtain ⟨m0, m1, m2, m3, m4, m5, mf⟩ := six_cells ZM.out
  obtain ⟨s0, s1, s2, s3, s4, s5, sf⟩ := six_cells ZS.out
  go_wp2_with fail
  ((with_reducible refine (samePeeled p _ _ _ _ _ _ _ _ _ _ _ _ _ _ _ _ _ LM.out.hdr.ints LM.out.bdy.ints LS.out.hdr.ints LS.out.bdy.ints).mono ?_); rintro e w7 ⟨rfl, hb⟩)
  replace IH := Lib.hid (IH.out.below hb (Nat.le_refl _))
  replace IB := Lib.hid (IB.out.below hb (Nat.le_refl _))
  replace ZP := Lib.hid (ZP.out.below hb (Nat.le_refl _))
  replace LM := Lib.hid (LM.out.below hb (Nat.le_refl _))
  replace ZM := Lib.hid (ZM.out.below hb (Nat.le_refl _))
  replace LS := Lib.hid (LS.out.below hb (Nat.le_refl _))
  replace ZS := Lib.hid (ZS.out.below hb (Nat.le_refl _))
  replace B := Lib.hid (B.out.trans (hb.mono B.out.size))
  have z7 := hb.size
  clear hb
  clear m0 m1 m2 m3 m4 m5 mf s0 s1 s2 s3 s4 s5 sf
  have HK := Lib.hid hok
  clear hok
  obtain ⟨o1, o2, o3, o4, o5⟩ := peelOk_iff.1 HK.out
  obtain ⟨u1, u2, u3, u4, u5, u6⟩ := pktOk_iff.1 o2
  dsimp only at u1 u2 u3 u4 u5 u6
  have HO := Lib.hid u2
  have H9 := Lib.hid u3
  have HT := Lib.hid (inN_iff.1 u4)
  clear o1 o2 o3 o4 o5 u1 u2 u3 u4 u5 u6
  have hl1 : 0 < q.hd.length := by rw [H9.out]; omega
  have hnl : ¬ q.hd.length + 1 = 0 := by omega
  obtain ⟨k, hk1, hkm⟩ : ∃ k : Nat, k ≤ q.hd.length ∧ (n1 : Int) % ((q.hd.length : Int) + 1) = (k : Int) := ⟨n1 % (q.hd.length + 1), Nat.le_of_lt_succ (Nat.mod_lt n1 (by omega)), rfl⟩
  have ZP0 := Lib.hid ZP.out
  obtain ⟨bl, ol, rfl, _, _, _⟩ := IH.out.at_ hl1
  by_cases hkx : k < q.hd.length
  · obtain ⟨j0, j1, j2, j3, jf⟩ := four_cells ZP.out
    have hal : Below w7.heap.size w7 (w7.alloc (.cells #[.int .i64 q.el, .slice (some ⟨bl, ol, none⟩) q.hd.length cp, .int .i64 q.tag, .slice BP q.bd.length dp] 26)) := (Below.refl _ _).alloc (Nat.le_refl _) _
    have hzz : Blk (w7.alloc (.cells #[.int .i64 q.el, .slice (some ⟨bl, ol, none⟩) q.hd.length cp, .int .i64 q.tag, .slice BP q.bd.length dp] 26)) w7.heap.size #[.int .i64 q.el, .slice (some ⟨bl, ol, none⟩) q.hd.length cp, .int .i64 q.tag, .slice BP q.bd.length dp] 26 := heap_alloc_new _ _
    replace IH := Lib.hid (IH.out.below hal (Nat.le_refl _))
    replace IB := Lib.hid (IB.out.below hal (Nat.le_refl _))
    replace ZP := Lib.hid (ZP.out.below hal (Nat.le_refl _))
    replace LM := Lib.hid (LM.out.below hal (Nat.le_refl _))
    replace ZM := Lib.hid (ZM.out.below hal (Nat.le_refl _))
    replace LS := Lib.hid (LS.out.below hal (Nat.le_refl _))
    replace ZS := Lib.hid (ZS.out.below hal (Nat.le_refl _))
    replace B := Lib.hid (B.out.trans (hal.mono B.out.size))
    have ZX := Lib.hid hzz
    clear hzz
    clear hal
    have hPX : w1.heap.size < w7.heap.size := (Array.getElem?_eq_some_iff.1 ZP0.out).1
    have hXs : w7.heap.size < (w7.alloc (.cells #[.int .i64 q.el, .slice (some ⟨bl, ol, none⟩) q.hd.length cp, .int .i64 q.tag, .slice BP q.bd.length dp] 26)).heap.size := (Array.getElem?_eq_some_iff.1 ZX.out).1
    clear ZP0
    go_upto_region 10 with (fail)
    clear j0 j1 j2 j3 jf
    generalize (w7.alloc (.cells #[.int .i64 q.el, .slice (some ⟨bl, ol, none⟩) q.hd.length cp, .int .i64 q.tag, .slice BP q.bd.length dp] 26)) = w8 at *
    have hal : Below w8.heap.size w8 (w8.alloc (.cells #[] 3)) := (Below.refl _ _).alloc (Nat.le_refl _) _
    have L1 := Lib.hid (IH.out.below hal (Nat.le_refl _))
    have HA := Lib.hid (acc_new w8)
    obtain ⟨k0, k1, k2, k3, kf⟩ := four_cells (ZP.out.below hal (Nat.le_refl _))
    clear hal
    go_wp2_with (at_builtin; refine wpList_appL _ _ _ _ HA.out _ _ _ _ _ _ L1.out (by omega) (by simp; omega) _ _ rfl rfl rfl rfl ?_; intro vx wx hAcc _; rw [List.nil_append] at hAcc; obtain ⟨bx, fx, cx, rfl, OX, lx, hx, cxq, fxq, HBX⟩ := acc_open hAcc hkx; clear hAcc k0 k1 k2 k3 kf; have hbx := HBX.out; obtain ⟨k0, k1, k2, k3, kf⟩ := four_cells (ZP.out.below hbx (Nat.le_refl _)); obtain ⟨x0, x1, x2, x3, xf⟩ := four_cells (ZX.out.below hbx (Nat.le_refl _)))
    clear k0 k1 k2 k3 kf x0 x1 x2 x3 xf
    have OY := Lib.hid (own_far OX.out (q := ⟨w7.heap.size, 1, none⟩) (.inl (by show w7.heap.size < w8.heap.size; omega)) (Value.slice (some ⟨bx, fx, none⟩) q.hd.length cx))
    have IY := Lib.hid (ints_far (IB.out.below hbx (Nat.le_refl _)) (q := ⟨w7.heap.size, 1, none⟩) (.inr (by show w1.heap.size ≤ w7.heap.size; omega)) (Value.slice (some ⟨bx, fx, none⟩) q.hd.length cx))
    have ZY := Lib.hid (blk_set1 (v := Value.slice (some ⟨bx, fx, none⟩) q.hd.length cx) (ZX.out.below hbx (Nat.le_refl _)))
    have BY := Lib.hid ((B.out.trans (hbx.mono B.out.size)).setCell (p := ⟨w7.heap.size, 1, none⟩) (show w.heap.size ≤ w7.heap.size by omega) (Value.slice (some ⟨bx, fx, none⟩) q.hd.length cx))
    have hsz : (wx.setCell ⟨w7.heap.size, 1, none⟩ (Value.slice (some ⟨bx, fx, none⟩) q.hd.length cx)).heap.size = wx.heap.size := by simp [World.setCell]
    have cy : (wx.setCell ⟨w7.heap.size, 1, none⟩ (Value.slice (some ⟨bx, fx, none⟩) q.hd.length cx)).cell? ⟨bx, fx + k, none⟩ = some (.int .i64 (q.hd.getD k 0)) := (World.cell?_of_block (Below.heap_setCell _ _ _ _ (show bx ≠ w7.heap.size by omega))).trans cxq
    have fy : (wx.setCell ⟨w7.heap.size, 1, none⟩ (Value.slice (some ⟨bx, fx, none⟩) q.hd.length cx)).frozen? ⟨bx, fx + k, none⟩ = false := by have := OY.out.2 bx fx (by omega) rfl k hkx; exact this
    clear cxq fxq OX HBX hbx L1 HA IH IB ZP LM ZM LS ZS ZX B
    generalize (wx.setCell ⟨w7.heap.size, 1, none⟩ (Value.slice (some ⟨bx, fx, none⟩) q.hd.length cx)) = wy at *
    have hlt : bx < wy.heap.size := by omega
    clear hsz
    have hxq := okL_at HO.out hkx
    generalize hxe : q.hd.getD k 0 = xk at *
    have HXE := Lib.hid hxe
    clear hxe
    obtain ⟨jb, hjb, hjm⟩ : ∃ j : Nat, j < 989 ∧ (n : Int).tmod 989 = (j : Int) := ⟨n % 989, Nat.mod_lt _ (by omega), rfl⟩
    obtain ⟨hy, hyn⟩ := another_ne xk (jb : Int)
    obtain ⟨x0, x1, x2, x3, xf⟩ := four_cells ZY.out
    go_region_law (go_simp; go_at_call 22; with_reducible refine (Elt.another xk (jb : Int) _ (by omega) (by omega) (by omega) (by omega)).mono ?_; rintro e w9 ⟨rfl, rfl⟩)
    all_goals
      generalize (xk + 1 + (jb : Int) % 990) % 991 = y at *
      have OZ : Hid (Il.Own _ _ (wy.setCell ⟨bx, fx + k, none⟩ (.int .i64 y)).drew _ _ _ _) := Lib.hid (Own.set_ OY.out hkx y)
      have ZZ : Hid (Blk (wy.setCell ⟨bx, fx + k, none⟩ (.int .i64 y)).drew _ _ _) := Lib.hid (blk_far ZY.out (q := ⟨bx, fx + k, none⟩) (show w7.heap.size ≠ bx by omega) (.int .i64 y))
      have IZ : Hid (Ints _ _ (wy.setCell ⟨bx, fx + k, none⟩ (.int .i64 y)).drew _ _ _ _) := Lib.hid (ints_far IY.out (q := ⟨bx, fx + k, none⟩) (.inr (by show w1.heap.size ≤ bx; omega)) (.int .i64 y))
      have BZ : Hid (Below _ _ (wy.setCell ⟨bx, fx + k, none⟩ (.int .i64 y)).drew) := Lib.hid (below_dr (Below.setCell BY.out (p := ⟨bx, fx + k, none⟩) (show w.heap.size ≤ bx by omega) (.int .i64 y)) 1)
      have hno : peelOk x ⟨q.el, q.hd.set k y, q.tag, q.bd⟩ = false := peel_hd (p := ⟨q.el, q.hd, q.tag, q.bd⟩) HK.out hkx hy (by show y ≠ q.hd.getD k 0; rw [HXE.out]; exact hyn)
      have HNO := Lib.hid hno
      clear hno x0 x1 x2 x3 xf cy fy OY IY ZY BY HXE HK HO
      generalize (wy.setCell ⟨bx, fx + k, none⟩ (.int .i64 y)).drew = wz at *
      obtain ⟨x0, x1, x2, x3, xf⟩ := four_cells ZZ.out
      go_wp2_with fail
      ((with_reducible refine (Im5.PacketPeel _ _ _ _ _ _ _ _ _ _ x q.el q.tag (q.hd.set k y) q.bd _ OZ.out.ints IZ.out).mono ?_); rintro e wq ⟨AQ, cq, BQ, dq, g5, g6, rfl, hlie, hg5, hg6, hb⟩)
      have B9 := Lib.hid (BZ.out.trans (hb.mono BZ.out.size))
      rw [HNO.out, peelF_no HNO.out]
      clear hlie hb
      go_wp2
      go_ret
      exact ⟨rfl, B9.out.alloc B9.out.size _⟩
  obtain rfl : k = q.hd.length := by omega
  clear hk1 hkx
  have HT2 := HT.out
  obtain ⟨j0, j1, j2, j3, jf⟩ := four_cells ZP.out
  have hal : Below w7.heap.size w7 (w7.alloc (.cells #[.int .i64 q.el, .slice (some ⟨bl, ol, none⟩) q.hd.length cp, .int .i64 q.tag, .slice BP q.bd.length dp] 26)) := (Below.refl _ _).alloc (Nat.le_refl _) _
  have hzz : Blk (w7.alloc (.cells #[.int .i64 q.el, .slice (some ⟨bl, ol, none⟩) q.hd.length cp, .int .i64 q.tag, .slice BP q.bd.length dp] 26)) w7.heap.size #[.int .i64 q.el, .slice (some ⟨bl, ol, none⟩) q.hd.length cp, .int .i64 q.tag, .slice BP q.bd.length dp] 26 := heap_alloc_new _ _
  replace IH := Lib.hid (IH.out.below hal (Nat.le_refl _))
  replace IB := Lib.hid (IB.out.below hal (Nat.le_refl _))
  replace ZP := Lib.hid (ZP.out.below hal (Nat.le_refl _))
  replace LM := Lib.hid (LM.out.below hal (Nat.le_refl _))
  replace ZM := Lib.hid (ZM.out.below hal (Nat.le_refl _))
  replace LS := Lib.hid (LS.out.below hal (Nat.le_refl _))
  replace ZS := Lib.hid (ZS.out.below hal (Nat.le_refl _))
  replace B := Lib.hid (B.out.trans (hal.mono B.out.size))
  have ZX := Lib.hid hzz
  clear hzz
  clear hal
  have hPX : w1.heap.size < w7.heap.size := (Array.getElem?_eq_some_iff.1 ZP0.out).1
  have hXs : w7.heap.size < (w7.alloc (.cells #[.int .i64 q.el, .slice (some ⟨bl, ol, none⟩) q.hd.length cp, .int .i64 q.tag, .slice BP q.bd.length dp] 26)).heap.size := (Array.getElem?_eq_some_iff.1 ZX.out).1
  clear ZP0
  go_upto_region 10 with (fail)
  clear j0 j1 j2 j3 jf
  generalize (w7.alloc (.cells #[.int .i64 q.el, .slice (some ⟨bl, ol, none⟩) q.hd.length cp, .int .i64 q.tag, .slice BP q.bd.length dp] 26)) = w8 at *
  have hal : Below w8.heap.size w8 (w8.alloc (.cells #[] 3)) := (Below.refl _ _).alloc (Nat.le_refl _) _
  have L1 := Lib.hid (IH.out.below hal (Nat.le_refl _))
  have HA := Lib.hid (acc_new w8)
  obtain ⟨k0, k1, k2, k3, kf⟩ := four_cells (ZP.out.below hal (Nat.le_refl _))
  clear hal
  go_wp2_with (at_builtin; refine wpList_appL _ _ _ _ HA.out _ _ _ _ _ _ L1.out (by omega) (by simp; omega) _ _ rfl rfl rfl rfl ?_; intro vx wx hAcc _; rw [List.nil_append] at hAcc; obtain ⟨bx, fx, cx, rfl, OX, lx, hx, cxq, fxq, HBX⟩ := acc_open hAcc hl1; clear hAcc k0 k1 k2 k3 kf; have hbx := HBX.out; obtain ⟨k0, k1, k2, k3, kf⟩ := four_cells (ZP.out.below hbx (Nat.le_refl _)); obtain ⟨x0, x1, x2, x3, xf⟩ := four_cells (ZX.out.below hbx (Nat.le_refl _)))
  obtain ⟨hy, hyn⟩ := another_ne q.tag ((n : Int) % 989)
  ((with_reducible refine (Elt.another q.tag ((n : Int) % 989) _ (by omega) (by omega) (by omega) (by omega)).mono ?_); rintro e w9 ⟨rfl, rfl⟩)
  generalize (q.tag + 1 + ((n : Int) % 989) % 990) % 991 = y at *
  have OY := Lib.hid (own_far (own_far OX.out (q := ⟨w7.heap.size, 1, none⟩) (.inl (by show w7.heap.size < w8.heap.size; omega)) (Value.slice (some ⟨bx, fx, none⟩) q.hd.length cx)) (q := ⟨w7.heap.size, 2, none⟩) (.inl (by show w7.heap.size < w8.heap.size; omega)) (Value.int .i64 y))
  have IY := Lib.hid (ints_far (ints_far (IB.out.below hbx (Nat.le_refl _)) (q := ⟨w7.heap.size, 1, none⟩) (.inr (by show w1.heap.size ≤ w7.heap.size; omega)) (Value.slice (some ⟨bx, fx, none⟩) q.hd.length cx)) (q := ⟨w7.heap.size, 2, none⟩) (.inr (by show w1.heap.size ≤ w7.heap.size; omega)) (Value.int .i64 y))
  have BY := Lib.hid (((B.out.trans (hbx.mono B.out.size)).setCell (p := ⟨w7.heap.size, 1, none⟩) (show w.heap.size ≤ w7.heap.size by omega) (Value.slice (some ⟨bx, fx, none⟩) q.hd.length cx)).setCell (p := ⟨w7.heap.size, 2, none⟩) (show w.heap.size ≤ w7.heap.size by omega) (Value.int .i64 y))
  have hno : peelOk x ⟨q.el, q.hd, y, q.bd⟩ = false := peel_tg (p := ⟨q.el, q.hd, q.tag, q.bd⟩) HK.out hyn
  have HNO := Lib.hid hno
  clear hno cxq fxq
  go_wp2_with fail
  ((with_reducible refine (Im5.PacketPeel _ _ _ _ _ _ _ _ _ _ x q.el y q.hd q.bd _ OY.out.ints IY.out).mono ?_); rintro e wq ⟨AQ, cq, BQ, dq, g5, g6, rfl, hlie, hg5, hg6, hb⟩)
  have B9 := Lib.hid (BY.out.trans (hb.mono BY.out.size))
  rw [HNO.out, peelF_no HNO.out]
  clear hlie hb k0 k1 k2 k3 kf x0 x1 x2 x3 xf hbx HBX
  go_wp2
  go_ret
  exact ⟨rfl, B9.out.alloc B9.out.size _⟩

set_option maxRecDepth 20000 in
set_option maxHeartbeats 4000000 in
theorem fnPeelBodyFree (A : Option Addr) (n c : Nat) (A1 : Option Addr) (n1 c1 : Nat) (w : World) (h : CodeIs w A n c) :
    Calls Try.prog 9 #[.slice A n c, .slice A1 n1 c1] w (TruePost w) := by
  have HC := Lib.hid h
  clear h
  by_cases hn : 1048576 < n
  · go_enter Try.func9, Try.ntmps9
    go_wp2
    go_ret
    exact ⟨rfl, Below.refl _ _⟩
  by_cases hn1 : 1048576 < n1
  · go_enter Try.func9, Try.ntmps9
    go_wp2
    go_ret
    exact ⟨rfl, Below.refl _ _⟩
  have B : Hid (Below w.heap.size w w) := Below.refl _ _
  go_enter Try.func9, Try.ntmps9
  have hq : n ≤ 1048576 := by omega
  go_wp2_with fail
  ((with_reducible refine (DrawPacketPeel _ _ _ _ HC.out).mono ?_); rintro e w1 ⟨x, q, AP, cp, BP, dp, rfl, hm1, hm2, i1, i2, hb⟩)
  replace B := Lib.hid (B.out.trans (hb.mono B.out.size))
  have z1 := hb.size
  have IH := Lib.hid i1
  have IB := Lib.hid i2
  clear i1 i2 hb
  have hal : Below w1.heap.size w1 (w1.alloc (.cells #[.int .i64 q.el, .slice AP q.hd.length cp, .int .i64 q.tag, .slice BP q.bd.length dp] 26)) := (Below.refl _ _).alloc (Nat.le_refl _) _
  have hzz : Blk (w1.alloc (.cells #[.int .i64 q.el, .slice AP q.hd.length cp, .int .i64 q.tag, .slice BP q.bd.length dp] 26)) w1.heap.size #[.int .i64 q.el, .slice AP q.hd.length cp, .int .i64 q.tag, .slice BP q.bd.length dp] 26 := heap_alloc_new _ _
  replace IH := Lib.hid (IH.out.below hal (Nat.le_refl _))
  replace IB := Lib.hid (IB.out.below hal (Nat.le_refl _))
  replace B := Lib.hid (B.out.trans (hal.mono B.out.size))
  have ZP := Lib.hid hzz
  clear hzz
  clear hal
  obtain ⟨k0, k1, k2, k3, kf⟩ := four_cells ZP.out
  go_wp2_with fail
  ((with_reducible refine (Im5.PacketPeel _ _ _ _ _ _ _ _ _ _ x q.el q.tag q.hd q.bd _ IH.out IB.out).mono ?_); rintro e w3 ⟨AM, cm, BM, dm, g1, g2, rfl, hlie, hg1, hg2, hb⟩)
  replace IH := Lib.hid (IH.out.below hb (Nat.le_refl _))
  replace IB := Lib.hid (IB.out.below hb (Nat.le_refl _))
  replace ZP := Lib.hid (ZP.out.below hb (Nat.le_refl _))
  replace B := Lib.hid (B.out.trans (hb.mono B.out.size))
  have z3 := hb.size
  have LM := Lib.hid hlie
  clear hlie hb
  clear k0 k1 k2 k3 kf
  generalize hpe : peelF x ⟨q.el, q.hd, q.tag, q.bd⟩ = p at *
  have hal : Below w3.heap.size w3 (w3.alloc (.cells #[.int .i64 p.kind, .int .i64 p.next, .int .i64 p.pk.el, .slice AM p.pk.hd.length cm, .int .i64 p.pk.tag, .slice BM p.pk.bd.length dm] 28)) := (Below.refl _ _).alloc (Nat.le_refl _) _
  have hzz : Blk (w3.alloc (.cells #[.int .i64 p.kind, .int .i64 p.next, .int .i64 p.pk.el, .slice AM p.pk.hd.length cm, .int .i64 p.pk.tag, .slice BM p.pk.bd.length dm] 28)) w3.heap.size #[.int .i64 p.kind, .int .i64 p.next, .int .i64 p.pk.el, .slice AM p.pk.hd.length cm, .int .i64 p.pk.tag, .slice BM p.pk.bd.length dm] 28 := heap_alloc_new _ _
  replace IH := Lib.hid (IH.out.below hal (Nat.le_refl _))
  replace IB := Lib.hid (IB.out.below hal (Nat.le_refl _))
  replace ZP := Lib.hid (ZP.out.below hal (Nat.le_refl _))
  replace LM := Lib.hid (LM.out.below hal (Nat.le_refl _))
  replace B := Lib.hid (B.out.trans (hal.mono B.out.size))
  have ZM := Lib.hid hzz
  clear hzz
  clear hal
  obtain ⟨k0, k1, k2, k3, kf⟩ := four_cells ZP.out
  go_wp2_with fail
  ((with_reducible refine (Sp5.PacketPeel _ _ _ _ _ _ _ _ _ _ x q.el q.tag q.hd q.bd _ IH.out IB.out).mono ?_); rintro e w5 ⟨AS, cs, BS, ds, g3, g4, rfl, hlie, hg3, hg4, hb⟩)
  replace IH := Lib.hid (IH.out.below hb (Nat.le_refl _))
  replace IB := Lib.hid (IB.out.below hb (Nat.le_refl _))
  replace ZP := Lib.hid (ZP.out.below hb (Nat.le_refl _))
  replace LM := Lib.hid (LM.out.below hb (Nat.le_refl _))
  replace ZM := Lib.hid (ZM.out.below hb (Nat.le_refl _))
  replace B := Lib.hid (B.out.trans (hb.mono B.out.size))
  have z5 := hb.size
  have LS := Lib.hid hlie
  clear hlie hb
  clear k0 k1 k2 k3 kf
  rw [hpe] at LS ⊢
  have HPE := Lib.hid hpe
  clear hpe
  have hal : Below w5.heap.size w5 (w5.alloc (.cells #[.int .i64 p.kind, .int .i64 p.next, .int .i64 p.pk.el, .slice AS p.pk.hd.length cs, .int .i64 p.pk.tag, .slice BS p.pk.bd.length ds] 28)) := (Below.refl _ _).alloc (Nat.le_refl _) _
  have hzz : Blk (w5.alloc (.cells #[.int .i64 p.kind, .int .i64 p.next, .int .i64 p.pk.el, .slice AS p.pk.hd.length cs, .int .i64 p.pk.tag, .slice BS p.pk.bd.length ds] 28)) w5.heap.size #[.int .i64 p.kind, .int .i64 p.next, .int .i64 p.pk.el, .slice AS p.pk.hd.length cs, .int .i64 p.pk.tag, .slice BS p.pk.bd.length ds] 28 := heap_alloc_new _ _
  replace IH := Lib.hid (IH.out.below hal (Nat.le_refl _))
  replace IB := Lib.hid (IB.out.below hal (Nat.le_refl _))
  replace ZP := Lib.hid (ZP.out.below hal (Nat.le_refl _))
  replace LM := Lib.hid (LM.out.below hal (Nat.le_refl _))
  replace ZM := Lib.hid (ZM.out.below hal (Nat.le_refl _))
  replace LS := Lib.hid (LS.out.below hal (Nat.le_refl _))
  replace B := Lib.hid (B.out.trans (hal.mono B.out.size))
  have ZS := Lib.hid hzz
  clear hzz
  clear hal
  cases hok : peelOk x ⟨q.el, q.hd, q.tag, q.bd⟩
  · obtain ⟨m0, m1, m2, m3, m4, m5, mf⟩ := six_cells ZM.out
    obtain ⟨s0, s1, s2, s3, s4, s5, sf⟩ := six_cells ZS.out
    go_wp2_with fail
    ((with_reducible refine (samePeeled p _ _ _ _ _ _ _ _ _ _ _ _ _ _ _ _ _ LM.out.hdr.ints LM.out.bdy.ints LS.out.hdr.ints LS.out.bdy.ints).mono ?_); rintro e w7 ⟨rfl, hb⟩)
    replace IH := Lib.hid (IH.out.below hb (Nat.le_refl _))
    replace IB := Lib.hid (IB.out.below hb (Nat.le_refl _))
    replace ZP := Lib.hid (ZP.out.below hb (Nat.le_refl _))
    replace LM := Lib.hid (LM.out.below hb (Nat.le_refl _))
    replace ZM := Lib.hid (ZM.out.below hb (Nat.le_refl _))
    replace LS := Lib.hid (LS.out.below hb (Nat.le_refl _))
    replace ZS := Lib.hid (ZS.out.below hb (Nat.le_refl _))
    replace B := Lib.hid (B.out.trans (hb.mono B.out.size))
    have z7 := hb.size
    clear hb
    clear m0 m1 m2 m3 m4 m5 mf s0 s1 s2 s3 s4 s5 sf
    obtain ⟨m0, m1, m2, m3, m4, m5, mf⟩ := six_cells ZM.out
    obtain ⟨s0, s1, s2, s3, s4, s5, sf⟩ := six_cells ZS.out
    go_wp2_with fail
    ((with_reducible refine (samePeeled p _ _ _ _ _ _ _ _ _ _ _ _ _ _ _ _ _ LM.out.hdr.ints LM.out.bdy.ints LS.out.hdr.ints LS.out.bdy.ints).mono ?_); rintro e w8 ⟨rfl, hb⟩)
    replace IH := Lib.hid (IH.out.below hb (Nat.le_refl _))
    replace IB := Lib.hid (IB.out.below hb (Nat.le_refl _))
    replace ZP := Lib.hid (ZP.out.below hb (Nat.le_refl _))
    replace LM := Lib.hid (LM.out.below hb (Nat.le_refl _))
    replace ZM := Lib.hid (ZM.out.below hb (Nat.le_refl _))
    replace LS := Lib.hid (LS.out.below hb (Nat.le_refl _))
    replace ZS := Lib.hid (ZS.out.below hb (Nat.le_refl _))
    replace B := Lib.hid (B.out.trans (hb.mono B.out.size))
    have z8 := hb.size
    clear hb
    clear m0 m1 m2 m3 m4 m5 mf s0 s1 s2 s3 s4 s5 sf
    clear hok
    go_wp2
    go_ret
    exact ⟨rfl, B.out⟩
  obtain ⟨m0, m1, m2, m3, m4, m5, mf⟩ := six_cells ZM.out
  obtain ⟨s0, s1, s2, s3, s4, s5, sf⟩ := six_cells ZS.out
  go_wp2_with fail
  ((with_reducible refine (samePeeled p _ _ _ _ _ _ _ _ _ _ _ _ _ _ _ _ _ LM.out.hdr.ints LM.out.bdy.ints LS.out.hdr.ints LS.out.bdy.ints).mono ?_); rintro e w7 ⟨rfl, hb⟩)
  replace IH := Lib.hid (IH.out.below hb (Nat.le_refl _))
  replace IB := Lib.hid (IB.out.below hb (Nat.le_refl _))
  replace ZP := Lib.hid (ZP.out.below hb (Nat.le_refl _))
  replace LM := Lib.hid (LM.out.below hb (Nat.le_refl _))
  replace ZM := Lib.hid (ZM.out.below hb (Nat.le_refl _))
  replace LS := Lib.hid (LS.out.below hb (Nat.le_refl _))
  replace ZS := Lib.hid (ZS.out.below hb (Nat.le_refl _))
  replace B := Lib.hid (B.out.trans (hb.mono B.out.size))
  have z7 := hb.size
  clear hb
  clear m0 m1 m2 m3 m4 m5 mf s0 s1 s2 s3 s4 s5 sf
  have HK := Lib.hid hok
  clear hok
  obtain ⟨hv, _, hbd⟩ := peel_valid HK.out
  rw [HPE.out] at hv hbd
  obtain ⟨t1, t2⟩ := lies_lt LM.out
  obtain ⟨_, _, v3, _, _, v6⟩ := pktOk_iff.1 hv
  have T1 := Lib.hid (t1 (by omega))
  have T2 := Lib.hid (t2 (by omega))
  have hMX : w3.heap.size < w7.heap.size := (Array.getElem?_eq_some_iff.1 ZM.out).1
  clear t1 t2 v3 v6 hv
  obtain ⟨o1, o2, o3, o4, o5⟩ := peelOk_iff.1 HK.out
  obtain ⟨u1, u2, u3, u4, u5, u6⟩ := pktOk_iff.1 o2
  dsimp only at u1 u2 u3 u4 u5 u6 hbd o1
  rw [offF_yes u5 (mulG_pos o1 u1)] at hbd
  have HO := Lib.hid u5
  have HBD := Lib.hid hbd
  have hl1 : 0 < q.bd.length := by rw [u6]; omega
  have HL6 := Lib.hid u6
  clear o1 o2 o3 o4 o5 u1 u2 u3 u4 u5 u6 hbd
  have hnl : ¬ q.bd.length = 0 := by omega
  obtain ⟨k, hkx, hkm⟩ : ∃ k : Nat, k < q.bd.length ∧ (n1 : Int) % (q.bd.length : Int) = (k : Int) := ⟨n1 % q.bd.length, Nat.mod_lt n1 (by omega), rfl⟩
  have ZP0 := Lib.hid ZP.out
  obtain ⟨bl, ol, rfl, _, _, _⟩ := IB.out.at_ hl1
  obtain ⟨j0, j1, j2, j3, jf⟩ := four_cells ZP.out
  have hal : Below w7.heap.size w7 (w7.alloc (.cells #[.int .i64 q.el, .slice AP q.hd.length cp, .int .i64 q.tag, .slice (some ⟨bl, ol, none⟩) q.bd.length dp] 26)) := (Below.refl _ _).alloc (Nat.le_refl _) _
  have hzz : Blk (w7.alloc (.cells #[.int .i64 q.el, .slice AP q.hd.length cp, .int .i64 q.tag, .slice (some ⟨bl, ol, none⟩) q.bd.length dp] 26)) w7.heap.size #[.int .i64 q.el, .slice AP q.hd.length cp, .int .i64 q.tag, .slice (some ⟨bl, ol, none⟩) q.bd.length dp] 26 := heap_alloc_new _ _
  replace IH := Lib.hid (IH.out.below hal (Nat.le_refl _))
  replace IB := Lib.hid (IB.out.below hal (Nat.le_refl _))
  replace ZP := Lib.hid (ZP.out.below hal (Nat.le_refl _))
  replace LM := Lib.hid (LM.out.below hal (Nat.le_refl _))
  replace ZM := Lib.hid (ZM.out.below hal (Nat.le_refl _))
  replace LS := Lib.hid (LS.out.below hal (Nat.le_refl _))
  replace ZS := Lib.hid (ZS.out.below hal (Nat.le_refl _))
  replace B := Lib.hid (B.out.trans (hal.mono B.out.size))
  have ZX := Lib.hid hzz
  clear hzz
  clear hal
  have hPX : w1.heap.size < w7.heap.size := (Array.getElem?_eq_some_iff.1 ZP0.out).1
  have hXs : w7.heap.size < (w7.alloc (.cells #[.int .i64 q.el, .slice AP q.hd.length cp, .int .i64 q.tag, .slice (some ⟨bl, ol, none⟩) q.bd.length dp] 26)).heap.size := (Array.getElem?_eq_some_iff.1 ZX.out).1
  clear ZP0
  go_upto_region 10 with (fail)
  clear j0 j1 j2 j3 jf
  generalize (w7.alloc (.cells #[.int .i64 q.el, .slice AP q.hd.length cp, .int .i64 q.tag, .slice (some ⟨bl, ol, none⟩) q.bd.length dp] 26)) = w8 at *
  have hal : Below w8.heap.size w8 (w8.alloc (.cells #[] 3)) := (Below.refl _ _).alloc (Nat.le_refl _) _
  have L1 := Lib.hid (IB.out.below hal (Nat.le_refl _))
  have HA := Lib.hid (acc_new w8)
  obtain ⟨k0, k1, k2, k3, kf⟩ := four_cells (ZP.out.below hal (Nat.le_refl _))
  clear hal
  go_wp2_with (at_builtin; refine wpList_appL _ _ _ _ HA.out _ _ _ _ _ _ L1.out (by omega) (by simp; omega) _ _ rfl rfl rfl rfl ?_; intro vx wx hAcc _; rw [List.nil_append] at hAcc; obtain ⟨bx, fx, cx, rfl, OX, lx, hx, cxq, fxq, HBX⟩ := acc_open hAcc hkx; clear hAcc k0 k1 k2 k3 kf; have hbx := HBX.out; obtain ⟨k0, k1, k2, k3, kf⟩ := four_cells (ZP.out.below hbx (Nat.le_refl _)); obtain ⟨x0, x1, x2, x3, xf⟩ := four_cells (ZX.out.below hbx (Nat.le_refl _)))
  clear k0 k1 k2 k3 kf x0 x1 x2 x3 xf
  have OY := Lib.hid (own_far OX.out (q := ⟨w7.heap.size, 3, none⟩) (.inl (by show w7.heap.size < w8.heap.size; omega)) (Value.slice (some ⟨bx, fx, none⟩) q.bd.length cx))
  have IY := Lib.hid (ints_far (IH.out.below hbx (Nat.le_refl _)) (q := ⟨w7.heap.size, 3, none⟩) (.inr (by show w1.heap.size ≤ w7.heap.size; omega)) (Value.slice (some ⟨bx, fx, none⟩) q.bd.length cx))
  have ZY := Lib.hid (blk_set3 (v := (Value.slice (some ⟨bx, fx, none⟩) q.bd.length cx)) (ZX.out.below hbx (Nat.le_refl _)))
  have ZN := Lib.hid (blk_far (ZM.out.below hbx (Nat.le_refl _)) (q := ⟨w7.heap.size, 3, none⟩) (show w3.heap.size ≠ w7.heap.size by omega) (Value.slice (some ⟨bx, fx, none⟩) q.bd.length cx))
  have LN := Lib.hid (Lies.set (LM.out.below hbx (Nat.le_refl _)) (q := ⟨w7.heap.size, 3, none⟩) (show w7.heap.size ≠ g1 by have := T1.out; omega) (show w7.heap.size ≠ g2 by have := T2.out; omega) (Value.slice (some ⟨bx, fx, none⟩) q.bd.length cx))
  have BY := Lib.hid ((B.out.trans (hbx.mono B.out.size)).setCell (p := ⟨w7.heap.size, 3, none⟩) (show w.heap.size ≤ w7.heap.size by omega) (Value.slice (some ⟨bx, fx, none⟩) q.bd.length cx))
  have hsz : (wx.setCell ⟨w7.heap.size, 3, none⟩ (Value.slice (some ⟨bx, fx, none⟩) q.bd.length cx)).heap.size = wx.heap.size := by simp [World.setCell]
  have cy : (wx.setCell ⟨w7.heap.size, 3, none⟩ (Value.slice (some ⟨bx, fx, none⟩) q.bd.length cx)).cell? ⟨bx, fx + k, none⟩ = some (.int .i64 (q.bd.getD k 0)) := (World.cell?_of_block (Below.heap_setCell _ _ _ _ (show bx ≠ w7.heap.size by omega))).trans cxq
  have fy : (wx.setCell ⟨w7.heap.size, 3, none⟩ (Value.slice (some ⟨bx, fx, none⟩) q.bd.length cx)).frozen? ⟨bx, fx + k, none⟩ = false := by have := OY.out.2 bx fx (by omega) rfl k hkx; exact this
  clear cxq fxq OX HBX hbx L1 HA IH IB ZP LM ZM LS ZS ZX B
  generalize (wx.setCell ⟨w7.heap.size, 3, none⟩ (Value.slice (some ⟨bx, fx, none⟩) q.bd.length cx)) = wy at *
  have hlt : bx < wy.heap.size := by omega
  clear hsz
  have hxq := okL_at HO.out hkx
  generalize hxe : q.bd.getD k 0 = xk at *
  have HXE := Lib.hid hxe
  clear hxe
  obtain ⟨jb, hjb, hjm⟩ : ∃ j : Nat, j < 989 ∧ (n : Int).tmod 989 = (j : Int) := ⟨n % 989, Nat.mod_lt _ (by omega), rfl⟩
  obtain ⟨hy, hyn⟩ := another_ne xk (jb : Int)
  obtain ⟨x0, x1, x2, x3, xf⟩ := four_cells ZY.out
  go_region_law (go_simp; go_at_call 22; with_reducible refine (Elt.another xk (jb : Int) _ (by omega) (by omega) (by omega) (by omega)).mono ?_; rintro e w9 ⟨rfl, rfl⟩)
  all_goals
    generalize (xk + 1 + (jb : Int) % 990) % 991 = y at *
    have OZ : Hid (Il.Own _ _ (wy.setCell ⟨bx, fx + k, none⟩ (.int .i64 y)).drew _ _ _ _) := Lib.hid (Own.set_ OY.out hkx y)
    have ZZ : Hid (Blk (wy.setCell ⟨bx, fx + k, none⟩ (.int .i64 y)).drew _ _ _) := Lib.hid (blk_far ZY.out (q := ⟨bx, fx + k, none⟩) (show w7.heap.size ≠ bx by omega) (.int .i64 y))
    have ZO : Hid (Blk (wy.setCell ⟨bx, fx + k, none⟩ (.int .i64 y)).drew _ _ _) := Lib.hid (blk_far ZN.out (q := ⟨bx, fx + k, none⟩) (show w3.heap.size ≠ bx by omega) (.int .i64 y))
    have LO : Hid (Lies (wy.setCell ⟨bx, fx + k, none⟩ (.int .i64 y)).drew _ _ _ _ _ _ _) := Lib.hid (Lies.set LN.out (q := ⟨bx, fx + k, none⟩) (show bx ≠ g1 by have := T1.out; omega) (show bx ≠ g2 by have := T2.out; omega) (.int .i64 y))
    have IZ : Hid (Ints _ _ (wy.setCell ⟨bx, fx + k, none⟩ (.int .i64 y)).drew _ _ _ _) := Lib.hid (ints_far IY.out (q := ⟨bx, fx + k, none⟩) (.inr (by show w1.heap.size ≤ bx; omega)) (.int .i64 y))
    have BZ : Hid (Below _ _ (wy.setCell ⟨bx, fx + k, none⟩ (.int .i64 y)).drew) := Lib.hid (below_dr (Below.setCell BY.out (p := ⟨bx, fx + k, none⟩) (show w.heap.size ≤ bx by omega) (.int .i64 y)) 1)
    have hyk : y ≠ q.bd.getD k 0 := by rw [HXE.out]; exact hyn
    obtain ⟨hyes, hpp⟩ := peel_bd (k := k) (p := ⟨q.el, q.hd, q.tag, q.bd⟩) HK.out hy
    dsimp only at hyes hpp
    rw [show peelF x ⟨q.el, q.hd, q.tag, q.bd⟩ = p from HPE.out] at hpp
    have hoff : ∀ j, j < q.bd.length → (((offL (q.bd.set k y) (mulG x q.el)).getD j 0 ≠ p.pk.bd.getD j 0) ↔ j = k) := fun j hj => by rw [HBD.out]; exact off_set HO.out hj hkx hy hyk
    have hl2 : (offL (q.bd.set k y) (mulG x q.el)).length = q.bd.length := by rw [offL_len, List.length_set]
    have hl3 : p.pk.bd.length = q.bd.length := by rw [HBD.out, offL_len]
    generalize offL (q.bd.set k y) (mulG x q.el) = b2 at *
    have HYES := Lib.hid hyes
    have HPP := Lib.hid hpp
    have HOFF := Lib.hid hoff
    have HL2 := Lib.hid hl2
    have HL3 := Lib.hid hl3
    clear hyes hpp hoff hl2 hl3 x0 x1 x2 x3 xf cy fy OY IY ZY ZN LN BY HXE HK HO hyk hyn hxq
    generalize (wy.setCell ⟨bx, fx + k, none⟩ (.int .i64 y)).drew = wz at *
    obtain ⟨x0, x1, x2, x3, xf⟩ := four_cells ZZ.out
    go_wp2_with fail
    ((with_reducible refine (Im5.PacketPeel _ _ _ _ _ _ _ _ _ _ x q.el q.tag q.hd (q.bd.set k y) _ IZ.out OZ.out.ints).mono ?_); rintro e wq ⟨AQ, cq, BQ, dq, g5, g6, rfl, hlie, hg5, hg6, hb⟩)
    rw [HYES.out]
    rw [HPP.out] at hlie ⊢
    dsimp only at hlie ⊢
    have IQ := hlie.bdy.ints
    have JQ := hlie.hdr.ints
    dsimp only at IQ JQ
    rw [HL2.out] at IQ ⊢
    clear hlie x0 x1 x2 x3 xf IZ OZ
    have hal : Below wq.heap.size wq (wq.alloc (.cells #[.int .i64 p.kind, .int .i64 p.next, .int .i64 p.pk.el, .slice AQ p.pk.hd.length cq, .int .i64 p.pk.tag, .slice BQ q.bd.length dq] 28)) := (Below.refl _ _).alloc (Nat.le_refl _) _
    have ZQ : Hid (Blk (wq.alloc (.cells #[.int .i64 p.kind, .int .i64 p.next, .int .i64 p.pk.el, .slice AQ p.pk.hd.length cq, .int .i64 p.pk.tag, .slice BQ q.bd.length dq] 28)) wq.heap.size #[.int .i64 p.kind, .int .i64 p.next, .int .i64 p.pk.el, .slice AQ p.pk.hd.length cq, .int .i64 p.pk.tag, .slice BQ q.bd.length dq] 28) := heap_alloc_new _ _
    have ha2 := hb.trans (hal.mono hb.size)
    replace IQ := Lib.hid (IQ.below hal (Nat.le_refl _))
    replace JQ := Lib.hid (JQ.below hal (Nat.le_refl _))
    replace ZZ := Lib.hid (ZZ.out.below ha2 (Nat.le_refl _))
    replace ZO := Lib.hid (ZO.out.below ha2 (Nat.le_refl _))
    replace LO := Lib.hid (LO.out.below ha2 (Nat.le_refl _))
    have B9 := Lib.hid (BZ.out.trans (ha2.mono BZ.out.size))
    clear BZ hal ha2 hb
    go_upto_region 13 with (fail)
    generalize wq.alloc (.cells #[.int .i64 p.kind, .int .i64 p.next, .int .i64 p.pk.el, .slice AQ p.pk.hd.length cq, .int .i64 p.pk.tag, .slice BQ q.bd.length dq] 28) = wl at *
    go_wp2
    go_loopw [15] (fun i wr => ∃ j : Nat, j ≤ q.bd.length ∧ i = .int .i64 j ∧ Hid (∃ dd, wr = wl.drewN dd)) (fun i _ => q.bd.length - (intOf i).toNat)
    case atStart => exact ⟨0, Nat.zero_le _, rfl, 0, rfl⟩
    case round =>
      obtain ⟨j, hj, rfl, hT⟩ := hrel
      obtain ⟨dd, rfl⟩ := hT
      obtain ⟨x0, x1, x2, x3, xf⟩ := four_cells ZZ.out
      obtain ⟨m0, m1, m2, m3, m4, m5, mf⟩ := six_cells ZO.out
      obtain ⟨s0, s1, s2, s3, s4, s5, sf⟩ := six_cells ZQ.out
      by_cases hlt2 : j < q.bd.length
      · obtain ⟨b4, f4, rfl, _, _, c4⟩ := IQ.out.at_ hlt2
        have hlt3 : j < p.pk.bd.length := by rw [HL3.out]; exact hlt2
        obtain ⟨b5, f5, rfl, _, _, c5⟩ := LO.out.bdy.ints.at_ hlt3
        have ho := HOFF.out j hlt2
        generalize b2.getD j 0 = u at c4 ho
        generalize p.pk.bd.getD j 0 = v at c5 ho
        by_cases hjk : j = k
        · have e1 : (u != v) = true := by simpa using ho.2 hjk
          have e2 : ((j : Int) == (k : Int)) = true := by simp [hjk]
          clear ho hjk
          go_wp2
          go_quiet (fail)
          go_wp2
          refine ⟨⟨j + 1, by omega, by go_num, _, rfl⟩, ?_⟩
          simp [intOf]
          omega
        · have e1 : (u != v) = false := by simpa using fun h => hjk (ho.1 h)
          have e2 : ((j : Int) == (k : Int)) = false := by simp; omega
          clear ho hjk
          go_wp2
          go_quiet (fail)
          go_wp2
          refine ⟨⟨j + 1, by omega, by go_num, _, rfl⟩, ?_⟩
          simp [intOf]
          omega
      · go_wp2_with fail
        ((with_reducible refine (Hlp.sameInts _ _ _ _ _ _ _ _ _ _ _ _ _ (JQ.out.drewN _) (LO.out.hdr.ints.drewN _)).mono ?_); rintro e wf ⟨rfl, nn, rfl⟩)
        rw [decide_eq_true rfl]
        go_wp2
        go_ret
        exact ⟨rfl, B9.out.os, B9.out.tape, B9.out.output, B9.out.size, B9.out.block⟩

end Law5p
end Go.Proofs.Ytdejnbbfdbafnab
