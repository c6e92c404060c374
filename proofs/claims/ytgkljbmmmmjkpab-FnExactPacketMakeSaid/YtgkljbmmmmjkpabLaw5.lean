/-
  The laws of chapter 5 on paths and on making packets, by the contracts of the functions that they call: each returns true and writes nothing that was there.
-/
import Derived.Test.YtgkljbmmmmjkpabSp5b
import Derived.Test.YtgkljbmmmmjkpabIm5d
import Derived.Test.YtgkljbmmmmjkpabDr5
import Derived.Test.YtgkljbmmmmjkpabHlp5
import Derived.Test.YtgkljbmmmmjkpabPo
import Derived.Test.YtgkljbmmmmjkpabElt
import Derived.Deep.RegionLaw
import Derived.Deep.QuietTactic
import Derived.BigQuiet
namespace Go.Proofs.Ytgkljbmmmmjkpab
open Go.RowKit
namespace Law5
open Gm Mm Tm Lm Pm Po Pq Il Rd Hlp5 LawB
open Sp5 (pathOk pathF secAt)

theorem fnPacket (A : Option Addr) (n c : Nat) (w : World) (h : CodeIs w A n c) :
    Calls Try.prog 7 #[.slice A n c] w (TruePost w) := by
  have HC := Lib.hid h
  clear h
  by_cases hn : 1048576 < n
  · go_enter Try.func7, Try.ntmps7
    go_wp2
    go_ret
    exact ⟨rfl, Below.refl _ _⟩
  have B : Hid (Below w.heap.size w w) := Below.refl _ _
  go_enter Try.func7, Try.ntmps7
  have hq : n ≤ 1048576 := by omega
  go_wp2_with fail
  ((with_reducible refine (DrawPacketMake _ _ _ _ HC.out).mono ?_); rintro e w1 ⟨x, r, AP, AN, AL, cp, cn, cl, ps, ns, ls, rfl, hx, hl1, hl2, hl3, i1, i2, i3, hb⟩)
  replace B := Lib.hid (B.out.trans (hb.mono B.out.size))
  have z1 := hb.size
  have IP := Lib.hid i1
  have IN := Lib.hid i2
  have IL := Lib.hid i3
  clear i1 i2 i3 hb
  go_wp2_with fail
  ((with_reducible refine (Im5.PacketMake _ _ _ _ _ _ _ _ _ _ _ _ _ _ _ ps ns ls x r _ IP.out IN.out IL.out).mono ?_); rintro e w2 ⟨AM, cm, BM, dm, g1, g2, rfl, hlie, hg1, hg2, hb⟩)
  replace IP := Lib.hid (IP.out.below hb (Nat.le_refl _))
  replace IN := Lib.hid (IN.out.below hb (Nat.le_refl _))
  replace IL := Lib.hid (IL.out.below hb (Nat.le_refl _))
  replace B := Lib.hid (B.out.trans (hb.mono B.out.size))
  have z2 := hb.size
  have LM := Lib.hid hlie
  clear hlie hb
  generalize hpe : makeF x ps ns r ls = p at *
  have hal : Below w2.heap.size w2 (w2.alloc (.cells #[.int .i64 p.el, .slice AM p.hd.length cm, .int .i64 p.tag, .slice BM p.bd.length dm] 24)) := (Below.refl _ _).alloc (Nat.le_refl _) _
  have hzz : Blk (w2.alloc (.cells #[.int .i64 p.el, .slice AM p.hd.length cm, .int .i64 p.tag, .slice BM p.bd.length dm] 24)) w2.heap.size #[.int .i64 p.el, .slice AM p.hd.length cm, .int .i64 p.tag, .slice BM p.bd.length dm] 24 := heap_alloc_new _ _
  replace IP := Lib.hid (IP.out.below hal (Nat.le_refl _))
  replace IN := Lib.hid (IN.out.below hal (Nat.le_refl _))
  replace IL := Lib.hid (IL.out.below hal (Nat.le_refl _))
  replace LM := Lib.hid (LM.out.below hal (Nat.le_refl _))
  replace B := Lib.hid (B.out.trans (hal.mono B.out.size))
  have ZM := Lib.hid hzz
  clear hzz
  clear hal
  go_wp2_with fail
  ((with_reducible refine (Sp5.PacketMake _ _ _ _ _ _ _ _ _ _ _ _ _ _ _ ps ns ls x r _ IP.out IN.out IL.out).mono ?_); rintro e w4 ⟨AS, cs, BS, ds, g3, g4, rfl, hlie, hg3, hg4, hb⟩)
  replace IP := Lib.hid (IP.out.below hb (Nat.le_refl _))
  replace IN := Lib.hid (IN.out.below hb (Nat.le_refl _))
  replace IL := Lib.hid (IL.out.below hb (Nat.le_refl _))
  replace LM := Lib.hid (LM.out.below hb (Nat.le_refl _))
  replace ZM := Lib.hid (ZM.out.below hb (Nat.le_refl _))
  replace B := Lib.hid (B.out.trans (hb.mono B.out.size))
  have z4 := hb.size
  have LS := Lib.hid hlie
  clear hlie hb
  rw [hpe] at LS ⊢
  have HPE := Lib.hid hpe
  clear hpe
  have hal : Below w4.heap.size w4 (w4.alloc (.cells #[.int .i64 p.el, .slice AS p.hd.length cs, .int .i64 p.tag, .slice BS p.bd.length ds] 24)) := (Below.refl _ _).alloc (Nat.le_refl _) _
  have hzz : Blk (w4.alloc (.cells #[.int .i64 p.el, .slice AS p.hd.length cs, .int .i64 p.tag, .slice BS p.bd.length ds] 24)) w4.heap.size #[.int .i64 p.el, .slice AS p.hd.length cs, .int .i64 p.tag, .slice BS p.bd.length ds] 24 := heap_alloc_new _ _
  replace IP := Lib.hid (IP.out.below hal (Nat.le_refl _))
  replace IN := Lib.hid (IN.out.below hal (Nat.le_refl _))
  replace IL := Lib.hid (IL.out.below hal (Nat.le_refl _))
  replace LM := Lib.hid (LM.out.below hal (Nat.le_refl _))
  replace ZM := Lib.hid (ZM.out.below hal (Nat.le_refl _))
  replace LS := Lib.hid (LS.out.below hal (Nat.le_refl _))
  replace B := Lib.hid (B.out.trans (hal.mono B.out.size))
  have ZS := Lib.hid hzz
  clear hzz
  clear hal
  cases hok : makeOk x ps ns r ls
  · obtain ⟨m0, m1, m2, m3, mf⟩ := four_cells ZM.out
    obtain ⟨s0, s1, s2, s3, sf⟩ := four_cells ZS.out
    go_wp2_with fail
    ((with_reducible refine (samePacket p _ _ _ _ _ _ _ _ _ _ _ _ _ _ _ _ _ LM.out.hdr.ints LM.out.bdy.ints LS.out.hdr.ints LS.out.bdy.ints).mono ?_); rintro e w6 ⟨rfl, hb⟩)
    replace IP := Lib.hid (IP.out.below hb (Nat.le_refl _))
    replace IN := Lib.hid (IN.out.below hb (Nat.le_refl _))
    replace IL := Lib.hid (IL.out.below hb (Nat.le_refl _))
    replace LM := Lib.hid (LM.out.below hb (Nat.le_refl _))
    replace ZM := Lib.hid (ZM.out.below hb (Nat.le_refl _))
    replace LS := Lib.hid (LS.out.below hb (Nat.le_refl _))
    replace ZS := Lib.hid (ZS.out.below hb (Nat.le_refl _))
    replace B := Lib.hid (B.out.trans (hb.mono B.out.size))
    have z6 := hb.size
    clear hb
    clear m0 m1 m2 m3 mf s0 s1 s2 s3 sf
    obtain ⟨m0, m1, m2, m3, mf⟩ := four_cells ZM.out
    obtain ⟨s0, s1, s2, s3, sf⟩ := four_cells ZS.out
    go_wp2_with fail
    ((with_reducible refine (samePacket p _ _ _ _ _ _ _ _ _ _ _ _ _ _ _ _ _ LM.out.hdr.ints LM.out.bdy.ints LS.out.hdr.ints LS.out.bdy.ints).mono ?_); rintro e w7 ⟨rfl, hb⟩)
    replace IP := Lib.hid (IP.out.below hb (Nat.le_refl _))
    replace IN := Lib.hid (IN.out.below hb (Nat.le_refl _))
    replace IL := Lib.hid (IL.out.below hb (Nat.le_refl _))
    replace LM := Lib.hid (LM.out.below hb (Nat.le_refl _))
    replace ZM := Lib.hid (ZM.out.below hb (Nat.le_refl _))
    replace LS := Lib.hid (LS.out.below hb (Nat.le_refl _))
    replace ZS := Lib.hid (ZS.out.below hb (Nat.le_refl _))
    replace B := Lib.hid (B.out.trans (hb.mono B.out.size))
    have z7 := hb.size
    clear hb
    clear m0 m1 m2 m3 mf s0 s1 s2 s3 sf
    clear hok
    go_wp2
    go_ret
    exact ⟨rfl, B.out⟩
  obtain ⟨m0, m1, m2, m3, mf⟩ := four_cells ZM.out
  obtain ⟨s0, s1, s2, s3, sf⟩ := four_cells ZS.out
  go_wp2_with fail
  ((with_reducible refine (samePacket p _ _ _ _ _ _ _ _ _ _ _ _ _ _ _ _ _ LM.out.hdr.ints LM.out.bdy.ints LS.out.hdr.ints LS.out.bdy.ints).mono ?_); rintro e w6 ⟨rfl, hb⟩)
  replace IP := Lib.hid (IP.out.below hb (Nat.le_refl _))
  replace IN := Lib.hid (IN.out.below hb (Nat.le_refl _))
  replace IL := Lib.hid (IL.out.below hb (Nat.le_refl _))
  replace LM := Lib.hid (LM.out.below hb (Nat.le_refl _))
  replace ZM := Lib.hid (ZM.out.below hb (Nat.le_refl _))
  replace LS := Lib.hid (LS.out.below hb (Nat.le_refl _))
  replace ZS := Lib.hid (ZS.out.below hb (Nat.le_refl _))
  replace B := Lib.hid (B.out.trans (hb.mono B.out.size))
  have z6 := hb.size
  clear hb
  clear m0 m1 m2 m3 mf s0 s1 s2 s3 sf
  have HK := Lib.hid hok
  clear hok
  obtain ⟨hv, hel⟩ := make_valid HK.out
  rw [HPE.out] at hv hel
  have hee : (p.el == mulG x 5) = true := by simpa using hel
  have HV := Lib.hid hv
  clear hv hel
  obtain ⟨m0, m1, m2, m3, mf⟩ := four_cells ZM.out
  have IHD : Hid (Ints g1 (g1 + 1) w6.drew AM p.hd.length cm p.hd) := LM.out.hdr.ints
  have IBD : Hid (Ints g2 (g2 + 1) w6.drew BM p.bd.length dm p.bd) := LM.out.bdy.ints
  go_wp2_with fail
  go_region_law (first | (go_simp; go_at_call 31; refine (Im5.PacketValid _ _ _ _ _ _ _ _ _ _ p.el p.tag p.hd p.bd _ IHD.out IBD.out).mono ?_; rintro e wv ⟨rfl, hbv0⟩; have hbv : Below w6.heap.size w6 wv := below_drew hbv0; rw [show pktOk ⟨p.el, p.hd, p.tag, p.bd⟩ = true from HV.out]; obtain ⟨v0, v1, v2, v3, vf⟩ := four_cells (ZM.out.below hbv (Nat.le_refl _))) | (go_simp; go_at_call 32; refine (Grp.iPublic x _).mono ?_; rintro e w' ⟨rfl, rfl⟩))
  all_goals
    have B9 := Lib.hid (B.out.trans (hbv.mono B.out.size))
    clear hbv hbv0
    go_wp2
    go_ret
    exact ⟨rfl, B9.out⟩

theorem fnPacketLetter (A : Option Addr) (n c : Nat) (A1 : Option Addr) (n1 c1 : Nat) (w : World) (h : CodeIs w A n c) :
    Calls Try.prog 9 #[.slice A n c, .slice A1 n1 c1] w (TruePost w) := by
  have HC := Lib.hid h
  clear h
  by_cases hn : 1048576 < n
  · go_enter Try.func9, Try.ntmps9
    go_wp2
    go_ret
    exact ⟨rfl, Below.refl _ _⟩
  by_cases hn1 : 1048576 < n1
  · go_enter Try.func9, Try.ntmps9
    go_wp2
    go_ret
    exact ⟨rfl, Below.refl _ _⟩
  have B : Hid (Below w.heap.size w w) := Below.refl _ _
  go_enter Try.func9, Try.ntmps9
  have hq : n ≤ 1048576 := by omega
  go_wp2_with fail
  ((with_reducible refine (DrawPacketMake _ _ _ _ HC.out).mono ?_); rintro e w1 ⟨x, r, AP, AN, AL, cp, cn, cl, ps, ns, ls, rfl, hx, hl1, hl2, hl3, i1, i2, i3, hb⟩)
  replace B := Lib.hid (B.out.trans (hb.mono B.out.size))
  have z1 := hb.size
  have IP := Lib.hid i1
  have IN := Lib.hid i2
  have IL := Lib.hid i3
  clear i1 i2 i3 hb
  go_wp2_with fail
  ((with_reducible refine (Im5.PacketMake _ _ _ _ _ _ _ _ _ _ _ _ _ _ _ ps ns ls x r _ IP.out IN.out IL.out).mono ?_); rintro e w2 ⟨AM, cm, BM, dm, g1, g2, rfl, hlie, hg1, hg2, hb⟩)
  replace IP := Lib.hid (IP.out.below hb (Nat.le_refl _))
  replace IN := Lib.hid (IN.out.below hb (Nat.le_refl _))
  replace IL := Lib.hid (IL.out.below hb (Nat.le_refl _))
  replace B := Lib.hid (B.out.trans (hb.mono B.out.size))
  have z2 := hb.size
  have LM := Lib.hid hlie
  clear hlie hb
  generalize hpe : makeF x ps ns r ls = p at *
  have hal : Below w2.heap.size w2 (w2.alloc (.cells #[.int .i64 p.el, .slice AM p.hd.length cm, .int .i64 p.tag, .slice BM p.bd.length dm] 24)) := (Below.refl _ _).alloc (Nat.le_refl _) _
  have hzz : Blk (w2.alloc (.cells #[.int .i64 p.el, .slice AM p.hd.length cm, .int .i64 p.tag, .slice BM p.bd.length dm] 24)) w2.heap.size #[.int .i64 p.el, .slice AM p.hd.length cm, .int .i64 p.tag, .slice BM p.bd.length dm] 24 := heap_alloc_new _ _
  replace IP := Lib.hid (IP.out.below hal (Nat.le_refl _))
  replace IN := Lib.hid (IN.out.below hal (Nat.le_refl _))
  replace IL := Lib.hid (IL.out.below hal (Nat.le_refl _))
  replace LM := Lib.hid (LM.out.below hal (Nat.le_refl _))
  replace B := Lib.hid (B.out.trans (hal.mono B.out.size))
  have ZM := Lib.hid hzz
  clear hzz
  clear hal
  go_wp2_with fail
  ((with_reducible refine (Sp5.PacketMake _ _ _ _ _ _ _ _ _ _ _ _ _ _ _ ps ns ls x r _ IP.out IN.out IL.out).mono ?_); rintro e w4 ⟨AS, cs, BS, ds, g3, g4, rfl, hlie, hg3, hg4, hb⟩)
  replace IP := Lib.hid (IP.out.below hb (Nat.le_refl _))
  replace IN := Lib.hid (IN.out.below hb (Nat.le_refl _))
  replace IL := Lib.hid (IL.out.below hb (Nat.le_refl _))
  replace LM := Lib.hid (LM.out.below hb (Nat.le_refl _))
  replace ZM := Lib.hid (ZM.out.below hb (Nat.le_refl _))
  replace B := Lib.hid (B.out.trans (hb.mono B.out.size))
  have z4 := hb.size
  have LS := Lib.hid hlie
  clear hlie hb
  rw [hpe] at LS ⊢
  have HPE := Lib.hid hpe
  clear hpe
  have hal : Below w4.heap.size w4 (w4.alloc (.cells #[.int .i64 p.el, .slice AS p.hd.length cs, .int .i64 p.tag, .slice BS p.bd.length ds] 24)) := (Below.refl _ _).alloc (Nat.le_refl _) _
  have hzz : Blk (w4.alloc (.cells #[.int .i64 p.el, .slice AS p.hd.length cs, .int .i64 p.tag, .slice BS p.bd.length ds] 24)) w4.heap.size #[.int .i64 p.el, .slice AS p.hd.length cs, .int .i64 p.tag, .slice BS p.bd.length ds] 24 := heap_alloc_new _ _
  replace IP := Lib.hid (IP.out.below hal (Nat.le_refl _))
  replace IN := Lib.hid (IN.out.below hal (Nat.le_refl _))
  replace IL := Lib.hid (IL.out.below hal (Nat.le_refl _))
  replace LM := Lib.hid (LM.out.below hal (Nat.le_refl _))
  replace ZM := Lib.hid (ZM.out.below hal (Nat.le_refl _))
  replace LS := Lib.hid (LS.out.below hal (Nat.le_refl _))
  replace B := Lib.hid (B.out.trans (hal.mono B.out.size))
  have ZS := Lib.hid hzz
  clear hzz
  clear hal
  cases hok : makeOk x ps ns r ls
  · obtain ⟨m0, m1, m2, m3, mf⟩ := four_cells ZM.out
    obtain ⟨s0, s1, s2, s3, sf⟩ := four_cells ZS.out
    go_wp2_with fail
    ((with_reducible refine (samePacket p _ _ _ _ _ _ _ _ _ _ _ _ _ _ _ _ _ LM.out.hdr.ints LM.out.bdy.ints LS.out.hdr.ints LS.out.bdy.ints).mono ?_); rintro e w6 ⟨rfl, hb⟩)
    replace IP := Lib.hid (IP.out.below hb (Nat.le_refl _))
    replace IN := Lib.hid (IN.out.below hb (Nat.le_refl _))
    replace IL := Lib.hid (IL.out.below hb (Nat.le_refl _))
    replace LM := Lib.hid (LM.out.below hb (Nat.le_refl _))
    replace ZM := Lib.hid (ZM.out.below hb (Nat.le_refl _))
    replace LS := Lib.hid (LS.out.below hb (Nat.le_refl _))
    replace ZS := Lib.hid (ZS.out.below hb (Nat.le_refl _))
    replace B := Lib.hid (B.out.trans (hb.mono B.out.size))
    have z6 := hb.size
    clear hb
    clear m0 m1 m2 m3 mf s0 s1 s2 s3 sf
    obtain ⟨m0, m1, m2, m3, mf⟩ := four_cells ZM.out
    obtain ⟨s0, s1, s2, s3, sf⟩ := four_cells ZS.out
    go_wp2_with fail
    ((with_reducible refine (samePacket p _ _ _ _ _ _ _ _ _ _ _ _ _ _ _ _ _ LM.out.hdr.ints LM.out.bdy.ints LS.out.hdr.ints LS.out.bdy.ints).mono ?_); rintro e w7 ⟨rfl, hb⟩)
    replace IP := Lib.hid (IP.out.below hb (Nat.le_refl _))
    replace IN := Lib.hid (IN.out.below hb (Nat.le_refl _))
    replace IL := Lib.hid (IL.out.below hb (Nat.le_refl _))
    replace LM := Lib.hid (LM.out.below hb (Nat.le_refl _))
    replace ZM := Lib.hid (ZM.out.below hb (Nat.le_refl _))
    replace LS := Lib.hid (LS.out.below hb (Nat.le_refl _))
    replace ZS := Lib.hid (ZS.out.below hb (Nat.le_refl _))
    replace B := Lib.hid (B.out.trans (hb.mono B.out.size))
    have z7 := hb.size
    clear hb
    clear m0 m1 m2 m3 mf s0 s1 s2 s3 sf
    clear hok
    go_wp2
    go_ret
    exact ⟨rfl, B.out⟩
  obtain ⟨m0, m1, m2, m3, mf⟩ := four_cells ZM.out
  obtain ⟨s0, s1, s2, s3, sf⟩ := four_cells ZS.out
  go_wp2_with fail
  ((with_reducible refine (samePacket p _ _ _ _ _ _ _ _ _ _ _ _ _ _ _ _ _ LM.out.hdr.ints LM.out.bdy.ints LS.out.hdr.ints LS.out.bdy.ints).mono ?_); rintro e w6 ⟨rfl, hb⟩)
  replace IP := Lib.hid (IP.out.below hb (Nat.le_refl _))
  replace IN := Lib.hid (IN.out.below hb (Nat.le_refl _))
  replace IL := Lib.hid (IL.out.below hb (Nat.le_refl _))
  replace LM := Lib.hid (LM.out.below hb (Nat.le_refl _))
  replace ZM := Lib.hid (ZM.out.below hb (Nat.le_refl _))
  replace LS := Lib.hid (LS.out.below hb (Nat.le_refl _))
  replace ZS := Lib.hid (ZS.out.below hb (Nat.le_refl _))
  replace B := Lib.hid (B.out.trans (hb.mono B.out.size))
  have z6 := hb.size
  clear hb
  clear m0 m1 m2 m3 mf s0 s1 s2 s3 sf
  have HK := Lib.hid hok
  clear hok
  have hal : Below w6.heap.size w6 (w6.alloc (.cells #[.int .i64 ((n1 : Int) % 900)] 3)) := (Below.refl _ _).alloc (Nat.le_refl _) _
  have hzz : Blk (w6.alloc (.cells #[.int .i64 ((n1 : Int) % 900)] 3)) w6.heap.size #[.int .i64 ((n1 : Int) % 900)] 3 := heap_alloc_new _ _
  replace IP := Lib.hid (IP.out.below hal (Nat.le_refl _))
  replace IN := Lib.hid (IN.out.below hal (Nat.le_refl _))
  replace IL := Lib.hid (IL.out.below hal (Nat.le_refl _))
  replace LM := Lib.hid (LM.out.below hal (Nat.le_refl _))
  replace ZM := Lib.hid (ZM.out.below hal (Nat.le_refl _))
  replace LS := Lib.hid (LS.out.below hal (Nat.le_refl _))
  replace ZS := Lib.hid (ZS.out.below hal (Nat.le_refl _))
  replace B := Lib.hid (B.out.trans (hal.mono B.out.size))
  have ZV := Lib.hid hzz
  clear hzz
  clear hal
  have IV := Lib.hid (ints_lit1 w6 ((n1 : Int) % 900))
  obtain ⟨hk2, h1, h2, h3⟩ := letter_free HK.out (pack_one (v := ((n1 : Int) % 900)) (by omega))
  go_wp2_with fail
  ((with_reducible refine (Im5.PacketMake _ _ _ _ _ _ _ _ _ _ _ _ _ _ _ ps ns [((n1 : Int) % 900)] x r _ IP.out IN.out IV.out).mono ?_); rintro e w8 ⟨AX, cx, BX, dx, g5, g6, rfl, hlie, hg5, hg6, hb⟩)
  replace IP := Lib.hid (IP.out.below hb (Nat.le_refl _))
  replace IN := Lib.hid (IN.out.below hb (Nat.le_refl _))
  replace IL := Lib.hid (IL.out.below hb (Nat.le_refl _))
  replace LM := Lib.hid (LM.out.below hb (Nat.le_refl _))
  replace ZM := Lib.hid (ZM.out.below hb (Nat.le_refl _))
  replace LS := Lib.hid (LS.out.below hb (Nat.le_refl _))
  replace ZS := Lib.hid (ZS.out.below hb (Nat.le_refl _))
  replace ZV := Lib.hid (ZV.out.below hb (Nat.le_refl _))
  replace IV := Lib.hid (IV.out.below hb (Nat.le_refl _))
  replace B := Lib.hid (B.out.trans (hb.mono B.out.size))
  have z8 := hb.size
  have LX := Lib.hid hlie
  clear hlie hb
  rw [hk2]
  rw [HPE.out] at h1 h2 h3
  generalize makeF x ps ns r [((n1 : Int) % 900)] = q at *
  have e1 : (q.el == p.el) = true := by simpa using h1
  have e2 : (q.tag == p.tag) = true := by simpa using h2
  have H3 := Lib.hid h3
  clear h1 h2 h3 hk2
  have hal : Below w8.heap.size w8 (w8.alloc (.cells #[.int .i64 q.el, .slice AX q.hd.length cx, .int .i64 q.tag, .slice BX q.bd.length dx] 24)) := (Below.refl _ _).alloc (Nat.le_refl _) _
  have hzz : Blk (w8.alloc (.cells #[.int .i64 q.el, .slice AX q.hd.length cx, .int .i64 q.tag, .slice BX q.bd.length dx] 24)) w8.heap.size #[.int .i64 q.el, .slice AX q.hd.length cx, .int .i64 q.tag, .slice BX q.bd.length dx] 24 := heap_alloc_new _ _
  replace IP := Lib.hid (IP.out.below hal (Nat.le_refl _))
  replace IN := Lib.hid (IN.out.below hal (Nat.le_refl _))
  replace IL := Lib.hid (IL.out.below hal (Nat.le_refl _))
  replace LM := Lib.hid (LM.out.below hal (Nat.le_refl _))
  replace ZM := Lib.hid (ZM.out.below hal (Nat.le_refl _))
  replace LS := Lib.hid (LS.out.below hal (Nat.le_refl _))
  replace ZS := Lib.hid (ZS.out.below hal (Nat.le_refl _))
  replace ZV := Lib.hid (ZV.out.below hal (Nat.le_refl _))
  replace IV := Lib.hid (IV.out.below hal (Nat.le_refl _))
  replace LX := Lib.hid (LX.out.below hal (Nat.le_refl _))
  replace B := Lib.hid (B.out.trans (hal.mono B.out.size))
  have ZX := Lib.hid hzz
  clear hzz
  clear hal
  obtain ⟨m0, m1, m2, m3, mf⟩ := four_cells ZM.out
  obtain ⟨s0, s1, s2, s3, sf⟩ := four_cells ZX.out
  go_wp2_with fail
  ((with_reducible refine (Hlp.sameInts _ _ _ _ _ _ _ _ _ _ _ _ _ LX.out.hdr.ints LM.out.hdr.ints).mono ?_); rintro e w10 ⟨rfl, hd⟩)
  have hb0 := drew_below hd
  clear hd
  replace IP := Lib.hid (IP.out.below hb0 (Nat.le_refl _))
  replace IN := Lib.hid (IN.out.below hb0 (Nat.le_refl _))
  replace IL := Lib.hid (IL.out.below hb0 (Nat.le_refl _))
  replace LM := Lib.hid (LM.out.below hb0 (Nat.le_refl _))
  replace ZM := Lib.hid (ZM.out.below hb0 (Nat.le_refl _))
  replace LS := Lib.hid (LS.out.below hb0 (Nat.le_refl _))
  replace ZS := Lib.hid (ZS.out.below hb0 (Nat.le_refl _))
  replace ZV := Lib.hid (ZV.out.below hb0 (Nat.le_refl _))
  replace IV := Lib.hid (IV.out.below hb0 (Nat.le_refl _))
  replace LX := Lib.hid (LX.out.below hb0 (Nat.le_refl _))
  replace ZX := Lib.hid (ZX.out.below hb0 (Nat.le_refl _))
  replace B := Lib.hid (B.out.trans (hb0.mono B.out.size))
  have z10 := hb0.size
  clear hb0
  clear m0 m1 m2 m3 mf s0 s1 s2 s3 sf
  rw [decide_eq_true H3.out]
  go_wp2
  go_ret
  exact ⟨rfl, B.out⟩

theorem fnPacketSecret (A : Option Addr) (n c : Nat) (A1 : Option Addr) (n1 c1 : Nat) (w : World) (h : CodeIs w A n c) :
    Calls Try.prog 10 #[.slice A n c, .slice A1 n1 c1] w (TruePost w) := by
  have HC := Lib.hid h
  clear h
  by_cases hn : 1048576 < n
  · go_enter Try.func10, Try.ntmps10
    go_wp2
    go_ret
    exact ⟨rfl, Below.refl _ _⟩
  by_cases hn1 : 1048576 < n1
  · go_enter Try.func10, Try.ntmps10
    go_wp2
    go_ret
    exact ⟨rfl, Below.refl _ _⟩
  have B : Hid (Below w.heap.size w w) := Below.refl _ _
  go_enter Try.func10, Try.ntmps10
  have hq : n ≤ 1048576 := by omega
  go_wp2_with fail
  ((with_reducible refine (DrawPacketMake _ _ _ _ HC.out).mono ?_); rintro e w1 ⟨x, r, AP, AN, AL, cp, cn, cl, ps, ns, ls, rfl, hx, hl1, hl2, hl3, i1, i2, i3, hb⟩)
  replace B := Lib.hid (B.out.trans (hb.mono B.out.size))
  have z1 := hb.size
  have IP := Lib.hid i1
  have IN := Lib.hid i2
  have IL := Lib.hid i3
  clear i1 i2 i3 hb
  go_wp2_with fail
  ((with_reducible refine (Im5.PacketMake _ _ _ _ _ _ _ _ _ _ _ _ _ _ _ ps ns ls x r _ IP.out IN.out IL.out).mono ?_); rintro e w2 ⟨AM, cm, BM, dm, g1, g2, rfl, hlie, hg1, hg2, hb⟩)
  replace IP := Lib.hid (IP.out.below hb (Nat.le_refl _))
  replace IN := Lib.hid (IN.out.below hb (Nat.le_refl _))
  replace IL := Lib.hid (IL.out.below hb (Nat.le_refl _))
  replace B := Lib.hid (B.out.trans (hb.mono B.out.size))
  have z2 := hb.size
  have LM := Lib.hid hlie
  clear hlie hb
  generalize hpe : makeF x ps ns r ls = p at *
  have hal : Below w2.heap.size w2 (w2.alloc (.cells #[.int .i64 p.el, .slice AM p.hd.length cm, .int .i64 p.tag, .slice BM p.bd.length dm] 24)) := (Below.refl _ _).alloc (Nat.le_refl _) _
  have hzz : Blk (w2.alloc (.cells #[.int .i64 p.el, .slice AM p.hd.length cm, .int .i64 p.tag, .slice BM p.bd.length dm] 24)) w2.heap.size #[.int .i64 p.el, .slice AM p.hd.length cm, .int .i64 p.tag, .slice BM p.bd.length dm] 24 := heap_alloc_new _ _
  replace IP := Lib.hid (IP.out.below hal (Nat.le_refl _))
  replace IN := Lib.hid (IN.out.below hal (Nat.le_refl _))
  replace IL := Lib.hid (IL.out.below hal (Nat.le_refl _))
  replace LM := Lib.hid (LM.out.below hal (Nat.le_refl _))
  replace B := Lib.hid (B.out.trans (hal.mono B.out.size))
  have ZM := Lib.hid hzz
  clear hzz
  clear hal
  go_wp2_with fail
  ((with_reducible refine (Sp5.PacketMake _ _ _ _ _ _ _ _ _ _ _ _ _ _ _ ps ns ls x r _ IP.out IN.out IL.out).mono ?_); rintro e w4 ⟨AS, cs, BS, ds, g3, g4, rfl, hlie, hg3, hg4, hb⟩)
  replace IP := Lib.hid (IP.out.below hb (Nat.le_refl _))
  replace IN := Lib.hid (IN.out.below hb (Nat.le_refl _))
  replace IL := Lib.hid (IL.out.below hb (Nat.le_refl _))
  replace LM := Lib.hid (LM.out.below hb (Nat.le_refl _))
  replace ZM := Lib.hid (ZM.out.below hb (Nat.le_refl _))
  replace B := Lib.hid (B.out.trans (hb.mono B.out.size))
  have z4 := hb.size
  have LS := Lib.hid hlie
  clear hlie hb
  rw [hpe] at LS ⊢
  have HPE := Lib.hid hpe
  clear hpe
  have hal : Below w4.heap.size w4 (w4.alloc (.cells #[.int .i64 p.el, .slice AS p.hd.length cs, .int .i64 p.tag, .slice BS p.bd.length ds] 24)) := (Below.refl _ _).alloc (Nat.le_refl _) _
  have hzz : Blk (w4.alloc (.cells #[.int .i64 p.el, .slice AS p.hd.length cs, .int .i64 p.tag, .slice BS p.bd.length ds] 24)) w4.heap.size #[.int .i64 p.el, .slice AS p.hd.length cs, .int .i64 p.tag, .slice BS p.bd.length ds] 24 := heap_alloc_new _ _
  replace IP := Lib.hid (IP.out.below hal (Nat.le_refl _))
  replace IN := Lib.hid (IN.out.below hal (Nat.le_refl _))
  replace IL := Lib.hid (IL.out.below hal (Nat.le_refl _))
  replace LM := Lib.hid (LM.out.below hal (Nat.le_refl _))
  replace ZM := Lib.hid (ZM.out.below hal (Nat.le_refl _))
  replace LS := Lib.hid (LS.out.below hal (Nat.le_refl _))
  replace B := Lib.hid (B.out.trans (hal.mono B.out.size))
  have ZS := Lib.hid hzz
  clear hzz
  clear hal
  cases hok : makeOk x ps ns r ls
  · obtain ⟨m0, m1, m2, m3, mf⟩ := four_cells ZM.out
    obtain ⟨s0, s1, s2, s3, sf⟩ := four_cells ZS.out
    go_wp2_with fail
    ((with_reducible refine (samePacket p _ _ _ _ _ _ _ _ _ _ _ _ _ _ _ _ _ LM.out.hdr.ints LM.out.bdy.ints LS.out.hdr.ints LS.out.bdy.ints).mono ?_); rintro e w6 ⟨rfl, hb⟩)
    replace IP := Lib.hid (IP.out.below hb (Nat.le_refl _))
    replace IN := Lib.hid (IN.out.below hb (Nat.le_refl _))
    replace IL := Lib.hid (IL.out.below hb (Nat.le_refl _))
    replace LM := Lib.hid (LM.out.below hb (Nat.le_refl _))
    replace ZM := Lib.hid (ZM.out.below hb (Nat.le_refl _))
    replace LS := Lib.hid (LS.out.below hb (Nat.le_refl _))
    replace ZS := Lib.hid (ZS.out.below hb (Nat.le_refl _))
    replace B := Lib.hid (B.out.trans (hb.mono B.out.size))
    have z6 := hb.size
    clear hb
    clear m0 m1 m2 m3 mf s0 s1 s2 s3 sf
    obtain ⟨m0, m1, m2, m3, mf⟩ := four_cells ZM.out
    obtain ⟨s0, s1, s2, s3, sf⟩ := four_cells ZS.out
    go_wp2_with fail
    ((with_reducible refine (samePacket p _ _ _ _ _ _ _ _ _ _ _ _ _ _ _ _ _ LM.out.hdr.ints LM.out.bdy.ints LS.out.hdr.ints LS.out.bdy.ints).mono ?_); rintro e w7 ⟨rfl, hb⟩)
    replace IP := Lib.hid (IP.out.below hb (Nat.le_refl _))
    replace IN := Lib.hid (IN.out.below hb (Nat.le_refl _))
    replace IL := Lib.hid (IL.out.below hb (Nat.le_refl _))
    replace LM := Lib.hid (LM.out.below hb (Nat.le_refl _))
    replace ZM := Lib.hid (ZM.out.below hb (Nat.le_refl _))
    replace LS := Lib.hid (LS.out.below hb (Nat.le_refl _))
    replace ZS := Lib.hid (ZS.out.below hb (Nat.le_refl _))
    replace B := Lib.hid (B.out.trans (hb.mono B.out.size))
    have z7 := hb.size
    clear hb
    clear m0 m1 m2 m3 mf s0 s1 s2 s3 sf
    clear hok
    go_wp2
    go_ret
    exact ⟨rfl, B.out⟩
  obtain ⟨m0, m1, m2, m3, mf⟩ := four_cells ZM.out
  obtain ⟨s0, s1, s2, s3, sf⟩ := four_cells ZS.out
  go_wp2_with fail
  ((with_reducible refine (samePacket p _ _ _ _ _ _ _ _ _ _ _ _ _ _ _ _ _ LM.out.hdr.ints LM.out.bdy.ints LS.out.hdr.ints LS.out.bdy.ints).mono ?_); rintro e w6 ⟨rfl, hb⟩)
  replace IP := Lib.hid (IP.out.below hb (Nat.le_refl _))
  replace IN := Lib.hid (IN.out.below hb (Nat.le_refl _))
  replace IL := Lib.hid (IL.out.below hb (Nat.le_refl _))
  replace LM := Lib.hid (LM.out.below hb (Nat.le_refl _))
  replace ZM := Lib.hid (ZM.out.below hb (Nat.le_refl _))
  replace LS := Lib.hid (LS.out.below hb (Nat.le_refl _))
  replace ZS := Lib.hid (ZS.out.below hb (Nat.le_refl _))
  replace B := Lib.hid (B.out.trans (hb.mono B.out.size))
  have z6 := hb.size
  clear hb
  clear m0 m1 m2 m3 mf s0 s1 s2 s3 sf
  have HK := Lib.hid hok
  clear hok
  have hxb := make_secret HK.out
  go_wp2_with fail
  ((with_reducible refine (Elt.element (x + (n1 : Int) % 990) _ (by omega) (by omega)).mono ?_); rintro e w' ⟨rfl, rfl⟩)
  have hs := el_in (x + (n1 : Int) % 990)
  generalize 1 + (x + (n1 : Int) % 990) % 996 = sx at *
  obtain ⟨hk2, hne⟩ := secret_other HK.out hs
  have HNE := Lib.hid hne
  clear hne hs
  go_wp2_with fail
  ((with_reducible refine (Im5.PacketMake _ _ _ _ _ _ _ _ _ _ _ _ _ _ _ ps ns ls sx r _ IP.out IN.out IL.out).mono ?_); rintro e w8 ⟨AX, cx, BX, dx, g5, g6, rfl, hlie, hg5, hg6, hb⟩)
  replace IP := Lib.hid (IP.out.below hb (Nat.le_refl _))
  replace IN := Lib.hid (IN.out.below hb (Nat.le_refl _))
  replace IL := Lib.hid (IL.out.below hb (Nat.le_refl _))
  replace LM := Lib.hid (LM.out.below hb (Nat.le_refl _))
  replace ZM := Lib.hid (ZM.out.below hb (Nat.le_refl _))
  replace LS := Lib.hid (LS.out.below hb (Nat.le_refl _))
  replace ZS := Lib.hid (ZS.out.below hb (Nat.le_refl _))
  replace B := Lib.hid (B.out.trans (hb.mono B.out.size))
  have z8 := hb.size
  have LX := Lib.hid hlie
  clear hlie hb
  rw [hk2]
  have hne := HNE.out
  rw [HPE.out] at hne
  clear HNE hk2
  generalize makeF sx ps ns r ls = q at *
  have hal : Below w8.heap.size w8 (w8.alloc (.cells #[.int .i64 q.el, .slice AX q.hd.length cx, .int .i64 q.tag, .slice BX q.bd.length dx] 24)) := (Below.refl _ _).alloc (Nat.le_refl _) _
  have hzz : Blk (w8.alloc (.cells #[.int .i64 q.el, .slice AX q.hd.length cx, .int .i64 q.tag, .slice BX q.bd.length dx] 24)) w8.heap.size #[.int .i64 q.el, .slice AX q.hd.length cx, .int .i64 q.tag, .slice BX q.bd.length dx] 24 := heap_alloc_new _ _
  replace IP := Lib.hid (IP.out.below hal (Nat.le_refl _))
  replace IN := Lib.hid (IN.out.below hal (Nat.le_refl _))
  replace IL := Lib.hid (IL.out.below hal (Nat.le_refl _))
  replace LM := Lib.hid (LM.out.below hal (Nat.le_refl _))
  replace ZM := Lib.hid (ZM.out.below hal (Nat.le_refl _))
  replace LS := Lib.hid (LS.out.below hal (Nat.le_refl _))
  replace ZS := Lib.hid (ZS.out.below hal (Nat.le_refl _))
  replace LX := Lib.hid (LX.out.below hal (Nat.le_refl _))
  replace B := Lib.hid (B.out.trans (hal.mono B.out.size))
  have ZX := Lib.hid hzz
  clear hzz
  clear hal
  obtain ⟨m0, m1, m2, m3, mf⟩ := four_cells ZM.out
  obtain ⟨s0, s1, s2, s3, sf⟩ := four_cells ZX.out
  by_cases hsx : sx = x
  · have e0 : (sx == x) = true := by simpa using hsx
    clear hne hsx
    go_wp2
    go_ret
    exact ⟨rfl, B.out⟩
  have e0 : (sx == x) = false := by simpa using hsx
  have e1 : (q.el != p.el) = true := by simpa using hne hsx
  clear hne hsx
  go_wp2
  go_ret
  exact ⟨rfl, B.out⟩

theorem pathF_le (x : Int) (ps : List Int) : (pathF x ps).length ≤ 3 := by
  unfold pathF
  cases h : pathOk x ps
  · simp
  · unfold pathOk at h
    simp at h
    simp only [cond_true, keysF_len]
    exact Sp5.pubs_len h.2
theorem fnExactPathKeys (x : Int) (A : Option Addr) (n c : Nat) (xs : List Int) (w : World) (hx : Ints 0 w.heap.size w A n c xs) :
    Calls Try.prog 4 #[.int .i64 x, .slice A n c] w (TruePost w) := by
  have hxl := hx.len_
  have IA := Lib.hid hx
  clear hx
  by_cases hn : 1048576 < n
  · go_enter Try.func4, Try.ntmps4
    go_wp2
    go_ret
    exact ⟨rfl, Below.refl _ _⟩
  have hxn : xs.length ≤ 1048576 := by omega
  clear hxl
  have B : Hid (Below w.heap.size w w) := Below.refl _ _
  go_enter Try.func4, Try.ntmps4
  have hle := pathF_le x xs
  go_wp2_with fail
  ((with_reducible refine (Hlp.toIntS _ _ _ _ _ xs _ IA.out (by omega)).mono ?_); rintro e w1 ⟨AT, ct, rfl, ho, hb⟩)
  replace IA := Lib.hid (IA.out.below hb (Nat.le_refl _))
  replace B := Lib.hid (B.out.trans (hb.mono B.out.size))
  have z1 := hb.size
  have OT := Lib.hid ho
  clear ho hb
  go_wp2_with fail
  ((with_reducible refine (Sp5.PathKeys _ _ _ _ _ xs x _ OT.out.ints).mono ?_); rintro e w2 ⟨AS, cs, rfl, ho, hb⟩)
  replace IA := Lib.hid (IA.out.below hb (Nat.le_refl _))
  replace OT := Lib.hid (OT.out.below hb (Nat.le_refl _))
  replace B := Lib.hid (B.out.trans (hb.mono B.out.size))
  have z2 := hb.size
  have OS := Lib.hid ho
  clear ho hb
  go_wp2_with fail
  ((with_reducible refine (Hlp.toIntS _ _ _ _ _ xs _ IA.out (by omega)).mono ?_); rintro e w3 ⟨AX, cx, rfl, ho, hb⟩)
  replace IA := Lib.hid (IA.out.below hb (Nat.le_refl _))
  replace OT := Lib.hid (OT.out.below hb (Nat.le_refl _))
  replace OS := Lib.hid (OS.out.below hb (Nat.le_refl _))
  replace B := Lib.hid (B.out.trans (hb.mono B.out.size))
  have z3 := hb.size
  have OX := Lib.hid ho
  clear ho hb
  go_wp2_with fail
  ((with_reducible refine (Im5.PathKeys _ _ _ _ _ xs x _ OX.out.ints).mono ?_); rintro e w4 ⟨AM, cm, rfl, ho, hb⟩)
  replace IA := Lib.hid (IA.out.below hb (Nat.le_refl _))
  replace OT := Lib.hid (OT.out.below hb (Nat.le_refl _))
  replace OS := Lib.hid (OS.out.below hb (Nat.le_refl _))
  replace OX := Lib.hid (OX.out.below hb (Nat.le_refl _))
  replace B := Lib.hid (B.out.trans (hb.mono B.out.size))
  have z4 := hb.size
  have OM := Lib.hid ho
  clear ho hb
  go_wp2_with fail
  ((with_reducible refine (Hlp.eqIntS _ _ _ _ _ _ _ _ _ _ _ _ _ OM.out.ints OS.out.ints).mono ?_); rintro e w5 ⟨rfl, hd⟩)
  have hb0 := drew_below hd
  clear hd
  replace IA := Lib.hid (IA.out.below hb0 (Nat.le_refl _))
  replace OT := Lib.hid (OT.out.below hb0 (Nat.le_refl _))
  replace OS := Lib.hid (OS.out.below hb0 (Nat.le_refl _))
  replace OX := Lib.hid (OX.out.below hb0 (Nat.le_refl _))
  replace OM := Lib.hid (OM.out.below hb0 (Nat.le_refl _))
  replace B := Lib.hid (B.out.trans (hb0.mono B.out.size))
  have z5 := hb0.size
  clear hb0
  rw [decide_eq_true rfl]
  go_wp2_with fail
  ((with_reducible refine (Hlp.toIntS _ _ _ _ _ xs _ IA.out (by omega)).mono ?_); rintro e w6 ⟨AU, cu, rfl, ho, hb⟩)
  replace IA := Lib.hid (IA.out.below hb (Nat.le_refl _))
  replace OT := Lib.hid (OT.out.below hb (Nat.le_refl _))
  replace OS := Lib.hid (OS.out.below hb (Nat.le_refl _))
  replace OX := Lib.hid (OX.out.below hb (Nat.le_refl _))
  replace OM := Lib.hid (OM.out.below hb (Nat.le_refl _))
  replace B := Lib.hid (B.out.trans (hb.mono B.out.size))
  have z6 := hb.size
  have OU := Lib.hid ho
  clear ho hb
  go_wp2_with fail
  ((with_reducible refine (Hlp.eqIntS _ _ _ _ _ _ _ _ _ _ _ _ _ OX.out.ints OU.out.ints).mono ?_); rintro e w7 ⟨rfl, hd⟩)
  have hb0 := drew_below hd
  clear hd
  replace IA := Lib.hid (IA.out.below hb0 (Nat.le_refl _))
  replace OT := Lib.hid (OT.out.below hb0 (Nat.le_refl _))
  replace OS := Lib.hid (OS.out.below hb0 (Nat.le_refl _))
  replace OX := Lib.hid (OX.out.below hb0 (Nat.le_refl _))
  replace OM := Lib.hid (OM.out.below hb0 (Nat.le_refl _))
  replace OU := Lib.hid (OU.out.below hb0 (Nat.le_refl _))
  replace B := Lib.hid (B.out.trans (hb0.mono B.out.size))
  have z7 := hb0.size
  clear hb0
  rw [decide_eq_true rfl]
  go_wp2_with fail
  ((with_reducible refine (Hlp.markIntS _ _ _ _ _ _ 1 _ OX.out (by omega) (by omega) (by omega)).mono ?_); rintro e w8 ⟨rfl, hm, hk⟩)
  replace IA := Lib.hid (IA.out.kept hk (by omega))
  replace OT := Lib.hid (OT.out.kept hk (by omega))
  replace OS := Lib.hid (OS.out.kept hk (by omega))
  replace OM := Lib.hid (OM.out.kept hk (by omega))
  replace OU := Lib.hid (OU.out.kept hk (by omega))
  replace B := Lib.hid (B.out.trans (hk.below (by omega)))
  replace OX := Lib.hid hm
  have z8 := Nat.le_of_eq hk.size.symm
  have y8 := Nat.le_of_eq hk.size
  clear hm hk
  go_wp2_with fail
  ((with_reducible refine (Hlp.eqIntS _ _ _ _ _ _ _ _ _ _ _ _ _ OM.out.ints OS.out.ints).mono ?_); rintro e w9 ⟨rfl, hd⟩)
  have hb0 := drew_below hd
  clear hd
  replace IA := Lib.hid (IA.out.below hb0 (Nat.le_refl _))
  replace OT := Lib.hid (OT.out.below hb0 (Nat.le_refl _))
  replace OS := Lib.hid (OS.out.below hb0 (Nat.le_refl _))
  replace OX := Lib.hid (OX.out.below hb0 (Nat.le_refl _))
  replace OM := Lib.hid (OM.out.below hb0 (Nat.le_refl _))
  replace OU := Lib.hid (OU.out.below hb0 (Nat.le_refl _))
  replace B := Lib.hid (B.out.trans (hb0.mono B.out.size))
  have z9 := hb0.size
  clear hb0
  rw [decide_eq_true rfl]
  go_wp2_with fail
  ((with_reducible refine (Hlp.markIntS _ _ _ _ _ _ 1 _ OM.out (by omega) (by omega) (by omega)).mono ?_); rintro e w10 ⟨rfl, hm, hk⟩)
  replace IA := Lib.hid (IA.out.kept hk (by omega))
  replace OT := Lib.hid (OT.out.kept hk (by omega))
  replace OS := Lib.hid (OS.out.kept hk (by omega))
  replace OX := Lib.hid (OX.out.kept hk (by omega))
  replace OU := Lib.hid (OU.out.kept hk (by omega))
  replace B := Lib.hid (B.out.trans (hk.below (by omega)))
  replace OM := Lib.hid hm
  have z10 := Nat.le_of_eq hk.size.symm
  have y10 := Nat.le_of_eq hk.size
  clear hm hk
  go_wp2_with fail
  ((with_reducible refine (Hlp.heldIntS _ _ _ _ _ 1 _ OM.out.ints (by omega) (by omega) (by omega)).mono ?_); rintro e w' ⟨rfl, rfl⟩)
  go_wp2_with fail
  ((with_reducible refine (Hlp.toIntS _ _ _ _ _ xs _ IA.out (by omega)).mono ?_); rintro e w12 ⟨AV, cv, rfl, ho, hb⟩)
  replace IA := Lib.hid (IA.out.below hb (Nat.le_refl _))
  replace OT := Lib.hid (OT.out.below hb (Nat.le_refl _))
  replace OS := Lib.hid (OS.out.below hb (Nat.le_refl _))
  replace OX := Lib.hid (OX.out.below hb (Nat.le_refl _))
  replace OM := Lib.hid (OM.out.below hb (Nat.le_refl _))
  replace OU := Lib.hid (OU.out.below hb (Nat.le_refl _))
  replace B := Lib.hid (B.out.trans (hb.mono B.out.size))
  have z12 := hb.size
  have OV := Lib.hid ho
  clear ho hb
  go_wp2_with fail
  ((with_reducible refine (Im5.PathKeys _ _ _ _ _ xs x _ OV.out.ints).mono ?_); rintro e w13 ⟨AH, ch, rfl, ho, hb⟩)
  replace IA := Lib.hid (IA.out.below hb (Nat.le_refl _))
  replace OT := Lib.hid (OT.out.below hb (Nat.le_refl _))
  replace OS := Lib.hid (OS.out.below hb (Nat.le_refl _))
  replace OX := Lib.hid (OX.out.below hb (Nat.le_refl _))
  replace OM := Lib.hid (OM.out.below hb (Nat.le_refl _))
  replace OU := Lib.hid (OU.out.below hb (Nat.le_refl _))
  replace OV := Lib.hid (OV.out.below hb (Nat.le_refl _))
  replace B := Lib.hid (B.out.trans (hb.mono B.out.size))
  have z13 := hb.size
  have OH := Lib.hid ho
  clear ho hb
  go_wp2_with fail
  ((with_reducible refine (Hlp.eqIntS _ _ _ _ _ _ _ _ _ _ _ _ _ OH.out.ints OS.out.ints).mono ?_); rintro e w14 ⟨rfl, hd⟩)
  have hb0 := drew_below hd
  clear hd
  replace IA := Lib.hid (IA.out.below hb0 (Nat.le_refl _))
  replace OT := Lib.hid (OT.out.below hb0 (Nat.le_refl _))
  replace OS := Lib.hid (OS.out.below hb0 (Nat.le_refl _))
  replace OX := Lib.hid (OX.out.below hb0 (Nat.le_refl _))
  replace OM := Lib.hid (OM.out.below hb0 (Nat.le_refl _))
  replace OU := Lib.hid (OU.out.below hb0 (Nat.le_refl _))
  replace OV := Lib.hid (OV.out.below hb0 (Nat.le_refl _))
  replace OH := Lib.hid (OH.out.below hb0 (Nat.le_refl _))
  replace B := Lib.hid (B.out.trans (hb0.mono B.out.size))
  have z14 := hb0.size
  clear hb0
  rw [decide_eq_true rfl]
  go_wp2_with fail
  ((with_reducible refine (Hlp.heldIntS _ _ _ _ _ 1 _ OM.out.ints (by omega) (by omega) (by omega)).mono ?_); rintro e w' ⟨rfl, rfl⟩)
  go_wp2
  go_ret
  exact ⟨rfl, B.out⟩

theorem make_len (x r : Int) (ps ns ls : List Int) : (makeF x ps ns r ls).hd.length ≤ 9 ∧ (makeF x ps ns r ls).bd.length ≤ 6 := by
  cases h : makeOk x ps ns r ls
  · rw [makeF_no h]
    exact ⟨Nat.zero_le _, Nat.zero_le _⟩
  · obtain ⟨_, _, h3, _, _, h6⟩ := pktOk_iff.1 (make_valid h).1
    omega
theorem fnExactPacketMake (x : Int) (A : Option Addr) (n c : Nat) (ps : List Int) (A2 : Option Addr) (n2 c2 : Nat) (ns : List Int) (r : Int) (A4 : Option Addr) (n4 c4 : Nat) (ls : List Int) (w : World) (hx : Ints 0 w.heap.size w A n c ps) (hx2 : Ints 0 w.heap.size w A2 n2 c2 ns) (hx4 : Ints 0 w.heap.size w A4 n4 c4 ls) :
    Calls Try.prog 3 #[.int .i64 x, .slice A n c, .slice A2 n2 c2, .int .i64 r, .slice A4 n4 c4] w (TruePost w) := by
  have l1 := hx.len_
  have l2 := hx2.len_
  have l4 := hx4.len_
  have IA := Lib.hid hx
  have IB := Lib.hid hx2
  have IC := Lib.hid hx4
  clear hx hx2 hx4
  by_cases q1 : 1048576 < n
  · go_enter Try.func3, Try.ntmps3
    go_wp2
    go_ret
    exact ⟨rfl, Below.refl _ _⟩
  by_cases q2 : 1048576 < n2
  · go_enter Try.func3, Try.ntmps3
    go_wp2
    go_ret
    exact ⟨rfl, Below.refl _ _⟩
  by_cases q4 : 1048576 < n4
  · go_enter Try.func3, Try.ntmps3
    go_wp2
    go_ret
    exact ⟨rfl, Below.refl _ _⟩
  have r1 : ps.length ≤ 1048576 := by omega
  have r2 : ns.length ≤ 1048576 := by omega
  have r4 : ls.length ≤ 1048576 := by omega
  clear l1 l2 l4
  have B : Hid (Below w.heap.size w w) := Below.refl _ _
  go_enter Try.func3, Try.ntmps3
  have hpl := make_len x r ps ns ls
  go_wp2_with fail
  ((with_reducible refine (Hlp.toIntS _ _ _ _ _ ps _ IA.out (by omega)).mono ?_); rintro e w1 ⟨ATa, cTa, rfl, ho, hb⟩)
  replace IA := Lib.hid (IA.out.below hb (Nat.le_refl _))
  replace IB := Lib.hid (IB.out.below hb (Nat.le_refl _))
  replace IC := Lib.hid (IC.out.below hb (Nat.le_refl _))
  replace B := Lib.hid (B.out.trans (hb.mono B.out.size))
  have z1 := hb.size
  have OTa := Lib.hid ho
  clear ho hb
  go_wp2_with fail
  ((with_reducible refine (Hlp.toIntS _ _ _ _ _ ns _ IB.out (by omega)).mono ?_); rintro e w2 ⟨ATb, cTb, rfl, ho, hb⟩)
  replace IA := Lib.hid (IA.out.below hb (Nat.le_refl _))
  replace IB := Lib.hid (IB.out.below hb (Nat.le_refl _))
  replace IC := Lib.hid (IC.out.below hb (Nat.le_refl _))
  replace OTa := Lib.hid (OTa.out.below hb (Nat.le_refl _))
  replace B := Lib.hid (B.out.trans (hb.mono B.out.size))
  have z2 := hb.size
  have OTb := Lib.hid ho
  clear ho hb
  go_wp2_with fail
  ((with_reducible refine (Hlp.toIntS _ _ _ _ _ ls _ IC.out (by omega)).mono ?_); rintro e w3 ⟨ATc, cTc, rfl, ho, hb⟩)
  replace IA := Lib.hid (IA.out.below hb (Nat.le_refl _))
  replace IB := Lib.hid (IB.out.below hb (Nat.le_refl _))
  replace IC := Lib.hid (IC.out.below hb (Nat.le_refl _))
  replace OTa := Lib.hid (OTa.out.below hb (Nat.le_refl _))
  replace OTb := Lib.hid (OTb.out.below hb (Nat.le_refl _))
  replace B := Lib.hid (B.out.trans (hb.mono B.out.size))
  have z3 := hb.size
  have OTc := Lib.hid ho
  clear ho hb
  go_wp2_with fail
  ((with_reducible refine (Sp5.PacketMake _ _ _ _ _ _ _ _ _ _ _ _ _ _ _ ps ns ls x r _ OTa.out.ints OTb.out.ints OTc.out.ints).mono ?_); rintro e w4 ⟨AS, cs, BS, ds, g3, g4, rfl, hlie, hg3, hg4, hb⟩)
  replace IA := Lib.hid (IA.out.below hb (Nat.le_refl _))
  replace IB := Lib.hid (IB.out.below hb (Nat.le_refl _))
  replace IC := Lib.hid (IC.out.below hb (Nat.le_refl _))
  replace OTa := Lib.hid (OTa.out.below hb (Nat.le_refl _))
  replace OTb := Lib.hid (OTb.out.below hb (Nat.le_refl _))
  replace OTc := Lib.hid (OTc.out.below hb (Nat.le_refl _))
  replace B := Lib.hid (B.out.trans (hb.mono B.out.size))
  have z4 := hb.size
  have LS := Lib.hid hlie
  clear hlie hb
  obtain ⟨t3, t4⟩ := lies_lt LS.out
  have T3 := Lib.hid t3
  have T4 := Lib.hid t4
  clear t3 t4
  generalize hpe : makeF x ps ns r ls = p at *
  have HPE := Lib.hid hpe
  clear hpe
  obtain ⟨hp1, hp2⟩ := hpl
  have hal : Below w4.heap.size w4 (w4.alloc (.cells #[.int .i64 p.el, .slice AS p.hd.length cs, .int .i64 p.tag, .slice BS p.bd.length ds] 24)) := (Below.refl _ _).alloc (Nat.le_refl _) _
  have hzz : Blk (w4.alloc (.cells #[.int .i64 p.el, .slice AS p.hd.length cs, .int .i64 p.tag, .slice BS p.bd.length ds] 24)) w4.heap.size #[.int .i64 p.el, .slice AS p.hd.length cs, .int .i64 p.tag, .slice BS p.bd.length ds] 24 := heap_alloc_new _ _
  replace IA := Lib.hid (IA.out.below hal (Nat.le_refl _))
  replace IB := Lib.hid (IB.out.below hal (Nat.le_refl _))
  replace IC := Lib.hid (IC.out.below hal (Nat.le_refl _))
  replace OTa := Lib.hid (OTa.out.below hal (Nat.le_refl _))
  replace OTb := Lib.hid (OTb.out.below hal (Nat.le_refl _))
  replace OTc := Lib.hid (OTc.out.below hal (Nat.le_refl _))
  replace LS := Lib.hid (LS.out.below hal (Nat.le_refl _))
  replace B := Lib.hid (B.out.trans (hal.mono B.out.size))
  have ZS := Lib.hid hzz
  clear hzz
  clear hal
  have hzs : w4.heap.size < (w4.alloc (.cells #[.int .i64 p.el, .slice AS p.hd.length cs, .int .i64 p.tag, .slice BS p.bd.length ds] 24)).heap.size := by simp
  clear OTa OTb OTc
  go_wp2_with fail
  ((with_reducible refine (Hlp.toIntS _ _ _ _ _ ps _ IA.out (by omega)).mono ?_); rintro e w6 ⟨AXa, cXa, rfl, ho, hb⟩)
  replace IA := Lib.hid (IA.out.below hb (Nat.le_refl _))
  replace IB := Lib.hid (IB.out.below hb (Nat.le_refl _))
  replace IC := Lib.hid (IC.out.below hb (Nat.le_refl _))
  replace LS := Lib.hid (LS.out.below hb (Nat.le_refl _))
  replace ZS := Lib.hid (ZS.out.below hb (Nat.le_refl _))
  replace B := Lib.hid (B.out.trans (hb.mono B.out.size))
  have z6 := hb.size
  have OXa := Lib.hid ho
  clear ho hb
  go_wp2_with fail
  ((with_reducible refine (Hlp.toIntS _ _ _ _ _ ns _ IB.out (by omega)).mono ?_); rintro e w7 ⟨AXb, cXb, rfl, ho, hb⟩)
  replace IA := Lib.hid (IA.out.below hb (Nat.le_refl _))
  replace IB := Lib.hid (IB.out.below hb (Nat.le_refl _))
  replace IC := Lib.hid (IC.out.below hb (Nat.le_refl _))
  replace LS := Lib.hid (LS.out.below hb (Nat.le_refl _))
  replace ZS := Lib.hid (ZS.out.below hb (Nat.le_refl _))
  replace OXa := Lib.hid (OXa.out.below hb (Nat.le_refl _))
  replace B := Lib.hid (B.out.trans (hb.mono B.out.size))
  have z7 := hb.size
  have OXb := Lib.hid ho
  clear ho hb
  go_wp2_with fail
  ((with_reducible refine (Hlp.toIntS _ _ _ _ _ ls _ IC.out (by omega)).mono ?_); rintro e w8 ⟨AXc, cXc, rfl, ho, hb⟩)
  replace IA := Lib.hid (IA.out.below hb (Nat.le_refl _))
  replace IB := Lib.hid (IB.out.below hb (Nat.le_refl _))
  replace IC := Lib.hid (IC.out.below hb (Nat.le_refl _))
  replace LS := Lib.hid (LS.out.below hb (Nat.le_refl _))
  replace ZS := Lib.hid (ZS.out.below hb (Nat.le_refl _))
  replace OXa := Lib.hid (OXa.out.below hb (Nat.le_refl _))
  replace OXb := Lib.hid (OXb.out.below hb (Nat.le_refl _))
  replace B := Lib.hid (B.out.trans (hb.mono B.out.size))
  have z8 := hb.size
  have OXc := Lib.hid ho
  clear ho hb
  go_wp2_with fail
  ((with_reducible refine (Im5.PacketMake _ _ _ _ _ _ _ _ _ _ _ _ _ _ _ ps ns ls x r _ OXa.out.ints OXb.out.ints OXc.out.ints).mono ?_); rintro e w9 ⟨AM, cm, BM, dm, g1, g2, rfl, hlie, hg1, hg2, hb⟩)
  replace IA := Lib.hid (IA.out.below hb (Nat.le_refl _))
  replace IB := Lib.hid (IB.out.below hb (Nat.le_refl _))
  replace IC := Lib.hid (IC.out.below hb (Nat.le_refl _))
  replace LS := Lib.hid (LS.out.below hb (Nat.le_refl _))
  replace ZS := Lib.hid (ZS.out.below hb (Nat.le_refl _))
  replace OXa := Lib.hid (OXa.out.below hb (Nat.le_refl _))
  replace OXb := Lib.hid (OXb.out.below hb (Nat.le_refl _))
  replace OXc := Lib.hid (OXc.out.below hb (Nat.le_refl _))
  replace B := Lib.hid (B.out.trans (hb.mono B.out.size))
  have z9 := hb.size
  have LM := Lib.hid hlie
  clear hlie hb
  rw [HPE.out] at LM ⊢
  obtain ⟨t1, t2⟩ := lies_lt LM.out
  have T1 := Lib.hid t1
  have T2 := Lib.hid t2
  clear t1 t2
  have hal : Below w9.heap.size w9 (w9.alloc (.cells #[.int .i64 p.el, .slice AM p.hd.length cm, .int .i64 p.tag, .slice BM p.bd.length dm] 24)) := (Below.refl _ _).alloc (Nat.le_refl _) _
  have hzz : Blk (w9.alloc (.cells #[.int .i64 p.el, .slice AM p.hd.length cm, .int .i64 p.tag, .slice BM p.bd.length dm] 24)) w9.heap.size #[.int .i64 p.el, .slice AM p.hd.length cm, .int .i64 p.tag, .slice BM p.bd.length dm] 24 := heap_alloc_new _ _
  replace IA := Lib.hid (IA.out.below hal (Nat.le_refl _))
  replace IB := Lib.hid (IB.out.below hal (Nat.le_refl _))
  replace IC := Lib.hid (IC.out.below hal (Nat.le_refl _))
  replace LS := Lib.hid (LS.out.below hal (Nat.le_refl _))
  replace ZS := Lib.hid (ZS.out.below hal (Nat.le_refl _))
  replace OXa := Lib.hid (OXa.out.below hal (Nat.le_refl _))
  replace OXb := Lib.hid (OXb.out.below hal (Nat.le_refl _))
  replace OXc := Lib.hid (OXc.out.below hal (Nat.le_refl _))
  replace LM := Lib.hid (LM.out.below hal (Nat.le_refl _))
  replace B := Lib.hid (B.out.trans (hal.mono B.out.size))
  have ZM := Lib.hid hzz
  clear hzz
  clear hal
  have hzm : w9.heap.size < (w9.alloc (.cells #[.int .i64 p.el, .slice AM p.hd.length cm, .int .i64 p.tag, .slice BM p.bd.length dm] 24)).heap.size := by simp
  obtain ⟨m0, m1, m2, m3, mf⟩ := four_cells ZM.out
  obtain ⟨s0, s1, s2, s3, sf⟩ := four_cells ZS.out
  go_wp2_with fail
  ((with_reducible refine (eqPacket p _ _ _ _ _ _ _ _ _ _ _ _ _ _ _ _ _ LM.out.hdr.ints LM.out.bdy.ints LS.out.hdr.ints LS.out.bdy.ints).mono ?_); rintro e w11 ⟨rfl, hb⟩)
  replace IA := Lib.hid (IA.out.below hb (Nat.le_refl _))
  replace IB := Lib.hid (IB.out.below hb (Nat.le_refl _))
  replace IC := Lib.hid (IC.out.below hb (Nat.le_refl _))
  replace LS := Lib.hid (LS.out.below hb (Nat.le_refl _))
  replace ZS := Lib.hid (ZS.out.below hb (Nat.le_refl _))
  replace OXa := Lib.hid (OXa.out.below hb (Nat.le_refl _))
  replace OXb := Lib.hid (OXb.out.below hb (Nat.le_refl _))
  replace OXc := Lib.hid (OXc.out.below hb (Nat.le_refl _))
  replace LM := Lib.hid (LM.out.below hb (Nat.le_refl _))
  replace ZM := Lib.hid (ZM.out.below hb (Nat.le_refl _))
  replace B := Lib.hid (B.out.trans (hb.mono B.out.size))
  have z11 := hb.size
  clear hb
  clear m0 m1 m2 m3 mf s0 s1 s2 s3 sf
  go_wp2_with fail
  ((with_reducible refine (Hlp.toIntS _ _ _ _ _ ps _ IA.out (by omega)).mono ?_); rintro e w12 ⟨AUa, cUa, rfl, ho, hb⟩)
  replace IA := Lib.hid (IA.out.below hb (Nat.le_refl _))
  replace IB := Lib.hid (IB.out.below hb (Nat.le_refl _))
  replace IC := Lib.hid (IC.out.below hb (Nat.le_refl _))
  replace LS := Lib.hid (LS.out.below hb (Nat.le_refl _))
  replace ZS := Lib.hid (ZS.out.below hb (Nat.le_refl _))
  replace OXa := Lib.hid (OXa.out.below hb (Nat.le_refl _))
  replace OXb := Lib.hid (OXb.out.below hb (Nat.le_refl _))
  replace OXc := Lib.hid (OXc.out.below hb (Nat.le_refl _))
  replace LM := Lib.hid (LM.out.below hb (Nat.le_refl _))
  replace ZM := Lib.hid (ZM.out.below hb (Nat.le_refl _))
  replace B := Lib.hid (B.out.trans (hb.mono B.out.size))
  have z12 := hb.size
  have OUa := Lib.hid ho
  clear ho hb
  go_wp2_with fail
  ((with_reducible refine (Hlp.eqIntS _ _ _ _ _ _ _ _ _ _ _ _ _ OXa.out.ints OUa.out.ints).mono ?_); rintro e w13 ⟨rfl, hd⟩)
  have hb0 := drew_below hd
  clear hd
  replace IA := Lib.hid (IA.out.below hb0 (Nat.le_refl _))
  replace IB := Lib.hid (IB.out.below hb0 (Nat.le_refl _))
  replace IC := Lib.hid (IC.out.below hb0 (Nat.le_refl _))
  replace LS := Lib.hid (LS.out.below hb0 (Nat.le_refl _))
  replace ZS := Lib.hid (ZS.out.below hb0 (Nat.le_refl _))
  replace OXa := Lib.hid (OXa.out.below hb0 (Nat.le_refl _))
  replace OXb := Lib.hid (OXb.out.below hb0 (Nat.le_refl _))
  replace OXc := Lib.hid (OXc.out.below hb0 (Nat.le_refl _))
  replace LM := Lib.hid (LM.out.below hb0 (Nat.le_refl _))
  replace ZM := Lib.hid (ZM.out.below hb0 (Nat.le_refl _))
  replace OUa := Lib.hid (OUa.out.below hb0 (Nat.le_refl _))
  replace B := Lib.hid (B.out.trans (hb0.mono B.out.size))
  have z13 := hb0.size
  clear hb0
  rw [decide_eq_true rfl]
  clear OUa
  go_wp2_with fail
  ((with_reducible refine (Hlp.toIntS _ _ _ _ _ ns _ IB.out (by omega)).mono ?_); rintro e w14 ⟨AUb, cUb, rfl, ho, hb⟩)
  replace IA := Lib.hid (IA.out.below hb (Nat.le_refl _))
  replace IB := Lib.hid (IB.out.below hb (Nat.le_refl _))
  replace IC := Lib.hid (IC.out.below hb (Nat.le_refl _))
  replace LS := Lib.hid (LS.out.below hb (Nat.le_refl _))
  replace ZS := Lib.hid (ZS.out.below hb (Nat.le_refl _))
  replace OXa := Lib.hid (OXa.out.below hb (Nat.le_refl _))
  replace OXb := Lib.hid (OXb.out.below hb (Nat.le_refl _))
  replace OXc := Lib.hid (OXc.out.below hb (Nat.le_refl _))
  replace LM := Lib.hid (LM.out.below hb (Nat.le_refl _))
  replace ZM := Lib.hid (ZM.out.below hb (Nat.le_refl _))
  replace B := Lib.hid (B.out.trans (hb.mono B.out.size))
  have z14 := hb.size
  have OUb := Lib.hid ho
  clear ho hb
  go_wp2_with fail
  ((with_reducible refine (Hlp.eqIntS _ _ _ _ _ _ _ _ _ _ _ _ _ OXb.out.ints OUb.out.ints).mono ?_); rintro e w15 ⟨rfl, hd⟩)
  have hb0 := drew_below hd
  clear hd
  replace IA := Lib.hid (IA.out.below hb0 (Nat.le_refl _))
  replace IB := Lib.hid (IB.out.below hb0 (Nat.le_refl _))
  replace IC := Lib.hid (IC.out.below hb0 (Nat.le_refl _))
  replace LS := Lib.hid (LS.out.below hb0 (Nat.le_refl _))
  replace ZS := Lib.hid (ZS.out.below hb0 (Nat.le_refl _))
  replace OXa := Lib.hid (OXa.out.below hb0 (Nat.le_refl _))
  replace OXb := Lib.hid (OXb.out.below hb0 (Nat.le_refl _))
  replace OXc := Lib.hid (OXc.out.below hb0 (Nat.le_refl _))
  replace LM := Lib.hid (LM.out.below hb0 (Nat.le_refl _))
  replace ZM := Lib.hid (ZM.out.below hb0 (Nat.le_refl _))
  replace OUb := Lib.hid (OUb.out.below hb0 (Nat.le_refl _))
  replace B := Lib.hid (B.out.trans (hb0.mono B.out.size))
  have z15 := hb0.size
  clear hb0
  rw [decide_eq_true rfl]
  clear OUb
  go_wp2_with fail
  ((with_reducible refine (Hlp.toIntS _ _ _ _ _ ls _ IC.out (by omega)).mono ?_); rintro e w16 ⟨AUc, cUc, rfl, ho, hb⟩)
  replace IA := Lib.hid (IA.out.below hb (Nat.le_refl _))
  replace IB := Lib.hid (IB.out.below hb (Nat.le_refl _))
  replace IC := Lib.hid (IC.out.below hb (Nat.le_refl _))
  replace LS := Lib.hid (LS.out.below hb (Nat.le_refl _))
  replace ZS := Lib.hid (ZS.out.below hb (Nat.le_refl _))
  replace OXa := Lib.hid (OXa.out.below hb (Nat.le_refl _))
  replace OXb := Lib.hid (OXb.out.below hb (Nat.le_refl _))
  replace OXc := Lib.hid (OXc.out.below hb (Nat.le_refl _))
  replace LM := Lib.hid (LM.out.below hb (Nat.le_refl _))
  replace ZM := Lib.hid (ZM.out.below hb (Nat.le_refl _))
  replace B := Lib.hid (B.out.trans (hb.mono B.out.size))
  have z16 := hb.size
  have OUc := Lib.hid ho
  clear ho hb
  go_wp2_with fail
  ((with_reducible refine (Hlp.eqIntS _ _ _ _ _ _ _ _ _ _ _ _ _ OXc.out.ints OUc.out.ints).mono ?_); rintro e w17 ⟨rfl, hd⟩)
  have hb0 := drew_below hd
  clear hd
  replace IA := Lib.hid (IA.out.below hb0 (Nat.le_refl _))
  replace IB := Lib.hid (IB.out.below hb0 (Nat.le_refl _))
  replace IC := Lib.hid (IC.out.below hb0 (Nat.le_refl _))
  replace LS := Lib.hid (LS.out.below hb0 (Nat.le_refl _))
  replace ZS := Lib.hid (ZS.out.below hb0 (Nat.le_refl _))
  replace OXa := Lib.hid (OXa.out.below hb0 (Nat.le_refl _))
  replace OXb := Lib.hid (OXb.out.below hb0 (Nat.le_refl _))
  replace OXc := Lib.hid (OXc.out.below hb0 (Nat.le_refl _))
  replace LM := Lib.hid (LM.out.below hb0 (Nat.le_refl _))
  replace ZM := Lib.hid (ZM.out.below hb0 (Nat.le_refl _))
  replace OUc := Lib.hid (OUc.out.below hb0 (Nat.le_refl _))
  replace B := Lib.hid (B.out.trans (hb0.mono B.out.size))
  have z17 := hb0.size
  clear hb0
  rw [decide_eq_true rfl]
  clear OUc
  go_wp2_with fail
  ((with_reducible refine (Hlp.markIntS _ _ _ _ _ _ 1 _ OXa.out (by omega) (by omega) (by omega)).mono ?_); rintro e w18 ⟨rfl, hm, hk⟩)
  replace IA := Lib.hid (IA.out.kept hk (by omega))
  replace IB := Lib.hid (IB.out.kept hk (by omega))
  replace IC := Lib.hid (IC.out.kept hk (by omega))
  replace LS := Lib.hid (lies_keptC LS.out hk (fun h => by have := T3.out h; omega) (fun h => by have := T4.out h; omega))
  replace ZS := Lib.hid (blk_kept ZS.out hk (by omega))
  replace OXb := Lib.hid (OXb.out.kept hk (by omega))
  replace OXc := Lib.hid (OXc.out.kept hk (by omega))
  replace LM := Lib.hid (lies_kept LM.out hk (by omega))
  replace ZM := Lib.hid (blk_kept ZM.out hk (by omega))
  replace B := Lib.hid (B.out.trans (hk.below (by omega)))
  replace OXa := Lib.hid hm
  have z18 := Nat.le_of_eq hk.size.symm
  have y18 := Nat.le_of_eq hk.size
  clear hm hk
  go_wp2_with fail
  ((with_reducible refine (Hlp.markIntS _ _ _ _ _ _ _ _ OXb.out (by omega) (by omega) (by omega)).mono ?_); rintro e w19 ⟨rfl, hm, hk⟩)
  replace IA := Lib.hid (IA.out.kept hk (by omega))
  replace IB := Lib.hid (IB.out.kept hk (by omega))
  replace IC := Lib.hid (IC.out.kept hk (by omega))
  replace LS := Lib.hid (lies_keptC LS.out hk (fun h => by have := T3.out h; omega) (fun h => by have := T4.out h; omega))
  replace ZS := Lib.hid (blk_kept ZS.out hk (by omega))
  replace OXa := Lib.hid (OXa.out.kept hk (by omega))
  replace OXc := Lib.hid (OXc.out.kept hk (by omega))
  replace LM := Lib.hid (lies_kept LM.out hk (by omega))
  replace ZM := Lib.hid (blk_kept ZM.out hk (by omega))
  replace B := Lib.hid (B.out.trans (hk.below (by omega)))
  replace OXb := Lib.hid hm
  have z19 := Nat.le_of_eq hk.size.symm
  have y19 := Nat.le_of_eq hk.size
  clear hm hk
  go_wp2_with fail
  ((with_reducible refine (Hlp.markIntS _ _ _ _ _ _ _ _ OXc.out (by omega) (by omega) (by omega)).mono ?_); rintro e w20 ⟨rfl, hm, hk⟩)
  replace IA := Lib.hid (IA.out.kept hk (by omega))
  replace IB := Lib.hid (IB.out.kept hk (by omega))
  replace IC := Lib.hid (IC.out.kept hk (by omega))
  replace LS := Lib.hid (lies_keptC LS.out hk (fun h => by have := T3.out h; omega) (fun h => by have := T4.out h; omega))
  replace ZS := Lib.hid (blk_kept ZS.out hk (by omega))
  replace OXa := Lib.hid (OXa.out.kept hk (by omega))
  replace OXb := Lib.hid (OXb.out.kept hk (by omega))
  replace LM := Lib.hid (lies_kept LM.out hk (by omega))
  replace ZM := Lib.hid (blk_kept ZM.out hk (by omega))
  replace B := Lib.hid (B.out.trans (hk.below (by omega)))
  replace OXc := Lib.hid hm
  have z20 := Nat.le_of_eq hk.size.symm
  have y20 := Nat.le_of_eq hk.size
  clear hm hk
  obtain ⟨m0, m1, m2, m3, mf⟩ := four_cells ZM.out
  obtain ⟨s0, s1, s2, s3, sf⟩ := four_cells ZS.out
  go_wp2_with fail
  ((with_reducible refine (eqPacket p _ _ _ _ _ _ _ _ _ _ _ _ _ _ _ _ _ LM.out.hdr.ints LM.out.bdy.ints LS.out.hdr.ints LS.out.bdy.ints).mono ?_); rintro e w21 ⟨rfl, hb⟩)
  replace IA := Lib.hid (IA.out.below hb (Nat.le_refl _))
  replace IB := Lib.hid (IB.out.below hb (Nat.le_refl _))
  replace IC := Lib.hid (IC.out.below hb (Nat.le_refl _))
  replace LS := Lib.hid (LS.out.below hb (Nat.le_refl _))
  replace ZS := Lib.hid (ZS.out.below hb (Nat.le_refl _))
  replace OXa := Lib.hid (OXa.out.below hb (Nat.le_refl _))
  replace OXb := Lib.hid (OXb.out.below hb (Nat.le_refl _))
  replace OXc := Lib.hid (OXc.out.below hb (Nat.le_refl _))
  replace LM := Lib.hid (LM.out.below hb (Nat.le_refl _))
  replace ZM := Lib.hid (ZM.out.below hb (Nat.le_refl _))
  replace B := Lib.hid (B.out.trans (hb.mono B.out.size))
  have z21 := hb.size
  clear hb
  clear m0 m1 m2 m3 mf s0 s1 s2 s3 sf
  clear OXa OXb OXc
  have hne := LM.out.2.2
  have hBs := B.out.size
  obtain ⟨m0, m1, m2, m3, mf⟩ := four_cells ZM.out
  go_wp2_with fail
  ((with_reducible refine (markPacket _ _ _ _ _ _ _ _ _ _ _ _ 1 _ LM.out.hdr LM.out.bdy hne (by omega) (by omega) (by omega) (by omega)).mono ?_); rintro e w22 ⟨rfl, mk1, mk2, hk⟩)
  clear m0 m1 m2 m3 mf
  replace IA := Lib.hid (ints_kept2 IA.out hk (fun _ => by omega) (fun _ => by omega))
  replace IB := Lib.hid (ints_kept2 IB.out hk (fun _ => by omega) (fun _ => by omega))
  replace IC := Lib.hid (ints_kept2 IC.out hk (fun _ => by omega) (fun _ => by omega))
  replace LS := Lib.hid (lies_kept2 LS.out hk (fun h => by have := T3.out h; omega) (fun h => by have := T4.out h; omega))
  replace ZS := Lib.hid (blk_kept2 ZS.out hk (fun _ => by omega) (fun _ => by omega))
  replace ZM := Lib.hid (blk_kept2 ZM.out hk (fun h => by have := T1.out h; omega) (fun h => by have := T2.out h; omega))
  replace B := Lib.hid (below_kept2 B.out hk hBs (by omega) (by omega))
  have OP := Lib.hid mk1
  have OQ := Lib.hid mk2
  have z22 := hk.size
  clear mk1 mk2 hk LM hne hBs
  obtain ⟨m0, m1, m2, m3, mf⟩ := four_cells ZM.out
  go_wp2_with fail
  ((with_reducible refine (heldPacket _ _ _ _ _ _ _ _ _ _ _ _ 1 _ OP.out.ints OQ.out.ints (by omega) (by omega) (by omega) (by omega)).mono ?_); rintro e w23 ⟨rfl, hb⟩)
  replace IA := Lib.hid (IA.out.below hb (Nat.le_refl _))
  replace IB := Lib.hid (IB.out.below hb (Nat.le_refl _))
  replace IC := Lib.hid (IC.out.below hb (Nat.le_refl _))
  replace LS := Lib.hid (LS.out.below hb (Nat.le_refl _))
  replace ZS := Lib.hid (ZS.out.below hb (Nat.le_refl _))
  replace ZM := Lib.hid (ZM.out.below hb (Nat.le_refl _))
  replace OP := Lib.hid (OP.out.below hb (Nat.le_refl _))
  replace OQ := Lib.hid (OQ.out.below hb (Nat.le_refl _))
  replace B := Lib.hid (B.out.trans (hb.mono B.out.size))
  have z23 := hb.size
  clear hb
  clear m0 m1 m2 m3 mf
  go_wp2_with fail
  ((with_reducible refine (Hlp.toIntS _ _ _ _ _ ps _ IA.out (by omega)).mono ?_); rintro e w24 ⟨AVa, cVa, rfl, ho, hb⟩)
  replace IA := Lib.hid (IA.out.below hb (Nat.le_refl _))
  replace IB := Lib.hid (IB.out.below hb (Nat.le_refl _))
  replace IC := Lib.hid (IC.out.below hb (Nat.le_refl _))
  replace LS := Lib.hid (LS.out.below hb (Nat.le_refl _))
  replace ZS := Lib.hid (ZS.out.below hb (Nat.le_refl _))
  replace ZM := Lib.hid (ZM.out.below hb (Nat.le_refl _))
  replace OP := Lib.hid (OP.out.below hb (Nat.le_refl _))
  replace OQ := Lib.hid (OQ.out.below hb (Nat.le_refl _))
  replace B := Lib.hid (B.out.trans (hb.mono B.out.size))
  have z24 := hb.size
  have OVa := Lib.hid ho
  clear ho hb
  go_wp2_with fail
  ((with_reducible refine (Hlp.toIntS _ _ _ _ _ ns _ IB.out (by omega)).mono ?_); rintro e w25 ⟨AVb, cVb, rfl, ho, hb⟩)
  replace IA := Lib.hid (IA.out.below hb (Nat.le_refl _))
  replace IB := Lib.hid (IB.out.below hb (Nat.le_refl _))
  replace IC := Lib.hid (IC.out.below hb (Nat.le_refl _))
  replace LS := Lib.hid (LS.out.below hb (Nat.le_refl _))
  replace ZS := Lib.hid (ZS.out.below hb (Nat.le_refl _))
  replace ZM := Lib.hid (ZM.out.below hb (Nat.le_refl _))
  replace OP := Lib.hid (OP.out.below hb (Nat.le_refl _))
  replace OQ := Lib.hid (OQ.out.below hb (Nat.le_refl _))
  replace OVa := Lib.hid (OVa.out.below hb (Nat.le_refl _))
  replace B := Lib.hid (B.out.trans (hb.mono B.out.size))
  have z25 := hb.size
  have OVb := Lib.hid ho
  clear ho hb
  go_wp2_with fail
  ((with_reducible refine (Hlp.toIntS _ _ _ _ _ ls _ IC.out (by omega)).mono ?_); rintro e w26 ⟨AVc, cVc, rfl, ho, hb⟩)
  replace IA := Lib.hid (IA.out.below hb (Nat.le_refl _))
  replace IB := Lib.hid (IB.out.below hb (Nat.le_refl _))
  replace IC := Lib.hid (IC.out.below hb (Nat.le_refl _))
  replace LS := Lib.hid (LS.out.below hb (Nat.le_refl _))
  replace ZS := Lib.hid (ZS.out.below hb (Nat.le_refl _))
  replace ZM := Lib.hid (ZM.out.below hb (Nat.le_refl _))
  replace OP := Lib.hid (OP.out.below hb (Nat.le_refl _))
  replace OQ := Lib.hid (OQ.out.below hb (Nat.le_refl _))
  replace OVa := Lib.hid (OVa.out.below hb (Nat.le_refl _))
  replace OVb := Lib.hid (OVb.out.below hb (Nat.le_refl _))
  replace B := Lib.hid (B.out.trans (hb.mono B.out.size))
  have z26 := hb.size
  have OVc := Lib.hid ho
  clear ho hb
  go_wp2_with fail
  ((with_reducible refine (Im5.PacketMake _ _ _ _ _ _ _ _ _ _ _ _ _ _ _ ps ns ls x r _ OVa.out.ints OVb.out.ints OVc.out.ints).mono ?_); rintro e w27 ⟨AH, ch, BH, dh, g5, g6, rfl, hlie, hg5, hg6, hb⟩)
  replace IA := Lib.hid (IA.out.below hb (Nat.le_refl _))
  replace IB := Lib.hid (IB.out.below hb (Nat.le_refl _))
  replace IC := Lib.hid (IC.out.below hb (Nat.le_refl _))
  replace LS := Lib.hid (LS.out.below hb (Nat.le_refl _))
  replace ZS := Lib.hid (ZS.out.below hb (Nat.le_refl _))
  replace ZM := Lib.hid (ZM.out.below hb (Nat.le_refl _))
  replace OP := Lib.hid (OP.out.below hb (Nat.le_refl _))
  replace OQ := Lib.hid (OQ.out.below hb (Nat.le_refl _))
  replace OVa := Lib.hid (OVa.out.below hb (Nat.le_refl _))
  replace OVb := Lib.hid (OVb.out.below hb (Nat.le_refl _))
  replace OVc := Lib.hid (OVc.out.below hb (Nat.le_refl _))
  replace B := Lib.hid (B.out.trans (hb.mono B.out.size))
  have z27 := hb.size
  have LH := Lib.hid hlie
  clear hlie hb
  rw [HPE.out] at LH ⊢
  have hal : Below w27.heap.size w27 (w27.alloc (.cells #[.int .i64 p.el, .slice AH p.hd.length ch, .int .i64 p.tag, .slice BH p.bd.length dh] 24)) := (Below.refl _ _).alloc (Nat.le_refl _) _
  have hzz : Blk (w27.alloc (.cells #[.int .i64 p.el, .slice AH p.hd.length ch, .int .i64 p.tag, .slice BH p.bd.length dh] 24)) w27.heap.size #[.int .i64 p.el, .slice AH p.hd.length ch, .int .i64 p.tag, .slice BH p.bd.length dh] 24 := heap_alloc_new _ _
  replace IA := Lib.hid (IA.out.below hal (Nat.le_refl _))
  replace IB := Lib.hid (IB.out.below hal (Nat.le_refl _))
  replace IC := Lib.hid (IC.out.below hal (Nat.le_refl _))
  replace LS := Lib.hid (LS.out.below hal (Nat.le_refl _))
  replace ZS := Lib.hid (ZS.out.below hal (Nat.le_refl _))
  replace ZM := Lib.hid (ZM.out.below hal (Nat.le_refl _))
  replace OP := Lib.hid (OP.out.below hal (Nat.le_refl _))
  replace OQ := Lib.hid (OQ.out.below hal (Nat.le_refl _))
  replace OVa := Lib.hid (OVa.out.below hal (Nat.le_refl _))
  replace OVb := Lib.hid (OVb.out.below hal (Nat.le_refl _))
  replace OVc := Lib.hid (OVc.out.below hal (Nat.le_refl _))
  replace LH := Lib.hid (LH.out.below hal (Nat.le_refl _))
  replace B := Lib.hid (B.out.trans (hal.mono B.out.size))
  have ZH := Lib.hid hzz
  clear hzz
  clear hal
  obtain ⟨m0, m1, m2, m3, mf⟩ := four_cells ZH.out
  obtain ⟨s0, s1, s2, s3, sf⟩ := four_cells ZS.out
  go_wp2_with fail
  ((with_reducible refine (eqPacket p _ _ _ _ _ _ _ _ _ _ _ _ _ _ _ _ _ LH.out.hdr.ints LH.out.bdy.ints LS.out.hdr.ints LS.out.bdy.ints).mono ?_); rintro e w29 ⟨rfl, hb⟩)
  replace IA := Lib.hid (IA.out.below hb (Nat.le_refl _))
  replace IB := Lib.hid (IB.out.below hb (Nat.le_refl _))
  replace IC := Lib.hid (IC.out.below hb (Nat.le_refl _))
  replace LS := Lib.hid (LS.out.below hb (Nat.le_refl _))
  replace ZS := Lib.hid (ZS.out.below hb (Nat.le_refl _))
  replace ZM := Lib.hid (ZM.out.below hb (Nat.le_refl _))
  replace OP := Lib.hid (OP.out.below hb (Nat.le_refl _))
  replace OQ := Lib.hid (OQ.out.below hb (Nat.le_refl _))
  replace OVa := Lib.hid (OVa.out.below hb (Nat.le_refl _))
  replace OVb := Lib.hid (OVb.out.below hb (Nat.le_refl _))
  replace OVc := Lib.hid (OVc.out.below hb (Nat.le_refl _))
  replace LH := Lib.hid (LH.out.below hb (Nat.le_refl _))
  replace ZH := Lib.hid (ZH.out.below hb (Nat.le_refl _))
  replace B := Lib.hid (B.out.trans (hb.mono B.out.size))
  have z29 := hb.size
  clear hb
  clear m0 m1 m2 m3 mf s0 s1 s2 s3 sf
  obtain ⟨m0, m1, m2, m3, mf⟩ := four_cells ZM.out
  go_wp2_with fail
  ((with_reducible refine (heldPacket _ _ _ _ _ _ _ _ _ _ _ _ 1 _ OP.out.ints OQ.out.ints (by omega) (by omega) (by omega) (by omega)).mono ?_); rintro e w30 ⟨rfl, hb⟩)
  replace IA := Lib.hid (IA.out.below hb (Nat.le_refl _))
  replace IB := Lib.hid (IB.out.below hb (Nat.le_refl _))
  replace IC := Lib.hid (IC.out.below hb (Nat.le_refl _))
  replace LS := Lib.hid (LS.out.below hb (Nat.le_refl _))
  replace ZS := Lib.hid (ZS.out.below hb (Nat.le_refl _))
  replace ZM := Lib.hid (ZM.out.below hb (Nat.le_refl _))
  replace OP := Lib.hid (OP.out.below hb (Nat.le_refl _))
  replace OQ := Lib.hid (OQ.out.below hb (Nat.le_refl _))
  replace OVa := Lib.hid (OVa.out.below hb (Nat.le_refl _))
  replace OVb := Lib.hid (OVb.out.below hb (Nat.le_refl _))
  replace OVc := Lib.hid (OVc.out.below hb (Nat.le_refl _))
  replace LH := Lib.hid (LH.out.below hb (Nat.le_refl _))
  replace ZH := Lib.hid (ZH.out.below hb (Nat.le_refl _))
  replace B := Lib.hid (B.out.trans (hb.mono B.out.size))
  have z30 := hb.size
  clear hb
  clear m0 m1 m2 m3 mf
  go_wp2
  go_ret
  exact ⟨rfl, B.out⟩

theorem drewN_more {w wr : World} {a b : Nat} (h : w.drewN a = wr) : ∃ d, wr.drewN b = w.drewN d := ⟨a + b, by rw [← h]; exact World.drewN_drewN w a b⟩
theorem keysF_take (x : Int) (ps : List Int) (k : Nat) : keysF x (ps.take k) = (keysF x ps).take k := by
  induction ps generalizing x k with
  | nil => simp [keysF]
  | cons p ps ih =>
    cases k with
    | zero => rfl
    | succ k => simp only [List.take_succ_cons, keysF, ih]
theorem keys_at {x : Int} {ps : List Int} {k : Nat} (h : k < ps.length) : (keysF x ps).getD k 0 = mulG (secAt x ps k) (ps.getD k 0) := by
  have h1 := (Sp5.keys_step (x := x) h).1
  rw [keysF_take, keysF_take] at h1
  have h2 : ((keysF x ps).take (k + 1)).getD k 0 = ((keysF x ps).take k ++ [mulG (secAt x ps k) (ps.getD k 0)]).getD k 0 := by rw [h1]
  have hl : ((keysF x ps).take k).length = k := by rw [List.length_take, keysF_len]; omega
  rw [getD_take (by omega), getD_right (by omega), hl, Nat.sub_self] at h2
  exact h2
theorem keys_sec {x : Int} {ps : List Int} {k : Nat} (h : k < ps.length) : secAt x ps (k + 1) = mulG (secAt x ps k) (facG ((keysF x ps).getD k 0)) := by
  rw [keys_at h]
  exact (Sp5.keys_step (x := x) h).2
theorem path_yes {x : Int} {ps : List Int} (h : pathOk x ps = true) : pathF x ps = keysF x ps := by simp [pathF, h]
theorem path_pos {x : Int} {ps : List Int} (h : pathOk x ps = true) : 0 < ps.length := by
  unfold pathOk pubsOk at h
  simp at h
  omega
theorem fnKeys (A : Option Addr) (n c : Nat) (w : World) (h : CodeIs w A n c) :
    Calls Try.prog 5 #[.slice A n c] w (TruePost w) := by
  have HC := Lib.hid h
  clear h
  by_cases hn : 1048576 < n
  · go_enter Try.func5, Try.ntmps5
    go_wp2
    go_ret
    exact ⟨rfl, Below.refl _ _⟩
  have B : Hid (Below w.heap.size w w) := Below.refl _ _
  go_enter Try.func5, Try.ntmps5
  have hq : n ≤ 1048576 := by omega
  go_wp2_with fail
  ((with_reducible refine (DrawPathKeys _ _ _ _ HC.out).mono ?_); rintro e w1 ⟨x, AP, cp, ps, rfl, hxb, hl, i1, hb⟩)
  replace B := Lib.hid (B.out.trans (hb.mono B.out.size))
  have z1 := hb.size
  have IP := Lib.hid i1
  clear i1 hb
  go_wp2_with fail
  ((with_reducible refine (Im5.PathKeys _ _ _ _ _ ps x _ IP.out).mono ?_); rintro e w2 ⟨AM, cm, rfl, ho, hb⟩)
  replace IP := Lib.hid (IP.out.below hb (Nat.le_refl _))
  replace B := Lib.hid (B.out.trans (hb.mono B.out.size))
  have z2 := hb.size
  have OM := Lib.hid ho
  clear ho hb
  go_wp2_with fail
  ((with_reducible refine (Sp5.PathKeys _ _ _ _ _ ps x _ IP.out).mono ?_); rintro e w3 ⟨AS, cs, rfl, ho, hb⟩)
  replace IP := Lib.hid (IP.out.below hb (Nat.le_refl _))
  replace OM := Lib.hid (OM.out.below hb (Nat.le_refl _))
  replace B := Lib.hid (B.out.trans (hb.mono B.out.size))
  have z3 := hb.size
  have OS := Lib.hid ho
  clear ho hb
  cases hok : pathOk x ps
  · go_wp2_with fail
    ((with_reducible refine (Hlp.sameInts _ _ _ _ _ _ _ _ _ _ _ _ _ OM.out.ints OS.out.ints).mono ?_); rintro e w4 ⟨rfl, hd⟩)
    have hb0 := drew_below hd
    clear hd
    replace IP := Lib.hid (IP.out.below hb0 (Nat.le_refl _))
    replace OM := Lib.hid (OM.out.below hb0 (Nat.le_refl _))
    replace OS := Lib.hid (OS.out.below hb0 (Nat.le_refl _))
    replace B := Lib.hid (B.out.trans (hb0.mono B.out.size))
    have z4 := hb0.size
    clear hb0
    rw [decide_eq_true rfl]
    go_wp2_with fail
    ((with_reducible refine (Hlp.sameInts _ _ _ _ _ _ _ _ _ _ _ _ _ OM.out.ints OS.out.ints).mono ?_); rintro e w5 ⟨rfl, hd⟩)
    have hb0 := drew_below hd
    clear hd
    replace IP := Lib.hid (IP.out.below hb0 (Nat.le_refl _))
    replace OM := Lib.hid (OM.out.below hb0 (Nat.le_refl _))
    replace OS := Lib.hid (OS.out.below hb0 (Nat.le_refl _))
    replace B := Lib.hid (B.out.trans (hb0.mono B.out.size))
    have z5 := hb0.size
    clear hb0
    rw [decide_eq_true rfl]
    clear hok
    go_wp2
    go_ret
    exact ⟨rfl, B.out⟩
  go_wp2_with fail
  ((with_reducible refine (Hlp.sameInts _ _ _ _ _ _ _ _ _ _ _ _ _ OM.out.ints OS.out.ints).mono ?_); rintro e w4 ⟨rfl, hd⟩)
  have hb0 := drew_below hd
  clear hd
  replace IP := Lib.hid (IP.out.below hb0 (Nat.le_refl _))
  replace OM := Lib.hid (OM.out.below hb0 (Nat.le_refl _))
  replace OS := Lib.hid (OS.out.below hb0 (Nat.le_refl _))
  replace B := Lib.hid (B.out.trans (hb0.mono B.out.size))
  have z4 := hb0.size
  clear hb0
  rw [decide_eq_true rfl]
  have hke := path_yes hok
  rw [hke] at OM ⊢
  clear OS hke
  have hpl := path_pos hok
  clear hok
  have hkl : (keysF x ps).length = ps.length := keysF_len x ps
  have HK : Hid (∀ k, k < ps.length → (keysF x ps).getD k 0 = mulG (secAt x ps k) (ps.getD k 0) ∧ secAt x ps (k + 1) = mulG (secAt x ps k) (facG ((keysF x ps).getD k 0))) := fun k hk => ⟨keys_at hk, keys_sec hk⟩
  generalize keysF x ps = ks at *
  have e0 : (((ks.length : Nat) : Int) == ((ps.length : Nat) : Int)) = true := by rw [hkl]; simp
  have HKL := Lib.hid hkl
  clear hkl
  go_wp2
  go_loopw [9, 10] (fun s i wr => ∃ k : Nat, k ≤ ps.length ∧ i = .int .i64 k ∧ s = .int .i64 (secAt x ps k) ∧ Hid (∃ dd, wr = w4.drewN dd)) (fun _ i _ => ps.length - (intOf i).toNat)
  case atStart => exact ⟨0, Nat.zero_le _, rfl, rfl, 0, rfl⟩
  case round =>
    obtain ⟨k, hk, rfl, rfl, hT⟩ := hrel
    obtain ⟨dd, rfl⟩ := hT
    by_cases hlt : k < ps.length
    · obtain ⟨b1, f1, rfl, _, _, c1⟩ := IP.out.at_ hlt
      have hlt2 : k < ks.length := by rw [HKL.out]; exact hlt
      obtain ⟨b2, f2, rfl, _, _, c2⟩ := OM.out.ints.at_ hlt2
      obtain ⟨h1, h2⟩ := HK.out k hlt
      generalize ks.getD k 0 = y at *
      generalize ps.getD k 0 = pk at *
      generalize hs2 : secAt x ps (k + 1) = s2 at h2
      generalize secAt x ps k = s at *
      have e1 : (y != mulG s pk) = false := by rw [h1]; simp
      have H2 := Lib.hid h2
      have HS2 := Lib.hid hs2
      clear h1 h2 hs2
      have d1 : (w4.drewN dd).cell? ⟨b1, f1 + k, none⟩ = _ := c1
      have d2 : (w4.drewN dd).cell? ⟨b2, f2 + k, none⟩ = _ := c2
      clear c1 c2
      generalize hwr : w4.drewN dd = wr at *
      have HWR := Lib.hid hwr
      clear hwr
      go_wp2_with fail
      go_quiet ((go_at_call 26; exact quiet_eq (Grp.iShared s pk _)))
      go_wp2_with fail
      ((with_reducible refine (Grp.iFactor y _).mono ?_); rintro e w' ⟨rfl, rfl⟩)
      go_wp2_with fail
      ((with_reducible refine (Grp.iBlind s (facG y) _).mono ?_); rintro e w' ⟨rfl, rfl⟩)
      rw [← H2.out]
      go_wp2
      go_roundw
      case rel => exact ⟨k + 1, by omega, by go_num, by rw [HS2.out], drewN_more HWR.out⟩
      case measure => simp [intOf]; omega
    · go_wp2
      go_ret
      exact ⟨rfl, B.out.os, B.out.tape, B.out.output, B.out.size, B.out.block⟩

theorem path_part {x : Int} {ps : List Int} {k : Nat} (h : pathOk x ps = true) (hk : k < ps.length) : pathOk x (ps.take (k + 1)) = true := by
  unfold pathOk pubsOk at h ⊢
  simp at h ⊢
  obtain ⟨h1, h2, h3, h4⟩ := h
  exact ⟨h1, fun y hy => h2 y (List.mem_of_mem_take hy), by omega, by omega⟩
theorem fnKeysPart (A : Option Addr) (n c : Nat) (A1 : Option Addr) (n1 c1 : Nat) (w : World) (h : CodeIs w A n c) :
    Calls Try.prog 6 #[.slice A n c, .slice A1 n1 c1] w (TruePost w) := by
  have HC := Lib.hid h
  clear h
  by_cases hn : 1048576 < n
  · go_enter Try.func6, Try.ntmps6
    go_wp2
    go_ret
    exact ⟨rfl, Below.refl _ _⟩
  by_cases hn1 : 1048576 < n1
  · go_enter Try.func6, Try.ntmps6
    go_wp2
    go_ret
    exact ⟨rfl, Below.refl _ _⟩
  have B : Hid (Below w.heap.size w w) := Below.refl _ _
  go_enter Try.func6, Try.ntmps6
  have hq : n ≤ 1048576 := by omega
  go_wp2_with fail
  ((with_reducible refine (DrawPathKeys _ _ _ _ HC.out).mono ?_); rintro e w1 ⟨x, AP, cp, ps, rfl, hxb, hl, i1, hb⟩)
  replace B := Lib.hid (B.out.trans (hb.mono B.out.size))
  have z1 := hb.size
  have IP := Lib.hid i1
  clear i1 hb
  go_wp2_with fail
  ((with_reducible refine (Im5.PathKeys _ _ _ _ _ ps x _ IP.out).mono ?_); rintro e w2 ⟨AM, cm, rfl, ho, hb⟩)
  replace IP := Lib.hid (IP.out.below hb (Nat.le_refl _))
  replace B := Lib.hid (B.out.trans (hb.mono B.out.size))
  have z2 := hb.size
  have OM := Lib.hid ho
  clear ho hb
  go_wp2_with fail
  ((with_reducible refine (Sp5.PathKeys _ _ _ _ _ ps x _ IP.out).mono ?_); rintro e w3 ⟨AS, cs, rfl, ho, hb⟩)
  replace IP := Lib.hid (IP.out.below hb (Nat.le_refl _))
  replace OM := Lib.hid (OM.out.below hb (Nat.le_refl _))
  replace B := Lib.hid (B.out.trans (hb.mono B.out.size))
  have z3 := hb.size
  have OS := Lib.hid ho
  clear ho hb
  cases hok : pathOk x ps
  · go_wp2_with fail
    ((with_reducible refine (Hlp.sameInts _ _ _ _ _ _ _ _ _ _ _ _ _ OM.out.ints OS.out.ints).mono ?_); rintro e w4 ⟨rfl, hd⟩)
    have hb0 := drew_below hd
    clear hd
    replace IP := Lib.hid (IP.out.below hb0 (Nat.le_refl _))
    replace OM := Lib.hid (OM.out.below hb0 (Nat.le_refl _))
    replace OS := Lib.hid (OS.out.below hb0 (Nat.le_refl _))
    replace B := Lib.hid (B.out.trans (hb0.mono B.out.size))
    have z4 := hb0.size
    clear hb0
    rw [decide_eq_true rfl]
    go_wp2_with fail
    ((with_reducible refine (Hlp.sameInts _ _ _ _ _ _ _ _ _ _ _ _ _ OM.out.ints OS.out.ints).mono ?_); rintro e w5 ⟨rfl, hd⟩)
    have hb0 := drew_below hd
    clear hd
    replace IP := Lib.hid (IP.out.below hb0 (Nat.le_refl _))
    replace OM := Lib.hid (OM.out.below hb0 (Nat.le_refl _))
    replace OS := Lib.hid (OS.out.below hb0 (Nat.le_refl _))
    replace B := Lib.hid (B.out.trans (hb0.mono B.out.size))
    have z5 := hb0.size
    clear hb0
    rw [decide_eq_true rfl]
    clear hok
    go_wp2
    go_ret
    exact ⟨rfl, B.out⟩
  go_wp2_with fail
  ((with_reducible refine (Hlp.sameInts _ _ _ _ _ _ _ _ _ _ _ _ _ OM.out.ints OS.out.ints).mono ?_); rintro e w4 ⟨rfl, hd⟩)
  have hb0 := drew_below hd
  clear hd
  replace IP := Lib.hid (IP.out.below hb0 (Nat.le_refl _))
  replace OM := Lib.hid (OM.out.below hb0 (Nat.le_refl _))
  replace OS := Lib.hid (OS.out.below hb0 (Nat.le_refl _))
  replace B := Lib.hid (B.out.trans (hb0.mono B.out.size))
  have z4 := hb0.size
  clear hb0
  rw [decide_eq_true rfl]
  have hke := path_yes hok
  rw [hke] at OM ⊢
  clear OS hke
  have hpl := path_pos hok
  have hnl : ¬ ps.length = 0 := by omega
  obtain ⟨k, hk1, hkm⟩ : ∃ k : Nat, k < ps.length ∧ (n1 : Int) % (ps.length : Int) = (k : Int) := ⟨n1 % ps.length, Nat.mod_lt n1 hpl, rfl⟩
  have hyes := path_part hok hk1
  have htk := keysF_take x ps (k + 1)
  have hcp := IP.out.cap_
  have hcm := OM.out.ints.cap_
  have hkl : (keysF x ps).length = ps.length := keysF_len x ps
  rw [hkl] at hcm
  have hek : (1 : Int) + (k : Int) = ((k + 1 : Nat) : Int) := by omega
  have S1 := Lib.hid (IP.out.take (k := k + 1) (by omega))
  have HY := Lib.hid hyes
  have HTK := Lib.hid htk
  have HKL := Lib.hid hkl
  clear hyes htk hok hkl
  go_wp2_with fail
  ((with_reducible refine (Im5.PathKeys _ _ _ _ _ (ps.take (k + 1)) x _ S1.out).mono ?_); rintro e w5 ⟨AX, cx, rfl, ho, hb⟩)
  replace IP := Lib.hid (IP.out.below hb (Nat.le_refl _))
  replace OM := Lib.hid (OM.out.below hb (Nat.le_refl _))
  replace B := Lib.hid (B.out.trans (hb.mono B.out.size))
  have z5 := hb.size
  have OX := Lib.hid ho
  clear ho hb
  rw [HY.out]
  have hpy := path_yes HY.out
  rw [hpy] at OX ⊢
  rw [HTK.out] at OX ⊢
  clear hpy
  have S2 := Lib.hid (OM.out.ints.take (k := k + 1) (by rw [HKL.out]; omega))
  have hlx : ((keysF x ps).take (k + 1)).length = k + 1 := by rw [List.length_take, HKL.out]; omega
  rw [hlx] at OX ⊢
  clear hlx
  go_wp2_with fail
  ((with_reducible refine (Hlp.sameInts _ _ _ _ _ _ _ _ _ _ _ _ _ OX.out.ints S2.out).mono ?_); rintro e w6 ⟨rfl, hd⟩)
  have hb0 := drew_below hd
  clear hd
  replace IP := Lib.hid (IP.out.below hb0 (Nat.le_refl _))
  replace OM := Lib.hid (OM.out.below hb0 (Nat.le_refl _))
  replace OX := Lib.hid (OX.out.below hb0 (Nat.le_refl _))
  replace B := Lib.hid (B.out.trans (hb0.mono B.out.size))
  have z6 := hb0.size
  clear hb0
  rw [decide_eq_true rfl]
  go_wp2
  go_ret
  exact ⟨rfl, B.out⟩

end Law5
end Go.Proofs.Ytgkljbmmmmjkpab
