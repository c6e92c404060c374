/-
  The laws of chapter 5 on paths and on making packets, by the contracts of the functions that they call: each returns true and writes nothing that was there.
-/
import Derived.Test.YtdngdmhepjjeeabSp5b
import Derived.Test.YtdngdmhepjjeeabImb
import Derived.Test.YtdngdmhepjjeeabDr5
import Derived.Test.YtdngdmhepjjeeabHlp5
import Derived.Test.YtdngdmhepjjeeabPl
import Derived.Test.YtdngdmhepjjeeabElt
import Derived.Deep.RegionLaw
import Derived.Deep.QuietTactic
import Derived.BigQuiet
namespace Go.Proofs.Ytdngdmhepjjeeab
open Go.RowKit
namespace Law5
open Gm Mm Tm Lm Pm Po Pq Il Rd Hlp5 LawB
open Sp5 (pathOk pathF secAt)

theorem fnPacket (A : Option Addr) (n c : Nat) (w : World) (h : CodeIs w A n c) :
    Calls Try.prog 4 #[.slice A n c] w (TruePost w) := by
  have HC := Lib.hid h
  clear h
  by_cases hn : 1048576 < n
  · go_enter Try.func4, Try.ntmps4
    go_wp2
    go_ret
    exact ⟨rfl, Below.refl _ _⟩
  have B : Hid (Below w.heap.size w w) := Below.refl _ _
  go_enter Try.func4, Try.ntmps4
  have hq : n ≤ 1048576 := by omega
  go_wp2_with fail
  ((with_reducible refine (DrawPacketMake _ _ _ _ HC.out).mono ?_); rintro e w1 ⟨x, r, AP, AN, AL, cp, cn, cl, ps, ns, ls, rfl, hx, hl1, hl2, hl3, i1, i2, i3, hb⟩)
  replace B := Lib.hid (B.out.trans (hb.mono B.out.size))
  have z1 := hb.size
  have IP := Lib.hid i1
  have IN := Lib.hid i2
  have IL := Lib.hid i3
  clear i1 i2 i3 hb
  go_wp2_with fail
  ((with_reducible refine (Im5.PacketMake _ _ _ _ _ _ _ _ _ _ _ _ _ _ _ ps ns ls x r _ IP.out IN.out IL.out).mono ?_); rintro e w2 ⟨AM, cm, BM, dm, g1, g2, rfl, hlie, hg1, hg2, hb⟩)
  replace IP := Lib.hid (IP.out.below hb (Nat.le_refl _))
  replace IN := Lib.hid (IN.out.below hb (Nat.le_refl _))
  replace IL := Lib.hid (IL.out.below hb (Nat.le_refl _))
  replace B := Lib.hid (B.out.trans (hb.mono B.out.size))
  have z2 := hb.size
  have LM := Lib.hid hlie
  clear hlie hb
  generalize hpe : makeF x ps ns r ls = p at *
  have hal : Below w2.heap.size w2 (w2.alloc (.cells #[.int .i64 p.el, .slice AM p.hd.length cm, .int .i64 p.tag, .slice BM p.bd.length dm] 26)) := (Below.refl _ _).alloc (Nat.le_refl _) _
  have hzz : Blk (w2.alloc (.cells #[.int .i64 p.el, .slice AM p.hd.length cm, .int .i64 p.tag, .slice BM p.bd.length dm] 26)) w2.heap.size #[.int .i64 p.el, .slice AM p.hd.length cm, .int .i64 p.tag, .slice BM p.bd.length dm] 26 := heap_alloc_new _ _
  replace IP := Lib.hid (IP.out.below hal (Nat.le_refl _))
  replace IN := Lib.hid (IN.out.below hal (Nat.le_refl _))
  replace IL := Lib.hid (IL.out.below hal (Nat.le_refl _))
  replace LM := Lib.hid (LM.out.below hal (Nat.le_refl _))
  replace B := Lib.hid (B.out.trans (hal.mono B.out.size))
  have ZM := Lib.hid hzz
  clear hzz
  clear hal
  go_wp2_with fail
  ((with_reducible refine (Sp5.PacketMake _ _ _ _ _ _ _ _ _ _ _ _ _ _ _ ps ns ls x r _ IP.out IN.out IL.out).mono ?_); rintro e w4 ⟨AS, cs, BS, ds, g3, g4, rfl, hlie, hg3, hg4, hb⟩)
  replace IP := Lib.hid (IP.out.below hb (Nat.le_refl _))
  replace IN := Lib.hid (IN.out.below hb (Nat.le_refl _))
  replace IL := Lib.hid (IL.out.below hb (Nat.le_refl _))
  replace LM := Lib.hid (LM.out.below hb (Nat.le_refl _))
  replace ZM := Lib.hid (ZM.out.below hb (Nat.le_refl _))
  replace B := Lib.hid (B.out.trans (hb.mono B.out.size))
  have z4 := hb.size
  have LS := Lib.hid hlie
  clear hlie hb
  rw [hpe] at LS ⊢
  have HPE := Lib.hid hpe
  clear hpe
  have hal : Below w4.heap.size w4 (w4.alloc (.cells #[.int .i64 p.el, .slice AS p.hd.length cs, .int .i64 p.tag, .slice BS p.bd.length ds] 26)) := (Below.refl _ _).alloc (Nat.le_refl _) _
  have hzz : Blk (w4.alloc (.cells #[.int .i64 p.el, .slice AS p.hd.length cs, .int .i64 p.tag, .slice BS p.bd.length ds] 26)) w4.heap.size #[.int .i64 p.el, .slice AS p.hd.length cs, .int .i64 p.tag, .slice BS p.bd.length ds] 26 := heap_alloc_new _ _
  replace IP := Lib.hid (IP.out.below hal (Nat.le_refl _))
  replace IN := Lib.hid (IN.out.below hal (Nat.le_refl _))
  replace IL := Lib.hid (IL.out.below hal (Nat.le_refl _))
  replace LM := Lib.hid (LM.out.below hal (Nat.le_refl _))
  replace ZM := Lib.hid (ZM.out.below hal (Nat.le_refl _))
  replace LS := Lib.hid (LS.out.below hal (Nat.le_refl _))
  replace B := Lib.hid (B.out.trans (hal.mono B.out.size))
  have ZS := Lib.hid hzz
  clear hzz
  clear hal
  cases hok : makeOk x ps ns r ls
  · obtain ⟨m0, m1, m2, m3, mf⟩ := four_cells ZM.out
    obtain ⟨s0, s1, s2, s3, sf⟩ := four_cells ZS.out
    go_wp2_with fail
    ((with_reducible refine (samePacket p _ _ _ _ _ _ _ _ _ _ _ _ _ _ _ _ _ LM.out.hdr.ints LM.out.bdy.ints LS.out.hdr.ints LS.out.bdy.ints).mono ?_); rintro e w6 ⟨rfl, hb⟩)
    replace IP := Lib.hid (IP.out.below hb (Nat.le_refl _))
    replace IN := Lib.hid (IN.out.below hb (Nat.le_refl _))
    replace IL := Lib.hid (IL.out.below hb (Nat.le_refl _))
    replace LM := Lib.hid (LM.out.below hb (Nat.le_refl _))
    replace ZM := Lib.hid (ZM.out.below hb (Nat.le_refl _))
    replace LS := Lib.hid (LS.out.below hb (Nat.le_refl _))
    replace ZS := Lib.hid (ZS.out.below hb (Nat.le_refl _))
    replace B := Lib.hid (B.out.trans (hb.mono B.out.size))
    have z6 := hb.size
    clear hb
    clear m0 m1 m2 m3 mf s0 s1 s2 s3 sf
    obtain ⟨m0, m1, m2, m3, mf⟩ := four_cells ZM.out
    obtain ⟨s0, s1, s2, s3, sf⟩ := four_cells ZS.out
    go_wp2_with fail
    ((with_reducible refine (samePacket p _ _ _ _ _ _ _ _ _ _ _ _ _ _ _ _ _ LM.out.hdr.ints LM.out.bdy.ints LS.out.hdr.ints LS.out.bdy.ints).mono ?_); rintro e w7 ⟨rfl, hb⟩)
    replace IP := Lib.hid (IP.out.below hb (Nat.le_refl _))
    replace IN := Lib.hid (IN.out.below hb (Nat.le_refl _))
    replace IL := Lib.hid (IL.out.below hb (Nat.le_refl _))
    replace LM := Lib.hid (LM.out.below hb (Nat.le_refl _))
    replace ZM := Lib.hid (ZM.out.below hb (Nat.le_refl _))
    replace LS := Lib.hid (LS.out.below hb (Nat.le_refl _))
    replace ZS := Lib.hid (ZS.out.below hb (Nat.le_refl _))
    replace B := Lib.hid (B.out.trans (hb.mono B.out.size))
    have z7 := hb.size
    clear hb
    clear m0 m1 m2 m3 mf s0 s1 s2 s3 sf
    clear hok
    go_wp2
    go_ret
    exact ⟨rfl, B.out⟩
  obtain ⟨m0, m1, m2, m3, mf⟩ := four_cells ZM.out
  obtain ⟨s0, s1, s2, s3, sf⟩ := four_cells ZS.out
  go_wp2_with fail
  ((with_reducible refine (samePacket p _ _ _ _ _ _ _ _ _ _ _ _ _ _ _ _ _ LM.out.hdr.ints LM.out.bdy.ints LS.out.hdr.ints LS.out.bdy.ints).mono ?_); rintro e w6 ⟨rfl, hb⟩)
  replace IP := Lib.hid (IP.out.below hb (Nat.le_refl _))
  replace IN := Lib.hid (IN.out.below hb (Nat.le_refl _))
  replace IL := Lib.hid (IL.out.below hb (Nat.le_refl _))
  replace LM := Lib.hid (LM.out.below hb (Nat.le_refl _))
  replace ZM := Lib.hid (ZM.out.below hb (Nat.le_refl _))
  replace LS := Lib.hid (LS.out.below hb (Nat.le_refl _))
  replace ZS := Lib.hid (ZS.out.below hb (Nat.le_refl _))
  replace B := Lib.hid (B.out.trans (hb.mono B.out.size))
  have z6 := hb.size
  clear hb
  clear m0 m1 m2 m3 mf s0 s1 s2 s3 sf
  have HK := Lib.hid hok
  clear hok
  obtain ⟨hv, hel⟩ := make_valid HK.out
  rw [HPE.out] at hv hel
  have hee : (p.el == mulG x 5) = true := by simpa using hel
  have HV := Lib.hid hv
  clear hv hel
  obtain ⟨m0, m1, m2, m3, mf⟩ := four_cells ZM.out
  have IHD : Hid (Ints g1 (g1 + 1) w6.drew AM p.hd.length cm p.hd) := LM.out.hdr.ints
  have IBD : Hid (Ints g2 (g2 + 1) w6.drew BM p.bd.length dm p.bd) := LM.out.bdy.ints
  go_wp2_with fail
  go_region_law (first | (go_simp; go_at_call 21; refine (Im5.PacketValid _ _ _ _ _ _ _ _ _ _ p.el p.tag p.hd p.bd _ IHD.out IBD.out).mono ?_; rintro e wv ⟨rfl, hbv0⟩; have hbv : Below w6.heap.size w6 wv := below_drew hbv0; rw [show pktOk ⟨p.el, p.hd, p.tag, p.bd⟩ = true from HV.out]; obtain ⟨v0, v1, v2, v3, vf⟩ := four_cells (ZM.out.below hbv (Nat.le_refl _))) | (go_simp; go_at_call 22; refine (Grp.iPublic x _).mono ?_; rintro e w' ⟨rfl, rfl⟩))
  all_goals
    have B9 := Lib.hid (B.out.trans (hbv.mono B.out.size))
    clear hbv hbv0
    go_wp2
    go_ret
    exact ⟨rfl, B9.out⟩

theorem fnPacketLetter (A : Option Addr) (n c : Nat) (A1 : Option Addr) (n1 c1 : Nat) (w : World) (h : CodeIs w A n c) :
    Calls Try.prog 6 #[.slice A n c, .slice A1 n1 c1] w (TruePost w) := by
  have HC := Lib.hid h
  clear h
  by_cases hn : 1048576 < n
  · go_enter Try.func6, Try.ntmps6
    go_wp2
    go_ret
    exact ⟨rfl, Below.refl _ _⟩
  by_cases hn1 : 1048576 < n1
  · go_enter Try.func6, Try.ntmps6
    go_wp2
    go_ret
    exact ⟨rfl, Below.refl _ _⟩
  have B : Hid (Below w.heap.size w w) := Below.refl _ _
  go_enter Try.func6, Try.ntmps6
  have hq : n ≤ 1048576 := by omega
  go_wp2_with fail
  ((with_reducible refine (DrawPacketMake _ _ _ _ HC.out).mono ?_); rintro e w1 ⟨x, r, AP, AN, AL, cp, cn, cl, ps, ns, ls, rfl, hx, hl1, hl2, hl3, i1, i2, i3, hb⟩)
  replace B := Lib.hid (B.out.trans (hb.mono B.out.size))
  have z1 := hb.size
  have IP := Lib.hid i1
  have IN := Lib.hid i2
  have IL := Lib.hid i3
  clear i1 i2 i3 hb
  go_wp2_with fail
  ((with_reducible refine (Im5.PacketMake _ _ _ _ _ _ _ _ _ _ _ _ _ _ _ ps ns ls x r _ IP.out IN.out IL.out).mono ?_); rintro e w2 ⟨AM, cm, BM, dm, g1, g2, rfl, hlie, hg1, hg2, hb⟩)
  replace IP := Lib.hid (IP.out.below hb (Nat.le_refl _))
  replace IN := Lib.hid (IN.out.below hb (Nat.le_refl _))
  replace IL := Lib.hid (IL.out.below hb (Nat.le_refl _))
  replace B := Lib.hid (B.out.trans (hb.mono B.out.size))
  have z2 := hb.size
  have LM := Lib.hid hlie
  clear hlie hb
  generalize hpe : makeF x ps ns r ls = p at *
  have hal : Below w2.heap.size w2 (w2.alloc (.cells #[.int .i64 p.el, .slice AM p.hd.length cm, .int .i64 p.tag, .slice BM p.bd.length dm] 26)) := (Below.refl _ _).alloc (Nat.le_refl _) _
  have hzz : Blk (w2.alloc (.cells #[.int .i64 p.el, .slice AM p.hd.length cm, .int .i64 p.tag, .slice BM p.bd.length dm] 26)) w2.heap.size #[.int .i64 p.el, .slice AM p.hd.length cm, .int .i64 p.tag, .slice BM p.bd.length dm] 26 := heap_alloc_new _ _
  replace IP := Lib.hid (IP.out.below hal (Nat.le_refl _))
  replace IN := Lib.hid (IN.out.below hal (Nat.le_refl _))
  replace IL := Lib.hid (IL.out.below hal (Nat.le_refl _))
  replace LM := Lib.hid (LM.out.below hal (Nat.le_refl _))
  replace B := Lib.hid (B.out.trans (hal.mono B.out.size))
  have ZM := Lib.hid hzz
  clear hzz
  clear hal
  go_wp2_with fail
  ((with_reducible refine (Sp5.PacketMake _ _ _ _ _ _ _ _ _ _ _ _ _ _ _ ps ns ls x r _ IP.out IN.out IL.out).mono ?_); rintro e w4 ⟨AS, cs, BS, ds, g3, g4, rfl, hlie, hg3, hg4, hb⟩)
  replace IP := Lib.hid (IP.out.below hb (Nat.le_refl _))
  replace IN := Lib.hid (IN.out.below hb (Nat.le_refl _))
  replace IL := Lib.hid (IL.out.below hb (Nat.le_refl _))
  replace LM := Lib.hid (LM.out.below hb (Nat.le_refl _))
  replace ZM := Lib.hid (ZM.out.below hb (Nat.le_refl _))
  replace B := Lib.hid (B.out.trans (hb.mono B.out.size))
  have z4 := hb.size
  have LS := Lib.hid hlie
  clear hlie hb
  rw [hpe] at LS ⊢
  have HPE := Lib.hid hpe
  clear hpe
  have hal : Below w4.heap.size w4 (w4.alloc (.cells #[.int .i64 p.el, .slice AS p.hd.length cs, .int .i64 p.tag, .slice BS p.bd.length ds] 26)) := (Below.refl _ _).alloc (Nat.le_refl _) _
  have hzz : Blk (w4.alloc (.cells #[.int .i64 p.el, .slice AS p.hd.length cs, .int .i64 p.tag, .slice BS p.bd.length ds] 26)) w4.heap.size #[.int .i64 p.el, .slice AS p.hd.length cs, .int .i64 p.tag, .slice BS p.bd.length ds] 26 := heap_alloc_new _ _
  replace IP := Lib.hid (IP.out.below hal (Nat.le_refl _))
  replace IN := Lib.hid (IN.out.below hal (Nat.le_refl _))
  replace IL := Lib.hid (IL.out.below hal (Nat.le_refl _))
  replace LM := Lib.hid (LM.out.below hal (Nat.le_refl _))
  replace ZM := Lib.hid (ZM.out.below hal (Nat.le_refl _))
  replace LS := Lib.hid (LS.out.below hal (Nat.le_refl _))
  replace B := Lib.hid (B.out.trans (hal.mono B.out.size))
  have ZS := Lib.hid hzz
  clear hzz
  clear hal
  cases hok : makeOk x ps ns r ls
  · obtain ⟨m0, m1, m2, m3, mf⟩ := four_cells ZM.out
    obtain ⟨s0, s1, s2, s3, sf⟩ := four_cells ZS.out
    go_wp2_with fail
    ((with_reducible refine (samePacket p _ _ _ _ _ _ _ _ _ _ _ _ _ _ _ _ _ LM.out.hdr.ints LM.out.bdy.ints LS.out.hdr.ints LS.out.bdy.ints).mono ?_); rintro e w6 ⟨rfl, hb⟩)
    replace IP := Lib.hid (IP.out.below hb (Nat.le_refl _))
    replace IN := Lib.hid (IN.out.below hb (Nat.le_refl _))
    replace IL := Lib.hid (IL.out.below hb (Nat.le_refl _))
    replace LM := Lib.hid (LM.out.below hb (Nat.le_refl _))
    replace ZM := Lib.hid (ZM.out.below hb (Nat.le_refl _))
    replace LS := Lib.hid (LS.out.below hb (Nat.le_refl _))
    replace ZS := Lib.hid (ZS.out.below hb (Nat.le_refl _))
    replace B := Lib.hid (B.out.trans (hb.mono B.out.size))
    have z6 := hb.size
    clear hb
    clear m0 m1 m2 m3 mf s0 s1 s2 s3 sf
    obtain ⟨m0, m1, m2, m3, mf⟩ := four_cells ZM.out
    obtain ⟨s0, s1, s2, s3, sf⟩ := four_cells ZS.out
    go_wp2_with fail
    ((with_reducible refine (samePacket p _ _ _ _ _ _ _ _ _ _ _ _ _ _ _ _ _ LM.out.hdr.ints LM.out.bdy.ints LS.out.hdr.ints LS.out.bdy.ints).mono ?_); rintro e w7 ⟨rfl, hb⟩)
    replace IP := Lib.hid (IP.out.below hb (Nat.le_refl _))
    replace IN := Lib.hid (IN.out.below hb (Nat.le_refl _))
    replace IL := Lib.hid (IL.out.below hb (Nat.le_refl _))
    replace LM := Lib.hid (LM.out.below hb (Nat.le_refl _))
    replace ZM := Lib.hid (ZM.out.below hb (Nat.le_refl _))
    replace LS := Lib.hid (LS.out.below hb (Nat.le_refl _))
    replace ZS := Lib.hid (ZS.out.below hb (Nat.le_refl _))
    replace B := Lib.hid (B.out.trans (hb.mono B.out.size))
    have z7 := hb.size
    clear hb
    clear m0 m1 m2 m3 mf s0 s1 s2 s3 sf
    clear hok
    go_wp2
    go_ret
    exact ⟨rfl, B.out⟩
  obtain ⟨m0, m1, m2, m3, mf⟩ := four_cells ZM.out
  obtain ⟨s0, s1, s2, s3, sf⟩ := four_cells ZS.out
  go_wp2_with fail
  ((with_reducible refine (samePacket p _ _ _ _ _ _ _ _ _ _ _ _ _ _ _ _ _ LM.out.hdr.ints LM.out.bdy.ints LS.out.hdr.ints LS.out.bdy.ints).mono ?_); rintro e w6 ⟨rfl, hb⟩)
  replace IP := Lib.hid (IP.out.below hb (Nat.le_refl _))
  replace IN := Lib.hid (IN.out.below hb (Nat.le_refl _))
  replace IL := Lib.hid (IL.out.below hb (Nat.le_refl _))
  replace LM := Lib.hid (LM.out.below hb (Nat.le_refl _))
  replace ZM := Lib.hid (ZM.out.below hb (Nat.le_refl _))
  replace LS := Lib.hid (LS.out.below hb (Nat.le_refl _))
  replace ZS := Lib.hid (ZS.out.below hb (Nat.le_refl _))
  replace B := Lib.hid (B.out.trans (hb.mono B.out.size))
  have z6 := hb.size
  clear hb
  clear m0 m1 m2 m3 mf s0 s1 s2 s3 sf
  have HK := Lib.hid hok
  clear hok
  have hal : Below w6.heap.size w6 (w6.alloc (.cells #[.int .i64 ((n1 : Int) % 900)] 3)) := (Below.refl _ _).alloc (Nat.le_refl _) _
  have hzz : Blk (w6.alloc (.cells #[.int .i64 ((n1 : Int) % 900)] 3)) w6.heap.size #[.int .i64 ((n1 : Int) % 900)] 3 := heap_alloc_new _ _
  replace IP := Lib.hid (IP.out.below hal (Nat.le_refl _))
  replace IN := Lib.hid (IN.out.below hal (Nat.le_refl _))
  replace IL := Lib.hid (IL.out.below hal (Nat.le_refl _))
  replace LM := Lib.hid (LM.out.below hal (Nat.le_refl _))
  replace ZM := Lib.hid (ZM.out.below hal (Nat.le_refl _))
  replace LS := Lib.hid (LS.out.below hal (Nat.le_refl _))
  replace ZS := Lib.hid (ZS.out.below hal (Nat.le_refl _))
  replace B := Lib.hid (B.out.trans (hal.mono B.out.size))
  have ZV := Lib.hid hzz
  clear hzz
  clear hal
  have IV := Lib.hid (ints_lit1 w6 ((n1 : Int) % 900))
  obtain ⟨hk2, h1, h2, h3⟩ := letter_free HK.out (pack_one (v := ((n1 : Int) % 900)) (by omega))
  go_wp2_with fail
  ((with_reducible refine (Im5.PacketMake _ _ _ _ _ _ _ _ _ _ _ _ _ _ _ ps ns [((n1 : Int) % 900)] x r _ IP.out IN.out IV.out).mono ?_); rintro e w8 ⟨AX, cx, BX, dx, g5, g6, rfl, hlie, hg5, hg6, hb⟩)
  replace IP := Lib.hid (IP.out.below hb (Nat.le_refl _))
  replace IN := Lib.hid (IN.out.below hb (Nat.le_refl _))
  replace IL := Lib.hid (IL.out.below hb (Nat.le_refl _))
  replace LM := Lib.hid (LM.out.below hb (Nat.le_refl _))
  replace ZM := Lib.hid (ZM.out.below hb (Nat.le_refl _))
  replace LS := Lib.hid (LS.out.below hb (Nat.le_refl _))
  replace ZS := Lib.hid (ZS.out.below hb (Nat.le_refl _))
  replace ZV := Lib.hid (ZV.out.below hb (Nat.le_refl _))
  replace IV := Lib.hid (IV.out.below hb (Nat.le_refl _))
  replace B := Lib.hid (B.out.trans (hb.mono B.out.size))
  have z8 := hb.size
  have LX := Lib.hid hlie
  clear hlie hb
  rw [hk2]
  rw [HPE.out] at h1 h2 h3
  generalize makeF x ps ns r [((n1 : Int) % 900)] = q at *
  have e1 : (q.el == p.el) = true := by simpa using h1
  have e2 : (q.tag == p.tag) = true := by simpa using h2
  have H3 := Lib.hid h3
  clear h1 h2 h3 hk2
  have hal : Below w8.heap.size w8 (w8.alloc (.cells #[.int .i64 q.el, .slice AX q.hd.length cx, .int .i64 q.tag, .slice BX q.bd.length dx] 26)) := (Below.refl _ _).alloc (Nat.le_refl _) _
  have hzz : Blk (w8.alloc (.cells #[.int .i64 q.el, .slice AX q.hd.length cx, .int .i64 q.tag, .slice BX q.bd.length dx] 26)) w8.heap.size #[.int .i64 q.el, .slice AX q.hd.length cx, .int .i64 q.tag, .slice BX q.bd.length dx] 26 := heap_alloc_new _ _
  replace IP := Lib.hid (IP.out.below hal (Nat.le_refl _))
  replace IN := Lib.hid (IN.out.below hal (Nat.le_refl _))
  replace IL := Lib.hid (IL.out.below hal (Nat.le_refl _))
  replace LM := Lib.hid (LM.out.below hal (Nat.le_refl _))
  replace ZM := Lib.hid (ZM.out.below hal (Nat.le_refl _))
  replace LS := Lib.hid (LS.out.below hal (Nat.le_refl _))
  replace ZS := Lib.hid (ZS.out.below hal (Nat.le_refl _))
  replace ZV := Lib.hid (ZV.out.below hal (Nat.le_refl _))
  replace IV := Lib.hid (IV.out.below hal (Nat.le_refl _))
  replace LX := Lib.hid (LX.out.below hal (Nat.le_refl _))
  replace B := Lib.hid (B.out.trans (hal.mono B.out.size))
  have ZX := Lib.hid hzz
  clear hzz
  clear hal
  obtain ⟨m0, m1, m2, m3, mf⟩ := four_cells ZM.out
  obtain ⟨s0, s1, s2, s3, sf⟩ := four_cells ZX.out
  go_wp2_with fail
  ((with_reducible refine (Hlp.sameInts _ _ _ _ _ _ _ _ _ _ _ _ _ LX.out.hdr.ints LM.out.hdr.ints).mono ?_); rintro e w10 ⟨rfl, hd⟩)
  have hb0 := drew_below hd
  clear hd
  replace IP := Lib.hid (IP.out.below hb0 (Nat.le_refl _))
  replace IN := Lib.hid (IN.out.below hb0 (Nat.le_refl _))
  replace IL := Lib.hid (IL.out.below hb0 (Nat.le_refl _))
  replace LM := Lib.hid (LM.out.below hb0 (Nat.le_refl _))
  replace ZM := Lib.hid (ZM.out.below hb0 (Nat.le_refl _))
  replace LS := Lib.hid (LS.out.below hb0 (Nat.le_refl _))
  replace ZS := Lib.hid (ZS.out.below hb0 (Nat.le_refl _))
  replace ZV := Lib.hid (ZV.out.below hb0 (Nat.le_refl _))
  replace IV := Lib.hid (IV.out.below hb0 (Nat.le_refl _))
  replace LX := Lib.hid (LX.out.below hb0 (Nat.le_refl _))
  replace ZX := Lib.hid (ZX.out.below hb0 (Nat.le_refl _))
  replace B := Lib.hid (B.out.trans (hb0.mono B.out.size))
  have z10 := hb0.size
  clear hb0
  clear m0 m1 m2 m3 mf s0 s1 s2 s3 sf
  rw [decide_eq_true H3.out]
  go_wp2
  go_ret
  exact ⟨rfl, B.out⟩

theorem fnPacketSecret (A : Option Addr) (n c : Nat) (A1 : Option Addr) (n1 c1 : Nat) (w : World) (h : CodeIs w A n c) :
    Calls Try.prog 7 #[.slice A n c, .slice A1 n1 c1] w (TruePost w) := by
  have HC := Lib.hid h
  clear h
  by_cases hn : 1048576 < n
  · go_enter Try.func7, Try.ntmps7
    go_wp2
    go_ret
    exact ⟨rfl, Below.refl _ _⟩
  by_cases hn1 : 1048576 < n1
  · go_enter Try.func7, Try.ntmps7
    go_wp2
    go_ret
    exact ⟨rfl, Below.refl _ _⟩
  have B : Hid (Below w.heap.size w w) := Below.refl _ _
  go_enter Try.func7, Try.ntmps7
  have hq : n ≤ 1048576 := by omega
  go_wp2_with fail
  ((with_reducible refine (DrawPacketMake _ _ _ _ HC.out).mono ?_); rintro e w1 ⟨x, r, AP, AN, AL, cp, cn, cl, ps, ns, ls, rfl, hx, hl1, hl2, hl3, i1, i2, i3, hb⟩)
  replace B := Lib.hid (B.out.trans (hb.mono B.out.size))
  have z1 := hb.size
  have IP := Lib.hid i1
  have IN := Lib.hid i2
  have IL := Lib.hid i3
  clear i1 i2 i3 hb
  go_wp2_with fail
  ((with_reducible refine (Im5.PacketMake _ _ _ _ _ _ _ _ _ _ _ _ _ _ _ ps ns ls x r _ IP.out IN.out IL.out).mono ?_); rintro e w2 ⟨AM, cm, BM, dm, g1, g2, rfl, hlie, hg1, hg2, hb⟩)
  replace IP := Lib.hid (IP.out.below hb (Nat.le_refl _))
  replace IN := Lib.hid (IN.out.below hb (Nat.le_refl _))
  replace IL := Lib.hid (IL.out.below hb (Nat.le_refl _))
  replace B := Lib.hid (B.out.trans (hb.mono B.out.size))
  have z2 := hb.size
  have LM := Lib.hid hlie
  clear hlie hb
  generalize hpe : makeF x ps ns r ls = p at *
  have hal : Below w2.heap.size w2 (w2.alloc (.cells #[.int .i64 p.el, .slice AM p.hd.length cm, .int .i64 p.tag, .slice BM p.bd.length dm] 26)) := (Below.refl _ _).alloc (Nat.le_refl _) _
  have hzz : Blk (w2.alloc (.cells #[.int .i64 p.el, .slice AM p.hd.length cm, .int .i64 p.tag, .slice BM p.bd.length dm] 26)) w2.heap.size #[.int .i64 p.el, .slice AM p.hd.length cm, .int .i64 p.tag, .slice BM p.bd.length dm] 26 := heap_alloc_new _ _
  replace IP := Lib.hid (IP.out.below hal (Nat.le_refl _))
  replace IN := Lib.hid (IN.out.below hal (Nat.le_refl _))
  replace IL := Lib.hid (IL.out.below hal (Nat.le_refl _))
  replace LM := Lib.hid (LM.out.below hal (Nat.le_refl _))
  replace B := Lib.hid (B.out.trans (hal.mono B.out.size))
  have ZM := Lib.hid hzz
  clear hzz
  clear hal
  go_wp2_with fail
  ((with_reducible refine (Sp5.PacketMake _ _ _ _ _ _ _ _ _ _ _ _ _ _ _ ps ns ls x r _ IP.out IN.out IL.out).mono ?_); rintro e w4 ⟨AS, cs, BS, ds, g3, g4, rfl, hlie, hg3, hg4, hb⟩)
  replace IP := Lib.hid (IP.out.below hb (Nat.le_refl _))
  replace IN := Lib.hid (IN.out.below hb (Nat.le_refl _))
  replace IL := Lib.hid (IL.out.below hb (Nat.le_refl _))
  replace LM := Lib.hid (LM.out.below hb (Nat.le_refl _))
  replace ZM := Lib.hid (ZM.out.below hb (Nat.le_refl _))
  replace B := Lib.hid (B.out.trans (hb.mono B.out.size))
  have z4 := hb.size
  have LS := Lib.hid hlie
  clear hlie hb
  rw [hpe] at LS ⊢
  have HPE := Lib.hid hpe
  clear hpe
  have hal : Below w4.heap.size w4 (w4.alloc (.cells #[.int .i64 p.el, .slice AS p.hd.length cs, .int .i64 p.tag, .slice BS p.bd.length ds] 26)) := (Below.refl _ _).alloc (Nat.le_refl _) _
  have hzz : Blk (w4.alloc (.cells #[.int .i64 p.el, .slice AS p.hd.length cs, .int .i64 p.tag, .slice BS p.bd.length ds] 26)) w4.heap.size #[.int .i64 p.el, .slice AS p.hd.length cs, .int .i64 p.tag, .slice BS p.bd.length ds] 26 := heap_alloc_new _ _
  replace IP := Lib.hid (IP.out.below hal (Nat.le_refl _))
  replace IN := Lib.hid (IN.out.below hal (Nat.le_refl _))
  replace IL := Lib.hid (IL.out.below hal (Nat.le_refl _))
  replace LM := Lib.hid (LM.out.below hal (Nat.le_refl _))
  replace ZM := Lib.hid (ZM.out.below hal (Nat.le_refl _))
  replace LS := Lib.hid (LS.out.below hal (Nat.le_refl _))
  replace B := Lib.hid (B.out.trans (hal.mono B.out.size))
  have ZS := Lib.hid hzz
  clear hzz
  clear hal
  cases hok : makeOk x ps ns r ls
  · obtain ⟨m0, m1, m2, m3, mf⟩ := four_cells ZM.out
    obtain ⟨s0, s1, s2, s3, sf⟩ := four_cells ZS.out
    go_wp2_with fail
    ((with_reducible refine (samePacket p _ _ _ _ _ _ _ _ _ _ _ _ _ _ _ _ _ LM.out.hdr.ints LM.out.bdy.ints LS.out.hdr.ints LS.out.bdy.ints).mono ?_); rintro e w6 ⟨rfl, hb⟩)
    replace IP := Lib.hid (IP.out.below hb (Nat.le_refl _))
    replace IN := Lib.hid (IN.out.below hb (Nat.le_refl _))
    replace IL := Lib.hid (IL.out.below hb (Nat.le_refl _))
    replace LM := Lib.hid (LM.out.below hb (Nat.le_refl _))
    replace ZM := Lib.hid (ZM.out.below hb (Nat.le_refl _))
    replace LS := Lib.hid (LS.out.below hb (Nat.le_refl _))
    replace ZS := Lib.hid (ZS.out.below hb (Nat.le_refl _))
    replace B := Lib.hid (B.out.trans (hb.mono B.out.size))
    have z6 := hb.size
    clear hb
    clear m0 m1 m2 m3 mf s0 s1 s2 s3 sf
    obtain ⟨m0, m1, m2, m3, mf⟩ := four_cells ZM.out
    obtain ⟨s0, s1, s2, s3, sf⟩ := four_cells ZS.out
    go_wp2_with fail
    ((with_reducible refine (samePacket p _ _ _ _ _ _ _ _ _ _ _ _ _ _ _ _ _ LM.out.hdr.ints LM.out.bdy.ints LS.out.hdr.ints LS.out.bdy.ints).mono ?_); rintro e w7 ⟨rfl, hb⟩)
    replace IP := Lib.hid (IP.out.below hb (Nat.le_refl _))
    replace IN := Lib.hid (IN.out.below hb (Nat.le_refl _))
    replace IL := Lib.hid (IL.out.below hb (Nat.le_refl _))
    replace LM := Lib.hid (LM.out.below hb (Nat.le_refl _))
    replace ZM := Lib.hid (ZM.out.below hb (Nat.le_refl _))
    replace LS := Lib.hid (LS.out.below hb (Nat.le_refl _))
    replace ZS := Lib.hid (ZS.out.below hb (Nat.le_refl _))
    replace B := Lib.hid (B.out.trans (hb.mono B.out.size))
    have z7 := hb.size
    clear hb
    clear m0 m1 m2 m3 mf s0 s1 s2 s3 sf
    clear hok
    go_wp2
    go_ret
    exact ⟨rfl, B.out⟩
  obtain ⟨m0, m1, m2, m3, mf⟩ := four_cells ZM.out
  obtain ⟨s0, s1, s2, s3, sf⟩ := four_cells ZS.out
  go_wp2_with fail
  ((with_reducible refine (samePacket p _ _ _ _ _ _ _ _ _ _ _ _ _ _ _ _ _ LM.out.hdr.ints LM.out.bdy.ints LS.out.hdr.ints LS.out.bdy.ints).mono ?_); rintro e w6 ⟨rfl, hb⟩)
  replace IP := Lib.hid (IP.out.below hb (Nat.le_refl _))
  replace IN := Lib.hid (IN.out.below hb (Nat.le_refl _))
  replace IL := Lib.hid (IL.out.below hb (Nat.le_refl _))
  replace LM := Lib.hid (LM.out.below hb (Nat.le_refl _))
  replace ZM := Lib.hid (ZM.out.below hb (Nat.le_refl _))
  replace LS := Lib.hid (LS.out.below hb (Nat.le_refl _))
  replace ZS := Lib.hid (ZS.out.below hb (Nat.le_refl _))
  replace B := Lib.hid (B.out.trans (hb.mono B.out.size))
  have z6 := hb.size
  clear hb
  clear m0 m1 m2 m3 mf s0 s1 s2 s3 sf
  have HK := Lib.hid hok
  clear hok
  have hxb := make_secret HK.out
  go_wp2_with fail
  ((with_reducible refine (Elt.element (x + (n1 : Int) % 990) _ (by omega) (by omega)).mono ?_); rintro e w' ⟨rfl, rfl⟩)
  have hs := el_in (x + (n1 : Int) % 990)
  generalize 1 + (x + (n1 : Int) % 990) % 996 = sx at *
  obtain ⟨hk2, hne⟩ := secret_other HK.out hs
  have HNE := Lib.hid hne
  clear hne hs
  go_wp2_with fail
  ((with_reducible refine (Im5.PacketMake _ _ _ _ _ _ _ _ _ _ _ _ _ _ _ ps ns ls sx r _ IP.out IN.out IL.out).mono ?_); rintro e w8 ⟨AX, cx, BX, dx, g5, g6, rfl, hlie, hg5, hg6, hb⟩)
  replace IP := Lib.hid (IP.out.below hb (Nat.le_refl _))
  replace IN := Lib.hid (IN.out.below hb (Nat.le_refl _))
  replace IL := Lib.hid (IL.out.below hb (Nat.le_refl _))
  replace LM := Lib.hid (LM.out.below hb (Nat.le_refl _))
  replace ZM := Lib.hid (ZM.out.below hb (Nat.le_refl _))
  replace LS := Lib.hid (LS.out.below hb (Nat.le_refl _))
  replace ZS := Lib.hid (ZS.out.below hb (Nat.le_refl _))
  replace B := Lib.hid (B.out.trans (hb.mono B.out.size))
  have z8 := hb.size
  have LX := Lib.hid hlie
  clear hlie hb
  rw [hk2]
  have hne := HNE.out
  rw [HPE.out] at hne
  clear HNE hk2
  generalize makeF sx ps ns r ls = q at *
  have hal : Below w8.heap.size w8 (w8.alloc (.cells #[.int .i64 q.el, .slice AX q.hd.length cx, .int .i64 q.tag, .slice BX q.bd.length dx] 26)) := (Below.refl _ _).alloc (Nat.le_refl _) _
  have hzz : Blk (w8.alloc (.cells #[.int .i64 q.el, .slice AX q.hd.length cx, .int .i64 q.tag, .slice BX q.bd.length dx] 26)) w8.heap.size #[.int .i64 q.el, .slice AX q.hd.length cx, .int .i64 q.tag, .slice BX q.bd.length dx] 26 := heap_alloc_new _ _
  replace IP := Lib.hid (IP.out.below hal (Nat.le_refl _))
  replace IN := Lib.hid (IN.out.below hal (Nat.le_refl _))
  replace IL := Lib.hid (IL.out.below hal (Nat.le_refl _))
  replace LM := Lib.hid (LM.out.below hal (Nat.le_refl _))
  replace ZM := Lib.hid (ZM.out.below hal (Nat.le_refl _))
  replace LS := Lib.hid (LS.out.below hal (Nat.le_refl _))
  replace ZS := Lib.hid (ZS.out.below hal (Nat.le_refl _))
  replace LX := Lib.hid (LX.out.below hal (Nat.le_refl _))
  replace B := Lib.hid (B.out.trans (hal.mono B.out.size))
  have ZX := Lib.hid hzz
  clear hzz
  clear hal
  obtain ⟨m0, m1, m2, m3, mf⟩ := four_cells ZM.out
  obtain ⟨s0, s1, s2, s3, sf⟩ := four_cells ZX.out
  by_cases hsx : sx = x
  · have e0 : (sx == x) = true := by simpa using hsx
    clear hne hsx
    go_wp2
    go_ret
    exact ⟨rfl, B.out⟩
  have e0 : (sx == x) = false := by simpa using hsx
  have e1 : (q.el != p.el) = true := by simpa using hne hsx
  clear hne hsx
  go_wp2
  go_ret
  exact ⟨rfl, B.out⟩





end Law5
end Go.Proofs.Ytdngdmhepjjeeab
