/-
  The laws of chapter 5 on paths and on making packets, by the contracts of the functions that they call: each returns true and writes nothing that was there.
-/
import Derived.Test.YtebehilddklcfaaSp5b
import Derived.Test.YtebehilddklcfaaIm5d
import Derived.Test.YtebehilddklcfaaDr5
import Derived.Test.YtebehilddklcfaaHlp5
import Derived.Test.YtebehilddklcfaaPo
import Derived.Test.YtebehilddklcfaaElt
import Derived.Deep.RegionLaw
namespace Go.Proofs.Ytebehilddklcfaa
open Go.RowKit
namespace Law5
open Gm Mm Tm Lm Pm Po Pq Il Rd Hlp5 LawB
open Sp5 (pathOk pathF)

theorem fnPacket (A : Option Addr) (n c : Nat) (w : World) (h : CodeIs w A n c) :
    Calls Try.prog 9 #[.slice A n c] w (TruePost w) := by
  have HC := Lib.hid h
  clear h
  by_cases hn : 1048576 < n
  · go_enter Try.func9, Try.ntmps9
    go_wp2
    go_ret
    exact ⟨rfl, Below.refl _ _⟩
  have B : Hid (Below w.heap.size w w) := Below.refl _ _
  go_enter Try.func9, Try.ntmps9
  have hq : n ≤ 1048576 := by omega
  go_wp2_with fail
  ((with_reducible refine (DrawPacketMake _ _ _ _ HC.out).mono ?_); rintro e w1 ⟨x, r, AP, AN, AL, cp, cn, cl, ps, ns, ls, rfl, hx, hl1, hl2, hl3, i1, i2, i3, hb⟩)
  replace B := Lib.hid (B.out.trans (hb.mono B.out.size))
  have z1 := hb.size
  have IP := Lib.hid i1
  have IN := Lib.hid i2
  have IL := Lib.hid i3
  clear i1 i2 i3 hb
  go_wp2_with fail
  ((with_reducible refine (Im5.PacketMake _ _ _ _ _ _ _ _ _ _ _ _ _ _ _ ps ns ls x r _ IP.out IN.out IL.out).mono ?_); rintro e w2 ⟨AM, cm, BM, dm, g1, g2, rfl, hlie, hg1, hg2, hb⟩)
  replace IP := Lib.hid (IP.out.below hb (Nat.le_refl _))
  replace IN := Lib.hid (IN.out.below hb (Nat.le_refl _))
  replace IL := Lib.hid (IL.out.below hb (Nat.le_refl _))
  replace B := Lib.hid (B.out.trans (hb.mono B.out.size))
  have z2 := hb.size
  have LM := Lib.hid hlie
  clear hlie hb
  generalize hpe : makeF x ps ns r ls = p at *
  have hal : Below w2.heap.size w2 (w2.alloc (.cells #[.int .i64 p.el, .slice AM p.hd.length cm, .int .i64 p.tag, .slice BM p.bd.length dm] 27)) := (Below.refl _ _).alloc (Nat.le_refl _) _
  have hzz : Blk (w2.alloc (.cells #[.int .i64 p.el, .slice AM p.hd.length cm, .int .i64 p.tag, .slice BM p.bd.length dm] 27)) w2.heap.size #[.int .i64 p.el, .slice AM p.hd.length cm, .int .i64 p.tag, .slice BM p.bd.length dm] 27 := heap_alloc_new _ _
  replace IP := Lib.hid (IP.out.below hal (Nat.le_refl _))
  replace IN := Lib.hid (IN.out.below hal (Nat.le_refl _))
  replace IL := Lib.hid (IL.out.below hal (Nat.le_refl _))
  replace LM := Lib.hid (LM.out.below hal (Nat.le_refl _))
  replace B := Lib.hid (B.out.trans (hal.mono B.out.size))
  have ZM := Lib.hid hzz
  clear hzz
  clear hal
  go_wp2_with fail
  ((with_reducible refine (Sp5.PacketMake _ _ _ _ _ _ _ _ _ _ _ _ _ _ _ ps ns ls x r _ IP.out IN.out IL.out).mono ?_); rintro e w4 ⟨AS, cs, BS, ds, g3, g4, rfl, hlie, hg3, hg4, hb⟩)
  replace IP := Lib.hid (IP.out.below hb (Nat.le_refl _))
  replace IN := Lib.hid (IN.out.below hb (Nat.le_refl _))
  replace IL := Lib.hid (IL.out.below hb (Nat.le_refl _))
  replace LM := Lib.hid (LM.out.below hb (Nat.le_refl _))
  replace ZM := Lib.hid (ZM.out.below hb (Nat.le_refl _))
  replace B := Lib.hid (B.out.trans (hb.mono B.out.size))
  have z4 := hb.size
  have LS := Lib.hid hlie
  clear hlie hb
  rw [hpe] at LS ⊢
  have HPE := Lib.hid hpe
  clear hpe
  have hal : Below w4.heap.size w4 (w4.alloc (.cells #[.int .i64 p.el, .slice AS p.hd.length cs, .int .i64 p.tag, .slice BS p.bd.length ds] 27)) := (Below.refl _ _).alloc (Nat.le_refl _) _
  have hzz : Blk (w4.alloc (.cells #[.int .i64 p.el, .slice AS p.hd.length cs, .int .i64 p.tag, .slice BS p.bd.length ds] 27)) w4.heap.size #[.int .i64 p.el, .slice AS p.hd.length cs, .int .i64 p.tag, .slice BS p.bd.length ds] 27 := heap_alloc_new _ _
  replace IP := Lib.hid (IP.out.below hal (Nat.le_refl _))
  replace IN := Lib.hid (IN.out.below hal (Nat.le_refl _))
  replace IL := Lib.hid (IL.out.below hal (Nat.le_refl _))
  replace LM := Lib.hid (LM.out.below hal (Nat.le_refl _))
  replace ZM := Lib.hid (ZM.out.below hal (Nat.le_refl _))
  replace LS := Lib.hid (LS.out.below hal (Nat.le_refl _))
  replace B := Lib.hid (B.out.trans (hal.mono B.out.size))
  have ZS := Lib.hid hzz
  clear hzz
  clear hal
  cases hok : makeOk x ps ns r ls
  · obtain ⟨m0, m1, m2, m3, mf⟩ := four_cells ZM.out
    obtain ⟨s0, s1, s2, s3, sf⟩ := four_cells ZS.out
    go_wp2_with fail
    ((with_reducible refine (samePacket p _ _ _ _ _ _ _ _ _ _ _ _ _ _ _ _ _ LM.out.hdr.ints LM.out.bdy.ints LS.out.hdr.ints LS.out.bdy.ints).mono ?_); rintro e w6 ⟨rfl, hb⟩)
    replace IP := Lib.hid (IP.out.below hb (Nat.le_refl _))
    replace IN := Lib.hid (IN.out.below hb (Nat.le_refl _))
    replace IL := Lib.hid (IL.out.below hb (Nat.le_refl _))
    replace LM := Lib.hid (LM.out.below hb (Nat.le_refl _))
    replace ZM := Lib.hid (ZM.out.below hb (Nat.le_refl _))
    replace LS := Lib.hid (LS.out.below hb (Nat.le_refl _))
    replace ZS := Lib.hid (ZS.out.below hb (Nat.le_refl _))
    replace B := Lib.hid (B.out.trans (hb.mono B.out.size))
    have z6 := hb.size
    clear hb
    clear m0 m1 m2 m3 mf s0 s1 s2 s3 sf
    obtain ⟨m0, m1, m2, m3, mf⟩ := four_cells ZM.out
    obtain ⟨s0, s1, s2, s3, sf⟩ := four_cells ZS.out
    go_wp2_with fail
    ((with_reducible refine (samePacket p _ _ _ _ _ _ _ _ _ _ _ _ _ _ _ _ _ LM.out.hdr.ints LM.out.bdy.ints LS.out.hdr.ints LS.out.bdy.ints).mono ?_); rintro e w7 ⟨rfl, hb⟩)
    replace IP := Lib.hid (IP.out.below hb (Nat.le_refl _))
    replace IN := Lib.hid (IN.out.below hb (Nat.le_refl _))
    replace IL := Lib.hid (IL.out.below hb (Nat.le_refl _))
    replace LM := Lib.hid (LM.out.below hb (Nat.le_refl _))
    replace ZM := Lib.hid (ZM.out.below hb (Nat.le_refl _))
    replace LS := Lib.hid (LS.out.below hb (Nat.le_refl _))
    replace ZS := Lib.hid (ZS.out.below hb (Nat.le_refl _))
    replace B := Lib.hid (B.out.trans (hb.mono B.out.size))
    have z7 := hb.size
    clear hb
    clear m0 m1 m2 m3 mf s0 s1 s2 s3 sf
    clear hok
    go_wp2
    go_ret
    exact ⟨rfl, B.out⟩
  obtain ⟨m0, m1, m2, m3, mf⟩ := four_cells ZM.out
  obtain ⟨s0, s1, s2, s3, sf⟩ := four_cells ZS.out
  go_wp2_with fail
  ((with_reducible refine (samePacket p _ _ _ _ _ _ _ _ _ _ _ _ _ _ _ _ _ LM.out.hdr.ints LM.out.bdy.ints LS.out.hdr.ints LS.out.bdy.ints).mono ?_); rintro e w6 ⟨rfl, hb⟩)
  replace IP := Lib.hid (IP.out.below hb (Nat.le_refl _))
  replace IN := Lib.hid (IN.out.below hb (Nat.le_refl _))
  replace IL := Lib.hid (IL.out.below hb (Nat.le_refl _))
  replace LM := Lib.hid (LM.out.below hb (Nat.le_refl _))
  replace ZM := Lib.hid (ZM.out.below hb (Nat.le_refl _))
  replace LS := Lib.hid (LS.out.below hb (Nat.le_refl _))
  replace ZS := Lib.hid (ZS.out.below hb (Nat.le_refl _))
  replace B := Lib.hid (B.out.trans (hb.mono B.out.size))
  have z6 := hb.size
  clear hb
  clear m0 m1 m2 m3 mf s0 s1 s2 s3 sf
  have HK := Lib.hid hok
  clear hok
  obtain ⟨hv, hel⟩ := make_valid HK.out
  rw [HPE.out] at hv hel
  have hee : (p.el == mulG x 5) = true := by simpa using hel
  have HV := Lib.hid hv
  clear hv hel
  obtain ⟨m0, m1, m2, m3, mf⟩ := four_cells ZM.out
  have IHD : Hid (Ints g1 (g1 + 1) w6.drew AM p.hd.length cm p.hd) := LM.out.hdr.ints
  have IBD : Hid (Ints g2 (g2 + 1) w6.drew BM p.bd.length dm p.bd) := LM.out.bdy.ints
  go_wp2_with fail
  go_region_law (first | (go_simp; go_at_call 13; refine (Im5.PacketValid _ _ _ _ _ _ _ _ _ _ p.el p.tag p.hd p.bd _ IHD.out IBD.out).mono ?_; rintro e wv ⟨rfl, hbv0⟩; have hbv : Below w6.heap.size w6 wv := below_drew hbv0; rw [show pktOk ⟨p.el, p.hd, p.tag, p.bd⟩ = true from HV.out]; obtain ⟨v0, v1, v2, v3, vf⟩ := four_cells (ZM.out.below hbv (Nat.le_refl _))) | (go_simp; go_at_call 37; refine (Grp.iPublic x _).mono ?_; rintro e w' ⟨rfl, rfl⟩))
  all_goals
    have B9 := Lib.hid (B.out.trans (hbv.mono B.out.size))
    clear hbv hbv0
    go_wp2
    go_ret
    exact ⟨rfl, B9.out⟩



theorem pathF_le (x : Int) (ps : List Int) : (pathF x ps).length ≤ 3 := by
  unfold pathF
  cases h : pathOk x ps
  · simp
  · unfold pathOk at h
    simp at h
    simp only [cond_true, keysF_len]
    exact Sp5.pubs_len h.2
theorem fnExactPathKeys (x : Int) (A : Option Addr) (n c : Nat) (xs : List Int) (w : World) (hx : Ints 0 w.heap.size w A n c xs) :
    Calls Try.prog 4 #[.int .i64 x, .slice A n c] w (TruePost w) := by
  have hxl := hx.len_
  have IA := Lib.hid hx
  clear hx
  by_cases hn : 1048576 < n
  · go_enter Try.func4, Try.ntmps4
    go_wp2
    go_ret
    exact ⟨rfl, Below.refl _ _⟩
  have hxn : xs.length ≤ 1048576 := by omega
  clear hxl
  have B : Hid (Below w.heap.size w w) := Below.refl _ _
  go_enter Try.func4, Try.ntmps4
  have hle := pathF_le x xs
  go_wp2_with fail
  ((with_reducible refine (Hlp.toIntS _ _ _ _ _ xs _ IA.out (by omega)).mono ?_); rintro e w1 ⟨AT, ct, rfl, ho, hb⟩)
  replace IA := Lib.hid (IA.out.below hb (Nat.le_refl _))
  replace B := Lib.hid (B.out.trans (hb.mono B.out.size))
  have z1 := hb.size
  have OT := Lib.hid ho
  clear ho hb
  go_wp2_with fail
  ((with_reducible refine (Sp5.PathKeys _ _ _ _ _ xs x _ OT.out.ints).mono ?_); rintro e w2 ⟨AS, cs, rfl, ho, hb⟩)
  replace IA := Lib.hid (IA.out.below hb (Nat.le_refl _))
  replace OT := Lib.hid (OT.out.below hb (Nat.le_refl _))
  replace B := Lib.hid (B.out.trans (hb.mono B.out.size))
  have z2 := hb.size
  have OS := Lib.hid ho
  clear ho hb
  go_wp2_with fail
  ((with_reducible refine (Hlp.toIntS _ _ _ _ _ xs _ IA.out (by omega)).mono ?_); rintro e w3 ⟨AX, cx, rfl, ho, hb⟩)
  replace IA := Lib.hid (IA.out.below hb (Nat.le_refl _))
  replace OT := Lib.hid (OT.out.below hb (Nat.le_refl _))
  replace OS := Lib.hid (OS.out.below hb (Nat.le_refl _))
  replace B := Lib.hid (B.out.trans (hb.mono B.out.size))
  have z3 := hb.size
  have OX := Lib.hid ho
  clear ho hb
  go_wp2_with fail
  ((with_reducible refine (Im5.PathKeys _ _ _ _ _ xs x _ OX.out.ints).mono ?_); rintro e w4 ⟨AM, cm, rfl, ho, hb⟩)
  replace IA := Lib.hid (IA.out.below hb (Nat.le_refl _))
  replace OT := Lib.hid (OT.out.below hb (Nat.le_refl _))
  replace OS := Lib.hid (OS.out.below hb (Nat.le_refl _))
  replace OX := Lib.hid (OX.out.below hb (Nat.le_refl _))
  replace B := Lib.hid (B.out.trans (hb.mono B.out.size))
  have z4 := hb.size
  have OM := Lib.hid ho
  clear ho hb
  go_wp2_with fail
  ((with_reducible refine (Hlp.eqIntS _ _ _ _ _ _ _ _ _ _ _ _ _ OM.out.ints OS.out.ints).mono ?_); rintro e w5 ⟨rfl, hd⟩)
  have hb0 := drew_below hd
  clear hd
  replace IA := Lib.hid (IA.out.below hb0 (Nat.le_refl _))
  replace OT := Lib.hid (OT.out.below hb0 (Nat.le_refl _))
  replace OS := Lib.hid (OS.out.below hb0 (Nat.le_refl _))
  replace OX := Lib.hid (OX.out.below hb0 (Nat.le_refl _))
  replace OM := Lib.hid (OM.out.below hb0 (Nat.le_refl _))
  replace B := Lib.hid (B.out.trans (hb0.mono B.out.size))
  have z5 := hb0.size
  clear hb0
  rw [decide_eq_true rfl]
  go_wp2_with fail
  ((with_reducible refine (Hlp.toIntS _ _ _ _ _ xs _ IA.out (by omega)).mono ?_); rintro e w6 ⟨AU, cu, rfl, ho, hb⟩)
  replace IA := Lib.hid (IA.out.below hb (Nat.le_refl _))
  replace OT := Lib.hid (OT.out.below hb (Nat.le_refl _))
  replace OS := Lib.hid (OS.out.below hb (Nat.le_refl _))
  replace OX := Lib.hid (OX.out.below hb (Nat.le_refl _))
  replace OM := Lib.hid (OM.out.below hb (Nat.le_refl _))
  replace B := Lib.hid (B.out.trans (hb.mono B.out.size))
  have z6 := hb.size
  have OU := Lib.hid ho
  clear ho hb
  go_wp2_with fail
  ((with_reducible refine (Hlp.eqIntS _ _ _ _ _ _ _ _ _ _ _ _ _ OX.out.ints OU.out.ints).mono ?_); rintro e w7 ⟨rfl, hd⟩)
  have hb0 := drew_below hd
  clear hd
  replace IA := Lib.hid (IA.out.below hb0 (Nat.le_refl _))
  replace OT := Lib.hid (OT.out.below hb0 (Nat.le_refl _))
  replace OS := Lib.hid (OS.out.below hb0 (Nat.le_refl _))
  replace OX := Lib.hid (OX.out.below hb0 (Nat.le_refl _))
  replace OM := Lib.hid (OM.out.below hb0 (Nat.le_refl _))
  replace OU := Lib.hid (OU.out.below hb0 (Nat.le_refl _))
  replace B := Lib.hid (B.out.trans (hb0.mono B.out.size))
  have z7 := hb0.size
  clear hb0
  rw [decide_eq_true rfl]
  go_wp2_with fail
  ((with_reducible refine (Hlp.markIntS _ _ _ _ _ _ 1 _ OX.out (by omega) (by omega) (by omega)).mono ?_); rintro e w8 ⟨rfl, hm, hk⟩)
  replace IA := Lib.hid (IA.out.kept hk (by omega))
  replace OT := Lib.hid (OT.out.kept hk (by omega))
  replace OS := Lib.hid (OS.out.kept hk (by omega))
  replace OM := Lib.hid (OM.out.kept hk (by omega))
  replace OU := Lib.hid (OU.out.kept hk (by omega))
  replace B := Lib.hid (B.out.trans (hk.below (by omega)))
  replace OX := Lib.hid hm
  have z8 := Nat.le_of_eq hk.size.symm
  have y8 := Nat.le_of_eq hk.size
  clear hm hk
  go_wp2_with fail
  ((with_reducible refine (Hlp.eqIntS _ _ _ _ _ _ _ _ _ _ _ _ _ OM.out.ints OS.out.ints).mono ?_); rintro e w9 ⟨rfl, hd⟩)
  have hb0 := drew_below hd
  clear hd
  replace IA := Lib.hid (IA.out.below hb0 (Nat.le_refl _))
  replace OT := Lib.hid (OT.out.below hb0 (Nat.le_refl _))
  replace OS := Lib.hid (OS.out.below hb0 (Nat.le_refl _))
  replace OX := Lib.hid (OX.out.below hb0 (Nat.le_refl _))
  replace OM := Lib.hid (OM.out.below hb0 (Nat.le_refl _))
  replace OU := Lib.hid (OU.out.below hb0 (Nat.le_refl _))
  replace B := Lib.hid (B.out.trans (hb0.mono B.out.size))
  have z9 := hb0.size
  clear hb0
  rw [decide_eq_true rfl]
  go_wp2_with fail
  ((with_reducible refine (Hlp.markIntS _ _ _ _ _ _ 1 _ OM.out (by omega) (by omega) (by omega)).mono ?_); rintro e w10 ⟨rfl, hm, hk⟩)
  replace IA := Lib.hid (IA.out.kept hk (by omega))
  replace OT := Lib.hid (OT.out.kept hk (by omega))
  replace OS := Lib.hid (OS.out.kept hk (by omega))
  replace OX := Lib.hid (OX.out.kept hk (by omega))
  replace OU := Lib.hid (OU.out.kept hk (by omega))
  replace B := Lib.hid (B.out.trans (hk.below (by omega)))
  replace OM := Lib.hid hm
  have z10 := Nat.le_of_eq hk.size.symm
  have y10 := Nat.le_of_eq hk.size
  clear hm hk
  go_wp2_with fail
  ((with_reducible refine (Hlp.heldIntS _ _ _ _ _ 1 _ OM.out.ints (by omega) (by omega) (by omega)).mono ?_); rintro e w' ⟨rfl, rfl⟩)
  go_wp2_with fail
  ((with_reducible refine (Hlp.toIntS _ _ _ _ _ xs _ IA.out (by omega)).mono ?_); rintro e w12 ⟨AV, cv, rfl, ho, hb⟩)
  replace IA := Lib.hid (IA.out.below hb (Nat.le_refl _))
  replace OT := Lib.hid (OT.out.below hb (Nat.le_refl _))
  replace OS := Lib.hid (OS.out.below hb (Nat.le_refl _))
  replace OX := Lib.hid (OX.out.below hb (Nat.le_refl _))
  replace OM := Lib.hid (OM.out.below hb (Nat.le_refl _))
  replace OU := Lib.hid (OU.out.below hb (Nat.le_refl _))
  replace B := Lib.hid (B.out.trans (hb.mono B.out.size))
  have z12 := hb.size
  have OV := Lib.hid ho
  clear ho hb
  go_wp2_with fail
  ((with_reducible refine (Im5.PathKeys _ _ _ _ _ xs x _ OV.out.ints).mono ?_); rintro e w13 ⟨AH, ch, rfl, ho, hb⟩)
  replace IA := Lib.hid (IA.out.below hb (Nat.le_refl _))
  replace OT := Lib.hid (OT.out.below hb (Nat.le_refl _))
  replace OS := Lib.hid (OS.out.below hb (Nat.le_refl _))
  replace OX := Lib.hid (OX.out.below hb (Nat.le_refl _))
  replace OM := Lib.hid (OM.out.below hb (Nat.le_refl _))
  replace OU := Lib.hid (OU.out.below hb (Nat.le_refl _))
  replace OV := Lib.hid (OV.out.below hb (Nat.le_refl _))
  replace B := Lib.hid (B.out.trans (hb.mono B.out.size))
  have z13 := hb.size
  have OH := Lib.hid ho
  clear ho hb
  go_wp2_with fail
  ((with_reducible refine (Hlp.eqIntS _ _ _ _ _ _ _ _ _ _ _ _ _ OH.out.ints OS.out.ints).mono ?_); rintro e w14 ⟨rfl, hd⟩)
  have hb0 := drew_below hd
  clear hd
  replace IA := Lib.hid (IA.out.below hb0 (Nat.le_refl _))
  replace OT := Lib.hid (OT.out.below hb0 (Nat.le_refl _))
  replace OS := Lib.hid (OS.out.below hb0 (Nat.le_refl _))
  replace OX := Lib.hid (OX.out.below hb0 (Nat.le_refl _))
  replace OM := Lib.hid (OM.out.below hb0 (Nat.le_refl _))
  replace OU := Lib.hid (OU.out.below hb0 (Nat.le_refl _))
  replace OV := Lib.hid (OV.out.below hb0 (Nat.le_refl _))
  replace OH := Lib.hid (OH.out.below hb0 (Nat.le_refl _))
  replace B := Lib.hid (B.out.trans (hb0.mono B.out.size))
  have z14 := hb0.size
  clear hb0
  rw [decide_eq_true rfl]
  go_wp2_with fail
  ((with_reducible refine (Hlp.heldIntS _ _ _ _ _ 1 _ OM.out.ints (by omega) (by omega) (by omega)).mono ?_); rintro e w' ⟨rfl, rfl⟩)
  go_wp2
  go_ret
  exact ⟨rfl, B.out⟩

end Law5
end Go.Proofs.Ytebehilddklcfaa
