/-
  The laws of chapter 22, by the contracts of the functions that they call: each returns true and writes nothing that was there.
-/
import Derived.Test.YtljfhddgifacnaaSp10b
import Derived.Test.YtljfhddgifacnaaIm10b
import Derived.Test.YtljfhddgifacnaaDr10b
import Derived.Test.YtljfhddgifacnaaH10
import Derived.Test.YtljfhddgifacnaaElt
import Derived.Deep.RegionLaw
import Derived.Deep.RegionHeld3
import Derived.Deep.QuietTactic
import Derived.Deep.Cut
import Derived.BigQuiet
namespace Go.Proofs.Ytljfhddgifacnaa
open Go.RowKit
namespace Law10
open Gm Mm Tm Lm Pm Po Pq Il Rd Hlp5 LawB Rm Cl Rp

theorem bdr {B : Nat} {w w' : World} (h : Below B w w') : Below B w w'.drew := ⟨h.os, h.tape, h.output, h.size, h.block⟩
theorem rep_is {x r f : Int} {ps ns : List Int} {p : Pkt} (h : makeOk x ps ns r [] = true) (hp : repF x ps ns r = p) (hf : fstF x ps ns r = f) : p.bd = keysF x ps ∧ f = ns.getD 0 0 ∧ p.el = mulG x 5 ∧ p.el = (makeF x ps ns r []).el ∧ p.hd = (makeF x ps ns r []).hd ∧ p.tag = (makeF x ps ns r []).tag := by
  subst hp
  subst hf
  rw [repF_yes h, fstF_yes h]
  exact ⟨rfl, rfl, (make_valid h).2, rfl, rfl, rfl⟩
theorem same_bv {f el tag : Int} {n n2 c c2 l1 h1 l2 h2 : Nat} {A A2 : Option Addr} {hd : List Int} {w : World} (i1 : Ints l1 h1 w A n c hd) (i2 : Ints l2 h2 w A2 n2 c2 hd) :
    Calls Try.prog 16 #[.agg #[.int .i64 f, .int .i64 el, .slice A n c, .int .i64 tag], .agg #[.int .i64 f, .int .i64 el, .slice A2 n2 c2, .int .i64 tag]] w (BoolB true w) := H10.sameBlock f el tag hd A A2 n n2 c c2 l1 h1 l2 h2 w i1 i2
theorem packF_ok (ls : List Int) : okL (packF ls) = true := by
  cases hp : packOk ls
  · rw [packF_no hp]; rfl
  · rw [packF_yes hp]; exact packL_ok hp

set_option maxRecDepth 20000 in
set_option maxHeartbeats 1000000 in
theorem fnReplyMake (A : Option Addr) (n c : Nat) (w : World) (h : CodeIs w A n c) :
    Calls Try.prog 3 #[.slice A n c] w (TruePost w) := by
  have HC := Lib.hid h
  clear h
  by_cases hn : 1048576 < n
  · go_enter Try.func3, Try.ntmps3
    go_wp2
    go_ret
    exact ⟨rfl, Below.refl _ _⟩
  have B : Hid (Below w.heap.size w w) := Below.refl _ _
  go_enter Try.func3, Try.ntmps3
  have hq : n ≤ 1048576 := by omega
  go_wp2_with fail
  ((with_reducible refine (DrawReplyMake _ _ _ _ HC.out).mono ?_); rintro e w1 ⟨x, r, AP, AN, cp, cn, ps, ns, rfl, hx, hl1, hl2, i1, i2, hb⟩)
  replace B := Lib.hid (B.out.trans (hb.mono B.out.size))
  have z1 := hb.size
  have IP := Lib.hid i1
  have IN := Lib.hid i2
  clear i1 i2 hb
  go_wp2_with fail
  ((with_reducible refine (Im10.ReplyMake ps ns x r _ _ _ _ _ _ _ _ _ _ _ IP.out IN.out).mono ?_); rintro e w2 ⟨AM, cm, BM, dm, g1, g2, rfl, hlie, hg1, hg2, hb⟩)
  replace IP := Lib.hid (IP.out.below hb (Nat.le_refl _))
  replace IN := Lib.hid (IN.out.below hb (Nat.le_refl _))
  replace B := Lib.hid (B.out.trans (hb.mono B.out.size))
  have z2 := hb.size
  have LM := Lib.hid hlie
  clear hlie hb
  generalize hpe : repF x ps ns r = p at *
  generalize hfe : fstF x ps ns r = f at *
  have hal : Below w2.heap.size w2 (w2.alloc (.cells #[.int .i64 f, .int .i64 p.el, .slice AM p.hd.length cm, .int .i64 p.tag] 27)) := (Below.refl _ _).alloc (Nat.le_refl _) _
  have hzz : Blk (w2.alloc (.cells #[.int .i64 f, .int .i64 p.el, .slice AM p.hd.length cm, .int .i64 p.tag] 27)) w2.heap.size #[.int .i64 f, .int .i64 p.el, .slice AM p.hd.length cm, .int .i64 p.tag] 27 := heap_alloc_new _ _
  replace IP := Lib.hid (IP.out.below hal (Nat.le_refl _))
  replace IN := Lib.hid (IN.out.below hal (Nat.le_refl _))
  replace LM := Lib.hid (LM.out.below hal (Nat.le_refl _))
  replace B := Lib.hid (B.out.trans (hal.mono B.out.size))
  have ZM := Lib.hid hzz
  clear hzz
  clear hal
  go_wp2_with fail
  ((with_reducible refine (Sp10.ReplyMake ps ns x r _ _ _ _ _ _ _ _ _ _ _ IP.out IN.out).mono ?_); rintro e w4 ⟨AS, cs, BS, ds, g3, g4, rfl, hlie, hg3, hg4, hb⟩)
  replace IP := Lib.hid (IP.out.below hb (Nat.le_refl _))
  replace IN := Lib.hid (IN.out.below hb (Nat.le_refl _))
  replace LM := Lib.hid (LM.out.below hb (Nat.le_refl _))
  replace ZM := Lib.hid (ZM.out.below hb (Nat.le_refl _))
  replace B := Lib.hid (B.out.trans (hb.mono B.out.size))
  have z4 := hb.size
  have LS := Lib.hid hlie
  clear hlie hb
  rw [hpe] at LS ⊢
  rw [hfe]
  have HPE := Lib.hid hpe
  have HFE := Lib.hid hfe
  clear hpe hfe
  have hal : Below w4.heap.size w4 (w4.alloc (.cells #[.int .i64 f, .int .i64 p.el, .slice AS p.hd.length cs, .int .i64 p.tag] 27)) := (Below.refl _ _).alloc (Nat.le_refl _) _
  have hzz : Blk (w4.alloc (.cells #[.int .i64 f, .int .i64 p.el, .slice AS p.hd.length cs, .int .i64 p.tag] 27)) w4.heap.size #[.int .i64 f, .int .i64 p.el, .slice AS p.hd.length cs, .int .i64 p.tag] 27 := heap_alloc_new _ _
  replace IP := Lib.hid (IP.out.below hal (Nat.le_refl _))
  replace IN := Lib.hid (IN.out.below hal (Nat.le_refl _))
  replace LM := Lib.hid (LM.out.below hal (Nat.le_refl _))
  replace ZM := Lib.hid (ZM.out.below hal (Nat.le_refl _))
  replace LS := Lib.hid (LS.out.below hal (Nat.le_refl _))
  replace B := Lib.hid (B.out.trans (hal.mono B.out.size))
  have ZS := Lib.hid hzz
  clear hzz
  clear hal
  cases hok : makeOk x ps ns r []
  · obtain ⟨m0, m1, m2, m3, mf⟩ := four_cells ZM.out
    obtain ⟨s0, s1, s2, s3, sf⟩ := four_cells ZS.out
    go_wp2_with fail
    ((with_reducible refine (same_bv LM.out.hdr.ints LS.out.hdr.ints).mono ?_); rintro e w6 ⟨rfl, hb⟩)
    replace IP := Lib.hid (IP.out.below hb (Nat.le_refl _))
    replace IN := Lib.hid (IN.out.below hb (Nat.le_refl _))
    replace LM := Lib.hid (LM.out.below hb (Nat.le_refl _))
    replace ZM := Lib.hid (ZM.out.below hb (Nat.le_refl _))
    replace LS := Lib.hid (LS.out.below hb (Nat.le_refl _))
    replace ZS := Lib.hid (ZS.out.below hb (Nat.le_refl _))
    replace B := Lib.hid (B.out.trans (hb.mono B.out.size))
    have z6 := hb.size
    clear hb
    clear m0 m1 m2 m3 mf s0 s1 s2 s3 sf
    go_wp2_with fail
    ((with_reducible refine (Hlp.sameInts _ _ _ _ _ _ _ _ _ _ _ _ _ LM.out.bdy.ints LS.out.bdy.ints).mono ?_); rintro e w7 ⟨rfl, hd⟩)
    have hb0 := drew_below hd
    clear hd
    replace IP := Lib.hid (IP.out.below hb0 (Nat.le_refl _))
    replace IN := Lib.hid (IN.out.below hb0 (Nat.le_refl _))
    replace LM := Lib.hid (LM.out.below hb0 (Nat.le_refl _))
    replace ZM := Lib.hid (ZM.out.below hb0 (Nat.le_refl _))
    replace LS := Lib.hid (LS.out.below hb0 (Nat.le_refl _))
    replace ZS := Lib.hid (ZS.out.below hb0 (Nat.le_refl _))
    replace B := Lib.hid (B.out.trans (hb0.mono B.out.size))
    have z7 := hb0.size
    clear hb0
    rw [decide_eq_true rfl]
    obtain ⟨m0, m1, m2, m3, mf⟩ := four_cells ZM.out
    obtain ⟨s0, s1, s2, s3, sf⟩ := four_cells ZS.out
    go_wp2_with fail
    ((with_reducible refine (same_bv LM.out.hdr.ints LS.out.hdr.ints).mono ?_); rintro e w8 ⟨rfl, hb⟩)
    replace IP := Lib.hid (IP.out.below hb (Nat.le_refl _))
    replace IN := Lib.hid (IN.out.below hb (Nat.le_refl _))
    replace LM := Lib.hid (LM.out.below hb (Nat.le_refl _))
    replace ZM := Lib.hid (ZM.out.below hb (Nat.le_refl _))
    replace LS := Lib.hid (LS.out.below hb (Nat.le_refl _))
    replace ZS := Lib.hid (ZS.out.below hb (Nat.le_refl _))
    replace B := Lib.hid (B.out.trans (hb.mono B.out.size))
    have z8 := hb.size
    clear hb
    clear m0 m1 m2 m3 mf s0 s1 s2 s3 sf
    go_wp2_with fail
    ((with_reducible refine (Hlp.sameInts _ _ _ _ _ _ _ _ _ _ _ _ _ LM.out.bdy.ints LS.out.bdy.ints).mono ?_); rintro e w9 ⟨rfl, hd⟩)
    have hb0 := drew_below hd
    clear hd
    replace IP := Lib.hid (IP.out.below hb0 (Nat.le_refl _))
    replace IN := Lib.hid (IN.out.below hb0 (Nat.le_refl _))
    replace LM := Lib.hid (LM.out.below hb0 (Nat.le_refl _))
    replace ZM := Lib.hid (ZM.out.below hb0 (Nat.le_refl _))
    replace LS := Lib.hid (LS.out.below hb0 (Nat.le_refl _))
    replace ZS := Lib.hid (ZS.out.below hb0 (Nat.le_refl _))
    replace B := Lib.hid (B.out.trans (hb0.mono B.out.size))
    have z9 := hb0.size
    clear hb0
    rw [decide_eq_true rfl]
    clear hok
    go_wp2
    go_ret
    exact ⟨rfl, B.out⟩
  obtain ⟨m0, m1, m2, m3, mf⟩ := four_cells ZM.out
  obtain ⟨s0, s1, s2, s3, sf⟩ := four_cells ZS.out
  go_wp2_with fail
  ((with_reducible refine (same_bv LM.out.hdr.ints LS.out.hdr.ints).mono ?_); rintro e w6 ⟨rfl, hb⟩)
  replace IP := Lib.hid (IP.out.below hb (Nat.le_refl _))
  replace IN := Lib.hid (IN.out.below hb (Nat.le_refl _))
  replace LM := Lib.hid (LM.out.below hb (Nat.le_refl _))
  replace ZM := Lib.hid (ZM.out.below hb (Nat.le_refl _))
  replace LS := Lib.hid (LS.out.below hb (Nat.le_refl _))
  replace ZS := Lib.hid (ZS.out.below hb (Nat.le_refl _))
  replace B := Lib.hid (B.out.trans (hb.mono B.out.size))
  have z6 := hb.size
  clear hb
  clear m0 m1 m2 m3 mf s0 s1 s2 s3 sf
  go_wp2_with fail
  ((with_reducible refine (Hlp.sameInts _ _ _ _ _ _ _ _ _ _ _ _ _ LM.out.bdy.ints LS.out.bdy.ints).mono ?_); rintro e w7 ⟨rfl, hd⟩)
  have hb0 := drew_below hd
  clear hd
  replace IP := Lib.hid (IP.out.below hb0 (Nat.le_refl _))
  replace IN := Lib.hid (IN.out.below hb0 (Nat.le_refl _))
  replace LM := Lib.hid (LM.out.below hb0 (Nat.le_refl _))
  replace ZM := Lib.hid (ZM.out.below hb0 (Nat.le_refl _))
  replace LS := Lib.hid (LS.out.below hb0 (Nat.le_refl _))
  replace ZS := Lib.hid (ZS.out.below hb0 (Nat.le_refl _))
  replace B := Lib.hid (B.out.trans (hb0.mono B.out.size))
  have z7 := hb0.size
  clear hb0
  rw [decide_eq_true rfl]
  have HK := Lib.hid hok
  clear hok
  have HIS := Lib.hid (rep_is HK.out HPE.out HFE.out)
  clear LS ZS
  obtain ⟨e1, e2, e3, e4, e5⟩ := Im10.path_of HK.out
  go_wp2_with fail
  ((with_reducible refine (Im5.PathKeys _ _ _ _ _ ps x _ IP.out).mono ?_); rintro e w8 ⟨AK, ck, rfl, ho, hb⟩)
  replace IP := Lib.hid (IP.out.below hb (Nat.le_refl _))
  replace IN := Lib.hid (IN.out.below hb (Nat.le_refl _))
  replace LM := Lib.hid (LM.out.below hb (Nat.le_refl _))
  replace ZM := Lib.hid (ZM.out.below hb (Nat.le_refl _))
  replace B := Lib.hid (B.out.trans (hb.mono B.out.size))
  have z8 := hb.size
  have OK := Lib.hid ho
  clear ho hb
  rw [e1]
  rw [e2] at OK ⊢
  obtain ⟨i1, i2, i3, -, -, -⟩ := HIS.out
  have hn0 : 0 < ns.length := by omega
  have hn1 : (0 : Int) < (ns.length : Int) := by omega
  have hp1 : (0 : Int) < (ps.length : Int) := by omega
  have hp0 : 0 < ps.length := by omega
  obtain ⟨bn, on, rfl, _, _, n0⟩ := IN.out.at_ hn0
  rw [Nat.add_zero, ← i2] at n0
  have ln : bn < w8.heap.size := World.block_lt_of_cell? w8 _ n0
  have N0 := Lib.hid n0
  have ee : (p.el == mulG x 5) = true := by simpa using i3
  have HBD := Lib.hid i1
  have KD : Hid (Ints _ _ w8.drew AK (keysF x ps).length ck (keysF x ps)) := OK.out.ints
  have BD : Hid (Ints _ _ w8.drew BM p.bd.length dm p.bd) := LM.out.bdy.ints
  clear n0 i1 i2 i3 e1 e2 e3 e4 e5
  go_upto_region 9 with (fail)
  go_region_law (first | (go_simp; go_at_call 19; (with_reducible refine (Grp.iPublic x _).mono ?_); rintro e w' ⟨rfl, rfl⟩) | (go_simp; go_at_call 17; (with_reducible refine (Hlp.sameInts _ _ _ _ _ _ _ _ _ _ _ _ _ BD.out KD.out).mono ?_); rintro e wz ⟨rfl, hd9⟩; rw [decide_eq_true HBD.out]; have hb9 : Below w8.heap.size w8 wz := (bdr (Below.refl _ _)).trans (drew_below hd9); obtain ⟨v0, v1, v2, v3, vf⟩ := four_cells (ZM.out.below hb9 (Nat.le_refl _)); have vn := (hb9.cell (p := ⟨bn, on, none⟩) ln).trans N0.out; have B9 := Lib.hid (B.out.trans (hb9.mono B.out.size)); clear hd9 hb9))
  all_goals
    go_wp2
    go_ret
    exact ⟨rfl, below_dr B9.out 0⟩

set_option maxRecDepth 20000 in
set_option maxHeartbeats 1000000 in
theorem fnReplyPacket (A : Option Addr) (n c : Nat) (A1 : Option Addr) (n1 c1 : Nat) (w : World) (h : CodeIs w A n c) :
    Calls Try.prog 9 #[.slice A n c, .slice A1 n1 c1] w (TruePost w) := by
  have HC := Lib.hid h
  clear h
  by_cases hn : 1048576 < n
  · go_enter Try.func9, Try.ntmps9
    go_wp2
    go_ret
    exact ⟨rfl, Below.refl _ _⟩
  by_cases hn1 : 1048576 < n1
  · go_enter Try.func9, Try.ntmps9
    go_wp2
    go_ret
    exact ⟨rfl, Below.refl _ _⟩
  have B : Hid (Below w.heap.size w w) := Below.refl _ _
  go_enter Try.func9, Try.ntmps9
  have hq : n ≤ 1048576 := by omega
  go_wp2_with fail
  ((with_reducible refine (DrawReplyMake _ _ _ _ HC.out).mono ?_); rintro e w1 ⟨x, r, AP, AN, cp, cn, ps, ns, rfl, hx, hl1, hl2, i1, i2, hb⟩)
  replace B := Lib.hid (B.out.trans (hb.mono B.out.size))
  have z1 := hb.size
  have IP := Lib.hid i1
  have IN := Lib.hid i2
  clear i1 i2 hb
  go_wp2_with fail
  ((with_reducible refine (Im10.ReplyMake ps ns x r _ _ _ _ _ _ _ _ _ _ _ IP.out IN.out).mono ?_); rintro e w2 ⟨AM, cm, BM, dm, g1, g2, rfl, hlie, hg1, hg2, hb⟩)
  replace IP := Lib.hid (IP.out.below hb (Nat.le_refl _))
  replace IN := Lib.hid (IN.out.below hb (Nat.le_refl _))
  replace B := Lib.hid (B.out.trans (hb.mono B.out.size))
  have z2 := hb.size
  have LM := Lib.hid hlie
  clear hlie hb
  generalize hpe : repF x ps ns r = p at *
  generalize hfe : fstF x ps ns r = f at *
  have hal : Below w2.heap.size w2 (w2.alloc (.cells #[.int .i64 f, .int .i64 p.el, .slice AM p.hd.length cm, .int .i64 p.tag] 27)) := (Below.refl _ _).alloc (Nat.le_refl _) _
  have hzz : Blk (w2.alloc (.cells #[.int .i64 f, .int .i64 p.el, .slice AM p.hd.length cm, .int .i64 p.tag] 27)) w2.heap.size #[.int .i64 f, .int .i64 p.el, .slice AM p.hd.length cm, .int .i64 p.tag] 27 := heap_alloc_new _ _
  replace IP := Lib.hid (IP.out.below hal (Nat.le_refl _))
  replace IN := Lib.hid (IN.out.below hal (Nat.le_refl _))
  replace LM := Lib.hid (LM.out.below hal (Nat.le_refl _))
  replace B := Lib.hid (B.out.trans (hal.mono B.out.size))
  have ZM := Lib.hid hzz
  clear hzz
  clear hal
  go_wp2_with fail
  ((with_reducible refine (Sp10.ReplyMake ps ns x r _ _ _ _ _ _ _ _ _ _ _ IP.out IN.out).mono ?_); rintro e w4 ⟨AS, cs, BS, ds, g3, g4, rfl, hlie, hg3, hg4, hb⟩)
  replace IP := Lib.hid (IP.out.below hb (Nat.le_refl _))
  replace IN := Lib.hid (IN.out.below hb (Nat.le_refl _))
  replace LM := Lib.hid (LM.out.below hb (Nat.le_refl _))
  replace ZM := Lib.hid (ZM.out.below hb (Nat.le_refl _))
  replace B := Lib.hid (B.out.trans (hb.mono B.out.size))
  have z4 := hb.size
  have LS := Lib.hid hlie
  clear hlie hb
  rw [hpe] at LS ⊢
  rw [hfe]
  have HPE := Lib.hid hpe
  have HFE := Lib.hid hfe
  clear hpe hfe
  have hal : Below w4.heap.size w4 (w4.alloc (.cells #[.int .i64 f, .int .i64 p.el, .slice AS p.hd.length cs, .int .i64 p.tag] 27)) := (Below.refl _ _).alloc (Nat.le_refl _) _
  have hzz : Blk (w4.alloc (.cells #[.int .i64 f, .int .i64 p.el, .slice AS p.hd.length cs, .int .i64 p.tag] 27)) w4.heap.size #[.int .i64 f, .int .i64 p.el, .slice AS p.hd.length cs, .int .i64 p.tag] 27 := heap_alloc_new _ _
  replace IP := Lib.hid (IP.out.below hal (Nat.le_refl _))
  replace IN := Lib.hid (IN.out.below hal (Nat.le_refl _))
  replace LM := Lib.hid (LM.out.below hal (Nat.le_refl _))
  replace ZM := Lib.hid (ZM.out.below hal (Nat.le_refl _))
  replace LS := Lib.hid (LS.out.below hal (Nat.le_refl _))
  replace B := Lib.hid (B.out.trans (hal.mono B.out.size))
  have ZS := Lib.hid hzz
  clear hzz
  clear hal
  cases hok : makeOk x ps ns r []
  · obtain ⟨m0, m1, m2, m3, mf⟩ := four_cells ZM.out
    obtain ⟨s0, s1, s2, s3, sf⟩ := four_cells ZS.out
    go_wp2_with fail
    ((with_reducible refine (same_bv LM.out.hdr.ints LS.out.hdr.ints).mono ?_); rintro e w6 ⟨rfl, hb⟩)
    replace IP := Lib.hid (IP.out.below hb (Nat.le_refl _))
    replace IN := Lib.hid (IN.out.below hb (Nat.le_refl _))
    replace LM := Lib.hid (LM.out.below hb (Nat.le_refl _))
    replace ZM := Lib.hid (ZM.out.below hb (Nat.le_refl _))
    replace LS := Lib.hid (LS.out.below hb (Nat.le_refl _))
    replace ZS := Lib.hid (ZS.out.below hb (Nat.le_refl _))
    replace B := Lib.hid (B.out.trans (hb.mono B.out.size))
    have z6 := hb.size
    clear hb
    clear m0 m1 m2 m3 mf s0 s1 s2 s3 sf
    go_wp2_with fail
    ((with_reducible refine (Hlp.sameInts _ _ _ _ _ _ _ _ _ _ _ _ _ LM.out.bdy.ints LS.out.bdy.ints).mono ?_); rintro e w7 ⟨rfl, hd⟩)
    have hb0 := drew_below hd
    clear hd
    replace IP := Lib.hid (IP.out.below hb0 (Nat.le_refl _))
    replace IN := Lib.hid (IN.out.below hb0 (Nat.le_refl _))
    replace LM := Lib.hid (LM.out.below hb0 (Nat.le_refl _))
    replace ZM := Lib.hid (ZM.out.below hb0 (Nat.le_refl _))
    replace LS := Lib.hid (LS.out.below hb0 (Nat.le_refl _))
    replace ZS := Lib.hid (ZS.out.below hb0 (Nat.le_refl _))
    replace B := Lib.hid (B.out.trans (hb0.mono B.out.size))
    have z7 := hb0.size
    clear hb0
    rw [decide_eq_true rfl]
    obtain ⟨m0, m1, m2, m3, mf⟩ := four_cells ZM.out
    obtain ⟨s0, s1, s2, s3, sf⟩ := four_cells ZS.out
    go_wp2_with fail
    ((with_reducible refine (same_bv LM.out.hdr.ints LS.out.hdr.ints).mono ?_); rintro e w8 ⟨rfl, hb⟩)
    replace IP := Lib.hid (IP.out.below hb (Nat.le_refl _))
    replace IN := Lib.hid (IN.out.below hb (Nat.le_refl _))
    replace LM := Lib.hid (LM.out.below hb (Nat.le_refl _))
    replace ZM := Lib.hid (ZM.out.below hb (Nat.le_refl _))
    replace LS := Lib.hid (LS.out.below hb (Nat.le_refl _))
    replace ZS := Lib.hid (ZS.out.below hb (Nat.le_refl _))
    replace B := Lib.hid (B.out.trans (hb.mono B.out.size))
    have z8 := hb.size
    clear hb
    clear m0 m1 m2 m3 mf s0 s1 s2 s3 sf
    go_wp2_with fail
    ((with_reducible refine (Hlp.sameInts _ _ _ _ _ _ _ _ _ _ _ _ _ LM.out.bdy.ints LS.out.bdy.ints).mono ?_); rintro e w9 ⟨rfl, hd⟩)
    have hb0 := drew_below hd
    clear hd
    replace IP := Lib.hid (IP.out.below hb0 (Nat.le_refl _))
    replace IN := Lib.hid (IN.out.below hb0 (Nat.le_refl _))
    replace LM := Lib.hid (LM.out.below hb0 (Nat.le_refl _))
    replace ZM := Lib.hid (ZM.out.below hb0 (Nat.le_refl _))
    replace LS := Lib.hid (LS.out.below hb0 (Nat.le_refl _))
    replace ZS := Lib.hid (ZS.out.below hb0 (Nat.le_refl _))
    replace B := Lib.hid (B.out.trans (hb0.mono B.out.size))
    have z9 := hb0.size
    clear hb0
    rw [decide_eq_true rfl]
    clear hok
    go_wp2
    go_ret
    exact ⟨rfl, B.out⟩
  obtain ⟨m0, m1, m2, m3, mf⟩ := four_cells ZM.out
  obtain ⟨s0, s1, s2, s3, sf⟩ := four_cells ZS.out
  go_wp2_with fail
  ((with_reducible refine (same_bv LM.out.hdr.ints LS.out.hdr.ints).mono ?_); rintro e w6 ⟨rfl, hb⟩)
  replace IP := Lib.hid (IP.out.below hb (Nat.le_refl _))
  replace IN := Lib.hid (IN.out.below hb (Nat.le_refl _))
  replace LM := Lib.hid (LM.out.below hb (Nat.le_refl _))
  replace ZM := Lib.hid (ZM.out.below hb (Nat.le_refl _))
  replace LS := Lib.hid (LS.out.below hb (Nat.le_refl _))
  replace ZS := Lib.hid (ZS.out.below hb (Nat.le_refl _))
  replace B := Lib.hid (B.out.trans (hb.mono B.out.size))
  have z6 := hb.size
  clear hb
  clear m0 m1 m2 m3 mf s0 s1 s2 s3 sf
  go_wp2_with fail
  ((with_reducible refine (Hlp.sameInts _ _ _ _ _ _ _ _ _ _ _ _ _ LM.out.bdy.ints LS.out.bdy.ints).mono ?_); rintro e w7 ⟨rfl, hd⟩)
  have hb0 := drew_below hd
  clear hd
  replace IP := Lib.hid (IP.out.below hb0 (Nat.le_refl _))
  replace IN := Lib.hid (IN.out.below hb0 (Nat.le_refl _))
  replace LM := Lib.hid (LM.out.below hb0 (Nat.le_refl _))
  replace ZM := Lib.hid (ZM.out.below hb0 (Nat.le_refl _))
  replace LS := Lib.hid (LS.out.below hb0 (Nat.le_refl _))
  replace ZS := Lib.hid (ZS.out.below hb0 (Nat.le_refl _))
  replace B := Lib.hid (B.out.trans (hb0.mono B.out.size))
  have z7 := hb0.size
  clear hb0
  rw [decide_eq_true rfl]
  have HK := Lib.hid hok
  clear hok
  have HIS := Lib.hid (rep_is HK.out HPE.out HFE.out)
  clear LS ZS
  have hal : Below w7.heap.size w7 (w7.alloc (.cells #[.int .i64 ((n1 : Int) % 900)] 3)) := (Below.refl _ _).alloc (Nat.le_refl _) _
  have hzz : Blk (w7.alloc (.cells #[.int .i64 ((n1 : Int) % 900)] 3)) w7.heap.size #[.int .i64 ((n1 : Int) % 900)] 3 := heap_alloc_new _ _
  replace IP := Lib.hid (IP.out.below hal (Nat.le_refl _))
  replace IN := Lib.hid (IN.out.below hal (Nat.le_refl _))
  replace LM := Lib.hid (LM.out.below hal (Nat.le_refl _))
  replace ZM := Lib.hid (ZM.out.below hal (Nat.le_refl _))
  replace B := Lib.hid (B.out.trans (hal.mono B.out.size))
  have ZV := Lib.hid hzz
  clear hzz
  clear hal
  have IV := Lib.hid (ints_lit1 w7 ((n1 : Int) % 900))
  obtain ⟨hk2, h1, h2, h3⟩ := letter_free HK.out (pack_one (v := ((n1 : Int) % 900)) (by omega))
  obtain ⟨-, -, -, j1, j2, j3⟩ := HIS.out
  rw [← j1] at h1
  rw [← j3] at h2
  rw [← j2] at h3
  clear j1 j2 j3
  go_wp2_with fail
  ((with_reducible refine (Im5.PacketMake _ _ _ _ _ _ _ _ _ _ _ _ _ _ _ ps ns [((n1 : Int) % 900)] x r _ IP.out IN.out IV.out).mono ?_); rintro e w9 ⟨AX, cx, BX, dx, g5, g6, rfl, hlie, hg5, hg6, hb⟩)
  replace IP := Lib.hid (IP.out.below hb (Nat.le_refl _))
  replace IN := Lib.hid (IN.out.below hb (Nat.le_refl _))
  replace LM := Lib.hid (LM.out.below hb (Nat.le_refl _))
  replace ZM := Lib.hid (ZM.out.below hb (Nat.le_refl _))
  replace ZV := Lib.hid (ZV.out.below hb (Nat.le_refl _))
  replace IV := Lib.hid (IV.out.below hb (Nat.le_refl _))
  replace B := Lib.hid (B.out.trans (hb.mono B.out.size))
  have z9 := hb.size
  have LX := Lib.hid hlie
  clear hlie hb
  rw [hk2]
  generalize makeF x ps ns r [((n1 : Int) % 900)] = q at *
  have e1 : (q.el == p.el) = true := by simpa using h1
  have e2 : (q.tag == p.tag) = true := by simpa using h2
  have H3 := Lib.hid h3
  clear h1 h2 h3 hk2
  have hal : Below w9.heap.size w9 (w9.alloc (.cells #[.int .i64 q.el, .slice AX q.hd.length cx, .int .i64 q.tag, .slice BX q.bd.length dx] 39)) := (Below.refl _ _).alloc (Nat.le_refl _) _
  have hzz : Blk (w9.alloc (.cells #[.int .i64 q.el, .slice AX q.hd.length cx, .int .i64 q.tag, .slice BX q.bd.length dx] 39)) w9.heap.size #[.int .i64 q.el, .slice AX q.hd.length cx, .int .i64 q.tag, .slice BX q.bd.length dx] 39 := heap_alloc_new _ _
  replace IP := Lib.hid (IP.out.below hal (Nat.le_refl _))
  replace IN := Lib.hid (IN.out.below hal (Nat.le_refl _))
  replace LM := Lib.hid (LM.out.below hal (Nat.le_refl _))
  replace ZM := Lib.hid (ZM.out.below hal (Nat.le_refl _))
  replace ZV := Lib.hid (ZV.out.below hal (Nat.le_refl _))
  replace IV := Lib.hid (IV.out.below hal (Nat.le_refl _))
  replace LX := Lib.hid (LX.out.below hal (Nat.le_refl _))
  replace B := Lib.hid (B.out.trans (hal.mono B.out.size))
  have ZX := Lib.hid hzz
  clear hzz
  clear hal
  obtain ⟨m0, m1, m2, m3, mf⟩ := four_cells ZM.out
  obtain ⟨s0, s1, s2, s3, sf⟩ := four_cells ZX.out
  go_wp2_with fail
  ((with_reducible refine (Hlp.sameInts _ _ _ _ _ _ _ _ _ _ _ _ _ LX.out.hdr.ints LM.out.hdr.ints).mono ?_); rintro e w11 ⟨rfl, hd⟩)
  have hb0 := drew_below hd
  clear hd
  replace IP := Lib.hid (IP.out.below hb0 (Nat.le_refl _))
  replace IN := Lib.hid (IN.out.below hb0 (Nat.le_refl _))
  replace LM := Lib.hid (LM.out.below hb0 (Nat.le_refl _))
  replace ZM := Lib.hid (ZM.out.below hb0 (Nat.le_refl _))
  replace ZV := Lib.hid (ZV.out.below hb0 (Nat.le_refl _))
  replace IV := Lib.hid (IV.out.below hb0 (Nat.le_refl _))
  replace LX := Lib.hid (LX.out.below hb0 (Nat.le_refl _))
  replace ZX := Lib.hid (ZX.out.below hb0 (Nat.le_refl _))
  replace B := Lib.hid (B.out.trans (hb0.mono B.out.size))
  have z11 := hb0.size
  clear hb0
  clear m0 m1 m2 m3 mf s0 s1 s2 s3 sf
  rw [decide_eq_true H3.out]
  go_wp2
  go_ret
  exact ⟨rfl, B.out⟩

set_option maxRecDepth 20000 in
set_option maxHeartbeats 2000000 in
theorem fnReplyOpen (A : Option Addr) (n c : Nat) (w : World) (h : CodeIs w A n c) :
    Calls Try.prog 6 #[.slice A n c] w (TruePost w) := by
  have HC := Lib.hid h
  clear h
  by_cases hn : 1048576 < n
  · go_enter Try.func6, Try.ntmps6
    go_wp2
    go_ret
    exact ⟨rfl, Below.refl _ _⟩
  have B : Hid (Below w.heap.size w w) := Below.refl _ _
  go_enter Try.func6, Try.ntmps6
  have hq : n ≤ 1048576 := by omega
  go_wp2_with fail
  ((with_reducible refine (DrawReplyOpen _ _ _ _ HC.out).mono ?_); rintro e w1 ⟨AK, AB, ck, cb, ks, bs, rfl, hl1, hl2, i1, i2, hb⟩)
  replace B := Lib.hid (B.out.trans (hb.mono B.out.size))
  have z1 := hb.size
  have IK := Lib.hid i1
  have IB := Lib.hid i2
  clear i1 i2 hb
  go_wp2_with fail
  ((with_reducible refine (Im10.ReplyOpen ks bs _ _ _ _ _ _ _ _ _ _ _ IK.out IB.out).mono ?_); rintro e w2 ⟨AM, cm, rfl, ho, hb⟩)
  replace IK := Lib.hid (IK.out.below hb (Nat.le_refl _))
  replace IB := Lib.hid (IB.out.below hb (Nat.le_refl _))
  replace B := Lib.hid (B.out.trans (hb.mono B.out.size))
  have z2 := hb.size
  have OM := Lib.hid ho
  clear ho hb
  go_wp2_with fail
  ((with_reducible refine (Sp10.ReplyOpen ks bs _ _ _ _ _ _ _ _ _ _ _ IK.out IB.out).mono ?_); rintro e w3 ⟨AS, cs, rfl, ho, hb⟩)
  replace IK := Lib.hid (IK.out.below hb (Nat.le_refl _))
  replace IB := Lib.hid (IB.out.below hb (Nat.le_refl _))
  replace OM := Lib.hid (OM.out.below hb (Nat.le_refl _))
  replace B := Lib.hid (B.out.trans (hb.mono B.out.size))
  have z3 := hb.size
  have OS := Lib.hid ho
  clear ho hb
  cases hok : opnOk ks bs
  · go_wp2_with fail
    ((with_reducible refine (Hlp.sameInts _ _ _ _ _ _ _ _ _ _ _ _ _ OM.out.ints OS.out.ints).mono ?_); rintro e w4 ⟨rfl, hd⟩)
    have hb0 := drew_below hd
    clear hd
    replace IK := Lib.hid (IK.out.below hb0 (Nat.le_refl _))
    replace IB := Lib.hid (IB.out.below hb0 (Nat.le_refl _))
    replace OM := Lib.hid (OM.out.below hb0 (Nat.le_refl _))
    replace OS := Lib.hid (OS.out.below hb0 (Nat.le_refl _))
    replace B := Lib.hid (B.out.trans (hb0.mono B.out.size))
    have z4 := hb0.size
    clear hb0
    rw [decide_eq_true rfl]
    go_wp2_with fail
    ((with_reducible refine (Hlp.sameInts _ _ _ _ _ _ _ _ _ _ _ _ _ OM.out.ints OS.out.ints).mono ?_); rintro e w5 ⟨rfl, hd⟩)
    have hb0 := drew_below hd
    clear hd
    replace IK := Lib.hid (IK.out.below hb0 (Nat.le_refl _))
    replace IB := Lib.hid (IB.out.below hb0 (Nat.le_refl _))
    replace OM := Lib.hid (OM.out.below hb0 (Nat.le_refl _))
    replace OS := Lib.hid (OS.out.below hb0 (Nat.le_refl _))
    replace B := Lib.hid (B.out.trans (hb0.mono B.out.size))
    have z5 := hb0.size
    clear hb0
    rw [decide_eq_true rfl]
    clear hok
    go_wp2
    go_ret
    exact ⟨rfl, B.out⟩
  go_wp2_with fail
  ((with_reducible refine (Hlp.sameInts _ _ _ _ _ _ _ _ _ _ _ _ _ OM.out.ints OS.out.ints).mono ?_); rintro e w4 ⟨rfl, hd⟩)
  have hb0 := drew_below hd
  clear hd
  replace IK := Lib.hid (IK.out.below hb0 (Nat.le_refl _))
  replace IB := Lib.hid (IB.out.below hb0 (Nat.le_refl _))
  replace OM := Lib.hid (OM.out.below hb0 (Nat.le_refl _))
  replace OS := Lib.hid (OS.out.below hb0 (Nat.le_refl _))
  replace B := Lib.hid (B.out.trans (hb0.mono B.out.size))
  have z4 := hb0.size
  clear hb0
  rw [decide_eq_true rfl]
  have HK := Lib.hid hok
  clear hok
  clear OS
  obtain ⟨q1, q2, q3, q4⟩ := opnOk_iff.1 HK.out
  have HBD := Lib.hid (fun k : Nat => body_ok (ks.take k) bs q2)
  have HON := Lib.hid q2
  obtain ⟨p1, p2, p3⟩ := pubs_all q1
  have HKS := Lib.hid p1
  have HBK := Lib.hid (opn_back HK.out)
  have HOP : Hid (openOk (bodyF bs ks) = true ∧ openF (bodyF bs ks) = opnF ks bs) := ⟨q4, (opnF_yes HK.out).symm⟩
  clear q1 q2 q3 q4 p1
  have hcs : w1.heap.size ≤ w4.heap.size := by omega
  have H0 : Hid (∃ B2 c2 g1 l2 h2, (Value.slice AB bs.length cb) = .slice B2 (bodyF bs (ks.take 0)).length c2 ∧ Ints l2 h2 (w4.alloc (.cells #[] 3)) B2 (bodyF bs (ks.take 0)).length c2 (bodyF bs (ks.take 0)) ∧ (h2 ≤ g1 ∨ g1 < l2) ∧ AccB g1 (w4.alloc (.cells #[] 3)) (.slice (some ⟨w4.heap.size, 0, none⟩) 0 0) (ks.reverse.take 0) ∧ w4.heap.size ≤ g1 ∧ Below w4.heap.size w4 (w4.alloc (.cells #[] 3))) :=
    ⟨AB, cb, w4.heap.size, _, _, rfl, IB.out.below ((Below.refl _ _).alloc (Nat.le_refl _) _) (Nat.le_refl _), .inl hcs, accB_new w4, Nat.le_refl _, (Below.refl _ _).alloc (Nat.le_refl _) _⟩
  go_wp2
  go_loopw [9, 10, 11] (fun u v i wr => ∃ k : Nat, k ≤ ks.length ∧ i = .int .i64 k ∧ Hid (∃ B2 c2 g1 l2 h2, u = .slice B2 (bodyF bs (ks.take k)).length c2 ∧ Ints l2 h2 wr B2 (bodyF bs (ks.take k)).length c2 (bodyF bs (ks.take k)) ∧ (h2 ≤ g1 ∨ g1 < l2) ∧ AccB g1 wr v (ks.reverse.take k) ∧ w4.heap.size ≤ g1 ∧ Below w4.heap.size w4 wr)) (fun _ _ i _ => ks.length - (intOf i).toNat)
  case atStart => exact ⟨0, Nat.zero_le _, rfl, H0.out⟩
  case round =>
    obtain ⟨k, hk, rfl, hT⟩ := hrel
    obtain ⟨B2, c2, g1, l2, h2, rfl, hx, hd, hacc, hg1, hbw⟩ := hT
    have HX := Lib.hid hx
    have HA := Lib.hid hacc
    have HB := Lib.hid hbw
    have hsw := hbw.size
    clear hx hacc hbw H0
    by_cases hlt : k < ks.length
    · obtain ⟨b, off, rfl, _, _, hcx0⟩ := IK.out.at_ hlt
      obtain ⟨_, _, e0, _, _, hcy0⟩ := IK.out.at_ (k := ks.length - 1 - k) (by omega)
      simp only [Option.some.injEq, Addr.mk.injEq, and_true] at e0
      obtain ⟨rfl, rfl⟩ := e0
      have lb : b < w4.heap.size := World.block_lt_of_cell? w4 _ hcx0
      have hcx := (HB.out.cell (p := ⟨b, off + k, none⟩) lb).trans hcx0
      have HS := Lib.hid (bodyF_take (b := bs) hlt)
      have HRV : Hid (ks.reverse.take (k + 1) = ks.reverse.take k ++ [ks.getD (ks.length - 1 - k) 0]) := by
        show _ = _
        rw [take_succ_getD (by simpa using hlt), List.getD_eq_getElem?_getD, List.getElem?_reverse (by omega), ← List.getD_eq_getElem?_getD]
      have HO : Hid (onF (bodyF bs (ks.take k)) (ks.getD k 0) = bodyF bs (ks.take (k + 1))) := by
        show _ = _
        rw [onF_yes (HBD.out k) (HKS.out _ (getD_mem hlt)), HS.out]
      have hkl : (ks.reverse.take k).length ≤ 10 := by rw [List.length_take]; omega
      generalize ks.getD k 0 = key at hcx HO
      have i1 : 0 ≤ (ks.length : Int) - 1 - (k : Int) := by omega
      have i2 : (ks.length : Int) - 1 - (k : Int) < (ks.length : Int) := by omega
      have i3 : ((ks.length : Int) - 1 - (k : Int)).toNat = ks.length - 1 - k := by omega
      clear hcx0 HS
      go_wp2_with fail
      ((with_reducible refine (Im2.MaskOn _ _ _ _ _ (bodyF bs (ks.take k)) key wr HX.out).mono ?_); rintro e w7 ⟨A7, c7, rfl, ho7, hb7⟩)
      rw [HO.out] at ho7 ⊢
      have hs7 := hb7.size
      have hcy := ((HB.out.trans (hb7.mono HB.out.size)).cell (p := ⟨b, off + (ks.length - 1 - k), none⟩) lb).trans hcy0
      have HA7 := Lib.hid (HA.out.keep (row := none) ⟨hb7.os, hb7.tape, hb7.output, hb7.size, fun i hi _ => hb7.block i hi⟩ (by simp))
      have HB7 := Lib.hid (HB.out.trans (hb7.mono HB.out.size))
      have HO7 := Lib.hid ho7
      have lg := HA.out.lt
      clear ho7 hb7 HB HA HX hcx hcy0
      generalize ks.getD (ks.length - 1 - k) 0 = kv at hcy HRV
      go_wp2_with (at_builtin; refine wpList_app1B _ _ _ _ kv HA7.out (by omega) _ _ rfl rfl rfl rfl ?_; intro g8 v8 w8 hN8 hW8 hG8)
      rw [← HRV.out] at hN8
      have HN : Hid (∃ B2 c2 g1 l2 h2, (Value.slice A7 (bodyF bs (ks.take (k + 1))).length c7) = .slice B2 (bodyF bs (ks.take (k + 1))).length c2 ∧ Ints l2 h2 w8 B2 (bodyF bs (ks.take (k + 1))).length c2 (bodyF bs (ks.take (k + 1))) ∧ (h2 ≤ g1 ∨ g1 < l2) ∧ AccB g1 w8 v8 (ks.reverse.take (k + 1)) ∧ w4.heap.size ≤ g1 ∧ Below w4.heap.size w4 w8) :=
        ⟨A7, c7, g8, wr.heap.size, w7.heap.size, rfl, HO7.out.ints.grown hG8 (fun k e => by cases e; omega), by omega, hN8, by omega, HB7.out.grown hG8 HB7.out.size (fun k e => by cases e; omega)⟩
      clear hN8 hG8 HO7 HA7 HB7 hcy HRV HO
      exact ⟨⟨k + 1, by omega, by go_num, HN.out⟩, by simp [intOf]; omega⟩
    · obtain rfl : k = ks.length := by omega
      obtain ⟨cA, rfl, hoA⟩ := HA.out.own
      have e1 : ks.reverse.take ks.length = ks.reverse := List.take_of_length_le (by simp)
      have e2 : ks.take ks.length = ks := List.take_of_length_le (Nat.le_refl _)
      rw [e1] at hoA ⊢
      rw [e2] at HX ⊢
      clear e1 e2
      rw [List.length_reverse] at hoA ⊢
      have HOA := Lib.hid hoA
      have OM2 := Lib.hid (OM.out.ints.below HB.out (Nat.le_refl _))
      have IB2 := Lib.hid (IB.out.below HB.out (Nat.le_refl _))
      have B2 := Lib.hid (B.out.trans (HB.out.mono B.out.size))
      clear hoA HA HB OM IB B hlt
      go_wp2_with fail
      ((with_reducible refine (Im4.LetterOpen _ _ _ _ _ (bodyF bs ks) wr HX.out).mono ?_); rintro e w7 ⟨A7, c7, rfl, ho7, hb7⟩)
      rw [HOP.out.2] at ho7 ⊢
      rw [HOP.out.1]
      have O7 := Lib.hid ho7.ints
      replace HOA := Lib.hid (HOA.out.below hb7 (Nat.le_refl _))
      replace OM2 := Lib.hid (OM2.out.below hb7 (Nat.le_refl _))
      replace IB2 := Lib.hid (IB2.out.below hb7 (Nat.le_refl _))
      replace B2 := Lib.hid (B2.out.trans (hb7.mono B2.out.size))
      clear ho7 hb7 HX
      go_wp2_with fail
      ((with_reducible refine (Im10.ReplyOpen ks.reverse bs _ _ _ _ _ _ _ _ _ _ _ HOA.out.ints IB2.out).mono ?_); rintro e w8 ⟨A8, c8, rfl, ho8, hb8⟩)
      rw [HBK.out.2] at ho8 ⊢
      rw [HBK.out.1]
      have O8 := Lib.hid ho8.ints
      replace O7 := Lib.hid (O7.out.below hb8 (Nat.le_refl _))
      replace OM2 := Lib.hid (OM2.out.below hb8 (Nat.le_refl _))
      replace B2 := Lib.hid (B2.out.trans (hb8.mono B2.out.size))
      clear ho8 hb8 HOA IB2
      go_wp2_with fail
      ((with_reducible refine (Hlp.sameInts _ _ _ _ _ _ _ _ _ _ _ _ _ O7.out OM2.out).mono ?_); rintro e w9 ⟨rfl, hd⟩)
      have hb9 := drew_below hd
      rw [decide_eq_true rfl]
      replace O8 := Lib.hid (O8.out.below hb9 (Nat.le_refl _))
      replace OM2 := Lib.hid (OM2.out.below hb9 (Nat.le_refl _))
      replace B2 := Lib.hid (B2.out.trans (hb9.mono B2.out.size))
      clear hd hb9 O7
      go_wp2_with fail
      ((with_reducible refine (Hlp.sameInts _ _ _ _ _ _ _ _ _ _ _ _ _ O8.out OM2.out).mono ?_); rintro e w10 ⟨rfl, hd⟩)
      have hb9 := drew_below hd
      rw [decide_eq_true rfl]
      replace B2 := Lib.hid (B2.out.trans (hb9.mono B2.out.size))
      clear hd hb9 O8 OM2
      go_wp2
      go_ret
      exact ⟨rfl, B2.out⟩

set_option maxRecDepth 20000 in
set_option maxHeartbeats 1000000 in
theorem fnReplyChange (A : Option Addr) (n c : Nat) (A1 : Option Addr) (n1 c1 : Nat) (w : World) (h : CodeIs w A n c) :
    Calls Try.prog 7 #[.slice A n c, .slice A1 n1 c1] w (TruePost w) := by
  have HC := Lib.hid h
  clear h
  by_cases hn : 1048576 < n
  · go_enter Try.func7, Try.ntmps7
    go_wp2
    go_ret
    exact ⟨rfl, Below.refl _ _⟩
  by_cases hn1 : 1048576 < n1
  · go_enter Try.func7, Try.ntmps7
    go_wp2
    go_ret
    exact ⟨rfl, Below.refl _ _⟩
  have B : Hid (Below w.heap.size w w) := Below.refl _ _
  go_enter Try.func7, Try.ntmps7
  have hq : n ≤ 1048576 := by omega
  go_wp2_with fail
  ((with_reducible refine (DrawReplyOpen _ _ _ _ HC.out).mono ?_); rintro e w1 ⟨AK, AB, ck, cb, ks, bs, rfl, hl1, hl2, i1, i2, hb⟩)
  replace B := Lib.hid (B.out.trans (hb.mono B.out.size))
  have z1 := hb.size
  have IK := Lib.hid i1
  have IB := Lib.hid i2
  clear i1 i2 hb
  go_wp2_with fail
  ((with_reducible refine (Im10.ReplyOpen ks bs _ _ _ _ _ _ _ _ _ _ _ IK.out IB.out).mono ?_); rintro e w2 ⟨AM, cm, rfl, ho, hb⟩)
  replace IK := Lib.hid (IK.out.below hb (Nat.le_refl _))
  replace IB := Lib.hid (IB.out.below hb (Nat.le_refl _))
  replace B := Lib.hid (B.out.trans (hb.mono B.out.size))
  have z2 := hb.size
  have OM := Lib.hid ho
  clear ho hb
  go_wp2_with fail
  ((with_reducible refine (Sp10.ReplyOpen ks bs _ _ _ _ _ _ _ _ _ _ _ IK.out IB.out).mono ?_); rintro e w3 ⟨AS, cs, rfl, ho, hb⟩)
  replace IK := Lib.hid (IK.out.below hb (Nat.le_refl _))
  replace IB := Lib.hid (IB.out.below hb (Nat.le_refl _))
  replace OM := Lib.hid (OM.out.below hb (Nat.le_refl _))
  replace B := Lib.hid (B.out.trans (hb.mono B.out.size))
  have z3 := hb.size
  have OS := Lib.hid ho
  clear ho hb
  cases hok : opnOk ks bs
  · go_wp2_with fail
    ((with_reducible refine (Hlp.sameInts _ _ _ _ _ _ _ _ _ _ _ _ _ OM.out.ints OS.out.ints).mono ?_); rintro e w4 ⟨rfl, hd⟩)
    have hb0 := drew_below hd
    clear hd
    replace IK := Lib.hid (IK.out.below hb0 (Nat.le_refl _))
    replace IB := Lib.hid (IB.out.below hb0 (Nat.le_refl _))
    replace OM := Lib.hid (OM.out.below hb0 (Nat.le_refl _))
    replace OS := Lib.hid (OS.out.below hb0 (Nat.le_refl _))
    replace B := Lib.hid (B.out.trans (hb0.mono B.out.size))
    have z4 := hb0.size
    clear hb0
    rw [decide_eq_true rfl]
    go_wp2_with fail
    ((with_reducible refine (Hlp.sameInts _ _ _ _ _ _ _ _ _ _ _ _ _ OM.out.ints OS.out.ints).mono ?_); rintro e w5 ⟨rfl, hd⟩)
    have hb0 := drew_below hd
    clear hd
    replace IK := Lib.hid (IK.out.below hb0 (Nat.le_refl _))
    replace IB := Lib.hid (IB.out.below hb0 (Nat.le_refl _))
    replace OM := Lib.hid (OM.out.below hb0 (Nat.le_refl _))
    replace OS := Lib.hid (OS.out.below hb0 (Nat.le_refl _))
    replace B := Lib.hid (B.out.trans (hb0.mono B.out.size))
    have z5 := hb0.size
    clear hb0
    rw [decide_eq_true rfl]
    clear hok
    go_wp2
    go_ret
    exact ⟨rfl, B.out⟩
  go_wp2_with fail
  ((with_reducible refine (Hlp.sameInts _ _ _ _ _ _ _ _ _ _ _ _ _ OM.out.ints OS.out.ints).mono ?_); rintro e w4 ⟨rfl, hd⟩)
  have hb0 := drew_below hd
  clear hd
  replace IK := Lib.hid (IK.out.below hb0 (Nat.le_refl _))
  replace IB := Lib.hid (IB.out.below hb0 (Nat.le_refl _))
  replace OM := Lib.hid (OM.out.below hb0 (Nat.le_refl _))
  replace OS := Lib.hid (OS.out.below hb0 (Nat.le_refl _))
  replace B := Lib.hid (B.out.trans (hb0.mono B.out.size))
  have z4 := hb0.size
  clear hb0
  rw [decide_eq_true rfl]
  have HK := Lib.hid hok
  clear hok
  clear OS
  obtain ⟨q1, q2, q3, q4⟩ := opnOk_iff.1 HK.out
  have hpos : 0 < bs.length := by omega
  have hle : bs.length ≤ 6 := by omega
  obtain ⟨q, hq1, hqm⟩ : ∃ q : Nat, q < bs.length ∧ (n1 : Int) % (bs.length : Int) = (q : Int) := ⟨n1 % bs.length, Nat.mod_lt n1 hpos, rfl⟩
  have hnl : ¬ bs.length = 0 := by omega
  have hxq := okL_at q2 hq1
  clear q1 q2 q3 q4
  obtain ⟨bl, ol, rfl, _, _, _⟩ := IB.out.at_ hq1
  have hal : Below w4.heap.size w4 (w4.alloc (.cells #[] 3)) := (Below.refl _ _).alloc (Nat.le_refl _) _
  have L1 := Lib.hid (IB.out.below hal (Nat.le_refl _))
  have HA := Lib.hid (acc_new w4)
  clear hal
  generalize hxe : bs.getD q 0 = x at hxq
  have HXE := Lib.hid hxe
  clear hxe
  go_wp2_with (at_builtin; refine wpList_appL _ _ _ _ HA.out _ _ _ _ _ _ L1.out hpos (by simp; omega) _ _ rfl rfl rfl rfl ?_; intro vx wx hAcc _; rw [List.nil_append] at hAcc; obtain ⟨bx, fx, cx, rfl, OX, lx, hx, cxq, fxq, HBX⟩ := acc_open hAcc hq1; rw [HXE.out] at cxq; clear hAcc)
  have hbx := HBX.out
  replace IK := Lib.hid (IK.out.below hbx (Nat.le_refl _))
  replace IB := Lib.hid (IB.out.below hbx (Nat.le_refl _))
  replace OM := Lib.hid (OM.out.below hbx (Nat.le_refl _))
  replace B := Lib.hid (B.out.trans (hbx.mono B.out.size))
  have zx := hbx.size
  clear hbx HBX L1 HA
  obtain ⟨hy, hyn⟩ := another_ne x ((n : Int) % 989)
  go_wp2_with fail
  ((with_reducible refine (Elt.another x ((n : Int) % 989) _ (by omega) (by omega) (by omega) (by omega)).mono ?_); rintro e w' ⟨rfl, rfl⟩)
  generalize (x + 1 + ((n : Int) % 989) % 990) % 991 = y at hy hyn ⊢
  have OY := Lib.hid (OX.out.set_ hq1 y)
  have hfar : ∀ i, i ≠ bx → (wx.setCell ⟨bx, fx + q, none⟩ (.int .i64 y)).heap[i]? = wx.heap[i]? := fun i hi => Below.heap_setCell _ _ _ _ hi
  have hsz : wx.heap.size ≤ (wx.setCell ⟨bx, fx + q, none⟩ (.int .i64 y)).heap.size := by simp [World.setCell]
  have hsy : (wx.setCell ⟨bx, fx + q, none⟩ (.int .i64 y)).heap.size ≤ wx.heap.size := by simp [World.setCell]
  replace IK := Lib.hid (IK.out.keep hsz fun i h1 h2 h3 => hfar i (by omega))
  replace IB := Lib.hid (IB.out.keep hsz fun i h1 h2 h3 => hfar i (by omega))
  replace OM := Lib.hid (OM.out.keep hsz fun i h1 h2 h3 => hfar i (by omega))
  replace B := Lib.hid (B.out.setCell (p := ⟨bx, fx + q, none⟩) (show w.heap.size ≤ bx by omega) (.int .i64 y))
  clear hfar OX
  go_wp2_with fail
  clear cxq fxq
  generalize wx.setCell ⟨bx, fx + q, none⟩ (.int .i64 y) = wy at *
  have hs : opnOk ks (bs.set q y) = false := opn_set HK.out hq1 hy (by rw [HXE.out]; exact hyn)
  have HS := Lib.hid hs
  clear hs hqm
  go_wp2_with fail
  ((with_reducible refine (Im10.ReplyOpen ks (bs.set q y) _ _ _ _ _ _ _ _ _ _ _ IK.out OY.out.ints).mono ?_); rintro e w6 ⟨AZ, cz, rfl, ho, hb⟩)
  replace IK := Lib.hid (IK.out.below hb (Nat.le_refl _))
  replace IB := Lib.hid (IB.out.below hb (Nat.le_refl _))
  replace OM := Lib.hid (OM.out.below hb (Nat.le_refl _))
  replace OY := Lib.hid (OY.out.below hb (Nat.le_refl _))
  replace B := Lib.hid (B.out.trans (hb.mono B.out.size))
  have z6 := hb.size
  have OZ := Lib.hid ho
  clear ho hb
  rw [HS.out]
  go_wp2
  go_ret
  exact ⟨rfl, B.out⟩

set_option maxRecDepth 20000 in
set_option maxHeartbeats 1000000 in
theorem fnReplyAlike (A : Option Addr) (n c : Nat) (w : World) (h : CodeIs w A n c) :
    Calls Try.prog 5 #[.slice A n c] w (TruePost w) := by
  have HC := Lib.hid h
  clear h
  by_cases hn : 1048576 < n
  · go_enter Try.func5, Try.ntmps5
    go_wp2
    go_ret
    exact ⟨rfl, Below.refl _ _⟩
  have B : Hid (Below w.heap.size w w) := Below.refl _ _
  go_enter Try.func5, Try.ntmps5
  have hq : n ≤ 1048576 := by omega
  go_wp2_with fail
  ((with_reducible refine (DrawReplyFill _ _ _ _ HC.out).mono ?_); rintro e w1 ⟨f, el, tag, AH, AL, ch, cl, hd, ls, rfl, hl1, hl2, i1, i2, hb⟩)
  replace B := Lib.hid (B.out.trans (hb.mono B.out.size))
  have z1 := hb.size
  have IH := Lib.hid i1
  have IL := Lib.hid i2
  clear i1 i2 hb
  have hal : Below w1.heap.size w1 (w1.alloc (.cells #[.int .i64 f, .int .i64 el, .slice AH hd.length ch, .int .i64 tag] 27)) := (Below.refl _ _).alloc (Nat.le_refl _) _
  have hzz : Blk (w1.alloc (.cells #[.int .i64 f, .int .i64 el, .slice AH hd.length ch, .int .i64 tag] 27)) w1.heap.size #[.int .i64 f, .int .i64 el, .slice AH hd.length ch, .int .i64 tag] 27 := heap_alloc_new _ _
  replace IH := Lib.hid (IH.out.below hal (Nat.le_refl _))
  replace IL := Lib.hid (IL.out.below hal (Nat.le_refl _))
  replace B := Lib.hid (B.out.trans (hal.mono B.out.size))
  have ZD := Lib.hid hzz
  clear hzz
  clear hal
  obtain ⟨d0, d1, d2, d3, df⟩ := four_cells ZD.out
  go_wp2_with fail
  ((with_reducible refine (Im10.ReplyFill f el tag hd ls _ _ _ _ _ _ _ _ _ _ _ IH.out (by omega) IL.out).mono ?_); rintro e w3 ⟨AM, cm, BM, dm, g1, g2, rfl, hlie, hg1, hg2, hb⟩)
  replace IH := Lib.hid (IH.out.below hb (Nat.le_refl _))
  replace IL := Lib.hid (IL.out.below hb (Nat.le_refl _))
  replace ZD := Lib.hid (ZD.out.below hb (Nat.le_refl _))
  replace B := Lib.hid (B.out.trans (hb.mono B.out.size))
  have z3 := hb.size
  have LM := Lib.hid hlie
  clear hlie hb
  clear d0 d1 d2 d3 df
  obtain ⟨p, HPE⟩ : ∃ p, Hid (fillR f el hd tag ls = p) := ⟨_, rfl⟩
  rw [HPE.out] at LM ⊢
  have hal : Below w3.heap.size w3 (w3.alloc (.cells #[.int .i64 p.el, .slice AM p.hd.length cm, .int .i64 p.tag, .slice BM p.bd.length dm] 39)) := (Below.refl _ _).alloc (Nat.le_refl _) _
  have hzz : Blk (w3.alloc (.cells #[.int .i64 p.el, .slice AM p.hd.length cm, .int .i64 p.tag, .slice BM p.bd.length dm] 39)) w3.heap.size #[.int .i64 p.el, .slice AM p.hd.length cm, .int .i64 p.tag, .slice BM p.bd.length dm] 39 := heap_alloc_new _ _
  replace IH := Lib.hid (IH.out.below hal (Nat.le_refl _))
  replace IL := Lib.hid (IL.out.below hal (Nat.le_refl _))
  replace ZD := Lib.hid (ZD.out.below hal (Nat.le_refl _))
  replace LM := Lib.hid (LM.out.below hal (Nat.le_refl _))
  replace B := Lib.hid (B.out.trans (hal.mono B.out.size))
  have ZM := Lib.hid hzz
  clear hzz
  clear hal
  obtain ⟨d0, d1, d2, d3, df⟩ := four_cells ZD.out
  go_wp2_with fail
  ((with_reducible refine (Sp10.ReplyFill f el tag hd ls _ _ _ _ _ _ _ _ _ _ _ IH.out (by omega) IL.out).mono ?_); rintro e w5 ⟨AS, cs, BS, ds, g3, g4, rfl, hlie, hg3, hg4, hb⟩)
  replace IH := Lib.hid (IH.out.below hb (Nat.le_refl _))
  replace IL := Lib.hid (IL.out.below hb (Nat.le_refl _))
  replace ZD := Lib.hid (ZD.out.below hb (Nat.le_refl _))
  replace LM := Lib.hid (LM.out.below hb (Nat.le_refl _))
  replace ZM := Lib.hid (ZM.out.below hb (Nat.le_refl _))
  replace B := Lib.hid (B.out.trans (hb.mono B.out.size))
  have z5 := hb.size
  have LS := Lib.hid hlie
  clear hlie hb
  clear d0 d1 d2 d3 df
  rw [HPE.out] at LS ⊢
  have hal : Below w5.heap.size w5 (w5.alloc (.cells #[.int .i64 p.el, .slice AS p.hd.length cs, .int .i64 p.tag, .slice BS p.bd.length ds] 39)) := (Below.refl _ _).alloc (Nat.le_refl _) _
  have hzz : Blk (w5.alloc (.cells #[.int .i64 p.el, .slice AS p.hd.length cs, .int .i64 p.tag, .slice BS p.bd.length ds] 39)) w5.heap.size #[.int .i64 p.el, .slice AS p.hd.length cs, .int .i64 p.tag, .slice BS p.bd.length ds] 39 := heap_alloc_new _ _
  replace IH := Lib.hid (IH.out.below hal (Nat.le_refl _))
  replace IL := Lib.hid (IL.out.below hal (Nat.le_refl _))
  replace ZD := Lib.hid (ZD.out.below hal (Nat.le_refl _))
  replace LM := Lib.hid (LM.out.below hal (Nat.le_refl _))
  replace ZM := Lib.hid (ZM.out.below hal (Nat.le_refl _))
  replace LS := Lib.hid (LS.out.below hal (Nat.le_refl _))
  replace B := Lib.hid (B.out.trans (hal.mono B.out.size))
  have ZS := Lib.hid hzz
  clear hzz
  clear hal
  cases hok : fillOk f el hd tag ls
  · obtain ⟨m0, m1, m2, m3, mf⟩ := four_cells ZM.out
    obtain ⟨s0, s1, s2, s3, sf⟩ := four_cells ZS.out
    go_wp2_with fail
    ((with_reducible refine (samePacket p _ _ _ _ _ _ _ _ _ _ _ _ _ _ _ _ _ LM.out.hdr.ints LM.out.bdy.ints LS.out.hdr.ints LS.out.bdy.ints).mono ?_); rintro e w7 ⟨rfl, hb⟩)
    replace IH := Lib.hid (IH.out.below hb (Nat.le_refl _))
    replace IL := Lib.hid (IL.out.below hb (Nat.le_refl _))
    replace ZD := Lib.hid (ZD.out.below hb (Nat.le_refl _))
    replace LM := Lib.hid (LM.out.below hb (Nat.le_refl _))
    replace ZM := Lib.hid (ZM.out.below hb (Nat.le_refl _))
    replace LS := Lib.hid (LS.out.below hb (Nat.le_refl _))
    replace ZS := Lib.hid (ZS.out.below hb (Nat.le_refl _))
    replace B := Lib.hid (B.out.trans (hb.mono B.out.size))
    have z7 := hb.size
    clear hb
    clear m0 m1 m2 m3 mf s0 s1 s2 s3 sf
    obtain ⟨m0, m1, m2, m3, mf⟩ := four_cells ZM.out
    obtain ⟨s0, s1, s2, s3, sf⟩ := four_cells ZS.out
    go_wp2_with fail
    ((with_reducible refine (samePacket p _ _ _ _ _ _ _ _ _ _ _ _ _ _ _ _ _ LM.out.hdr.ints LM.out.bdy.ints LS.out.hdr.ints LS.out.bdy.ints).mono ?_); rintro e w8 ⟨rfl, hb⟩)
    replace IH := Lib.hid (IH.out.below hb (Nat.le_refl _))
    replace IL := Lib.hid (IL.out.below hb (Nat.le_refl _))
    replace ZD := Lib.hid (ZD.out.below hb (Nat.le_refl _))
    replace LM := Lib.hid (LM.out.below hb (Nat.le_refl _))
    replace ZM := Lib.hid (ZM.out.below hb (Nat.le_refl _))
    replace LS := Lib.hid (LS.out.below hb (Nat.le_refl _))
    replace ZS := Lib.hid (ZS.out.below hb (Nat.le_refl _))
    replace B := Lib.hid (B.out.trans (hb.mono B.out.size))
    have z8 := hb.size
    clear hb
    clear m0 m1 m2 m3 mf s0 s1 s2 s3 sf
    clear hok
    go_wp2
    go_ret
    exact ⟨rfl, B.out⟩
  obtain ⟨m0, m1, m2, m3, mf⟩ := four_cells ZM.out
  obtain ⟨s0, s1, s2, s3, sf⟩ := four_cells ZS.out
  go_wp2_with fail
  ((with_reducible refine (samePacket p _ _ _ _ _ _ _ _ _ _ _ _ _ _ _ _ _ LM.out.hdr.ints LM.out.bdy.ints LS.out.hdr.ints LS.out.bdy.ints).mono ?_); rintro e w7 ⟨rfl, hb⟩)
  replace IH := Lib.hid (IH.out.below hb (Nat.le_refl _))
  replace IL := Lib.hid (IL.out.below hb (Nat.le_refl _))
  replace ZD := Lib.hid (ZD.out.below hb (Nat.le_refl _))
  replace LM := Lib.hid (LM.out.below hb (Nat.le_refl _))
  replace ZM := Lib.hid (ZM.out.below hb (Nat.le_refl _))
  replace LS := Lib.hid (LS.out.below hb (Nat.le_refl _))
  replace ZS := Lib.hid (ZS.out.below hb (Nat.le_refl _))
  replace B := Lib.hid (B.out.trans (hb.mono B.out.size))
  have z7 := hb.size
  clear hb
  clear m0 m1 m2 m3 mf s0 s1 s2 s3 sf
  obtain ⟨q1, q2, q3⟩ := fillOk_iff.1 hok
  have h0 := HPE.out
  rw [fillR_yes hok] at h0
  have HQ := Lib.hid q1
  have HE : Hid (p.bd = packF ls ∧ p.hd = hd ∧ p.tag = tag ∧ pktOk ⟨p.el, p.hd, p.tag, p.bd⟩ = true) := by rw [← h0]; exact ⟨(packF_yes q1).symm, rfl, rfl, q3⟩
  clear q1 q2 q3 h0 hok
  clear LS ZS
  go_wp2_with fail
  ((with_reducible refine (Im4.LetterPack _ _ _ _ _ ls _ IL.out).mono ?_); rintro e w8 ⟨AB, cb, rfl, ho, hb⟩)
  replace IH := Lib.hid (IH.out.below hb (Nat.le_refl _))
  replace IL := Lib.hid (IL.out.below hb (Nat.le_refl _))
  replace ZD := Lib.hid (ZD.out.below hb (Nat.le_refl _))
  replace LM := Lib.hid (LM.out.below hb (Nat.le_refl _))
  replace ZM := Lib.hid (ZM.out.below hb (Nat.le_refl _))
  replace B := Lib.hid (B.out.trans (hb.mono B.out.size))
  have z8 := hb.size
  have OB := Lib.hid ho
  clear ho hb
  rw [HQ.out]
  obtain ⟨m0, m1, m2, m3, mf⟩ := four_cells ZM.out
  go_wp2_with fail
  ((with_reducible refine (Hlp.sameInts _ _ _ _ _ _ _ _ _ _ _ _ _ LM.out.bdy.ints OB.out.ints).mono ?_); rintro e w9 ⟨rfl, hd⟩)
  have hb0 := drew_below hd
  clear hd
  replace IH := Lib.hid (IH.out.below hb0 (Nat.le_refl _))
  replace IL := Lib.hid (IL.out.below hb0 (Nat.le_refl _))
  replace ZD := Lib.hid (ZD.out.below hb0 (Nat.le_refl _))
  replace LM := Lib.hid (LM.out.below hb0 (Nat.le_refl _))
  replace ZM := Lib.hid (ZM.out.below hb0 (Nat.le_refl _))
  replace OB := Lib.hid (OB.out.below hb0 (Nat.le_refl _))
  replace B := Lib.hid (B.out.trans (hb0.mono B.out.size))
  have z9 := hb0.size
  clear hb0
  clear m0 m1 m2 m3 mf
  rw [decide_eq_true HE.out.1]
  obtain ⟨m0, m1, m2, m3, mf⟩ := four_cells ZM.out
  go_wp2_with fail
  ((with_reducible refine (Im5.PacketValid _ _ _ _ _ _ _ _ _ _ p.el p.tag p.hd p.bd _ LM.out.hdr.ints LM.out.bdy.ints).mono ?_); rintro e w10 ⟨rfl, hb⟩)
  replace IH := Lib.hid (IH.out.below hb (Nat.le_refl _))
  replace IL := Lib.hid (IL.out.below hb (Nat.le_refl _))
  replace ZD := Lib.hid (ZD.out.below hb (Nat.le_refl _))
  replace LM := Lib.hid (LM.out.below hb (Nat.le_refl _))
  replace ZM := Lib.hid (ZM.out.below hb (Nat.le_refl _))
  replace OB := Lib.hid (OB.out.below hb (Nat.le_refl _))
  replace B := Lib.hid (B.out.trans (hb.mono B.out.size))
  have z10 := hb.size
  clear hb
  clear m0 m1 m2 m3 mf
  rw [HE.out.2.2.2]
  obtain ⟨d0, d1, d2, d3, df⟩ := four_cells ZD.out
  obtain ⟨m0, m1, m2, m3, mf⟩ := four_cells ZM.out
  go_wp2_with fail
  ((with_reducible refine (Hlp.sameInts _ _ _ _ _ _ _ _ _ _ _ _ _ LM.out.hdr.ints IH.out).mono ?_); rintro e w11 ⟨rfl, hd⟩)
  have hb0 := drew_below hd
  clear hd
  replace IH := Lib.hid (IH.out.below hb0 (Nat.le_refl _))
  replace IL := Lib.hid (IL.out.below hb0 (Nat.le_refl _))
  replace ZD := Lib.hid (ZD.out.below hb0 (Nat.le_refl _))
  replace LM := Lib.hid (LM.out.below hb0 (Nat.le_refl _))
  replace ZM := Lib.hid (ZM.out.below hb0 (Nat.le_refl _))
  replace OB := Lib.hid (OB.out.below hb0 (Nat.le_refl _))
  replace B := Lib.hid (B.out.trans (hb0.mono B.out.size))
  have z11 := hb0.size
  clear hb0
  clear m0 m1 m2 m3 mf
  clear d0 d1 d2 d3 df
  rw [decide_eq_true HE.out.2.1]
  have et : (p.tag == tag) = true := by simpa using HE.out.2.2.1
  obtain ⟨m0, m1, m2, m3, mf⟩ := four_cells ZM.out
  obtain ⟨d0, d1, d2, d3, df⟩ := four_cells ZD.out
  go_wp2
  go_ret
  exact ⟨rfl, B.out⟩

end Law10
end Go.Proofs.Ytljfhddgifacnaa
