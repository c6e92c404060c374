/-
  The laws on tickets: made, checked, audited.
-/
import Derived.Test.YtecdoibdpimlaaaDr12
import Derived.Test.YtecdoibdpimlaaaElt
import Derived.Test.YtecdoibdpimlaaaGrp
import Derived.BigQuiet
import Derived.Deep.RegionLaw
import Derived.Deep.Cut
namespace Go.Proofs.Ytecdoibdpimlaaa
open Go.RowKit
namespace Law12
open Il Sl Gm Cm Cs Tk Sp12 Rd
theorem codeIs_below {w w' : World} {A : Option Addr} {n c : Nat} (h : CodeIs w A n c) (hb : Below w.heap.size w w') : CodeIs w' A n c := by
  refine ⟨h.1, h.2.1, fun hn => ?_⟩
  obtain ⟨b, off, e, hl, hc⟩ := h.2.2 hn
  refine ⟨b, off, e, Nat.lt_of_lt_of_le hl hb.size, fun j hj => ?_⟩
  obtain ⟨u, hu, hcell⟩ := hc j hj
  exact ⟨u, hu, (hb.cell (p := ⟨b, off + j, none⟩) hl).trans hcell⟩
theorem another_ne (x b : Int) : (0 ≤ (x + 1 + b % 990) % 991 ∧ (x + 1 + b % 990) % 991 ≤ 990) ∧ (x + 1 + b % 990) % 991 ≠ x := by omega
theorem drw_bel {w wr : World} (h : ∃ d, wr = w.drewN d) : Below w.heap.size w wr := by
  obtain ⟨d, rfl⟩ := h
  exact below_dr (Below.refl _ _)
set_option maxRecDepth 20000 in
set_option maxHeartbeats 4000000 in
theorem fnTicket (A : Option Addr) (n c : Nat) (A9 : Option Addr) (n9 c9 : Nat) (w : World) (h : CodeIs w A n c) : Calls Try.prog 3 #[.slice A n c, .slice A9 n9 c9] w (BoolB true w) := by
  by_cases hbign : (1048576 : Int) < (n : Int)
  · go_enter Try.func3, Try.ntmps3
    go_wp2
    go_ret
    exact ⟨rfl, Below.refl _ _⟩
  by_cases hbign9 : (1048576 : Int) < (n9 : Int)
  · go_enter Try.func3, Try.ntmps3
    go_wp2
    go_ret
    exact ⟨rfl, Below.refl _ _⟩
  go_enter Try.func3, Try.ntmps3
  go_wp2_with fail
  ((with_reducible refine (Rd.DrawTicketMake A n c w h).mono ?_); rintro e w1 ⟨s, t, rfl, hb1⟩)
  have HB := Lib.hid hb1
  clear hb1
  go_wp2_with fail
  ((with_reducible refine (Im12.TicketMake s t _).mono ?_); rintro e w2 ⟨rfl, hb2⟩)
  replace HB := Lib.hid (HB.out.trans (hb2.mono HB.out.size))
  have hal : Below w2.heap.size w2 (w2.alloc (.cells #[.int .i64 (mkS s t), .int .i64 (mkG s t)] 26)) := (Below.refl _ _).alloc (Nat.le_refl _) _
  have Z1 := Lib.hid (blk_new w2 #[.int .i64 (mkS s t), .int .i64 (mkG s t)] 26)
  replace HB := Lib.hid (HB.out.trans (hal.mono HB.out.size))
  clear hal
  go_upto_region 5 with (fail)
  generalize w2.alloc (.cells #[.int .i64 (mkS s t), .int .i64 (mkG s t)] 26) = w3 at *
  go_wp2_with fail
  ((with_reducible refine (Sp12.TicketMake s t _).mono ?_); rintro e w4 ⟨rfl, hb4⟩)
  replace HB := Lib.hid (HB.out.trans (hb4.mono HB.out.size))
  replace Z1 := Lib.hid (Z1.out.below hb4 (Nat.le_refl _))
  have hal : Below w4.heap.size w4 (w4.alloc (.cells #[.int .i64 (mkS s t), .int .i64 (mkG s t)] 26)) := (Below.refl _ _).alloc (Nat.le_refl _) _
  have Z2 := Lib.hid (blk_new w4 #[.int .i64 (mkS s t), .int .i64 (mkG s t)] 26)
  replace HB := Lib.hid (HB.out.trans (hal.mono HB.out.size))
  replace Z1 := Lib.hid (Z1.out.below hal (Nat.le_refl _))
  clear hal
  go_upto_region 6 with (fail)
  generalize w4.alloc (.cells #[.int .i64 (mkS s t), .int .i64 (mkG s t)] 26) = w5 at *
  obtain ⟨y0, y1, yf⟩ := two_cells Z1.out
  obtain ⟨z0, z1, zf⟩ := two_cells Z2.out
  cases hm : mkB s t
  · skip
    go_wp2
    go_ret
    exact ⟨rfl, HB.out⟩
  obtain ⟨hm1, hm2⟩ := mk_yes hm
  have HM := Lib.hid hm
  have HC := Lib.hid (made_chk hm)
  rw [hm1] at y0 z0
  rw [hm2] at y1 z1
  rw [hm1, hm2] at Z1 Z2
  have hp := Lib.hid (mulG_bd s 5)
  obtain ⟨hp0, hp1⟩ := hp.out
  clear hm1 hm2 hm hp
  have hn9 : 0 ≤ (n9 : Int) % 990 ∧ (n9 : Int) % 990 < 990 := by omega
  obtain ⟨hn9a, hn9b⟩ := hn9
  go_wp2_with fail
  ((with_reducible refine (Grp.iPublic s _).mono ?_); rintro e w6 ⟨rfl, rfl⟩)
  go_wp2_with fail
  ((with_reducible refine (Elt.element (mulG s 5 + (n9 : Int) % 990) _ (by omega) (by omega)).mono ?_); rintro e w6 ⟨rfl, rfl⟩)
  go_wp2_with fail
  ((with_reducible refine (Im12.TicketCheck (mulG s 5) t (mulG s (t + 1)) _).mono ?_); rintro e w6 ⟨rfl, hb6⟩)
  rw [HC.out]
  clear y0 y1 yf
  clear z0 z1 zf
  replace HB := Lib.hid (HB.out.trans (hb6.mono HB.out.size))
  replace Z1 := Lib.hid (Z1.out.below hb6 (Nat.le_refl _))
  replace Z2 := Lib.hid (Z2.out.below hb6 (Nat.le_refl _))
  clear hb6
  obtain ⟨y0, y1, yf⟩ := two_cells Z1.out
  have HK : Hid (∀ q : Int, ¬ q = mulG s 5 → chkF q t (mulG s (t + 1)) = false) := fun q hq => bool_no fun h => hq (chk_key HC.out h)
  clear hp0 hp1
  generalize mulG s 5 = p at *
  generalize mulG s (t + 1) = g at *
  generalize 1 + (p + (n9 : Int) % 990) % 996 = q at *
  by_cases hq : q = p
  · have e0 : (q == p) = true := by simpa using hq
    go_wp2
    go_ret
    exact ⟨rfl, HB.out⟩
  · have e0 : (q == p) = false := by simpa using hq
    have HF := Lib.hid (HK.out q hq)
    go_wp2_with fail
    ((with_reducible refine (Im12.TicketCheck q t g _).mono ?_); rintro e w7 ⟨rfl, hb7⟩)
    rw [HF.out]
    replace HB := Lib.hid (HB.out.trans (hb7.mono HB.out.size))
    replace Z1 := Lib.hid (Z1.out.below hb7 (Nat.le_refl _))
    replace Z2 := Lib.hid (Z2.out.below hb7 (Nat.le_refl _))
    go_wp2
    go_ret
    exact ⟨rfl, HB.out⟩
set_option maxRecDepth 20000 in
set_option maxHeartbeats 4000000 in
theorem fnTicketSerial (A : Option Addr) (n c : Nat) (A9 : Option Addr) (n9 c9 : Nat) (w : World) (h : CodeIs w A n c) : Calls Try.prog 4 #[.slice A n c, .slice A9 n9 c9] w (BoolB true w) := by
  by_cases hbign : (1048576 : Int) < (n : Int)
  · go_enter Try.func4, Try.ntmps4
    go_wp2
    go_ret
    exact ⟨rfl, Below.refl _ _⟩
  by_cases hbign9 : (1048576 : Int) < (n9 : Int)
  · go_enter Try.func4, Try.ntmps4
    go_wp2
    go_ret
    exact ⟨rfl, Below.refl _ _⟩
  go_enter Try.func4, Try.ntmps4
  go_wp2_with fail
  ((with_reducible refine (Rd.DrawTicketCheck A n c w h).mono ?_); rintro e w1 ⟨p, s, g, rfl, hb1⟩)
  have HB := Lib.hid hb1
  have HW1 := Lib.hid hb1.size
  clear hb1
  have hal : Below w1.heap.size w1 (w1.alloc (.cells #[.int .i64 s, .int .i64 g] 26)) := (Below.refl _ _).alloc (Nat.le_refl _) _
  have Z1 := Lib.hid (blk_new w1 #[.int .i64 s, .int .i64 g] 26)
  replace HB := Lib.hid (HB.out.trans (hal.mono HB.out.size))
  clear hal
  go_upto_region 4 with (fail)
  generalize w1.alloc (.cells #[.int .i64 s, .int .i64 g] 26) = w2 at *
  obtain ⟨y0, y1, yf⟩ := two_cells Z1.out
  go_wp2_with fail
  ((with_reducible refine (Im12.TicketCheck p s g _).mono ?_); rintro e w3 ⟨rfl, hb3⟩)
  clear y0 y1 yf
  replace HB := Lib.hid (HB.out.trans (hb3.mono HB.out.size))
  replace Z1 := Lib.hid (Z1.out.below hb3 (Nat.le_refl _))
  clear hb3
  obtain ⟨y0, y1, yf⟩ := two_cells Z1.out
  go_wp2_with fail
  ((with_reducible refine (Sp12.TicketCheck p s g _).mono ?_); rintro e w4 ⟨rfl, hb4⟩)
  clear y0 y1 yf
  replace HB := Lib.hid (HB.out.trans (hb4.mono HB.out.size))
  replace Z1 := Lib.hid (Z1.out.below hb4 (Nat.le_refl _))
  clear hb4
  obtain ⟨y0, y1, yf⟩ := two_cells Z1.out
  cases hc : chkF p s g
  · skip
    go_wp2
    go_ret
    exact ⟨rfl, HB.out⟩
  obtain ⟨hs, hp, hg, -⟩ := chkF_iff.1 hc
  obtain ⟨hs0, hs1⟩ := serB_iff.1 hs
  obtain ⟨hg0, hg1⟩ := inG_iff.1 hg
  have HC := Lib.hid hc
  clear hs hp hg hc
  have hn9 : (0 ≤ (n9 : Int) % 990 ∧ (n9 : Int) % 990 < 990) ∧ 0 ≤ (n9 : Int) % 989 ∧ (n9 : Int) % 989 < 989 := by omega
  obtain ⟨⟨hn9a, hn9b⟩, hn9c, hn9d⟩ := hn9
  obtain ⟨-, hyn⟩ := another_ne s ((n9 : Int) % 989)
  have HN := Lib.hid hyn
  have HLW : Hid (w.heap.size ≤ w1.heap.size ∧ w.heap.size ≤ w4.heap.size) := ⟨by have := HW1.out; omega, HB.out.size⟩
  have HLT : Hid (w1.heap.size < w4.heap.size) := Z1.out.lt
  clear hyn
  have hal : Below w4.heap.size w4 (w4.alloc (.cells #[.int .i64 s, .int .i64 g] 26)) := (Below.refl _ _).alloc (Nat.le_refl _) _
  have Z2 := Lib.hid (blk_new w4 #[.int .i64 s, .int .i64 g] 26)
  replace HB := Lib.hid (HB.out.trans (hal.mono HB.out.size))
  replace Z1 := Lib.hid (Z1.out.below hal (Nat.le_refl _))
  clear hal
  go_upto_region 9 with (fail)
  generalize w4.alloc (.cells #[.int .i64 s, .int .i64 g] 26) = w5 at *
  clear y0 y1 yf
  obtain ⟨y0, y1, yf⟩ := two_cells Z1.out
  obtain ⟨z0, z1, zf⟩ := two_cells Z2.out
  go_wp2_with fail
  ((with_reducible refine (Elt.another s ((n9 : Int) % 989) _ (by omega) (by omega) (by omega) (by omega)).mono ?_); rintro e w6 ⟨rfl, rfl⟩)
  have HK : Hid (chkF p ((s + 1 + (n9 : Int) % 989 % 990) % 991) g = false) := bool_no fun h => HN.out (chk_serial HC.out h)
  generalize (s + 1 + (n9 : Int) % 989 % 990) % 991 = t at *
  go_upto_region 10 with (fail)
  have HZ2 := Lib.hid (blk_set0 (v := .int .i64 t) Z2.out)
  have hne : w4.heap.size ≠ w1.heap.size := by have h2 := HLT.out; omega
  have HB5 := Lib.hid (HB.out.setCell (p := ⟨w4.heap.size, 0, none⟩) (show w.heap.size ≤ w4.heap.size by have := HLW.out; omega) (.int .i64 t))
  have HZ1 := Lib.hid (Z1.out.same (w' := w5.setCell ⟨w4.heap.size, 0, none⟩ (.int .i64 t)) (Below.heap_setCell _ _ _ _ (show w1.heap.size ≠ w4.heap.size by omega)))
  clear y0 y1 yf
  clear z0 z1 zf
  have HL6 : Hid ((w5.setCell ⟨w4.heap.size, 0, none⟩ (.int .i64 t)).heap.size = w5.heap.size) := by show _ = _; simp [World.setCell]
  have HL5 : Hid (w4.heap.size < w5.heap.size) := Z2.out.lt
  clear HB Z1 Z2
  generalize w5.setCell ⟨w4.heap.size, 0, none⟩ (.int .i64 t) = w6 at *
  obtain ⟨y0, y1, yf⟩ := two_cells HZ1.out
  obtain ⟨z0, z1, zf⟩ := two_cells HZ2.out
  have hal : Below w6.heap.size w6 (w6.alloc (.cells #[.int .i64 s, .int .i64 g] 26)) := (Below.refl _ _).alloc (Nat.le_refl _) _
  have Z3 := Lib.hid (blk_new w6 #[.int .i64 s, .int .i64 g] 26)
  replace HB5 := Lib.hid (HB5.out.trans (hal.mono HB5.out.size))
  replace HZ1 := Lib.hid (HZ1.out.below hal (Nat.le_refl _))
  replace HZ2 := Lib.hid (HZ2.out.below hal (Nat.le_refl _))
  clear hal
  go_upto_region 11 with (fail)
  generalize w6.alloc (.cells #[.int .i64 s, .int .i64 g] 26) = w7 at *
  clear y0 y1 yf
  clear z0 z1 zf
  obtain ⟨y0, y1, yf⟩ := two_cells HZ1.out
  obtain ⟨z0, z1, zf⟩ := two_cells HZ2.out
  obtain ⟨x0, x1, xf⟩ := two_cells Z3.out
  go_wp2_with fail
  ((with_reducible refine (Elt.element (g + (n9 : Int) % 990) _ (by omega) (by omega)).mono ?_); rintro e w8 ⟨rfl, rfl⟩)
  generalize 1 + (g + (n9 : Int) % 990) % 996 = k at *
  go_upto_region 12 with (fail)
  have hl6 : w4.heap.size < w6.heap.size := by rw [HL6.out]; exact HL5.out
  have hlw := HLW.out
  have hlt := HLT.out
  have HZ3 := Lib.hid (blk_set1 (v := .int .i64 k) Z3.out)
  have HB6 := Lib.hid (HB5.out.setCell (p := ⟨w6.heap.size, 1, none⟩) (show w.heap.size ≤ w6.heap.size by have := HLW.out; omega) (.int .i64 k))
  have HY1 := Lib.hid (HZ1.out.same (w' := w7.setCell ⟨w6.heap.size, 1, none⟩ (.int .i64 k)) (Below.heap_setCell _ _ _ _ (show w1.heap.size ≠ w6.heap.size by omega)))
  have HY2 := Lib.hid (HZ2.out.same (w' := w7.setCell ⟨w6.heap.size, 1, none⟩ (.int .i64 k)) (Below.heap_setCell _ _ _ _ (show w4.heap.size ≠ w6.heap.size by omega)))
  clear y0 y1 yf
  clear z0 z1 zf
  clear x0 x1 xf
  clear HB5 HZ1 HZ2 Z3
  generalize w7.setCell ⟨w6.heap.size, 1, none⟩ (.int .i64 k) = w8 at *
  obtain ⟨z0, z1, zf⟩ := two_cells HY2.out
  go_wp2_with fail
  ((with_reducible refine (Im12.TicketCheck p t g _).mono ?_); rintro e w9 ⟨rfl, hb9⟩)
  rw [HK.out]
  clear z0 z1 zf
  replace HB6 := Lib.hid (HB6.out.trans (hb9.mono HB6.out.size))
  replace HY1 := Lib.hid (HY1.out.below hb9 (Nat.le_refl _))
  replace HY2 := Lib.hid (HY2.out.below hb9 (Nat.le_refl _))
  replace HZ3 := Lib.hid (HZ3.out.below hb9 (Nat.le_refl _))
  clear hb9
  obtain ⟨y0, y1, yf⟩ := two_cells HY1.out
  obtain ⟨x0, x1, xf⟩ := two_cells HZ3.out
  by_cases hk : k = g
  · have e0 : (k == g) = true := by simpa using hk
    go_wp2
    go_ret
    exact ⟨rfl, HB6.out⟩
  · have e0 : (k == g) = false := by simpa using hk
    have HF : Hid (chkF p s k = false) := bool_no fun h => hk (chk_sign HC.out h)
    go_wp2_with fail
    ((with_reducible refine (Im12.TicketCheck p s k _).mono ?_); rintro e w10 ⟨rfl, hb10⟩)
    rw [HF.out]
    replace HB6 := Lib.hid (HB6.out.trans (hb10.mono HB6.out.size))
    replace HY1 := Lib.hid (HY1.out.below hb10 (Nat.le_refl _))
    replace HY2 := Lib.hid (HY2.out.below hb10 (Nat.le_refl _))
    replace HZ3 := Lib.hid (HZ3.out.below hb10 (Nat.le_refl _))
    go_wp2
    go_ret
    exact ⟨rfl, HB6.out⟩
theorem has_lit {lo hi n c : Nat} {A : Option Addr} {xs : List Int} {x : Int} {w : World} {b : Bool} (h : hasK xs x = b) (hx : Ints lo hi w A n c xs) (d : Nat) : Calls Try.prog 19 #[.slice A n c, .int .i64 x] (w.drewN d) fun e w' => e = .returned (.bool b) ∧ w.drewN d = w' := by
  rw [← h]; exact Sg.hasInt lo hi A n c xs x _ hx
set_option maxRecDepth 20000 in
set_option maxHeartbeats 4000000 in
theorem fnAudit (A : Option Addr) (n c : Nat) (w : World) (h : CodeIs w A n c) : Calls Try.prog 5 #[.slice A n c] w (BoolB true w) := by
  by_cases hbign : (1048576 : Int) < (n : Int)
  · go_enter Try.func5, Try.ntmps5
    go_wp2
    go_ret
    exact ⟨rfl, Below.refl _ _⟩
  go_enter Try.func5, Try.ntmps5
  go_wp2_with fail
  ((with_reducible refine (Rd.DrawTicketAudit A n c w h).mono ?_); rintro e w1 ⟨A1, c1, B1, d1, xs, ys, rfl, hi1, hi2, hb1⟩)
  have HB := Lib.hid hb1
  have IA := Lib.hid hi1
  have IB := Lib.hid hi2
  clear hb1 hi1 hi2
  go_wp2_with fail
  ((with_reducible refine (Im12.TicketAudit _ _ _ _ _ _ _ _ _ _ xs ys _ IA.out IB.out).mono ?_); rintro e w2 ⟨A2, c2, rfl, ho2, hb2⟩)
  replace HB := Lib.hid (HB.out.trans (hb2.mono HB.out.size))
  replace IA := Lib.hid (IA.out.below hb2 (Nat.le_refl _))
  replace IB := Lib.hid (IB.out.below hb2 (Nat.le_refl _))
  have IO := Lib.hid ho2.ints
  clear ho2 hb2
  go_wp2_with fail
  ((with_reducible refine (Im12.sTicketAudit _ _ _ _ _ _ _ _ _ _ xs ys _ IA.out IB.out).mono ?_); rintro e w3 ⟨A3, c3, rfl, ho3, hb3⟩)
  replace HB := Lib.hid (HB.out.trans (hb3.mono HB.out.size))
  replace IA := Lib.hid (IA.out.below hb3 (Nat.le_refl _))
  replace IB := Lib.hid (IB.out.below hb3 (Nat.le_refl _))
  replace IO := Lib.hid (IO.out.below hb3 (Nat.le_refl _))
  have IW := Lib.hid ho3.ints
  clear ho3 hb3
  go_wp2_with fail
  ((with_reducible refine (Hlp.sameInts _ _ _ _ _ _ _ _ _ _ (audF xs ys) (audF xs ys) _ IO.out IW.out).mono ?_); rintro e w4 ⟨rfl, q4, rfl⟩)
  rw [decide_eq_true rfl]
  have hdr : Below w3.heap.size w3 (w3.drewN q4) := below_dr (Below.refl _ _)
  replace HB := Lib.hid (HB.out.trans (hdr.mono HB.out.size))
  replace IA := Lib.hid (IA.out.below hdr (Nat.le_refl _))
  replace IB := Lib.hid (IB.out.below hdr (Nat.le_refl _))
  replace IO := Lib.hid (IO.out.below hdr (Nat.le_refl _))
  replace IW := Lib.hid (IW.out.below hdr (Nat.le_refl _))
  clear hdr
  generalize w3.drewN q4 = w4 at *
  have HL20 := Lib.hid (aud_20 xs ys)
  have HMEM : Hid (∀ j, j < (audF xs ys).length → hasK xs ((audF xs ys).getD j 0) = true ∧ hasK ys ((audF xs ys).getD j 0) = true) := fun j hj => ⟨hasK_iff.2 (aud_mem (getD_in hj)).1, hasK_iff.2 (aud_mem (getD_in hj)).2⟩
  have HLT : Hid (∀ j, j + 1 < (audF xs ys).length → (audF xs ys).getD j 0 < (audF xs ys).getD (j + 1) 0) := fun j hj => getD_lt (aud_pw xs ys) hj
  have HCM := Lib.hid (aud_comm xs ys)
  have hl20 := HL20.out
  generalize audF xs ys = zs at *
  clear IW
  go_wp2
  go_loopw [7] (fun i wr => ∃ j : Nat, j ≤ zs.length ∧ i = .int .i64 j ∧ Hid (∃ d, wr = w4.drewN d)) (fun i _ => zs.length - (intOf i).toNat)
  case atStart => exact ⟨0, Nat.zero_le _, rfl, 0, rfl⟩
  case round =>
    obtain ⟨j, hj, rfl, hR⟩ := hrel
    have hdb := drw_bel hR.out
    have JA := Lib.hid (IA.out.below hdb (Nat.le_refl _))
    have JB := Lib.hid (IB.out.below hdb (Nat.le_refl _))
    have JO := Lib.hid (IO.out.below hdb (Nat.le_refl _))
    have JH := Lib.hid (HB.out.trans (hdb.mono HB.out.size))
    clear hdb
    by_cases hlt : j < zs.length
    · obtain ⟨b, off, rfl, _, _, cO⟩ := JO.out.at_ hlt
      have hM := HMEM.out j hlt
      have HA := Lib.hid hM.1
      have HBb := Lib.hid hM.2
      clear hM
      cases j with
      | zero =>
        rw [Nat.add_zero] at cO
        generalize zs.getD 0 0 = x at *
        go_wp2
        go_quiet ((first | (go_at_call 19; with_reducible exact quiet_eq (has_lit HA.out JA.out _)) | (go_at_call 19; with_reducible exact quiet_eq (has_lit HBb.out JB.out _))))
        go_wp2
        go_roundw
        case rel => exact ⟨0 + 1, by omega, by go_num, drew_add hR.out _⟩
        case measure => simp [intOf]; omega
      | succ j =>
        obtain ⟨b3, off3, e3, _, _, cP⟩ := JO.out.at_ (k := j) (by omega)
        simp only [Option.some.injEq, Addr.mk.injEq, and_true] at e3
        obtain ⟨rfl, rfl⟩ := e3
        have hlt2 := HLT.out j hlt
        generalize zs.getD (j + 1) 0 = x at *
        generalize zs.getD j 0 = y at *
        have hge : decide (x ≤ y) = false := by simp; omega
        have hj1 : (0 : Int) < ((j + 1 : Nat) : Int) := by omega
        go_wp2
        go_quiet ((first | (go_at_call 19; with_reducible exact quiet_eq (has_lit HA.out JA.out _)) | (go_at_call 19; with_reducible exact quiet_eq (has_lit HBb.out JB.out _))))
        go_wp2
        go_roundw
        case rel => exact ⟨j + 1 + 1, by omega, by go_num, drew_add hR.out _⟩
        case measure => simp [intOf]; omega
    · obtain rfl : j = zs.length := by omega
      clear hlt IA IB IO HB hR
      go_wp2_with fail
      ((with_reducible refine (Im12.TicketAudit _ _ _ _ _ _ _ _ _ _ ys xs _ JB.out JA.out).mono ?_); rintro e w6 ⟨A6, c6, rfl, ho6, hb6⟩)
      replace JA := Lib.hid (JA.out.below hb6 (Nat.le_refl _))
      replace JB := Lib.hid (JB.out.below hb6 (Nat.le_refl _))
      replace JO := Lib.hid (JO.out.below hb6 (Nat.le_refl _))
      replace JH := Lib.hid (JH.out.trans (hb6.mono JH.out.size))
      rw [HCM.out] at ho6 ⊢
      have IX := Lib.hid ho6.ints
      clear ho6 hb6
      go_wp2_with fail
      ((with_reducible refine (Hlp.sameInts _ _ _ _ _ _ _ _ _ _ zs zs _ IX.out JO.out).mono ?_); rintro e w7 ⟨rfl, q7, rfl⟩)
      rw [decide_eq_true rfl]
      have hdr : Below w6.heap.size w6 (w6.drewN q7) := below_dr (Below.refl _ _)
      replace JA := Lib.hid (JA.out.below hdr (Nat.le_refl _))
      replace JB := Lib.hid (JB.out.below hdr (Nat.le_refl _))
      replace JO := Lib.hid (JO.out.below hdr (Nat.le_refl _))
      replace JH := Lib.hid (JH.out.trans (hdr.mono JH.out.size))
      replace IX := Lib.hid (IX.out.below hdr (Nat.le_refl _))
      clear hdr
      generalize w6.drewN q7 = w7 at *
      go_wp2
      go_ret
      exact ⟨rfl, JH.out⟩
end Law12
end Go.Proofs.Ytecdoibdpimlaaa
