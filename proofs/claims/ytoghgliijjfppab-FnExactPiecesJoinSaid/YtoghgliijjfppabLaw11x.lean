/-
  Exact laws of chapter 23: each returns true and writes nothing that was there.
-/
import Derived.Test.YtoghgliijjfppabIm11f
import Derived.Test.YtoghgliijjfppabSp11e
import Derived.Test.YtoghgliijjfppabH8
import Derived.Test.YtoghgliijjfppabH11b
import Derived.Test.YtoghgliijjfppabHlp
import Derived.Test.YtoghgliijjfppabIla
import Derived.Deep.RegionLaw
import Derived.BigQuiet
namespace Go.Proofs.Ytoghgliijjfppab
open Go.RowKit
namespace Law11x
open Il Sl Fo Cm Cs Gm Mm Pc LawB Hlp

theorem own_keptG {G : List (List Nat)} {w w' : World} {lo hi l2 h2 n c : Nat} {A : Option Addr} {xs : List Int} (h : Il.Own lo hi w A n c xs) (hk : KeptG G w w') (hw : Within l2 h2 G) (hd : hi ≤ l2 ∨ h2 ≤ lo) : Il.Own lo hi w' A n c xs := h.keep hk.size fun b q1 q2 q3 => keptG_at hk hw b q3 (by omega)
theorem tot_3 (ps : List (List Int)) (h : ∀ x ∈ ps, x.length = 3) : tot ps = 3 * ps.length := by
  induction ps with
  | nil => rfl
  | cons x t ih =>
    have h1 := h x (by simp)
    have h2 := ih fun y hy => h y (by simp [hy])
    unfold tot at *
    simp at *
    omega
theorem cut_small (xs : List Int) : (cutF xs).length ≤ 5 ∧ tot (cutF xs) ≤ 15 := by
  by_cases h : cutF xs = []
  · rw [h]; exact ⟨by simp, by simp [tot]⟩
  · have hk := cutF_ne h
    have hx := (cutOk_iff.1 hk).2
    rw [cutF_yes hk, tot_3 _ (pcs_len (cut_pcs hk)), cutL_len]
    unfold cnt3
    omega
theorem rep_small (ps : List (List Int)) (q : List Int) : (repF ps q).length ≤ 5 ∧ tot (repF ps q) ≤ 15 := by
  cases h : repOk ps q
  · rw [repF_no h]; exact ⟨by simp, by simp [tot]⟩
  · have hp := (repOk_iff.1 h).1
    have h3 := (pcsOk_iff.1 hp).1
    rw [repF_yes h]
    have hl : (repL ps q).length ≤ 5 := by unfold repL; simp; omega
    have ht : tot (repL ps q) = 3 * (repL ps q).length := tot_3 _ fun x hx => by
      unfold repL at hx
      obtain ⟨y, _, rfl⟩ := List.mem_map.1 hx
      rfl
    omega
theorem par_small (ps : List (List Int)) : (parF ps).length ≤ 3 := by
  cases h : pcsOk ps 0
  · rw [parF_no h]; simp
  · rw [parF_yes h]; exact Nat.le_refl _
theorem join_small (ps : List (List Int)) : (joinF ps).length ≤ 14 := by
  cases h : joinOk ps
  · rw [joinF_no h]; simp
  · have hp := (joinOk_iff.1 h).1
    have h2 := flat_len (pcs_len hp)
    have h3 := (pcs0.1 hp).1
    rw [joinF_yes h]
    unfold joinL
    rw [List.length_take, List.length_drop]
    omega

set_option maxRecDepth 20000 in
set_option maxHeartbeats 2000000 in
theorem fnExactPiecesCut (A : Option Addr) (n c : Nat) (xs : List Int) (w : World) (hx : Ints 0 w.heap.size w A n c xs) :
    Calls Try.prog 3 #[.slice A n c] w (TruePost w) := by
  have hxl := hx.len_
  have IA := Lib.hid hx
  clear hx
  by_cases hn : 1048576 < n
  · go_enter Try.func3, Try.ntmps3
    go_wp2
    go_ret
    exact ⟨rfl, Below.refl _ _⟩
  have hxn : xs.length ≤ 1048576 := by omega
  clear hxl
  have B : Hid (Below w.heap.size w w) := Below.refl _ _
  go_enter Try.func3, Try.ntmps3
  obtain ⟨hdl, hdt⟩ := cut_small xs
  go_wp2_with fail
  ((with_reducible refine (toIntS _ _ _ _ _ xs _ IA.out (by omega)).mono ?_); rintro e w1 ⟨AT, kT, rfl, ho, hb⟩)
  replace IA := Lib.hid (IA.out.below hb (Nat.le_refl _))
  replace B := Lib.hid (B.out.trans (hb.mono B.out.size))
  have z1 := hb.size
  have OT := Lib.hid ho
  clear ho hb
  go_wp2_with fail
  ((with_reducible refine (Sp11.PiecesCut _ _ _ _ _ xs _ OT.out.ints).mono ?_); rintro e w2 ⟨vS, ssS, rfl, hg, hs, hb⟩)
  replace IA := Lib.hid (IA.out.below hb (Nat.le_refl _))
  replace OT := Lib.hid (OT.out.below hb (Nat.le_refl _))
  replace B := Lib.hid (B.out.trans (hb.mono B.out.size))
  have z2 := hb.size
  clear hb
  obtain ⟨AS, kS, GS, rfl, ho, hw⟩ := hg.own
  have hl : ssS.length = (cutF xs).length := by rw [← hs, List.length_map]
  rw [hs, hl] at ho
  rw [hl]
  have MS := Lib.hid ho
  have HMS := Lib.hid hw
  clear hg hs hl ho hw
  go_wp2_with fail
  ((with_reducible refine (toIntS _ _ _ _ _ xs _ IA.out (by omega)).mono ?_); rintro e w3 ⟨AX, kX, rfl, ho, hb⟩)
  replace IA := Lib.hid (IA.out.below hb (Nat.le_refl _))
  replace OT := Lib.hid (OT.out.below hb (Nat.le_refl _))
  replace MS := Lib.hid (MS.out.below hb (Nat.le_refl _))
  replace B := Lib.hid (B.out.trans (hb.mono B.out.size))
  have z3 := hb.size
  have OX := Lib.hid ho
  clear ho hb
  go_wp2_with fail
  ((with_reducible refine (Im11.PiecesCut _ _ _ _ _ xs _ OX.out.ints).mono ?_); rintro e w4 ⟨AG, kG, GG, rfl, ho, hw, hb⟩)
  replace IA := Lib.hid (IA.out.below hb (Nat.le_refl _))
  replace OT := Lib.hid (OT.out.below hb (Nat.le_refl _))
  replace MS := Lib.hid (MS.out.below hb (Nat.le_refl _))
  replace OX := Lib.hid (OX.out.below hb (Nat.le_refl _))
  replace B := Lib.hid (B.out.trans (hb.mono B.out.size))
  have z4 := hb.size
  have MG := Lib.hid ho
  have HMG := Lib.hid hw
  clear ho hw hb
  go_wp2_with fail
  ((with_reducible refine (H8.eqIntSS _ _ _ _ _ _ _ _ _ (cutF xs) _ (MG.out.sts HMG.out) (MS.out.sts HMS.out)).mono ?_); rintro e w5 ⟨rfl, hd⟩)
  have hb0 := drew_below hd
  clear hd
  replace IA := Lib.hid (IA.out.below hb0 (Nat.le_refl _))
  replace OT := Lib.hid (OT.out.below hb0 (Nat.le_refl _))
  replace MS := Lib.hid (MS.out.below hb0 (Nat.le_refl _))
  replace OX := Lib.hid (OX.out.below hb0 (Nat.le_refl _))
  replace MG := Lib.hid (MG.out.below hb0 (Nat.le_refl _))
  replace B := Lib.hid (B.out.trans (hb0.mono B.out.size))
  have z5 := hb0.size
  clear hb0
  go_wp2_with fail
  ((with_reducible refine (toIntS _ _ _ _ _ xs _ IA.out (by omega)).mono ?_); rintro e w6 ⟨AU, kU, rfl, ho, hb⟩)
  replace IA := Lib.hid (IA.out.below hb (Nat.le_refl _))
  replace OT := Lib.hid (OT.out.below hb (Nat.le_refl _))
  replace MS := Lib.hid (MS.out.below hb (Nat.le_refl _))
  replace OX := Lib.hid (OX.out.below hb (Nat.le_refl _))
  replace MG := Lib.hid (MG.out.below hb (Nat.le_refl _))
  replace B := Lib.hid (B.out.trans (hb.mono B.out.size))
  have z6 := hb.size
  have OU := Lib.hid ho
  clear ho hb
  go_wp2_with fail
  ((with_reducible refine (Hlp.eqIntS _ _ _ _ _ _ _ _ _ _ _ _ _ OX.out.ints OU.out.ints).mono ?_); rintro e w7 ⟨rfl, hd⟩)
  have hb0 := drew_below hd
  clear hd
  replace IA := Lib.hid (IA.out.below hb0 (Nat.le_refl _))
  replace OT := Lib.hid (OT.out.below hb0 (Nat.le_refl _))
  replace MS := Lib.hid (MS.out.below hb0 (Nat.le_refl _))
  replace OX := Lib.hid (OX.out.below hb0 (Nat.le_refl _))
  replace MG := Lib.hid (MG.out.below hb0 (Nat.le_refl _))
  replace OU := Lib.hid (OU.out.below hb0 (Nat.le_refl _))
  replace B := Lib.hid (B.out.trans (hb0.mono B.out.size))
  have z7 := hb0.size
  clear hb0
  rw [decide_eq_true rfl]
  go_wp2_with fail
  ((with_reducible refine (Hlp.markIntS _ _ _ _ _ _ 1 _ OX.out (by omega) (by omega) (by omega)).mono ?_); rintro e w8 ⟨rfl, hm, hk⟩)
  replace IA := Lib.hid (IA.out.kept hk (by omega))
  replace OT := Lib.hid (OT.out.kept hk (by omega))
  replace MS := Lib.hid (MS.out.kept hk HMS.out (by omega))
  replace MG := Lib.hid (MG.out.kept hk HMG.out (by omega))
  replace OU := Lib.hid (OU.out.kept hk (by omega))
  replace B := Lib.hid (B.out.trans (hk.below (by omega)))
  replace OX := Lib.hid hm
  have z8 := Nat.le_of_eq hk.size.symm
  clear hm hk
  go_wp2_with fail
  ((with_reducible refine (H8.eqIntSS _ _ _ _ _ _ _ _ _ (cutF xs) _ (MG.out.sts HMG.out) (MS.out.sts HMS.out)).mono ?_); rintro e w9 ⟨rfl, hd⟩)
  have hb0 := drew_below hd
  clear hd
  replace IA := Lib.hid (IA.out.below hb0 (Nat.le_refl _))
  replace OT := Lib.hid (OT.out.below hb0 (Nat.le_refl _))
  replace MS := Lib.hid (MS.out.below hb0 (Nat.le_refl _))
  replace OX := Lib.hid (OX.out.below hb0 (Nat.le_refl _))
  replace MG := Lib.hid (MG.out.below hb0 (Nat.le_refl _))
  replace OU := Lib.hid (OU.out.below hb0 (Nat.le_refl _))
  replace B := Lib.hid (B.out.trans (hb0.mono B.out.size))
  have z9 := hb0.size
  clear hb0
  go_wp2_with fail
  ((with_reducible refine (H8.markIntSS _ _ _ (cutF xs) _ 1 _ MG.out (by omega) (by omega) (by omega)).mono ?_); rintro e w10 ⟨rfl, hm, hk⟩)
  replace IA := Lib.hid (ints_keptG IA.out hk HMG.out (by omega))
  replace OT := Lib.hid (own_keptG OT.out hk HMG.out (by omega))
  replace MS := Lib.hid (MS.out.keptG hk HMG.out HMS.out (by omega))
  replace OX := Lib.hid (own_keptG OX.out hk HMG.out (by omega))
  replace OU := Lib.hid (own_keptG OU.out hk HMG.out (by omega))
  have hBs := B.out.size
  replace B := Lib.hid (below_keptG B.out hk HMG.out hBs (by omega))
  have z10 := hk.size
  clear hBs
  replace MG := Lib.hid hm
  clear hm hk
  go_wp2_with fail
  ((with_reducible refine (H8.heldIntSS _ _ _ _ _ (cutF xs) 1 _ (MG.out.sts HMG.out) (by omega) (by omega) (by omega)).mono ?_); rintro e w' ⟨rfl, rfl⟩)
  go_wp2_with fail
  ((with_reducible refine (toIntS _ _ _ _ _ xs _ IA.out (by omega)).mono ?_); rintro e w12 ⟨AV, kV, rfl, ho, hb⟩)
  replace IA := Lib.hid (IA.out.below hb (Nat.le_refl _))
  replace OT := Lib.hid (OT.out.below hb (Nat.le_refl _))
  replace MS := Lib.hid (MS.out.below hb (Nat.le_refl _))
  replace OX := Lib.hid (OX.out.below hb (Nat.le_refl _))
  replace MG := Lib.hid (MG.out.below hb (Nat.le_refl _))
  replace OU := Lib.hid (OU.out.below hb (Nat.le_refl _))
  replace B := Lib.hid (B.out.trans (hb.mono B.out.size))
  have z12 := hb.size
  have OV := Lib.hid ho
  clear ho hb
  go_wp2_with fail
  ((with_reducible refine (Im11.PiecesCut _ _ _ _ _ xs _ OV.out.ints).mono ?_); rintro e w13 ⟨AJ, kJ, GJ, rfl, ho, hw, hb⟩)
  replace IA := Lib.hid (IA.out.below hb (Nat.le_refl _))
  replace OT := Lib.hid (OT.out.below hb (Nat.le_refl _))
  replace MS := Lib.hid (MS.out.below hb (Nat.le_refl _))
  replace OX := Lib.hid (OX.out.below hb (Nat.le_refl _))
  replace MG := Lib.hid (MG.out.below hb (Nat.le_refl _))
  replace OU := Lib.hid (OU.out.below hb (Nat.le_refl _))
  replace OV := Lib.hid (OV.out.below hb (Nat.le_refl _))
  replace B := Lib.hid (B.out.trans (hb.mono B.out.size))
  have z13 := hb.size
  have MJ := Lib.hid ho
  have HMJ := Lib.hid hw
  clear ho hw hb
  go_wp2_with fail
  ((with_reducible refine (H8.eqIntSS _ _ _ _ _ _ _ _ _ (cutF xs) _ (MJ.out.sts HMJ.out) (MS.out.sts HMS.out)).mono ?_); rintro e w14 ⟨rfl, hd⟩)
  have hb0 := drew_below hd
  clear hd
  replace IA := Lib.hid (IA.out.below hb0 (Nat.le_refl _))
  replace OT := Lib.hid (OT.out.below hb0 (Nat.le_refl _))
  replace MS := Lib.hid (MS.out.below hb0 (Nat.le_refl _))
  replace OX := Lib.hid (OX.out.below hb0 (Nat.le_refl _))
  replace MG := Lib.hid (MG.out.below hb0 (Nat.le_refl _))
  replace OU := Lib.hid (OU.out.below hb0 (Nat.le_refl _))
  replace OV := Lib.hid (OV.out.below hb0 (Nat.le_refl _))
  replace MJ := Lib.hid (MJ.out.below hb0 (Nat.le_refl _))
  replace B := Lib.hid (B.out.trans (hb0.mono B.out.size))
  have z14 := hb0.size
  clear hb0
  go_wp2_with fail
  ((with_reducible refine (H8.heldIntSS _ _ _ _ _ (cutF xs) 1 _ (MG.out.sts HMG.out) (by omega) (by omega) (by omega)).mono ?_); rintro e w' ⟨rfl, rfl⟩)
  go_wp2
  go_ret
  exact ⟨rfl, B.out⟩

set_option maxRecDepth 20000 in
set_option maxHeartbeats 2000000 in
theorem fnExactPiecesParity (A : Option Addr) (n c : Nat) (ps : List (List Int)) (w : World) (hx : Sts 0 w.heap.size w A n c ps) :
    Calls Try.prog 4 #[.slice A n c] w (TruePost w) := by
  have B : Hid (Below w.heap.size w w) := Below.refl _ _
  go_enter Try.func4, Try.ntmps4
  have R0 := Lib.hid hx
  clear hx
  go_wp2_with fail
  ((with_reducible refine (H8.szIntSS _ _ _ _ _ ps _ R0.out).mono ?_); rintro e w' ⟨⟨v, rfl, hv⟩, rfl⟩)
  rcases hv with hv | ⟨hv, hnt⟩
  · go_wp2
    go_ret
    exact ⟨rfl, B.out⟩
  have hvd : decide (v < 0) = false := by simpa using hv
  have HNT := Lib.hid hnt
  have htt : tot ps ≤ 1048576 := by omega
  clear hv hnt
  have hdl := par_small ps
  go_wp2_with fail
  ((with_reducible refine (H8.toIntSS _ _ _ _ _ ps _ R0.out HNT.out).mono ?_); rintro e w2 ⟨AT, kT, GT, rfl, ho, hw, hb⟩)
  replace R0 := Lib.hid (R0.out.below hb (Nat.le_refl _))
  replace B := Lib.hid (B.out.trans (hb.mono B.out.size))
  have z2 := hb.size
  have MT := Lib.hid ho
  have HMT := Lib.hid hw
  clear ho hw hb
  go_wp2_with fail
  ((with_reducible refine (Sp11.PiecesParity _ _ _ _ _ ps _ (MT.out.sts HMT.out)).mono ?_); rintro e w3 ⟨AS, kS, rfl, ho, hb⟩)
  replace R0 := Lib.hid (R0.out.below hb (Nat.le_refl _))
  replace MT := Lib.hid (MT.out.below hb (Nat.le_refl _))
  replace B := Lib.hid (B.out.trans (hb.mono B.out.size))
  have z3 := hb.size
  have OS := Lib.hid ho
  clear ho hb
  go_wp2_with fail
  ((with_reducible refine (H8.toIntSS _ _ _ _ _ ps _ R0.out HNT.out).mono ?_); rintro e w4 ⟨AX, kX, GX, rfl, ho, hw, hb⟩)
  replace R0 := Lib.hid (R0.out.below hb (Nat.le_refl _))
  replace MT := Lib.hid (MT.out.below hb (Nat.le_refl _))
  replace OS := Lib.hid (OS.out.below hb (Nat.le_refl _))
  replace B := Lib.hid (B.out.trans (hb.mono B.out.size))
  have z4 := hb.size
  have MX := Lib.hid ho
  have HMX := Lib.hid hw
  clear ho hw hb
  go_wp2_with fail
  ((with_reducible refine (Im11.PiecesParity _ _ _ _ _ ps _ (MX.out.sts HMX.out)).mono ?_); rintro e w5 ⟨AG, kG, rfl, ho, hb⟩)
  replace R0 := Lib.hid (R0.out.below hb (Nat.le_refl _))
  replace MT := Lib.hid (MT.out.below hb (Nat.le_refl _))
  replace OS := Lib.hid (OS.out.below hb (Nat.le_refl _))
  replace MX := Lib.hid (MX.out.below hb (Nat.le_refl _))
  replace B := Lib.hid (B.out.trans (hb.mono B.out.size))
  have z5 := hb.size
  have OG := Lib.hid ho
  clear ho hb
  go_wp2_with fail
  ((with_reducible refine (Hlp.eqIntS _ _ _ _ _ _ _ _ _ _ _ _ _ OG.out.ints OS.out.ints).mono ?_); rintro e w6 ⟨rfl, hd⟩)
  have hb0 := drew_below hd
  clear hd
  replace R0 := Lib.hid (R0.out.below hb0 (Nat.le_refl _))
  replace MT := Lib.hid (MT.out.below hb0 (Nat.le_refl _))
  replace OS := Lib.hid (OS.out.below hb0 (Nat.le_refl _))
  replace MX := Lib.hid (MX.out.below hb0 (Nat.le_refl _))
  replace OG := Lib.hid (OG.out.below hb0 (Nat.le_refl _))
  replace B := Lib.hid (B.out.trans (hb0.mono B.out.size))
  have z6 := hb0.size
  clear hb0
  rw [decide_eq_true rfl]
  go_wp2_with fail
  ((with_reducible refine (H8.toIntSS _ _ _ _ _ ps _ R0.out HNT.out).mono ?_); rintro e w7 ⟨AU, kU, GU, rfl, ho, hw, hb⟩)
  replace R0 := Lib.hid (R0.out.below hb (Nat.le_refl _))
  replace MT := Lib.hid (MT.out.below hb (Nat.le_refl _))
  replace OS := Lib.hid (OS.out.below hb (Nat.le_refl _))
  replace MX := Lib.hid (MX.out.below hb (Nat.le_refl _))
  replace OG := Lib.hid (OG.out.below hb (Nat.le_refl _))
  replace B := Lib.hid (B.out.trans (hb.mono B.out.size))
  have z7 := hb.size
  have MU := Lib.hid ho
  have HMU := Lib.hid hw
  clear ho hw hb
  go_wp2_with fail
  ((with_reducible refine (H8.eqIntSS _ _ _ _ _ _ _ _ _ ps _ (MX.out.sts HMX.out) (MU.out.sts HMU.out)).mono ?_); rintro e w8 ⟨rfl, hd⟩)
  have hb0 := drew_below hd
  clear hd
  replace R0 := Lib.hid (R0.out.below hb0 (Nat.le_refl _))
  replace MT := Lib.hid (MT.out.below hb0 (Nat.le_refl _))
  replace OS := Lib.hid (OS.out.below hb0 (Nat.le_refl _))
  replace MX := Lib.hid (MX.out.below hb0 (Nat.le_refl _))
  replace OG := Lib.hid (OG.out.below hb0 (Nat.le_refl _))
  replace MU := Lib.hid (MU.out.below hb0 (Nat.le_refl _))
  replace B := Lib.hid (B.out.trans (hb0.mono B.out.size))
  have z8 := hb0.size
  clear hb0
  go_wp2_with fail
  ((with_reducible refine (H8.markIntSS _ _ _ ps _ 1 _ MX.out (by omega) (by omega) (by omega)).mono ?_); rintro e w9 ⟨rfl, hm, hk⟩)
  replace R0 := Lib.hid (R0.out.keptG hk HMX.out (by omega))
  replace MT := Lib.hid (MT.out.keptG hk HMX.out HMT.out (by omega))
  replace OS := Lib.hid (own_keptG OS.out hk HMX.out (by omega))
  replace OG := Lib.hid (own_keptG OG.out hk HMX.out (by omega))
  replace MU := Lib.hid (MU.out.keptG hk HMX.out HMU.out (by omega))
  have hBs := B.out.size
  replace B := Lib.hid (below_keptG B.out hk HMX.out hBs (by omega))
  have z9 := hk.size
  clear hBs
  replace MX := Lib.hid hm
  clear hm hk
  go_wp2_with fail
  ((with_reducible refine (Hlp.eqIntS _ _ _ _ _ _ _ _ _ _ _ _ _ OG.out.ints OS.out.ints).mono ?_); rintro e w10 ⟨rfl, hd⟩)
  have hb0 := drew_below hd
  clear hd
  replace R0 := Lib.hid (R0.out.below hb0 (Nat.le_refl _))
  replace MT := Lib.hid (MT.out.below hb0 (Nat.le_refl _))
  replace OS := Lib.hid (OS.out.below hb0 (Nat.le_refl _))
  replace MX := Lib.hid (MX.out.below hb0 (Nat.le_refl _))
  replace OG := Lib.hid (OG.out.below hb0 (Nat.le_refl _))
  replace MU := Lib.hid (MU.out.below hb0 (Nat.le_refl _))
  replace B := Lib.hid (B.out.trans (hb0.mono B.out.size))
  have z10 := hb0.size
  clear hb0
  rw [decide_eq_true rfl]
  go_wp2_with fail
  ((with_reducible refine (Hlp.markIntS _ _ _ _ _ _ 1 _ OG.out (by omega) (by omega) (by omega)).mono ?_); rintro e w11 ⟨rfl, hm, hk⟩)
  replace R0 := Lib.hid (R0.out.kept hk (by omega))
  replace MT := Lib.hid (MT.out.kept hk HMT.out (by omega))
  replace OS := Lib.hid (OS.out.kept hk (by omega))
  replace MX := Lib.hid (MX.out.kept hk HMX.out (by omega))
  replace MU := Lib.hid (MU.out.kept hk HMU.out (by omega))
  replace B := Lib.hid (B.out.trans (hk.below (by omega)))
  replace OG := Lib.hid hm
  have z11 := Nat.le_of_eq hk.size.symm
  clear hm hk
  go_wp2_with fail
  ((with_reducible refine (Hlp.heldIntS _ _ _ _ _ 1 _ OG.out.ints (by omega) (by omega) (by omega)).mono ?_); rintro e w' ⟨rfl, rfl⟩)
  go_wp2_with fail
  ((with_reducible refine (H8.toIntSS _ _ _ _ _ ps _ R0.out HNT.out).mono ?_); rintro e w13 ⟨AV, kV, GV, rfl, ho, hw, hb⟩)
  replace R0 := Lib.hid (R0.out.below hb (Nat.le_refl _))
  replace MT := Lib.hid (MT.out.below hb (Nat.le_refl _))
  replace OS := Lib.hid (OS.out.below hb (Nat.le_refl _))
  replace MX := Lib.hid (MX.out.below hb (Nat.le_refl _))
  replace OG := Lib.hid (OG.out.below hb (Nat.le_refl _))
  replace MU := Lib.hid (MU.out.below hb (Nat.le_refl _))
  replace B := Lib.hid (B.out.trans (hb.mono B.out.size))
  have z13 := hb.size
  have MV := Lib.hid ho
  have HMV := Lib.hid hw
  clear ho hw hb
  go_wp2_with fail
  ((with_reducible refine (Im11.PiecesParity _ _ _ _ _ ps _ (MV.out.sts HMV.out)).mono ?_); rintro e w14 ⟨AJ, kJ, rfl, ho, hb⟩)
  replace R0 := Lib.hid (R0.out.below hb (Nat.le_refl _))
  replace MT := Lib.hid (MT.out.below hb (Nat.le_refl _))
  replace OS := Lib.hid (OS.out.below hb (Nat.le_refl _))
  replace MX := Lib.hid (MX.out.below hb (Nat.le_refl _))
  replace OG := Lib.hid (OG.out.below hb (Nat.le_refl _))
  replace MU := Lib.hid (MU.out.below hb (Nat.le_refl _))
  replace MV := Lib.hid (MV.out.below hb (Nat.le_refl _))
  replace B := Lib.hid (B.out.trans (hb.mono B.out.size))
  have z14 := hb.size
  have OJ := Lib.hid ho
  clear ho hb
  go_wp2_with fail
  ((with_reducible refine (Hlp.eqIntS _ _ _ _ _ _ _ _ _ _ _ _ _ OJ.out.ints OS.out.ints).mono ?_); rintro e w15 ⟨rfl, hd⟩)
  have hb0 := drew_below hd
  clear hd
  replace R0 := Lib.hid (R0.out.below hb0 (Nat.le_refl _))
  replace MT := Lib.hid (MT.out.below hb0 (Nat.le_refl _))
  replace OS := Lib.hid (OS.out.below hb0 (Nat.le_refl _))
  replace MX := Lib.hid (MX.out.below hb0 (Nat.le_refl _))
  replace OG := Lib.hid (OG.out.below hb0 (Nat.le_refl _))
  replace MU := Lib.hid (MU.out.below hb0 (Nat.le_refl _))
  replace MV := Lib.hid (MV.out.below hb0 (Nat.le_refl _))
  replace OJ := Lib.hid (OJ.out.below hb0 (Nat.le_refl _))
  replace B := Lib.hid (B.out.trans (hb0.mono B.out.size))
  have z15 := hb0.size
  clear hb0
  rw [decide_eq_true rfl]
  go_wp2_with fail
  ((with_reducible refine (Hlp.heldIntS _ _ _ _ _ 1 _ OG.out.ints (by omega) (by omega) (by omega)).mono ?_); rintro e w' ⟨rfl, rfl⟩)
  go_wp2
  go_ret
  exact ⟨rfl, B.out⟩

set_option maxRecDepth 20000 in
set_option maxHeartbeats 2000000 in
theorem fnExactPiecesJoin (A : Option Addr) (n c : Nat) (ps : List (List Int)) (w : World) (hx : Sts 0 w.heap.size w A n c ps) :
    Calls Try.prog 6 #[.slice A n c] w (TruePost w) := by
  have B : Hid (Below w.heap.size w w) := Below.refl _ _
  go_enter Try.func6, Try.ntmps6
  have R0 := Lib.hid hx
  clear hx
  go_wp2_with fail
  ((with_reducible refine (H8.szIntSS _ _ _ _ _ ps _ R0.out).mono ?_); rintro e w' ⟨⟨v, rfl, hv⟩, rfl⟩)
  rcases hv with hv | ⟨hv, hnt⟩
  · go_wp2
    go_ret
    exact ⟨rfl, B.out⟩
  have hvd : decide (v < 0) = false := by simpa using hv
  have HNT := Lib.hid hnt
  have htt : tot ps ≤ 1048576 := by omega
  clear hv hnt
  have hdl := join_small ps
  have e0 : (joinOk ps != joinOk ps) = false := by simp
  go_wp2_with fail
  ((with_reducible refine (H8.toIntSS _ _ _ _ _ ps _ R0.out HNT.out).mono ?_); rintro e w2 ⟨AT, kT, GT, rfl, ho, hw, hb⟩)
  replace R0 := Lib.hid (R0.out.below hb (Nat.le_refl _))
  replace B := Lib.hid (B.out.trans (hb.mono B.out.size))
  have z2 := hb.size
  have MT := Lib.hid ho
  have HMT := Lib.hid hw
  clear ho hw hb
  go_wp2_with fail
  ((with_reducible refine (Sp11.PiecesJoin _ _ _ _ _ ps _ (MT.out.sts HMT.out)).mono ?_); rintro e w3 ⟨AS, kS, rfl, ho, hb⟩)
  replace R0 := Lib.hid (R0.out.below hb (Nat.le_refl _))
  replace MT := Lib.hid (MT.out.below hb (Nat.le_refl _))
  replace B := Lib.hid (B.out.trans (hb.mono B.out.size))
  have z3 := hb.size
  have OS := Lib.hid ho
  clear ho hb
  go_wp2_with fail
  ((with_reducible refine (H8.toIntSS _ _ _ _ _ ps _ R0.out HNT.out).mono ?_); rintro e w4 ⟨AX, kX, GX, rfl, ho, hw, hb⟩)
  replace R0 := Lib.hid (R0.out.below hb (Nat.le_refl _))
  replace MT := Lib.hid (MT.out.below hb (Nat.le_refl _))
  replace OS := Lib.hid (OS.out.below hb (Nat.le_refl _))
  replace B := Lib.hid (B.out.trans (hb.mono B.out.size))
  have z4 := hb.size
  have MX := Lib.hid ho
  have HMX := Lib.hid hw
  clear ho hw hb
  go_wp2_with fail
  ((with_reducible refine (Im11.PiecesJoin _ _ _ _ _ ps _ (MX.out.sts HMX.out)).mono ?_); rintro e w5 ⟨AG, kG, rfl, ho, hb⟩)
  replace R0 := Lib.hid (R0.out.below hb (Nat.le_refl _))
  replace MT := Lib.hid (MT.out.below hb (Nat.le_refl _))
  replace OS := Lib.hid (OS.out.below hb (Nat.le_refl _))
  replace MX := Lib.hid (MX.out.below hb (Nat.le_refl _))
  replace B := Lib.hid (B.out.trans (hb.mono B.out.size))
  have z5 := hb.size
  have OG := Lib.hid ho
  clear ho hb
  go_wp2_with fail
  ((with_reducible refine (Hlp.eqIntS _ _ _ _ _ _ _ _ _ _ _ _ _ OG.out.ints OS.out.ints).mono ?_); rintro e w6 ⟨rfl, hd⟩)
  have hb0 := drew_below hd
  clear hd
  replace R0 := Lib.hid (R0.out.below hb0 (Nat.le_refl _))
  replace MT := Lib.hid (MT.out.below hb0 (Nat.le_refl _))
  replace OS := Lib.hid (OS.out.below hb0 (Nat.le_refl _))
  replace MX := Lib.hid (MX.out.below hb0 (Nat.le_refl _))
  replace OG := Lib.hid (OG.out.below hb0 (Nat.le_refl _))
  replace B := Lib.hid (B.out.trans (hb0.mono B.out.size))
  have z6 := hb0.size
  clear hb0
  rw [decide_eq_true rfl]
  go_wp2_with fail
  ((with_reducible refine (H8.toIntSS _ _ _ _ _ ps _ R0.out HNT.out).mono ?_); rintro e w7 ⟨AU, kU, GU, rfl, ho, hw, hb⟩)
  replace R0 := Lib.hid (R0.out.below hb (Nat.le_refl _))
  replace MT := Lib.hid (MT.out.below hb (Nat.le_refl _))
  replace OS := Lib.hid (OS.out.below hb (Nat.le_refl _))
  replace MX := Lib.hid (MX.out.below hb (Nat.le_refl _))
  replace OG := Lib.hid (OG.out.below hb (Nat.le_refl _))
  replace B := Lib.hid (B.out.trans (hb.mono B.out.size))
  have z7 := hb.size
  have MU := Lib.hid ho
  have HMU := Lib.hid hw
  clear ho hw hb
  go_wp2_with fail
  ((with_reducible refine (H8.eqIntSS _ _ _ _ _ _ _ _ _ ps _ (MX.out.sts HMX.out) (MU.out.sts HMU.out)).mono ?_); rintro e w8 ⟨rfl, hd⟩)
  have hb0 := drew_below hd
  clear hd
  replace R0 := Lib.hid (R0.out.below hb0 (Nat.le_refl _))
  replace MT := Lib.hid (MT.out.below hb0 (Nat.le_refl _))
  replace OS := Lib.hid (OS.out.below hb0 (Nat.le_refl _))
  replace MX := Lib.hid (MX.out.below hb0 (Nat.le_refl _))
  replace OG := Lib.hid (OG.out.below hb0 (Nat.le_refl _))
  replace MU := Lib.hid (MU.out.below hb0 (Nat.le_refl _))
  replace B := Lib.hid (B.out.trans (hb0.mono B.out.size))
  have z8 := hb0.size
  clear hb0
  go_wp2_with fail
  ((with_reducible refine (H8.markIntSS _ _ _ ps _ 1 _ MX.out (by omega) (by omega) (by omega)).mono ?_); rintro e w9 ⟨rfl, hm, hk⟩)
  replace R0 := Lib.hid (R0.out.keptG hk HMX.out (by omega))
  replace MT := Lib.hid (MT.out.keptG hk HMX.out HMT.out (by omega))
  replace OS := Lib.hid (own_keptG OS.out hk HMX.out (by omega))
  replace OG := Lib.hid (own_keptG OG.out hk HMX.out (by omega))
  replace MU := Lib.hid (MU.out.keptG hk HMX.out HMU.out (by omega))
  have hBs := B.out.size
  replace B := Lib.hid (below_keptG B.out hk HMX.out hBs (by omega))
  have z9 := hk.size
  clear hBs
  replace MX := Lib.hid hm
  clear hm hk
  go_wp2_with fail
  ((with_reducible refine (Hlp.eqIntS _ _ _ _ _ _ _ _ _ _ _ _ _ OG.out.ints OS.out.ints).mono ?_); rintro e w10 ⟨rfl, hd⟩)
  have hb0 := drew_below hd
  clear hd
  replace R0 := Lib.hid (R0.out.below hb0 (Nat.le_refl _))
  replace MT := Lib.hid (MT.out.below hb0 (Nat.le_refl _))
  replace OS := Lib.hid (OS.out.below hb0 (Nat.le_refl _))
  replace MX := Lib.hid (MX.out.below hb0 (Nat.le_refl _))
  replace OG := Lib.hid (OG.out.below hb0 (Nat.le_refl _))
  replace MU := Lib.hid (MU.out.below hb0 (Nat.le_refl _))
  replace B := Lib.hid (B.out.trans (hb0.mono B.out.size))
  have z10 := hb0.size
  clear hb0
  rw [decide_eq_true rfl]
  go_wp2_with fail
  ((with_reducible refine (Hlp.markIntS _ _ _ _ _ _ 1 _ OG.out (by omega) (by omega) (by omega)).mono ?_); rintro e w11 ⟨rfl, hm, hk⟩)
  replace R0 := Lib.hid (R0.out.kept hk (by omega))
  replace MT := Lib.hid (MT.out.kept hk HMT.out (by omega))
  replace OS := Lib.hid (OS.out.kept hk (by omega))
  replace MX := Lib.hid (MX.out.kept hk HMX.out (by omega))
  replace MU := Lib.hid (MU.out.kept hk HMU.out (by omega))
  replace B := Lib.hid (B.out.trans (hk.below (by omega)))
  replace OG := Lib.hid hm
  have z11 := Nat.le_of_eq hk.size.symm
  clear hm hk
  go_wp2_with fail
  ((with_reducible refine (Hlp.heldIntS _ _ _ _ _ 1 _ OG.out.ints (by omega) (by omega) (by omega)).mono ?_); rintro e w' ⟨rfl, rfl⟩)
  go_wp2_with fail
  ((with_reducible refine (H8.toIntSS _ _ _ _ _ ps _ R0.out HNT.out).mono ?_); rintro e w13 ⟨AV, kV, GV, rfl, ho, hw, hb⟩)
  replace R0 := Lib.hid (R0.out.below hb (Nat.le_refl _))
  replace MT := Lib.hid (MT.out.below hb (Nat.le_refl _))
  replace OS := Lib.hid (OS.out.below hb (Nat.le_refl _))
  replace MX := Lib.hid (MX.out.below hb (Nat.le_refl _))
  replace OG := Lib.hid (OG.out.below hb (Nat.le_refl _))
  replace MU := Lib.hid (MU.out.below hb (Nat.le_refl _))
  replace B := Lib.hid (B.out.trans (hb.mono B.out.size))
  have z13 := hb.size
  have MV := Lib.hid ho
  have HMV := Lib.hid hw
  clear ho hw hb
  go_wp2_with fail
  ((with_reducible refine (Im11.PiecesJoin _ _ _ _ _ ps _ (MV.out.sts HMV.out)).mono ?_); rintro e w14 ⟨AJ, kJ, rfl, ho, hb⟩)
  replace R0 := Lib.hid (R0.out.below hb (Nat.le_refl _))
  replace MT := Lib.hid (MT.out.below hb (Nat.le_refl _))
  replace OS := Lib.hid (OS.out.below hb (Nat.le_refl _))
  replace MX := Lib.hid (MX.out.below hb (Nat.le_refl _))
  replace OG := Lib.hid (OG.out.below hb (Nat.le_refl _))
  replace MU := Lib.hid (MU.out.below hb (Nat.le_refl _))
  replace MV := Lib.hid (MV.out.below hb (Nat.le_refl _))
  replace B := Lib.hid (B.out.trans (hb.mono B.out.size))
  have z14 := hb.size
  have OJ := Lib.hid ho
  clear ho hb
  go_wp2_with fail
  ((with_reducible refine (Hlp.eqIntS _ _ _ _ _ _ _ _ _ _ _ _ _ OJ.out.ints OS.out.ints).mono ?_); rintro e w15 ⟨rfl, hd⟩)
  have hb0 := drew_below hd
  clear hd
  replace R0 := Lib.hid (R0.out.below hb0 (Nat.le_refl _))
  replace MT := Lib.hid (MT.out.below hb0 (Nat.le_refl _))
  replace OS := Lib.hid (OS.out.below hb0 (Nat.le_refl _))
  replace MX := Lib.hid (MX.out.below hb0 (Nat.le_refl _))
  replace OG := Lib.hid (OG.out.below hb0 (Nat.le_refl _))
  replace MU := Lib.hid (MU.out.below hb0 (Nat.le_refl _))
  replace MV := Lib.hid (MV.out.below hb0 (Nat.le_refl _))
  replace OJ := Lib.hid (OJ.out.below hb0 (Nat.le_refl _))
  replace B := Lib.hid (B.out.trans (hb0.mono B.out.size))
  have z15 := hb0.size
  clear hb0
  rw [decide_eq_true rfl]
  go_wp2_with fail
  ((with_reducible refine (Hlp.heldIntS _ _ _ _ _ 1 _ OG.out.ints (by omega) (by omega) (by omega)).mono ?_); rintro e w' ⟨rfl, rfl⟩)
  go_wp2
  go_ret
  exact ⟨rfl, B.out⟩

set_option maxRecDepth 20000 in
set_option maxHeartbeats 2000000 in
theorem fnExactPiecesRepair (A : Option Addr) (n c : Nat) (ps : List (List Int)) (A9 : Option Addr) (n9 c9 : Nat) (xs : List Int) (w : World) (hx : Sts 0 w.heap.size w A n c ps) (hy : Ints 0 w.heap.size w A9 n9 c9 xs) :
    Calls Try.prog 5 #[.slice A n c, .slice A9 n9 c9] w (TruePost w) := by
  have hxl := hy.len_
  have R0 := Lib.hid hx
  have IA := Lib.hid hy
  clear hx hy
  by_cases hn : 1048576 < n9
  · go_enter Try.func5, Try.ntmps5
    go_wp2
    go_ret
    exact ⟨rfl, Below.refl _ _⟩
  have hxn : xs.length ≤ 1048576 := by omega
  clear hxl
  have B : Hid (Below w.heap.size w w) := Below.refl _ _
  go_enter Try.func5, Try.ntmps5
  go_wp2_with fail
  ((with_reducible refine (H8.szIntSS _ _ _ _ _ ps _ R0.out).mono ?_); rintro e w' ⟨⟨v, rfl, hv⟩, rfl⟩)
  rcases hv with hv | ⟨hv, hnt⟩
  · go_wp2
    go_ret
    exact ⟨rfl, B.out⟩
  have hvd : decide (v < 0) = false := by simpa using hv
  have HNT := Lib.hid hnt
  have htt : tot ps ≤ 1048576 := by omega
  clear hv hnt
  obtain ⟨hdl, hdt⟩ := rep_small ps xs
  have e0 : (repOk ps xs != repOk ps xs) = false := by simp
  go_wp2_with fail
  ((with_reducible refine (H8.toIntSS _ _ _ _ _ ps _ R0.out HNT.out).mono ?_); rintro e w2 ⟨AT, kT, GT, rfl, ho, hw, hb⟩)
  replace R0 := Lib.hid (R0.out.below hb (Nat.le_refl _))
  replace IA := Lib.hid (IA.out.below hb (Nat.le_refl _))
  replace B := Lib.hid (B.out.trans (hb.mono B.out.size))
  have z2 := hb.size
  have MT := Lib.hid ho
  have HMT := Lib.hid hw
  clear ho hw hb
  go_wp2_with fail
  ((with_reducible refine (toIntS _ _ _ _ _ xs _ IA.out (by omega)).mono ?_); rintro e w3 ⟨AT, kT, rfl, ho, hb⟩)
  replace R0 := Lib.hid (R0.out.below hb (Nat.le_refl _))
  replace IA := Lib.hid (IA.out.below hb (Nat.le_refl _))
  replace MT := Lib.hid (MT.out.below hb (Nat.le_refl _))
  replace B := Lib.hid (B.out.trans (hb.mono B.out.size))
  have z3 := hb.size
  have OT := Lib.hid ho
  clear ho hb
  go_wp2_with fail
  ((with_reducible refine (Sp11.PiecesRepair _ _ _ _ _ _ _ _ _ _ ps xs _ (MT.out.sts HMT.out) OT.out.ints).mono ?_); rintro e w4 ⟨vS, ssS, rfl, hg, hs, hb⟩)
  replace R0 := Lib.hid (R0.out.below hb (Nat.le_refl _))
  replace IA := Lib.hid (IA.out.below hb (Nat.le_refl _))
  replace MT := Lib.hid (MT.out.below hb (Nat.le_refl _))
  replace OT := Lib.hid (OT.out.below hb (Nat.le_refl _))
  replace B := Lib.hid (B.out.trans (hb.mono B.out.size))
  have z4 := hb.size
  clear hb
  obtain ⟨AS, kS, GS, rfl, ho, hw⟩ := hg.own
  have hl : ssS.length = (repF ps xs).length := by rw [← hs, List.length_map]
  rw [hs, hl] at ho
  rw [hl]
  have MS := Lib.hid ho
  have HMS := Lib.hid hw
  clear hg hs hl ho hw
  go_wp2_with fail
  ((with_reducible refine (H8.toIntSS _ _ _ _ _ ps _ R0.out HNT.out).mono ?_); rintro e w5 ⟨AX, kX, GX, rfl, ho, hw, hb⟩)
  replace R0 := Lib.hid (R0.out.below hb (Nat.le_refl _))
  replace IA := Lib.hid (IA.out.below hb (Nat.le_refl _))
  replace MT := Lib.hid (MT.out.below hb (Nat.le_refl _))
  replace OT := Lib.hid (OT.out.below hb (Nat.le_refl _))
  replace MS := Lib.hid (MS.out.below hb (Nat.le_refl _))
  replace B := Lib.hid (B.out.trans (hb.mono B.out.size))
  have z5 := hb.size
  have MX := Lib.hid ho
  have HMX := Lib.hid hw
  clear ho hw hb
  go_wp2_with fail
  ((with_reducible refine (toIntS _ _ _ _ _ xs _ IA.out (by omega)).mono ?_); rintro e w6 ⟨AY, kY, rfl, ho, hb⟩)
  replace R0 := Lib.hid (R0.out.below hb (Nat.le_refl _))
  replace IA := Lib.hid (IA.out.below hb (Nat.le_refl _))
  replace MT := Lib.hid (MT.out.below hb (Nat.le_refl _))
  replace OT := Lib.hid (OT.out.below hb (Nat.le_refl _))
  replace MS := Lib.hid (MS.out.below hb (Nat.le_refl _))
  replace MX := Lib.hid (MX.out.below hb (Nat.le_refl _))
  replace B := Lib.hid (B.out.trans (hb.mono B.out.size))
  have z6 := hb.size
  have OY := Lib.hid ho
  clear ho hb
  go_wp2_with fail
  ((with_reducible refine (Im11.PiecesRepair _ _ _ _ _ _ _ _ _ _ ps xs _ (MX.out.sts HMX.out) OY.out.ints).mono ?_); rintro e w7 ⟨AG, kG, GG, rfl, ho, hw, hb⟩)
  replace R0 := Lib.hid (R0.out.below hb (Nat.le_refl _))
  replace IA := Lib.hid (IA.out.below hb (Nat.le_refl _))
  replace MT := Lib.hid (MT.out.below hb (Nat.le_refl _))
  replace OT := Lib.hid (OT.out.below hb (Nat.le_refl _))
  replace MS := Lib.hid (MS.out.below hb (Nat.le_refl _))
  replace MX := Lib.hid (MX.out.below hb (Nat.le_refl _))
  replace OY := Lib.hid (OY.out.below hb (Nat.le_refl _))
  replace B := Lib.hid (B.out.trans (hb.mono B.out.size))
  have z7 := hb.size
  have MG := Lib.hid ho
  have HMG := Lib.hid hw
  clear ho hw hb
  go_wp2_with fail
  ((with_reducible refine (H8.eqIntSS _ _ _ _ _ _ _ _ _ (repF ps xs) _ (MG.out.sts HMG.out) (MS.out.sts HMS.out)).mono ?_); rintro e w8 ⟨rfl, hd⟩)
  have hb0 := drew_below hd
  clear hd
  replace R0 := Lib.hid (R0.out.below hb0 (Nat.le_refl _))
  replace IA := Lib.hid (IA.out.below hb0 (Nat.le_refl _))
  replace MT := Lib.hid (MT.out.below hb0 (Nat.le_refl _))
  replace OT := Lib.hid (OT.out.below hb0 (Nat.le_refl _))
  replace MS := Lib.hid (MS.out.below hb0 (Nat.le_refl _))
  replace MX := Lib.hid (MX.out.below hb0 (Nat.le_refl _))
  replace OY := Lib.hid (OY.out.below hb0 (Nat.le_refl _))
  replace MG := Lib.hid (MG.out.below hb0 (Nat.le_refl _))
  replace B := Lib.hid (B.out.trans (hb0.mono B.out.size))
  have z8 := hb0.size
  clear hb0
  go_wp2_with fail
  ((with_reducible refine (H8.toIntSS _ _ _ _ _ ps _ R0.out HNT.out).mono ?_); rintro e w9 ⟨AU, kU, GU, rfl, ho, hw, hb⟩)
  replace R0 := Lib.hid (R0.out.below hb (Nat.le_refl _))
  replace IA := Lib.hid (IA.out.below hb (Nat.le_refl _))
  replace MT := Lib.hid (MT.out.below hb (Nat.le_refl _))
  replace OT := Lib.hid (OT.out.below hb (Nat.le_refl _))
  replace MS := Lib.hid (MS.out.below hb (Nat.le_refl _))
  replace MX := Lib.hid (MX.out.below hb (Nat.le_refl _))
  replace OY := Lib.hid (OY.out.below hb (Nat.le_refl _))
  replace MG := Lib.hid (MG.out.below hb (Nat.le_refl _))
  replace B := Lib.hid (B.out.trans (hb.mono B.out.size))
  have z9 := hb.size
  have MU := Lib.hid ho
  have HMU := Lib.hid hw
  clear ho hw hb
  go_wp2_with fail
  ((with_reducible refine (H8.eqIntSS _ _ _ _ _ _ _ _ _ ps _ (MX.out.sts HMX.out) (MU.out.sts HMU.out)).mono ?_); rintro e w10 ⟨rfl, hd⟩)
  have hb0 := drew_below hd
  clear hd
  replace R0 := Lib.hid (R0.out.below hb0 (Nat.le_refl _))
  replace IA := Lib.hid (IA.out.below hb0 (Nat.le_refl _))
  replace MT := Lib.hid (MT.out.below hb0 (Nat.le_refl _))
  replace OT := Lib.hid (OT.out.below hb0 (Nat.le_refl _))
  replace MS := Lib.hid (MS.out.below hb0 (Nat.le_refl _))
  replace MX := Lib.hid (MX.out.below hb0 (Nat.le_refl _))
  replace OY := Lib.hid (OY.out.below hb0 (Nat.le_refl _))
  replace MG := Lib.hid (MG.out.below hb0 (Nat.le_refl _))
  replace MU := Lib.hid (MU.out.below hb0 (Nat.le_refl _))
  replace B := Lib.hid (B.out.trans (hb0.mono B.out.size))
  have z10 := hb0.size
  clear hb0
  go_wp2_with fail
  ((with_reducible refine (toIntS _ _ _ _ _ xs _ IA.out (by omega)).mono ?_); rintro e w11 ⟨AW, kW, rfl, ho, hb⟩)
  replace R0 := Lib.hid (R0.out.below hb (Nat.le_refl _))
  replace IA := Lib.hid (IA.out.below hb (Nat.le_refl _))
  replace MT := Lib.hid (MT.out.below hb (Nat.le_refl _))
  replace OT := Lib.hid (OT.out.below hb (Nat.le_refl _))
  replace MS := Lib.hid (MS.out.below hb (Nat.le_refl _))
  replace MX := Lib.hid (MX.out.below hb (Nat.le_refl _))
  replace OY := Lib.hid (OY.out.below hb (Nat.le_refl _))
  replace MG := Lib.hid (MG.out.below hb (Nat.le_refl _))
  replace MU := Lib.hid (MU.out.below hb (Nat.le_refl _))
  replace B := Lib.hid (B.out.trans (hb.mono B.out.size))
  have z11 := hb.size
  have OW := Lib.hid ho
  clear ho hb
  go_wp2_with fail
  ((with_reducible refine (Hlp.eqIntS _ _ _ _ _ _ _ _ _ _ _ _ _ OY.out.ints OW.out.ints).mono ?_); rintro e w12 ⟨rfl, hd⟩)
  have hb0 := drew_below hd
  clear hd
  replace R0 := Lib.hid (R0.out.below hb0 (Nat.le_refl _))
  replace IA := Lib.hid (IA.out.below hb0 (Nat.le_refl _))
  replace MT := Lib.hid (MT.out.below hb0 (Nat.le_refl _))
  replace OT := Lib.hid (OT.out.below hb0 (Nat.le_refl _))
  replace MS := Lib.hid (MS.out.below hb0 (Nat.le_refl _))
  replace MX := Lib.hid (MX.out.below hb0 (Nat.le_refl _))
  replace OY := Lib.hid (OY.out.below hb0 (Nat.le_refl _))
  replace MG := Lib.hid (MG.out.below hb0 (Nat.le_refl _))
  replace MU := Lib.hid (MU.out.below hb0 (Nat.le_refl _))
  replace OW := Lib.hid (OW.out.below hb0 (Nat.le_refl _))
  replace B := Lib.hid (B.out.trans (hb0.mono B.out.size))
  have z12 := hb0.size
  clear hb0
  rw [decide_eq_true rfl]
  go_wp2_with fail
  ((with_reducible refine (H8.markIntSS _ _ _ ps _ 1 _ MX.out (by omega) (by omega) (by omega)).mono ?_); rintro e w13 ⟨rfl, hm, hk⟩)
  replace R0 := Lib.hid (R0.out.keptG hk HMX.out (by omega))
  replace IA := Lib.hid (ints_keptG IA.out hk HMX.out (by omega))
  replace MT := Lib.hid (MT.out.keptG hk HMX.out HMT.out (by omega))
  replace OT := Lib.hid (own_keptG OT.out hk HMX.out (by omega))
  replace MS := Lib.hid (MS.out.keptG hk HMX.out HMS.out (by omega))
  replace OY := Lib.hid (own_keptG OY.out hk HMX.out (by omega))
  replace MG := Lib.hid (MG.out.keptG hk HMX.out HMG.out (by omega))
  replace MU := Lib.hid (MU.out.keptG hk HMX.out HMU.out (by omega))
  replace OW := Lib.hid (own_keptG OW.out hk HMX.out (by omega))
  have hBs := B.out.size
  replace B := Lib.hid (below_keptG B.out hk HMX.out hBs (by omega))
  have z13 := hk.size
  clear hBs
  replace MX := Lib.hid hm
  clear hm hk
  have hk9 : (0 : Int) ≤ 1 + ↑(tot ps) := by omega
  go_wp2_with fail
  ((with_reducible refine (Hlp.markIntS _ _ _ _ _ _ (1 + ↑(tot ps)) _ OY.out (by omega) (by omega) (by omega)).mono ?_); rintro e w14 ⟨rfl, hm, hk⟩)
  replace R0 := Lib.hid (R0.out.kept hk (by omega))
  replace IA := Lib.hid (IA.out.kept hk (by omega))
  replace MT := Lib.hid (MT.out.kept hk HMT.out (by omega))
  replace OT := Lib.hid (OT.out.kept hk (by omega))
  replace MS := Lib.hid (MS.out.kept hk HMS.out (by omega))
  replace MX := Lib.hid (MX.out.kept hk HMX.out (by omega))
  replace MG := Lib.hid (MG.out.kept hk HMG.out (by omega))
  replace MU := Lib.hid (MU.out.kept hk HMU.out (by omega))
  replace OW := Lib.hid (OW.out.kept hk (by omega))
  replace B := Lib.hid (B.out.trans (hk.below (by omega)))
  replace OY := Lib.hid hm
  have z14 := Nat.le_of_eq hk.size.symm
  clear hm hk
  go_wp2_with fail
  ((with_reducible refine (H8.eqIntSS _ _ _ _ _ _ _ _ _ (repF ps xs) _ (MG.out.sts HMG.out) (MS.out.sts HMS.out)).mono ?_); rintro e w15 ⟨rfl, hd⟩)
  have hb0 := drew_below hd
  clear hd
  replace R0 := Lib.hid (R0.out.below hb0 (Nat.le_refl _))
  replace IA := Lib.hid (IA.out.below hb0 (Nat.le_refl _))
  replace MT := Lib.hid (MT.out.below hb0 (Nat.le_refl _))
  replace OT := Lib.hid (OT.out.below hb0 (Nat.le_refl _))
  replace MS := Lib.hid (MS.out.below hb0 (Nat.le_refl _))
  replace MX := Lib.hid (MX.out.below hb0 (Nat.le_refl _))
  replace OY := Lib.hid (OY.out.below hb0 (Nat.le_refl _))
  replace MG := Lib.hid (MG.out.below hb0 (Nat.le_refl _))
  replace MU := Lib.hid (MU.out.below hb0 (Nat.le_refl _))
  replace OW := Lib.hid (OW.out.below hb0 (Nat.le_refl _))
  replace B := Lib.hid (B.out.trans (hb0.mono B.out.size))
  have z15 := hb0.size
  clear hb0
  go_wp2_with fail
  ((with_reducible refine (H8.markIntSS _ _ _ (repF ps xs) _ 1 _ MG.out (by omega) (by omega) (by omega)).mono ?_); rintro e w16 ⟨rfl, hm, hk⟩)
  replace R0 := Lib.hid (R0.out.keptG hk HMG.out (by omega))
  replace IA := Lib.hid (ints_keptG IA.out hk HMG.out (by omega))
  replace MT := Lib.hid (MT.out.keptG hk HMG.out HMT.out (by omega))
  replace OT := Lib.hid (own_keptG OT.out hk HMG.out (by omega))
  replace MS := Lib.hid (MS.out.keptG hk HMG.out HMS.out (by omega))
  replace MX := Lib.hid (MX.out.keptG hk HMG.out HMX.out (by omega))
  replace OY := Lib.hid (own_keptG OY.out hk HMG.out (by omega))
  replace MU := Lib.hid (MU.out.keptG hk HMG.out HMU.out (by omega))
  replace OW := Lib.hid (own_keptG OW.out hk HMG.out (by omega))
  have hBs := B.out.size
  replace B := Lib.hid (below_keptG B.out hk HMG.out hBs (by omega))
  have z16 := hk.size
  clear hBs
  replace MG := Lib.hid hm
  clear hm hk
  go_wp2_with fail
  ((with_reducible refine (H8.heldIntSS _ _ _ _ _ (repF ps xs) 1 _ (MG.out.sts HMG.out) (by omega) (by omega) (by omega)).mono ?_); rintro e w' ⟨rfl, rfl⟩)
  go_wp2_with fail
  ((with_reducible refine (H8.toIntSS _ _ _ _ _ ps _ R0.out HNT.out).mono ?_); rintro e w18 ⟨AV, kV, GV, rfl, ho, hw, hb⟩)
  replace R0 := Lib.hid (R0.out.below hb (Nat.le_refl _))
  replace IA := Lib.hid (IA.out.below hb (Nat.le_refl _))
  replace MT := Lib.hid (MT.out.below hb (Nat.le_refl _))
  replace OT := Lib.hid (OT.out.below hb (Nat.le_refl _))
  replace MS := Lib.hid (MS.out.below hb (Nat.le_refl _))
  replace MX := Lib.hid (MX.out.below hb (Nat.le_refl _))
  replace OY := Lib.hid (OY.out.below hb (Nat.le_refl _))
  replace MG := Lib.hid (MG.out.below hb (Nat.le_refl _))
  replace MU := Lib.hid (MU.out.below hb (Nat.le_refl _))
  replace OW := Lib.hid (OW.out.below hb (Nat.le_refl _))
  replace B := Lib.hid (B.out.trans (hb.mono B.out.size))
  have z18 := hb.size
  have MV := Lib.hid ho
  have HMV := Lib.hid hw
  clear ho hw hb
  go_wp2_with fail
  ((with_reducible refine (toIntS _ _ _ _ _ xs _ IA.out (by omega)).mono ?_); rintro e w19 ⟨AZ, kZ, rfl, ho, hb⟩)
  replace R0 := Lib.hid (R0.out.below hb (Nat.le_refl _))
  replace IA := Lib.hid (IA.out.below hb (Nat.le_refl _))
  replace MT := Lib.hid (MT.out.below hb (Nat.le_refl _))
  replace OT := Lib.hid (OT.out.below hb (Nat.le_refl _))
  replace MS := Lib.hid (MS.out.below hb (Nat.le_refl _))
  replace MX := Lib.hid (MX.out.below hb (Nat.le_refl _))
  replace OY := Lib.hid (OY.out.below hb (Nat.le_refl _))
  replace MG := Lib.hid (MG.out.below hb (Nat.le_refl _))
  replace MU := Lib.hid (MU.out.below hb (Nat.le_refl _))
  replace OW := Lib.hid (OW.out.below hb (Nat.le_refl _))
  replace MV := Lib.hid (MV.out.below hb (Nat.le_refl _))
  replace B := Lib.hid (B.out.trans (hb.mono B.out.size))
  have z19 := hb.size
  have OZ := Lib.hid ho
  clear ho hb
  go_wp2_with fail
  ((with_reducible refine (Im11.PiecesRepair _ _ _ _ _ _ _ _ _ _ ps xs _ (MV.out.sts HMV.out) OZ.out.ints).mono ?_); rintro e w20 ⟨AJ, kJ, GJ, rfl, ho, hw, hb⟩)
  replace R0 := Lib.hid (R0.out.below hb (Nat.le_refl _))
  replace IA := Lib.hid (IA.out.below hb (Nat.le_refl _))
  replace MT := Lib.hid (MT.out.below hb (Nat.le_refl _))
  replace OT := Lib.hid (OT.out.below hb (Nat.le_refl _))
  replace MS := Lib.hid (MS.out.below hb (Nat.le_refl _))
  replace MX := Lib.hid (MX.out.below hb (Nat.le_refl _))
  replace OY := Lib.hid (OY.out.below hb (Nat.le_refl _))
  replace MG := Lib.hid (MG.out.below hb (Nat.le_refl _))
  replace MU := Lib.hid (MU.out.below hb (Nat.le_refl _))
  replace OW := Lib.hid (OW.out.below hb (Nat.le_refl _))
  replace MV := Lib.hid (MV.out.below hb (Nat.le_refl _))
  replace OZ := Lib.hid (OZ.out.below hb (Nat.le_refl _))
  replace B := Lib.hid (B.out.trans (hb.mono B.out.size))
  have z20 := hb.size
  have MJ := Lib.hid ho
  have HMJ := Lib.hid hw
  clear ho hw hb
  go_wp2_with fail
  ((with_reducible refine (H8.eqIntSS _ _ _ _ _ _ _ _ _ (repF ps xs) _ (MJ.out.sts HMJ.out) (MS.out.sts HMS.out)).mono ?_); rintro e w21 ⟨rfl, hd⟩)
  have hb0 := drew_below hd
  clear hd
  replace R0 := Lib.hid (R0.out.below hb0 (Nat.le_refl _))
  replace IA := Lib.hid (IA.out.below hb0 (Nat.le_refl _))
  replace MT := Lib.hid (MT.out.below hb0 (Nat.le_refl _))
  replace OT := Lib.hid (OT.out.below hb0 (Nat.le_refl _))
  replace MS := Lib.hid (MS.out.below hb0 (Nat.le_refl _))
  replace MX := Lib.hid (MX.out.below hb0 (Nat.le_refl _))
  replace OY := Lib.hid (OY.out.below hb0 (Nat.le_refl _))
  replace MG := Lib.hid (MG.out.below hb0 (Nat.le_refl _))
  replace MU := Lib.hid (MU.out.below hb0 (Nat.le_refl _))
  replace OW := Lib.hid (OW.out.below hb0 (Nat.le_refl _))
  replace MV := Lib.hid (MV.out.below hb0 (Nat.le_refl _))
  replace OZ := Lib.hid (OZ.out.below hb0 (Nat.le_refl _))
  replace MJ := Lib.hid (MJ.out.below hb0 (Nat.le_refl _))
  replace B := Lib.hid (B.out.trans (hb0.mono B.out.size))
  have z21 := hb0.size
  clear hb0
  go_wp2_with fail
  ((with_reducible refine (H8.heldIntSS _ _ _ _ _ (repF ps xs) 1 _ (MG.out.sts HMG.out) (by omega) (by omega) (by omega)).mono ?_); rintro e w' ⟨rfl, rfl⟩)
  go_wp2
  go_ret
  exact ⟨rfl, B.out⟩

end Law11x
end Go.Proofs.Ytoghgliijjfppab
