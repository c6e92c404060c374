/-
  Contract of the program's DirectoryPath.
-/
import Derived.Test.YtfjggpdinfidcaaIm9f
namespace Go.Proofs.Ytfjggpdinfidcaa
open Go.RowKit Go.Shelf
namespace Im9
open Il Sl Gm Cm Ec Dm Sp9 Sg
attribute [local go_sem] Oper.semAt_some

theorem nil_new {w w1 : World} (h : Below w.heap.size w w1) : NewInts w [] (.returned (.slice (some ⟨w1.heap.size, 0, none⟩) 0 0)) (w1.alloc (.cells #[] 3)) :=
  ⟨_, 0, rfl, ⟨Ints.nil_ (Nat.zero_le _), fun _ _ h => absurd h (Nat.lt_irrefl 0)⟩, h.alloc h.size _⟩
/-- What stands in the path's row once the places ch are chosen. -/
def rowP (es : List En) (ch : List Int) (H : Nat) : List Int := ch.map (nmI es) ++ List.replicate (H - ch.length) 0
theorem rowP_nil (es : List En) (H : Nat) : rowP es [] H = List.replicate H 0 := rfl
theorem rowP_all (es : List En) {ch : List Int} {H : Nat} (h : ch.length = H) : rowP es ch H = ch.map (nmI es) := by
  unfold rowP
  rw [h, Nat.sub_self, List.replicate_zero, List.append_nil]
theorem rowP_set (es : List En) {ch : List Int} {g H j : Nat} (h : ch.length = g) (hg : g < H) : (rowP es ch H).set g (enAt es j).nm = rowP es (ch ++ [(j : Int)]) H := by
  unfold rowP
  have hl : (ch.map (nmI es)).length = g := by rw [List.length_map, h]
  rw [List.set_append_right _ _ (by omega), hl, Nat.sub_self, h, List.length_append, List.length_singleton, h, List.map_append, List.append_assoc]
  obtain ⟨r, hr⟩ : ∃ r, H - g = r + 1 := ⟨H - g - 1, by omega⟩
  rw [hr, show H - (g + 1) = r by omega, List.replicate_succ, List.set_cons_zero]
  rfl
/-- .. the rest of the entries below it, and all else as it was. -/
def QRel (w wr : World) (es : List En) (ch : List Int) (A : Option Addr) (c gp H : Nat) : Prop :=
  EnsO w.heap.size gp wr A (restOf es ch).length c (restOf es ch) ∧ Il.Own gp (gp + 1) wr (some ⟨gp, 0, none⟩) H H (rowP es ch H) ∧ Below w.heap.size w wr ∧ gp < wr.heap.size ∧ w.heap.size ≤ gp
section
variable {w wr w2 : World} {es : List En} {ch : List Int} {A : Option Addr} {c gp H : Nat}
theorem QRel.bel (h : QRel w wr es ch A c gp H) : Below w.heap.size w wr := h.2.2.1
theorem QRel.ens (h : QRel w wr es ch A c gp H) : Ens w.heap.size gp wr A (restOf es ch).length c (restOf es ch) := h.1.row_
theorem QRel.below (h : QRel w wr es ch A c gp H) (hb : Below wr.heap.size wr w2) : QRel w w2 es ch A c gp H :=
  ⟨h.1.below hb (Nat.le_refl _), h.2.1.below hb (Nat.le_refl _), h.2.2.1.trans (hb.mono h.2.2.1.size), Nat.lt_of_lt_of_le h.2.2.2.1 hb.size, h.2.2.2.2⟩
theorem QRel.drew (h : QRel w wr es ch A c gp H) (d : Nat) : QRel w (wr.drewN d) es ch A c gp H := ⟨h.1, h.2.1, below_dr h.2.2.1, h.2.2.2⟩
/-- The path's next place is written. -/
theorem QRel.put (h : QRel w wr es ch A c gp H) {g j : Nat} (hl : ch.length = g) (hg : g < H) :
    EnsO w.heap.size gp (wr.setCell ⟨gp, g, none⟩ (.int .i64 (enAt es j).nm)) A (restOf es ch).length c (restOf es ch) ∧ Il.Own gp (gp + 1) (wr.setCell ⟨gp, g, none⟩ (.int .i64 (enAt es j).nm)) (some ⟨gp, 0, none⟩) H H (rowP es (ch ++ [(j : Int)]) H) ∧ Below w.heap.size w (wr.setCell ⟨gp, g, none⟩ (.int .i64 (enAt es j).nm)) ∧ gp < (wr.setCell ⟨gp, g, none⟩ (.int .i64 (enAt es j).nm)).heap.size := by
  obtain ⟨h1, h2, h3, h4, h5⟩ := h
  have hk : Kept gp (gp + 1) wr (wr.setCell ⟨gp, g, none⟩ (.int .i64 (enAt es j).nm)) := (Kept.refl gp (gp + 1) wr).set (p := ⟨gp, g, none⟩) (Nat.le_refl _) (Nat.lt_succ_self _) _
  have ho := h2.set_ hg (enAt es j).nm
  rw [rowP_set es hl hg, Nat.zero_add] at ho
  exact ⟨h1.kept hk (by omega), ho, h3.trans (hk.below h5), by rw [hk.size]; exact h4⟩
theorem QRel.next {w3 : World} {off i n b : Nat} {j : Int} (h2 : Il.Own gp (gp + 1) w2 (some ⟨gp, 0, none⟩) H H (rowP es (ch ++ [j]) H)) (h3 : Below w.heap.size w w2) (h4 : gp < w2.heap.size) (h5 : w.heap.size ≤ gp)
    (hd : EnsO w.heap.size gp w3 (some ⟨b, off, none⟩) n c ((restOf es ch).eraseIdx i)) (hn : n = (restOf es (ch ++ [j])).length) (hk : Kept w.heap.size gp w2 w3) (he : restOf es (ch ++ [j]) = (restOf es ch).eraseIdx i) : QRel w w3 es (ch ++ [j]) (some ⟨b, off, none⟩) c gp H :=
  ⟨by rw [← hn, he]; exact hd, h2.kept hk (by omega), h3.trans (hk.below (Nat.le_refl _)), by rw [hk.size]; exact h4, h5⟩
theorem QRel.post (h : QRel w wr es ch A c gp H) (hl : ch.length = H) : NewInts w (ch.map (nmI es)) (.returned (.slice (some ⟨gp, 0, none⟩) H H)) wr := by
  obtain ⟨h1, h2, h3, h4, h5⟩ := h
  rw [rowP_all es hl] at h2
  have he : (ch.map (nmI es)).length = H := by rw [List.length_map, hl]
  exact ⟨_, H, by rw [he], by rw [he]; exact h2.mono h5 (by omega), h3⟩
end
set_option maxRecDepth 20000 in
set_option maxHeartbeats 4000000 in
theorem DirectoryPath (ep s h : Int) (es : List En) (A : Option Addr) (n k lo hi : Nat) (w : World) (hx : Ens lo hi w A n k es) :
    Calls Try.prog 30 #[.agg #[.int .i64 ep, .slice A n k], .int .i64 s, .int .i64 h] w (NewInts w (pathF ep es s h)) := by
  have HR0 := Lib.hid (drel_new hx ep)
  have HL := Lib.hid hx.len_
  clear hx
  obtain ⟨z0, z1, zf⟩ := HR0.out.box.cells
  go_enter Try.func30, Try.ntmps30
  go_wp2_with fail
  ((with_reducible refine (DirectoryValid ep es _ _ _ _ _ _ HR0.out.ens).mono ?_); rintro e w1 ⟨rfl, hb⟩)
  have HR1 := Lib.hid (HR0.out.below hb)
  clear hb z0 z1 zf HR0
  obtain ⟨z0, z1, zf⟩ := HR1.out.box.cells
  cases hd : dirOk ep es
  · have HV : Hid (pathF ep es s h = []) := pathF_no (by rw [hd]; rfl)
    have HP := Lib.hid (nil_new HR1.out.bel)
    go_wp2
    go_ret
    rw [HV.out]
    exact HP.out
  by_cases hs0 : s < 0
  · have HV : Hid (pathF ep es s h = []) := pathF_no (by rw [show seedB s = false from decide_eq_false fun h => by omega, Bool.false_and, Bool.and_false])
    have HP := Lib.hid (nil_new HR1.out.bel)
    have d0 : decide (s < 0) = true := decide_eq_true hs0
    go_wp2
    go_ret
    rw [HV.out]
    exact HP.out
  have d0 : decide (s < 0) = false := decide_eq_false hs0
  by_cases hs1 : 999999 < s
  · have HV : Hid (pathF ep es s h = []) := pathF_no (by rw [show seedB s = false from decide_eq_false fun h => by omega, Bool.false_and, Bool.and_false])
    have HP := Lib.hid (nil_new HR1.out.bel)
    have d1 : decide (999999 < s) = true := decide_eq_true hs1
    go_wp2
    go_ret
    rw [HV.out]
    exact HP.out
  have d1 : decide (999999 < s) = false := decide_eq_false hs1
  by_cases hh0 : h < 1
  · have HV : Hid (pathF ep es s h = []) := pathF_no (by rw [show hopB h = false from decide_eq_false fun h => by omega, Bool.and_false, Bool.and_false])
    have HP := Lib.hid (nil_new HR1.out.bel)
    have d2 : decide (h < 1) = true := decide_eq_true hh0
    go_wp2
    go_ret
    rw [HV.out]
    exact HP.out
  have d2 : decide (h < 1) = false := decide_eq_false hh0
  by_cases hh1 : 3 < h
  · have HV : Hid (pathF ep es s h = []) := pathF_no (by rw [show hopB h = false from decide_eq_false fun h => by omega, Bool.and_false, Bool.and_false])
    have HP := Lib.hid (nil_new HR1.out.bel)
    have d3 : decide (3 < h) = true := decide_eq_true hh1
    go_wp2
    go_ret
    rw [HV.out]
    exact HP.out
  have d3 : decide (3 < h) = false := decide_eq_false hh1
  have HV : Hid (pathF ep es s h = pathN es h.toNat [] s) := pathF_yes hd (decide_eq_true ⟨by omega, by omega⟩) (decide_eq_true ⟨by omega, by omega⟩)
  have HW := Lib.hid (wn_of hd)
  have HD := Lib.hid hd
  obtain ⟨H, rfl⟩ := Int.eq_ofNat_of_zero_le (show 0 ≤ h by omega)
  have hH1 : 1 ≤ H := by omega
  have hH : H ≤ 3 := by omega
  have hs2 : 0 ≤ s := by omega
  have hs3 : s ≤ 999999 := by omega
  have hn6 : n ≤ 100000 := by have := HW.out.1; rw [HL.out] at this; omega
  clear hd hs0 hs1 hh0 hh1
  go_wp2_with fail
  (with_reducible refine (cloneE _ _ _ _ _ es _ HR1.out.ens hn6).mono ?_)
  rintro e w2 ⟨A2, c2, rfl, ho2, hb2⟩
  have HB2 := Lib.hid (HR1.out.bel.trans (hb2.mono HR1.out.bel.size))
  have hs1 : w.heap.size ≤ w2.heap.size := HB2.out.size
  have HQ0 : Hid (QRel w (w2.alloc (.cells (madeCells #[.int .i64 0] H) 3)) es [] A2 c2 w2.heap.size H) := by
    have hal : Below w2.heap.size w2 (w2.alloc (.cells (madeCells #[.int .i64 0] H) 3)) := (Below.refl _ _).alloc (Nat.le_refl _) _
    refine ⟨?_, by rw [rowP_nil]; exact own_made w2 3 H (by unfold maxLen; omega), HB2.out.trans (hal.mono hs1), by simp, hs1⟩
    rw [rest_nil]
    exact (ho2.mono HR1.out.bel.size (Nat.le_refl _)).below hal (Nat.le_refl _)
  have hmk := run_make_row' (P := Try.prog) 32 3 (.int .i64 0) 8 Try.underlying32 infoInt rfl .i64 .i64 H (by omega) (by omega)
  clear ho2 hb2 z0 z1 zf HR1 HB2
  have hrl : es.length = (restOf es []).length := by rw [rest_nil]
  rw [hrl]
  clear hrl
  go_wp2
  clear hmk
  generalize hgp : w2.heap.size = gp at *
  generalize (w2.alloc (.cells (madeCells #[.int .i64 0] H) 3)) = w3 at *
  clear hgp
  go_loopw [1, 7, 9, 10, 11, 39] (fun sd r7 _ _ _ i wr => ∃ (g : Nat) (ch : List Int) (q : Int) (A7 : Option Addr) (c7 : Nat), g ≤ H ∧ i = .int .i64 g ∧ sd = .int .i64 q ∧ r7 = .slice A7 (restOf es ch).length c7 ∧ ch.length = g ∧ 0 ≤ q ∧ q ≤ 999999 ∧ Hid (Chosen es ch ∧ pathC es (H - g) ch q = pathC es H [] s) ∧ Hid (QRel w wr es ch A7 c7 gp H)) (fun _ _ _ _ _ i _ => H - (intOf i).toNat)
  case atStart => exact ⟨0, [], s, A2, c2, Nat.zero_le _, rfl, rfl, rfl, rfl, hs2, hs3, ⟨chosen_nil es, rfl⟩, HQ0.out⟩
  case round =>
    obtain ⟨g, ch, q, A7, c7, hg, rfl, rfl, rfl, hcl, hq0, hq1, hT, hR⟩ := hrel
    clear HQ0
    by_cases hlt : g < H
    · have HR := Lib.hid hR.out
      have hwr := wn_rest HW.out ch
      have HWR := Lib.hid hwr
      have hrn : (restOf es ch).length ≤ 6 := hwr.1
      obtain ⟨hw0, hw1⟩ := wtL_max HD.out ch
      clear hR hwr
      go_wp2_with fail
      ((with_reducible refine (sumOfWeights (restOf es ch) _ _ _ _ _ _ HR.out.ens HWR.out.wb).mono ?_); rintro e w4 ⟨rfl, hb4⟩)
      rw [wtL_rest]
      have HR4 := Lib.hid (HR.out.below hb4)
      clear hb4 HR
      by_cases hw : wtL ch es = 0
      · have HF : Hid (pathF ep es s (H : Int) = []) := HV.out.trans (pathN_none (by rw [Int.toNat_natCast, ← hT.out.2, show H - g = (H - g - 1) + 1 by omega]; exact pathC_none hw))
        have HP := Lib.hid (nil_new HR4.out.bel)
        rw [hw]
        clear hT hw hw0 hw1
        go_wp2
        go_ret
        rw [HF.out]
        exact HP.out
      · have hwp : 0 < wtL ch es := by omega
        have hm0 : 0 ≤ q % wtL ch es := Int.emod_nonneg _ hw
        have hm2 : q % wtL ch es < wtL ch es := Int.emod_lt_of_pos q hwp
        have hm1 : q % wtL ch es ≤ 9223372036854775807 := by omega
        obtain ⟨i, j, hi, hj, hp1, hp2, he, hr⟩ := pick_rest HW.out.nn hm0 hm2
        have HE := Lib.hid he
        have HRE := Lib.hid hr
        have HCH : Hid (Chosen es (ch ++ [(j : Int)]) ∧ pathC es (H - (g + 1)) (ch ++ [(j : Int)]) (q / wtL ch es) = pathC es H [] s) := by
          refine ⟨by rw [← hp2]; exact chosen_next HW.out.nn hT.out.1 hw, ?_⟩
          rw [← hT.out.2, show H - g = (H - (g + 1)) + 1 by omega, pathC_next hw, hp2]
        have hd0 : 0 ≤ q / wtL ch es := Int.ediv_nonneg hq0 (by omega)
        have hd1 : q / wtL ch es ≤ 999999 := Int.le_trans (Int.ediv_le_self _ hq0) hq1
        have hwz : (wtL ch es == 0) = false := by simpa using hw
        clear hp2 he hr hT hm2
        have HCL : Hid (Calls Try.prog 57 #[.slice A7 (restOf es ch).length c7, .int .i64 (q % wtL ch es)] w4 (IntB (i : Int) w4)) := by
          rw [← hp1]
          exact entryAt (restOf es ch) (q % wtL ch es) _ _ _ _ _ _ HR4.out.ens HWR.out hm0 hm1
        clear hp1
        generalize wtL ch es = wv at *
        go_wp2_with fail
        ((with_reducible refine (HCL.out).mono ?_); rintro e w5 ⟨rfl, hb5⟩)
        have HR5 := Lib.hid (HR4.out.below hb5)
        obtain ⟨bE, oE, rfl, _, _, _, c0, c1, c2⟩ := HR5.out.ens.at_ hi
        rw [HE.out] at c0 c1 c2
        have hO := HR5.out.2.1
        obtain ⟨b', off', e', _, _, m0⟩ := hO.ints.at_ hlt
        simp only [Option.some.injEq, Addr.mk.injEq, and_true] at e'
        obtain ⟨rfl, rfl⟩ := e'
        have f0 := hO.2 _ _ (by omega) rfl g hlt
        rw [Nat.zero_add] at m0 f0
        have hput := HR5.out.put (j := j) hcl hlt
        have hgp5 := HR5.out.2.2.2.2
        have HPT := Lib.hid hput
        have hii : (i : Int) < ((restOf es ch).length : Int) := by omega
        have HDL : Hid (Calls Try.prog 61 #[.slice (some ⟨bE, oE, none⟩) (restOf es ch).length c7, .int .i64 (i : Int), .int .i64 ((i : Int) + 1)] (w5.setCell ⟨gp, g, none⟩ (.int .i64 (enAt es j).nm)) (DelPost w.heap.size gp bE oE (restOf es ch).length c7 i (restOf es ch) (w5.setCell ⟨gp, g, none⟩ (.int .i64 (enAt es j).nm)))) :=
          deleteE w.heap.size gp bE oE _ c7 i (i + 1) (restOf es ch) _ HPT.out.1 rfl hi (by omega)
        have HLN : Hid ((restOf es ch).length - 1 = (restOf es (ch ++ [(j : Int)])).length) := by show _ = _; rw [HRE.out, List.length_eraseIdx_of_lt hi]
        clear hb5 hO hput HR4 HR5 HCL
        generalize (enAt es j).nm = x at *
        go_wp2_with fail
        (with_reducible refine HDL.out.mono ?_)
        rintro e w6 ⟨rfl, hd6, hk6⟩
        have HQ6 := Lib.hid (QRel.next HPT.out.2.1 HPT.out.2.2.1 HPT.out.2.2.2 hgp5 hd6 HLN.out hk6 HRE.out)
        rw [HLN.out]
        clear hd6 hk6 HPT HDL c0 c1 c2 m0 f0
        go_wp2
        go_roundw
        case rel => exact ⟨g + 1, ch ++ [(j : Int)], q / wv, _, c7, by omega, by go_num, rfl, rfl, by rw [List.length_append, List.length_singleton, hcl], hd0, hd1, HCH.out, HQ6.out⟩
        case measure => simp [intOf]; omega
    · obtain rfl : g = H := by omega
      have HF : Hid (pathF ep es s (g : Int) = ch.map (nmI es)) := HV.out.trans (pathN_some (by rw [Int.toNat_natCast, ← hT.out.2, Nat.sub_self]; rfl))
      have HP := Lib.hid (hR.out.post hcl)
      clear hT hR
      go_wp2
      go_ret
      rw [HF.out]
      exact HP.out

end Im9
end Go.Proofs.Ytfjggpdinfidcaa
