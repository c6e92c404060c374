/-
  Contracts of the model's chapter 21: digests, signatures.
-/
import Derived.Test.YtfnbjojaflloaabSp9
namespace Go.Proofs.Ytfnbjojaflloaab
open Go.RowKit
namespace Sp9
open Il Sl Ec Dm Gm

set_option maxRecDepth 20000 in
theorem l1Times (a b : Int) (w : World) (ha : inG a = true) (hb : inG b = true) :
    Calls Try.prog 36 #[.int .i64 a, .int .i64 b] w fun e w' => e = .returned (.int .i64 (mulG a b)) ∧ w = w' := by
  rw [mulG_in ha hb]
  obtain ⟨a1, a2⟩ := inG_iff.1 ha
  obtain ⟨b1, b2⟩ := inG_iff.1 hb
  have hm : 0 ≤ a * b ∧ a * b ≤ 992016 := ⟨Int.mul_nonneg (by omega) (by omega), by have := Int.mul_le_mul a2 b2 (by omega) (by omega); omega⟩
  obtain ⟨hm1, hm2⟩ := hm
  clear ha hb
  go_enter Try.func36, Try.ntmps36
  go_wp2
  go_ret
  exact ⟨rfl, rfl⟩
set_option maxRecDepth 20000 in
set_option maxHeartbeats 2000000 in
theorem l21Digest (ep : Int) (es : List En) (A : Option Addr) (n k lo hi : Nat) (w : World) (hx : Ens lo hi w A n k es) (hd : dirOk ep es = true) :
    Calls Try.prog 51 #[.agg #[.int .i64 ep, .slice A n k]] w (IntB (digL ep es) w) := by
  obtain ⟨ho, ⟨hep1, hep2⟩, hl6⟩ := dirOk_iff.1 hd
  have HO := Lib.hid ho
  have HL := Lib.hid hx.len_
  have hn6 : n ≤ 6 := by rw [← hx.len_]; exact hl6
  have HR0 := Lib.hid (drel_new hx ep)
  have HI : Hid ((41 * (n : Int) + 7 * ep + 1) % 991 = digTo ep es 0) := by show _ = _; rw [digTo_zero, ← HL.out]; rfl
  clear hx hd ho hl6
  go_enter Try.func51, Try.ntmps51
  go_wp2
  rw [HI.out]
  clear HI
  go_loopw [3, 4] (fun t i wr => ∃ j : Nat, j ≤ n ∧ i = .int .i64 j ∧ t = .int .i64 (digTo ep es j) ∧ Hid (DRel w.heap.size lo hi w wr A n k ep es)) (fun _ i _ => n - (intOf i).toNat)
  case atStart => exact ⟨0, Nat.zero_le _, rfl, rfl, HR0.out⟩
  case round =>
    obtain ⟨j, hj, rfl, rfl, hR⟩ := hrel
    clear HR0
    obtain ⟨z0, z1, zf⟩ := hR.out.box.cells
    have hb := digTo_bd ep es j
    by_cases hlt : j < n
    · obtain ⟨b, off, rfl, _, _, hbz, c0, c1, c2⟩ := hR.out.ens.at_ hlt
      have HN := Lib.hid (digTo_succ ep (es := es) (k := j) (by rw [HL.out]; exact hlt))
      obtain ⟨⟨n1, n2⟩, ⟨p1, p2⟩, q1, q2⟩ := okE_iff.1 (ok_ix HO.out (k := j) (by rw [HL.out]; exact hlt))
      have HRB := Lib.hid (hR.out.alloc (.cells #[.int .i64 (enAt es j).nm, .int .i64 (enAt es j).pu, .int .i64 (enAt es j).wt] 71))
      clear hR
      generalize enAt es j = x at *
      generalize digTo ep es j = t at hb HN ⊢
      have HE : Hid (dstep t x = (613 * ((613 * ((613 * t + x.nm + 1) % 991) + x.pu + 1) % 991) + x.wt + 1) % 991) := rfl
      go_wp2
      go_roundw
      case rel => exact ⟨j + 1, by omega, by go_num, by rw [HN.out, HE.out], HRB.out⟩
      case measure => simp [intOf]; omega
    · obtain rfl : j = n := by omega
      have hfin : digTo ep es j = digL ep es := by rw [← HL.out]; exact digTo_all ep es
      rw [hfin]
      have HB := Lib.hid hR.out.bel
      clear hfin hb hR
      go_wp2
      go_ret
      exact ⟨rfl, HB.out⟩
set_option maxRecDepth 20000 in
theorem DirectoryDigest (ep : Int) (es : List En) (A : Option Addr) (n k lo hi : Nat) (w : World) (hx : Ens lo hi w A n k es) :
    Calls Try.prog 24 #[.agg #[.int .i64 ep, .slice A n k]] w (IntB (digF ep es) w) := by
  have HR0 := Lib.hid (drel_new hx ep)
  have hs0 : w.heap.size < (w.alloc (.cells #[.int .i64 ep, .slice A n k] 40)).heap.size := by simp
  clear hx
  obtain ⟨z0, z1, zf⟩ := HR0.out.box.cells
  go_enter Try.func24, Try.ntmps24
  go_wp2_with fail
  ((with_reducible refine (DirectoryValid ep es _ _ _ _ _ _ HR0.out.ens).mono ?_); rintro e w1 ⟨rfl, hb⟩)
  have HR1 := Lib.hid (HR0.out.below hb)
  clear hb z0 z1 zf HR0
  obtain ⟨z0, z1, zf⟩ := HR1.out.box.cells
  cases hd : dirOk ep es
  · have HV := Lib.hid (digF_no hd)
    go_wp2
    go_ret
    rw [HV.out]
    exact ⟨rfl, HR1.out.bel⟩
  · have HV := Lib.hid (digF_yes hd)
    go_wp2_with fail
    ((with_reducible refine (l21Digest ep es _ _ _ _ _ _ HR1.out.ens hd).mono ?_); rintro e w2 ⟨rfl, hb⟩)
    have HR2 := Lib.hid (HR1.out.below hb)
    clear hb z0 z1 zf HR1
    go_wp2
    go_ret
    rw [HV.out]
    exact ⟨rfl, HR2.out.bel⟩
set_option maxRecDepth 20000 in
theorem DirectorySign (s ep : Int) (es : List En) (A : Option Addr) (n k lo hi : Nat) (w : World) (hx : Ens lo hi w A n k es) :
    Calls Try.prog 57 #[.int .i64 s, .agg #[.int .i64 ep, .slice A n k]] w (IntB (signF s ep es) w) := by
  have HR0 := Lib.hid (drel_new hx ep)
  clear hx
  obtain ⟨z0, z1, zf⟩ := HR0.out.box.cells
  go_enter Try.func57, Try.ntmps57
  go_wp2_with fail
  ((with_reducible refine (Sg.l1Is s _).mono ?_); rintro e w1 ⟨rfl, rfl⟩)
  cases hs : inG s
  · have HV : Hid (signF s ep es = 0) := by show signF s ep es = 0; unfold signF; rw [hs]; rfl
    go_wp2
    go_ret
    rw [HV.out]
    exact ⟨rfl, HR0.out.bel⟩
  · have HG := Lib.hid hs
    clear hs
    go_wp2_with fail
    ((with_reducible refine (DirectoryValid ep es _ _ _ _ _ _ HR0.out.ens).mono ?_); rintro e w1 ⟨rfl, hb⟩)
    have HR1 := Lib.hid (HR0.out.below hb)
    clear hb z0 z1 zf HR0
    obtain ⟨z0, z1, zf⟩ := HR1.out.box.cells
    cases hd : dirOk ep es
    · have HV : Hid (signF s ep es = 0) := by show signF s ep es = 0; unfold signF; rw [HG.out, hd]; rfl
      go_wp2
      go_ret
      rw [HV.out]
      exact ⟨rfl, HR1.out.bel⟩
    · have HV : Hid (signF s ep es = mulG s (digL ep es + 1)) := by show signF s ep es = _; unfold signF; rw [HG.out, hd]; rfl
      have hdb := digL_bd ep es
      have HI := Lib.hid (dig_in ep es)
      go_wp2_with fail
      ((with_reducible refine (l21Digest ep es _ _ _ _ _ _ HR1.out.ens hd).mono ?_); rintro e w2 ⟨rfl, hb⟩)
      have HR2 := Lib.hid (HR1.out.below hb)
      clear hb z0 z1 zf HR1 hd
      generalize digL ep es = d at *
      go_wp2_with fail
      ((with_reducible refine (l1Times s (d + 1) _ HG.out HI.out).mono ?_); rintro e w3 ⟨rfl, rfl⟩)
      go_wp2
      go_ret
      rw [HV.out]
      exact ⟨rfl, HR2.out.bel⟩
theorem right_no {p g d : Int} (h : ¬ 0 < g) : rightB p g d = false := by unfold rightB; rw [decide_eq_false h]; rfl
theorem right_yes {p g d : Int} (h : 0 < g) : rightB p g d = (mulG g 5 == mulG p (d + 1)) := by
  unfold rightB
  rw [decide_eq_true h, Bool.true_and, Bool.eq_iff_iff, decide_eq_true_eq, beq_iff_eq]
set_option maxRecDepth 20000 in
set_option maxHeartbeats 2000000 in
theorem DirectoryCheck (ps gs : List Int) (ep : Int) (es : List En) (PA GA A : Option Addr) (n1 c1 n2 c2 n k lo hi l1 h1 l2 h2 : Nat) (w : World) (hx : Ens lo hi w A n k es) (hp : Ints l1 h1 w PA n1 c1 ps) (hg : Ints l2 h2 w GA n2 c2 gs) :
    Calls Try.prog 30 #[.slice PA n1 c1, .agg #[.int .i64 ep, .slice A n k], .slice GA n2 c2] w (BoolB (checkF ps ep es gs) w) := by
  have HR0 := Lib.hid (drel_new hx ep)
  have IP := Lib.hid hp
  have IG := Lib.hid hg
  have HLP := Lib.hid hp.len_
  have HLG := Lib.hid hg.len_
  have hm1 : n1 ≤ 9223372036854775807 := by have := hp.2.1; have := hp.2.2.1; unfold maxLen at this; omega
  have hm2 : n2 ≤ 9223372036854775807 := by have := hg.2.1; have := hg.2.2.1; unfold maxLen at this; omega
  clear hx hp hg
  obtain ⟨z0, z1, zf⟩ := HR0.out.box.cells
  go_enter Try.func30, Try.ntmps30
  go_wp2_with fail
  ((with_reducible refine (DirectoryValid ep es _ _ _ _ _ _ HR0.out.ens).mono ?_); rintro e w1 ⟨rfl, hb⟩)
  have HR1 := Lib.hid (HR0.out.below hb)
  clear hb z0 z1 zf HR0
  cases hd : dirOk ep es
  · have HV : Hid (checkF ps ep es gs = false) := by show _ = _; unfold checkF; rw [hd]; rfl
    go_wp2
    go_ret
    rw [HV.out]
    exact ⟨rfl, HR1.out.bel⟩
  have HD := Lib.hid hd
  clear hd
  by_cases e1 : n1 = 3
  case neg =>
    have HV : Hid (checkF ps ep es gs = false) := by show _ = _; unfold checkF; rw [HLP.out, decide_eq_false e1, Bool.false_and, Bool.and_false]
    have b1 : ((n1 : Int) != 3) = true := by simp; omega
    clear e1
    go_wp2
    go_ret
    rw [HV.out]
    exact ⟨rfl, HR1.out.bel⟩
  by_cases e2 : n2 = 3
  case neg =>
    have HV : Hid (checkF ps ep es gs = false) := by show _ = _; unfold checkF; rw [HLG.out, decide_eq_false e2, Bool.false_and, Bool.and_false, Bool.and_false]
    have b1 : ((n1 : Int) != 3) = false := by simp; omega
    have b2 : ((n2 : Int) != 3) = true := by simp; omega
    clear e1 e2
    go_wp2
    go_ret
    rw [HV.out]
    exact ⟨rfl, HR1.out.bel⟩
  subst e1
  subst e2
  have b1 : (((3 : Nat) : Int) != 3) = false := by simp
  have HDB := Lib.hid (digL_bd ep es)
  have HDI := Lib.hid (dig_in ep es)
  go_wp2
  clear b1
  go_loopw [7, 8] (fun t i wr => ∃ j : Nat, j ≤ 3 ∧ i = .int .i64 j ∧ t = .int .i64 (rights ps gs (digL ep es) j : Nat) ∧ Hid (∀ i, i < j → inG (ps.getD i 0) = true ∧ 0 ≤ gs.getD i 0 ∧ gs.getD i 0 ≤ 996) ∧ Hid (DRel w.heap.size lo hi w wr A n k ep es)) (fun _ i _ => 3 - (intOf i).toNat)
  case atStart => exact ⟨0, Nat.zero_le _, rfl, rfl, fun i hi => absurd hi (by omega), HR1.out⟩
  case round =>
    obtain ⟨j, hj, rfl, rfl, hT, hR⟩ := hrel
    clear HR1
    have hrl := rights_le ps gs (digL ep es) j
    by_cases hlt : j < 3
    · have IPW := Lib.hid (IP.out.below hR.out.bel (Nat.le_refl _))
      have IGW := Lib.hid (IG.out.below hR.out.bel (Nat.le_refl _))
      obtain ⟨bp, op, rfl, _, _, cp⟩ := IPW.out.at_ hlt
      obtain ⟨bg, og, rfl, _, _, cg⟩ := IGW.out.at_ hlt
      have hbp := World.block_lt_of_cell? wr _ cp
      have hbg := World.block_lt_of_cell? wr _ cg
      have hlt3 : (j : Int) < 3 := by omega
      have HS := Lib.hid (rights_succ ps gs (digL ep es) j)
      have HBAD : Hid (inG (ps.getD j 0) = false ∨ sigB (gs.getD j 0) = false → checkF ps ep es gs = false) := fun h => by
        cases hc : checkF ps ep es gs
        · rfl
        · have := partsOk_iff.1 (checkF_iff.1 hc).2.2.2.1 j hlt
          rcases h with h | h
          · rw [h] at this; exact absurd this.1 (by simp)
          · unfold sigB at h
            rw [decide_eq_false_iff_not] at h
            exact absurd this.2 h
      have HGOOD : Hid (inG (ps.getD j 0) = true → sigB (gs.getD j 0) = true → ∀ i, i < j + 1 → inG (ps.getD i 0) = true ∧ 0 ≤ gs.getD i 0 ∧ gs.getD i 0 ≤ 996) := fun q1 q2 i hi => by
        rcases Nat.lt_or_ge i j with h3 | h3
        · exact hT.out i h3
        · obtain rfl : i = j := by omega
          exact ⟨q1, by unfold sigB at q2; exact of_decide_eq_true q2⟩
      have HR := Lib.hid hR.out
      clear hT hR IPW IGW
      generalize ps.getD j 0 = p at *
      generalize gs.getD j 0 = g at *
      generalize rights ps gs (digL ep es) j = r at *
      go_wp2_with fail
      ((with_reducible refine (Sg.l1Is p _).mono ?_); rintro e w2 ⟨rfl, rfl⟩)
      cases hip : inG p
      · have HV := Lib.hid (HBAD.out (.inl hip))
        go_wp2
        go_ret
        rw [HV.out]
        exact ⟨rfl, HR.out.bel⟩
      go_wp2_with fail
      ((with_reducible refine (l6S g _).mono ?_); rintro e w2 ⟨rfl, rfl⟩)
      cases hig : sigB g
      · have HV := Lib.hid (HBAD.out (.inr hig))
        go_wp2
        go_ret
        rw [HV.out]
        exact ⟨rfl, HR.out.bel⟩
      have HT := Lib.hid (HGOOD.out hip hig)
      have HIP := Lib.hid hip
      have hgb : 0 ≤ g ∧ g ≤ 996 := by unfold sigB at hig; exact of_decide_eq_true hig
      clear HBAD HGOOD hip hig
      by_cases hg0 : 0 < g
      · have HIG : Hid (inG g = true) := inG_iff.2 (by omega)
        have HRT := Lib.hid (right_yes (p := p) (d := digL ep es) hg0)
        obtain ⟨z0, z1, zf⟩ := HR.out.box.cells
        have HC : Hid (∀ W', Below wr.heap.size wr W' → (W'.cell? ⟨bg, og + j, none⟩ = some (.int .i64 g) ∧ W'.cell? ⟨bp, op + j, none⟩ = some (.int .i64 p) ∧ W'.cell? ⟨w.heap.size, 0, none⟩ = some (.int .i64 ep) ∧ W'.cell? ⟨w.heap.size, 1, none⟩ = some (.slice A n k))) := Lib.hid (fun W' hb => ⟨(hb.cell (p := ⟨bg, og + j, none⟩) hbg).trans cg, (hb.cell (p := ⟨bp, op + j, none⟩) hbp).trans cp, (HR.out.box.below hb (Nat.le_refl _)).cells.1, (HR.out.box.below hb (Nat.le_refl _)).cells.2.1⟩)
        have DD : Hid (Below wr.heap.size wr wr.drew) := below_dr (d := 1) (Below.refl _ _)
        have KX : Hid (Ens lo hi wr.drew A n k es) := HR.out.ens
        have hdb := HDB.out
        generalize hdg : digL ep es = d at *
        have HDG := Lib.hid hdg
        have hw1 : IntKind.i64.wrap (d + 1) = d + 1 := IntWalk.i64_in _ (by omega)
        obtain ⟨hd1, hd2⟩ := hdb
        clear hdg z0 z1 zf cg cp
        go_upto_region 9 with (fail)
        go_region_held3 (fun w' => w'.cell? ⟨bg, og + j, none⟩ = some (.int .i64 g) ∧ w'.cell? ⟨bp, op + j, none⟩ = some (.int .i64 p) ∧ w'.cell? ⟨w.heap.size, 0, none⟩ = some (.int .i64 ep) ∧ w'.cell? ⟨w.heap.size, 1, none⟩ = some (.slice A n k))
          (first | with_reducible exact HC.out _ DD.out | with_reducible exact HC.out _ b8 | fail)
          (first
            | (go_at_call 36; (first | with_reducible refine (l1Times g 5 _ HIG.out five_in).mono ?_ | with_reducible refine (l1Times p (d + 1) _ HIP.out HDI.out).mono ?_); rintro e v ⟨rfl, rfl⟩)
            | (go_at_call 51; refine (l21Digest ep es _ _ _ _ _ _ KX.out HD.out).mono ?_; rintro e v8 ⟨rfl, hb8⟩; rw [HDG.out]; have b8 : Below wr.heap.size wr v8 := DD.out.trans (hb8.mono DD.out.size))
            | fail)
        have HR2 := Lib.hid (HR.out.below b8)
        cases hq : (mulG g 5 == mulG p (d + 1))
        · have HS2 : Hid (rights ps gs d (j + 1) = r) := by show _ = _; rw [HS.out, HRT.out, hq]; rfl
          clear HS HRT hb8 b8 HC DD KX
          go_wp2
          go_roundw
          case rel => exact ⟨j + 1, by omega, by go_num, by rw [HDG.out, HS2.out], HT.out, HR2.out⟩
          case measure => simp [intOf]; omega
        · have HS2 : Hid (rights ps gs d (j + 1) = r + 1) := by show _ = _; rw [HS.out, HRT.out, hq]; rfl
          clear HS HRT hb8 b8 HC DD KX
          go_wp2
          go_roundw
          case rel => exact ⟨j + 1, by omega, by go_num, by rw [HDG.out, HS2.out]; go_num, HT.out, HR2.out⟩
          case measure => simp [intOf]; omega
      · have HS2 : Hid (rights ps gs (digL ep es) (j + 1) = r) := by show _ = _; rw [HS.out, right_no hg0]; rfl
        have d0 : decide (0 < g) = false := decide_eq_false hg0
        clear hg0 HS
        go_wp2
        go_quiet (fail)
        go_wp2
        go_roundw
        case rel => exact ⟨j + 1, by omega, by go_num, by rw [HS2.out], HT.out, HR.out.dr _⟩
        case measure => simp [intOf]; omega
    · obtain rfl : j = 3 := by omega
      have HV : Hid (checkF ps ep es gs = decide (2 ≤ rights ps gs (digL ep es) 3)) := by
        show _ = _
        unfold checkF
        rw [HD.out, HLP.out, HLG.out, partsOk_iff.2 hT.out]; rfl
      have HB := Lib.hid hR.out.bel
      clear hT hR hlt
      generalize rights ps gs (digL ep es) 3 = r at *
      by_cases h2 : 2 ≤ r
      · have d2 : decide ((2 : Int) ≤ (r : Int)) = true := by simp; omega
        go_wp2
        go_ret
        rw [HV.out, decide_eq_true h2]
        exact ⟨rfl, HB.out⟩
      · have d2 : decide ((2 : Int) ≤ (r : Int)) = false := by simp; omega
        go_wp2
        go_ret
        rw [HV.out, decide_eq_false h2]
        exact ⟨rfl, HB.out⟩

end Sp9
end Go.Proofs.Ytfnbjojaflloaab
