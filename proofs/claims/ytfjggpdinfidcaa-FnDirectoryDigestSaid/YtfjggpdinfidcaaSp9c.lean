/-
  Contracts of the model's chapter 21: weights, picks, paths.
-/
import Derived.Test.YtfjggpdinfidcaaSp9b
import Derived.Test.YtfjggpdinfidcaaIla
import Derived.Deep.LoopGhost
namespace Go.Proofs.Ytfjggpdinfidcaa
open Go.RowKit
namespace Sp9
open Il Sl Ec Dm Gm

/-- Weights that cannot run out of range. -/
def WB (es : List En) : Prop := es.length ≤ 100 ∧ ∀ k, -100 ≤ (enAt es k).wt ∧ (enAt es k).wt ≤ 100
theorem wb_of {ep : Int} {es : List En} (h : dirOk ep es = true) : WB es := by
  obtain ⟨h1, _, h3⟩ := dirOk_iff.1 h
  refine ⟨by omega, fun k => ?_⟩
  rcases Nat.lt_or_ge k es.length with hk | hk
  · have := (okE_iff.1 (ok_ix h1 hk)).2.2; omega
  · unfold enAt
    rw [List.getD_eq_getElem?_getD, List.getElem?_eq_none hk]
    decide
theorem wtI_bd {es : List En} (h : WB es) (ch : List Int) (k : Nat) : -100 ≤ wtI ch es k ∧ wtI ch es k ≤ 100 := by
  unfold wtI
  cases has ch k
  · exact h.2 k
  · exact ⟨show (-100 : Int) ≤ 0 by decide, show (0 : Int) ≤ 100 by decide⟩
theorem wtTo_bd {es : List En} (h : WB es) (ch : List Int) (k : Nat) : -100 * (k : Int) ≤ wtTo ch es k ∧ wtTo ch es k ≤ 100 * (k : Int) := by
  induction k with
  | zero => exact ⟨show -100 * ((0 : Nat) : Int) ≤ 0 by decide, show (0 : Int) ≤ 100 * ((0 : Nat) : Int) by decide⟩
  | succ k ih =>
    have := wtI_bd h ch k
    have e : wtTo ch es (k + 1) = wtTo ch es k + wtI ch es k := rfl
    omega
theorem wtL_max {ep : Int} {es : List En} (h : dirOk ep es = true) (ch : List Int) : 0 ≤ wtL ch es ∧ wtL ch es ≤ 600 := by
  have h1 := wtTo_nn (ch := ch) (nn_of (dirOk_iff.1 h).1) es.length
  have h2 := wtTo_bd (wb_of h) ch es.length
  have h3 := (dirOk_iff.1 h).2.2
  unfold wtL
  omega
theorem wtTo_next (ch : List Int) (es : List En) (k : Nat) : wtTo ch es (k + 1) = wtTo ch es k + wtI ch es k := rfl
theorem wtI_yes {ch : List Int} {es : List En} {k : Nat} (h : has ch k = true) : wtI ch es k = 0 := by unfold wtI; rw [h]; rfl
theorem wtI_no {ch : List Int} {es : List En} {k : Nat} (h : has ch k = false) : wtI ch es k = (enAt es k).wt := by unfold wtI; rw [h]; rfl
set_option maxRecDepth 20000 in
set_option maxHeartbeats 2000000 in
theorem l21Weight (ep : Int) (es : List En) (ch : List Int) (A CA : Option Addr) (n k m c lo hi l1 h1 : Nat) (w : World) (hx : Ens lo hi w A n k es) (hc : Ints l1 h1 w CA m c ch) (hw : WB es) :
    Calls Try.prog 56 #[.agg #[.int .i64 ep, .slice A n k], .slice CA m c] w (IntB (wtL ch es) w) := by
  have HW := Lib.hid hw
  have HL := Lib.hid hx.len_
  have hn : n ≤ 100 := by rw [← hx.len_]; exact hw.1
  have HR0 := Lib.hid (drel_new hx ep)
  have IC := Lib.hid hc
  clear hx hc hw
  go_enter Try.func56, Try.ntmps56
  go_wp2
  go_loopw [5, 6] (fun t i wr => ∃ j : Nat, j ≤ n ∧ i = .int .i64 j ∧ t = .int .i64 (wtTo ch es j) ∧ Hid (DRel w.heap.size lo hi w wr A n k ep es)) (fun _ i _ => n - (intOf i).toNat)
  case atStart => exact ⟨0, Nat.zero_le _, rfl, rfl, HR0.out⟩
  case round =>
    obtain ⟨j, hj, rfl, rfl, hR⟩ := hrel
    clear HR0
    obtain ⟨z0, z1, zf⟩ := hR.out.box.cells
    obtain ⟨hb1, hb2⟩ := wtTo_bd HW.out ch j
    by_cases hlt : j < n
    · obtain ⟨b, off, rfl, _, _, hbz, c0, c1, c2⟩ := hR.out.ens.at_ hlt
      have HN := Lib.hid (wtTo_next ch es j)
      obtain ⟨q1, q2⟩ := HW.out.2 j
      have ICW := Lib.hid (IC.out.below hR.out.bel (Nat.le_refl _))
      have HR := Lib.hid hR.out
      clear hR
      go_wp2_with fail
      ((with_reducible refine (Sg.l1Has _ _ _ _ _ ch (j : Int) _ ICW.out).mono ?_); rintro e w1 ⟨rfl, rfl⟩)
      cases hh : Cm.hasK ch (j : Int)
      · have HI : Hid (wtI ch es j = (enAt es j).wt) := wtI_no hh
        clear hh
        generalize (enAt es j).wt = x at *
        generalize wtTo ch es j = t at *
        go_wp2
        go_roundw
        case rel => exact ⟨j + 1, by omega, by go_num, by rw [HN.out, HI.out], HR.out⟩
        case measure => simp [intOf]; omega
      · have HI : Hid (wtI ch es j = 0) := wtI_yes hh
        clear hh
        generalize wtTo ch es j = t at *
        go_wp2
        go_roundw
        case rel => exact ⟨j + 1, by omega, by go_num, by rw [HN.out, HI.out, Int.add_zero], HR.out⟩
        case measure => simp [intOf]; omega
    · obtain rfl : j = n := by omega
      have hfin : wtTo ch es j = wtL ch es := by rw [← HL.out]; rfl
      rw [hfin]
      have HB := Lib.hid hR.out.bel
      clear hfin hb1 hb2 hR
      go_wp2
      go_ret
      exact ⟨rfl, HB.out⟩
theorem pickR_has {ch : List Int} {es : List En} {n j : Nat} {q : Int} (hj : j < n) (h : has ch j = true) : pickR ch es (n - j) j q = pickR ch es (n - (j + 1)) (j + 1) q := by
  obtain ⟨r, hr⟩ : ∃ r, n - j = r + 1 := ⟨n - j - 1, by omega⟩
  rw [hr, pickR, h, cond_true, show n - (j + 1) = r by omega]
theorem pickR_here {ch : List Int} {es : List En} {n j : Nat} {q : Int} (hj : j < n) (h : has ch j = false) (hq : q < (enAt es j).wt) : pickR ch es (n - j) j q = (j : Int) := by
  obtain ⟨r, hr⟩ : ∃ r, n - j = r + 1 := ⟨n - j - 1, by omega⟩
  rw [hr, pickR, h, cond_false, decide_eq_true hq, cond_true]
theorem pickR_on {ch : List Int} {es : List En} {n j : Nat} {q : Int} (hj : j < n) (h : has ch j = false) (hq : ¬ q < (enAt es j).wt) : pickR ch es (n - j) j q = pickR ch es (n - (j + 1)) (j + 1) (q - (enAt es j).wt) := by
  obtain ⟨r, hr⟩ : ∃ r, n - j = r + 1 := ⟨n - j - 1, by omega⟩
  rw [hr, pickR, h, cond_false, decide_eq_false hq, cond_false, show n - (j + 1) = r by omega]
set_option maxRecDepth 20000 in
set_option maxHeartbeats 2000000 in
theorem l21Pick (ep p : Int) (es : List En) (ch : List Int) (A CA : Option Addr) (n k m c lo hi l1 h1 : Nat) (w : World) (hx : Ens lo hi w A n k es) (hc : Ints l1 h1 w CA m c ch) (hd : dirOk ep es = true) (hp0 : 0 ≤ p) (hp1 : p ≤ 9223372036854775807) :
    Calls Try.prog 58 #[.agg #[.int .i64 ep, .slice A n k], .slice CA m c, .int .i64 p] w (IntB (pickL ch es p) w) := by
  have HO := Lib.hid (dirOk_iff.1 hd).1
  have HL := Lib.hid hx.len_
  have hn : n ≤ 6 := by rw [← hx.len_]; exact (dirOk_iff.1 hd).2.2
  have HR0 := Lib.hid (drel_new hx ep)
  have IC := Lib.hid hc
  have HP : Hid (pickR ch es (n - 0) 0 p = pickL ch es p) := by show _ = _; rw [← HL.out]; rfl
  clear hx hc hd
  go_enter Try.func58, Try.ntmps58
  go_wp2
  go_loopw [2, 7] (fun v i wr => ∃ (j : Nat) (q : Int), j ≤ n ∧ i = .int .i64 j ∧ v = .int .i64 q ∧ 0 ≤ q ∧ q ≤ 9223372036854775807 ∧ Hid (pickR ch es (n - j) j q = pickL ch es p) ∧ Hid (DRel w.heap.size lo hi w wr A n k ep es)) (fun _ i _ => n - (intOf i).toNat)
  case atStart => exact ⟨0, p, Nat.zero_le _, rfl, rfl, hp0, hp1, HP.out, HR0.out⟩
  case round =>
    obtain ⟨j, q, hj, rfl, rfl, hq0, hq1, hT, hR⟩ := hrel
    clear HR0 HP hp0 hp1
    obtain ⟨z0, z1, zf⟩ := hR.out.box.cells
    by_cases hlt : j < n
    · obtain ⟨b, off, rfl, _, _, hbz, c0, c1, c2⟩ := hR.out.ens.at_ hlt
      obtain ⟨_, _, q1, q2⟩ := okE_iff.1 (ok_ix HO.out (k := j) (by rw [HL.out]; exact hlt))
      have ICW := Lib.hid (IC.out.below hR.out.bel (Nat.le_refl _))
      have HR := Lib.hid hR.out
      clear hR
      go_wp2_with fail
      ((with_reducible refine (Sg.l1Has _ _ _ _ _ ch (j : Int) _ ICW.out).mono ?_); rintro e w1 ⟨rfl, rfl⟩)
      cases hh : Cm.hasK ch (j : Int)
      · by_cases hlq : q < (enAt es j).wt
        · have HV : Hid ((j : Int) = pickL ch es p) := by show _ = _; rw [← hT.out, pickR_here hlt hh hlq]
          have d1 : decide (q < (enAt es j).wt) = true := decide_eq_true hlq
          clear hT hh hlq
          generalize (enAt es j).wt = x at *
          go_wp2
          go_ret
          rw [← HV.out]
          exact ⟨rfl, HR.out.bel⟩
        · have HN : Hid (pickR ch es (n - (j + 1)) (j + 1) (q - (enAt es j).wt) = pickL ch es p) := by show _ = _; rw [← hT.out, pickR_on hlt hh hlq]
          have d1 : decide (q < (enAt es j).wt) = false := decide_eq_false hlq
          have hq2 : 0 ≤ q - (enAt es j).wt := by omega
          have hq3 : q - (enAt es j).wt ≤ 9223372036854775807 := by omega
          clear hT hh hlq
          generalize (enAt es j).wt = x at *
          go_wp2
          go_roundw
          case rel => exact ⟨j + 1, q - x, by omega, by go_num, rfl, hq2, hq3, HN.out, HR.out⟩
          case measure => simp [intOf]; omega
      · have HN : Hid (pickR ch es (n - (j + 1)) (j + 1) q = pickL ch es p) := by show _ = _; rw [← hT.out, pickR_has hlt hh]
        clear hT hh
        go_wp2
        go_roundw
        case rel => exact ⟨j + 1, q, by omega, by go_num, rfl, hq0, hq1, HN.out, HR.out⟩
        case measure => simp [intOf]; omega
    · obtain rfl : j = n := by omega
      have HV : Hid (-1 = pickL ch es p) := by show _ = _; rw [← hT.out, Nat.sub_self]; rfl
      have HB := Lib.hid hR.out.bel
      clear hT hR
      go_wp2
      go_ret
      rw [← HV.out]
      exact ⟨rfl, HB.out⟩
set_option maxRecDepth 20000 in
theorem DirectoryPick (ep p : Int) (es : List En) (A : Option Addr) (n k lo hi : Nat) (w : World) (hx : Ens lo hi w A n k es) (hp1 : p ≤ 9223372036854775807) :
    Calls Try.prog 27 #[.agg #[.int .i64 ep, .slice A n k], .int .i64 p] w (IntB (pickF ep es p) w) := by
  have HR0 := Lib.hid (drel_new hx ep)
  clear hx
  obtain ⟨z0, z1, zf⟩ := HR0.out.box.cells
  go_enter Try.func27, Try.ntmps27
  go_wp2_with fail
  ((with_reducible refine (DirectoryValid ep es _ _ _ _ _ _ HR0.out.ens).mono ?_); rintro e w1 ⟨rfl, hb⟩)
  have HR1 := Lib.hid (HR0.out.below hb)
  clear hb z0 z1 zf HR0
  obtain ⟨z0, z1, zf⟩ := HR1.out.box.cells
  cases hd : dirOk ep es
  · have HV : Hid (pickF ep es p = -1) := by show _ = _; unfold pickF; rw [hd]; rfl
    go_wp2
    go_ret
    rw [HV.out]
    exact ⟨rfl, HR1.out.bel⟩
  · by_cases hp0 : 0 ≤ p
    · have HV : Hid (pickF ep es p = pickL [] es p) := by show _ = _; unfold pickF; rw [hd, decide_eq_true hp0]; rfl
      have d0 : decide (p < 0) = false := by simp; omega
      have HRA := Lib.hid (HR1.out.alloc (.cells #[] 3))
      go_wp2_with fail
      ((with_reducible refine (l21Pick ep p es [] _ _ _ _ _ _ _ _ 0 0 _ HRA.out.ens (Ints.nil_ (by unfold maxLen; omega)) hd hp0 hp1).mono ?_); rintro e w2 ⟨rfl, hb⟩)
      have HR2 := Lib.hid (HRA.out.below hb)
      clear hb z0 z1 zf HR1 HRA
      go_wp2
      go_ret
      rw [HV.out]
      exact ⟨rfl, HR2.out.bel⟩
    · have HV : Hid (pickF ep es p = -1) := by show _ = _; unfold pickF; rw [decide_eq_false hp0, Bool.and_false]; rfl
      have d0 : decide (p < 0) = true := by simp; omega
      go_wp2
      go_ret
      rw [HV.out]
      exact ⟨rfl, HR1.out.bel⟩

end Sp9
end Go.Proofs.Ytfjggpdinfidcaa
