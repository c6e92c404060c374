/-
  Contract of the program's LoopAdd.
-/
import Derived.Test.YtbhafchdcofceaaIm7g
import Derived.Test.YtbhafchdcofceaaSp7e
namespace Go.Proofs.Ytbhafchdcofceaa
open Go.RowKit
namespace Im7
open Il Sl Lc Sp2 _root_.Go.Proofs.Ytbhafchdcofceaa.Nm Sp7 Mp

theorem gOf_GL {xs : List Cnt} (h : loopsOk xs = true) : GL (gOf xs) xs := by
  intro q v
  obtain ⟨f, t⟩ := q
  have h1 := gOf_find h xs.length (Nat.le_refl _) f t
  rw [List.take_length] at h1
  rw [h1]
  constructor
  · intro hv
    cases hf : xs.find? (isL f t) with
    | none => rw [hf] at hv; cases hv
    | some c =>
      rw [hf] at hv
      have hi := isL_eq (List.find?_some hf)
      exact ⟨c, List.mem_of_find?_eq_some hf, hi.1, hi.2, (Option.some.inj hv).symm⟩
  · rintro ⟨c, hc, e1, e2, rfl⟩
    have hi : isL f t c = true := by unfold isL; simp [show c.fr = f from e1, show c.to_ = t from e2]
    cases hf : xs.find? (isL f t) with
    | none =>
      have := List.find?_eq_none.1 hf c hc
      exact absurd hi this
    | some c' =>
      have hi' := isL_eq (List.find?_some hf)
      have := (ok_sd.1 h).1.uniq (List.mem_of_find?_eq_some hf) hc (hi'.1.trans (isL_eq hi).1.symm) (hi'.2.trans (isL_eq hi).2.symm)
      rw [this]; rfl

/-- What the loop of the program's LoopAdd holds. -/
def LpRel (lo hi l2 h2 : Nat) (w wr : World) (A : Option Addr) (n c : Nat) (xs : List Cnt) (B : Option Addr) (m d : Nat) (p : List Int) (mb : Nat) (k : Nat) (ys : List Cnt) : Prop :=
  Cnts lo hi wr A n c xs ∧ Ints l2 h2 wr B m d p ∧ (∃ G, MapL wr mb (n + k) G ∧ GL G ys) ∧ Below w.heap.size w wr ∧ w.heap.size ≤ mb
section
variable {lo hi l2 h2 : Nat} {w wr w2 : World} {A : Option Addr} {n c : Nat} {xs : List Cnt} {B : Option Addr} {m d : Nat} {p : List Int} {mb k : Nat} {ys : List Cnt}
theorem LpRel.below (h : LpRel lo hi l2 h2 w wr A n c xs B m d p mb k ys) (hb : Below wr.heap.size wr w2) : LpRel lo hi l2 h2 w w2 A n c xs B m d p mb k ys := by
  obtain ⟨h1, h2, ⟨G, h3, h4⟩, h5, h6⟩ := h
  exact ⟨h1.below hb (Nat.le_refl _), h2.below hb (Nat.le_refl _), ⟨G, h3.below' hb, h4⟩, h5.trans (hb.mono h5.size), h6⟩
theorem LpRel.grown (h : LpRel lo hi l2 h2 w wr A n c xs B m d p mb k ys) (hh : hi ≤ w.heap.size) (hh2 : h2 ≤ w.heap.size) {G : Int × Int → Option (Int × Int)} {zs : List Cnt} (hM : MapL w2 mb (n + (k + 1)) G) (hG : GL G zs) (hg : wr.grownBy w2 (some mb)) :
    LpRel lo hi l2 h2 w w2 A n c xs B m d p mb (k + 1) zs := by
  obtain ⟨h1, h2, _, h5, h6⟩ := h
  exact ⟨h1.grown hg (fun q hq => by cases hq; exact .inr (by omega)), ⟨h2.1, h2.2.1, h2.2.2.1, fun hm => by
    obtain ⟨b, off, e, q1, q2, hz, hc⟩ := h2.2.2.2 hm
    exact ⟨b, off, e, q1, q2, Nat.lt_of_lt_of_le hz hg.size, fun j hj => (World.cell?_of_block (hg.block b hz (by simp; omega))).trans (hc j hj)⟩⟩, ⟨G, hM, hG⟩, h5.grown hg h5.size (fun q hq => by cases hq; exact h6), h6⟩
end
/-- A world in which only blocks from b on have turned. -/
theorem below_set {w0 w : World} {B b i : Nat} {v : Value} (h : Below B w0 w) (hb : B ≤ b) : Below B w0 (w.setCell ⟨b, i, none⟩ v) := h.setCell (p := ⟨b, i, none⟩) hb v
set_option maxRecDepth 20000 in
set_option maxHeartbeats 1000000 in
theorem LoopAdd (lo hi l2 h3 : Nat) (A B : Option Addr) (n c m d : Nat) (xs : List Cnt) (p : List Int) (bk : Bool) (w : World) (hx : Cnts lo hi w A n c xs) (hp : Ints l2 h3 w B m d p) (hh : hi ≤ w.heap.size) (hh2 : h3 ≤ w.heap.size) :
    Calls Try.prog 9 #[.slice A n c, .slice B m d, .bool bk] w (CntsPairPost (addR xs p bk) (addB xs p bk) w) := by
  have hd1 := hp.2.2.1
  have hd2 := hp.2.1
  have HLP := Lib.hid hp.1
  unfold maxLen at hd1
  have HL := Lib.hid hx.len_
  have HX := Lib.hid hx
  have HP := Lib.hid hp
  have HH := Lib.hid hh
  have HH2 := Lib.hid hh2
  clear hx hp hh hh2
  cases h1 : loopsOk xs
  · have HV : Hid (addR xs p bk = [] ∧ addB xs p bk = false) := by show _ ∧ _; unfold addR addB; rw [h1]; exact ⟨rfl, rfl⟩
    go_enter Try.func9, Try.ntmps9
    go_wp2_with fail
    ((with_reducible refine (LoopsValid _ _ _ _ _ xs _ HX.out).mono ?_); rintro e w1 ⟨rfl, hb⟩)
    rw [h1]
    have HC := Lib.hid (cacc_new2 hb)
    clear h1 hb
    go_wp2
    go_ret2
    rw [HV.out.1, HV.out.2]
    obtain ⟨A2, c2, e, ho, hb⟩ := HC.out.own
    simp only [Value.slice.injEq] at e
    obtain ⟨rfl, _, rfl⟩ := e
    exact pair_post ho hb
  · cases h2 : lpOk p
    · have HV : Hid (addR xs p bk = [] ∧ addB xs p bk = false) := by show _ ∧ _; unfold addR addB; rw [h1, h2]; exact ⟨rfl, rfl⟩
      go_enter Try.func9, Try.ntmps9
      go_wp2_with fail
      ((with_reducible refine (LoopsValid _ _ _ _ _ xs _ HX.out).mono ?_); rintro e w1 ⟨rfl, hb⟩)
      rw [h1]
      have HP1 : Hid (Ints l2 h3 w1 B m d p) := HP.out.below' hb HH2.out
      go_wp2_with fail
      ((with_reducible refine (loopPathValid _ _ _ _ _ p _ HP1.out).mono ?_); rintro e w2 ⟨rfl, rfl⟩)
      rw [h2]
      have HC := Lib.hid (cacc_new2 hb)
      clear h1 h2 hb
      go_wp2
      go_ret2
      rw [HV.out.1, HV.out.2]
      obtain ⟨A2, c2, e, ho, hb⟩ := HC.out.own
      simp only [Value.slice.injEq] at e
      obtain ⟨rfl, _, rfl⟩ := e
      exact pair_post ho hb
    · have HOK := Lib.hid h1
      have HPO := Lib.hid h2
      have HN64 : Hid (n ≤ 64) := by show n ≤ 64; have := ok_len h1; have := HL.out; omega
      have HPK := Lib.hid (lpOk_iff.1 h2)
      have hm2 : 2 ≤ m := by have := HPK.out.2.2.1; have := HLP.out; omega
      have hm4 : m ≤ 4 := by have := HPK.out.2.2.2; have := HLP.out; omega
      have HAD : Hid (addL xs p bk = addP xs p bk (m - 1)) := by show _ = _; unfold addL; rw [HLP.out]
      have HV : Hid (addR xs p bk = (bif loopsOk (addL xs p bk) then addL xs p bk else xs) ∧ addB xs p bk = loopsOk (addL xs p bk)) := by show _ ∧ _; unfold addR addB; rw [h1, h2]; exact ⟨rfl, rfl⟩
      have HW := Lib.hid (ok_wf h1)
      obtain ⟨bp, offp, rfl, hbp1, hbp2, _⟩ := HP.out.at_ (k := 0) (by omega)
      go_enter Try.func9, Try.ntmps9
      go_wp2_with fail
      ((with_reducible refine (LoopsValid _ _ _ _ _ xs _ HX.out).mono ?_); rintro e w1 ⟨rfl, hb⟩)
      rw [h1]
      have HP1 : Hid (Ints l2 h3 w1 (some ⟨bp, offp, none⟩) m d p) := HP.out.below' hb HH2.out
      go_wp2_with fail
      ((with_reducible refine (loopPathValid _ _ _ _ _ p _ HP1.out).mono ?_); rintro e w2 ⟨rfl, rfl⟩)
      rw [h2]
      have HX1 : Hid (Cnts lo hi w1 A n c xs) := HX.out.below' hb HH.out
      have HB1 := Lib.hid hb
      have HH1 : Hid (hi ≤ w1.heap.size) := Nat.le_trans HH.out hb.size
      clear h1 h2 hb
      go_wp2_with fail
      ((with_reducible refine (mapOfCounts _ _ _ _ _ xs _ HX1.out HH1.out HW.out).mono ?_); rintro e w2 ⟨mb, rfl, hbz, hM, hb⟩)
      have HR0 : Hid (LpRel lo hi l2 h3 w w2 A n c xs (some ⟨bp, offp, none⟩) m d p mb 0 (addP xs p bk 0)) :=
        ⟨HX1.out.below' hb HH1.out, HP1.out.below' hb (Nat.le_trans HH2.out HB1.out.size), ⟨_, by rw [HL.out] at hM; exact hM, gOf_GL HOK.out⟩, HB1.out.trans (hb.mono HB1.out.size), Nat.le_trans HB1.out.size hbz⟩
      clear hbz hM hb HX1 HP1 HH1 HB1
      have HOK0 : Hid (loopsOk (addP xs p bk 0) = true) := HOK.out
      obtain ⟨m', rfl⟩ : ∃ m', m = m' + 1 := ⟨m - 1, by omega⟩
      have hs1 : 1 ≤ m' + 1 := by omega
      have hs2 : ¬ d = 1 := by omega
      have hs3 : m' + 1 - 1 = m' := by omega
      go_wp2
      go_loopw [27] (fun i wr => ∃ k : Nat, k ≤ m' ∧ i = .int .i64 k ∧ Hid (LpRel lo hi l2 h3 w wr A n c xs (some ⟨bp, offp, none⟩) (m' + 1) d p mb k (addP xs p bk k)) ∧ Hid (loopsOk (addP xs p bk k) = true)) (fun i _ => m' - (intOf i).toNat)
      case atStart => exact ⟨0, Nat.zero_le _, rfl, HR0.out, HOK0.out⟩
      case round =>
        clear HR0 HOK0
        obtain ⟨k, hk, rfl, hR, hO⟩ := hrel
        by_cases hlt : k < m'
        · obtain ⟨_, _, e2, _, _, cx⟩ := hR.out.2.1.at_ (k := k) (by omega)
          simp only [Option.some.injEq, Addr.mk.injEq, and_true] at e2
          obtain ⟨rfl, rfl⟩ := e2
          obtain ⟨_, _, e2, _, _, cy⟩ := hR.out.2.1.at_ (k := k + 1) (by omega)
          simp only [Option.some.injEq, Addr.mk.injEq, and_true] at e2
          obtain ⟨rfl, rfl⟩ := e2
          have cy' : wr.cell? ⟨bp, offp + 1 + k, none⟩ = some (.int .i64 (p.getD (k + 1) 0)) := by rw [Nat.add_assoc, Nat.add_comm 1 k]; exact cy
          clear cy
          have hkm : k < m' + 1 := by omega
          have hkp : k + 1 < p.length := by rw [HLP.out]; omega
          have hna : ∀ i, i < p.length → 0 ≤ p.getD i 0 ∧ p.getD i 0 ≤ 7 := fun i hi => inName_iff.1 (List.all_eq_true.1 HPK.out.2.1 _ (getD_mem hi))
          have hwf : wf (p.getD k 0) := wf_small (by have := hna k (by omega); omega)
          have hwt : wf (p.getD (k + 1) 0) := wf_small (by have := hna (k + 1) hkp; omega)
          have hls := last_small hO.out (p.getD k 0) (p.getD (k + 1) 0)
          have HBIG : Hid ((lastL (addP xs p bk k) (p.getD k 0) (p.getD (k + 1) 0)).se = 99 → loopsOk (addL xs p bk) = false) := fun h => addB_big HOK.out hkp h
          have HGO : Hid ((lastL (addP xs p bk k) (p.getD k 0) (p.getD (k + 1) 0)).se ≠ 99 → loopsOk (addP xs p bk (k + 1)) = true) := fun h => addP_ok HPO.out hkp hO.out h
          have HST : Hid (addP xs p bk (k + 1) = cntOne (addP xs p bk k) (p.getD k 0) (p.getD (k + 1) 0) bk) := rfl
          obtain ⟨G, hM, hG⟩ := hR.out.2.2.1
          have hlk := hG.look (ok_sd.1 hO.out).1 (p.getD k 0) (p.getD (k + 1) 0)
          have hGS := Lib.hid (hG.step (p.getD k 0) (p.getD (k + 1) 0) bk)
          obtain ⟨l, hkey⟩ := keyL (p := (p.getD k 0, p.getD (k + 1) 0)) hwf hwt
          have HKEY := Lib.hid hkey
          clear hwf hwt hna hkp hG hO
          generalize hs : (lastL (addP xs p bk k) (p.getD k 0) (p.getD (k + 1) 0)).se = s at *
          generalize hr : (lastL (addP xs p bk k) (p.getD k 0) (p.getD (k + 1) 0)).ba = r at *
          generalize p.getD k 0 = f at *
          generalize p.getD (k + 1) 0 = t at *
          generalize hys : addP xs p bk (k + 1) = ys' at *
          have HYS := Lib.hid hys
          clear hs hr hys
          have hb1 : Below wr.heap.size wr (wr.alloc (.cells #[.int .i64 f, .int .i64 t] 57)) := (Below.refl _ _).alloc (Nat.le_refl _) _
          have hl0 := (hM.below' hb1).lookup keyedL mk2_inj Try.underlying54 (zeroLoops _) hkey
          have hl : (Instr.lookup 54 (.map (some mb)) (.agg #[.int .i64 f, .int .i64 t]) false).run Try.prog (wr.alloc (.cells #[.int .i64 f, .int .i64 t] 57)) = .ok (.agg #[.int .i64 s, .int .i64 r]) (wr.alloc (.cells #[.int .i64 f, .int .i64 t] 57)) := by
            refine hl0.trans ?_
            cases hg : G (f, t) with
            | some v =>
              rw [hg] at hlk
              have hlk' : v = (s, r) := hlk
              rw [hlk']; rfl
            | none =>
              rw [hg] at hlk
              have hlk' : ((0, 0) : Int × Int) = (s, r) := hlk
              obtain ⟨e1, e2⟩ := Prod.mk.inj hlk'
              rw [← e1, ← e2]; rfl
          have hb2 : Below wr.heap.size wr ((wr.alloc (.cells #[.int .i64 f, .int .i64 t] 57)).alloc (.cells #[.int .i64 s, .int .i64 r] 59)) := hb1.alloc (by simp) _
          have HB2 := Lib.hid hb2
          have HM := Lib.hid hM
          have HR := Lib.hid hR.out
          clear hl0 hlk hkey hb1 hb2 hM hR
          obtain ⟨hs0, hs1', hr0, hr1⟩ := hls
          by_cases h99 : s = 99
          · subst h99
            have HBF := Lib.hid (HBIG.out rfl)
            clear HBIG HGO hGS HST
            have HXC := Lib.hid (HR.out.below HB2.out).1
            have HBB := Lib.hid (HR.out.below HB2.out).2.2.2.1
            have HN64' : Hid (n ≤ 100000) := by have := HN64.out; show _ ≤ _; omega
            go_wp2_with fail
            ((with_reducible refine (cloneC _ _ _ _ _ xs _ HXC.out HN64'.out).mono ?_); rintro e w6 ⟨A6, c6, rfl, ho6, hb6⟩)
            have HP6 : Hid (CntsPairPost (addR xs p bk) (addB xs p bk) w (.returned (.tuple #[.slice A6 xs.length c6, .bool false])) w6) := by
              show CntsPairPost _ _ _ _ _
              rw [HV.out.1, HV.out.2, HBF.out]
              exact ⟨A6, c6, rfl, ho6.mono HBB.out.size (Nat.le_refl _), HBB.out.trans (hb6.mono HBB.out.size)⟩
            clear ho6 hb6 HXC HBB HR HM HB2 hl cx cy'
            go_wp2
            go_ret2
            exact HP6.out
          · have HOK' := Lib.hid (HGO.out h99)
            have d99 : (s == 99) = false := by simpa using h99
            have hs98 : s ≤ 98 := by omega
            clear HBIG HGO h99 hs1'
            cases bk
            · have hb3 : Below wr.heap.size wr ((wr.alloc (.cells #[.int .i64 f, .int .i64 t] 57)).alloc (.cells #[.int .i64 (s + 1), .int .i64 (r)] 59)) := ((Below.refl _ _).alloc (Nat.le_refl _) _).alloc (by simp) _
              obtain ⟨w6, hrun0, hM6, hg6, _⟩ := (HM.out.below' hb3).update keyedL mk2_inj Try.underlying54 HKEY.out (s + 1, r)
              have hrun : (Instr.mapUpdate 54 (.map (some mb)) (.agg #[.int .i64 f, .int .i64 t]) (.agg #[.int .i64 (s + 1), .int .i64 (r)])).run Try.prog ((wr.alloc (.cells #[.int .i64 f, .int .i64 t] 57)).alloc (.cells #[.int .i64 (s + 1), .int .i64 (r)] 59)) = .ok () w6 := hrun0
              have hGS2 := hGS.out
              simp only [cond_false, Int.add_zero] at hGS2
              have HR6 : Hid (LpRel lo hi l2 h3 w w6 A n c xs (some ⟨bp, offp, none⟩) (m' + 1) d p mb (k + 1) ys') := by
                show LpRel _ _ _ _ _ _ _ _ _ _ _ _ _ _ _ _ _
                rw [HST.out]
                exact LpRel.grown (HR.out.below hb3) HH.out HH2.out hM6 hGS2 hg6
              clear hb3 hrun0 hM6 hg6 hGS2 hGS HM HR HB2 HST
              go_wp2
              go_roundw
              case rel => exact ⟨k + 1, by omega, by go_num, (by show LpRel _ _ _ _ _ _ _ _ _ _ _ _ _ _ _ _ _; rw [HYS.out]; exact HR6.out), (by show loopsOk _ = true; rw [HYS.out]; exact HOK'.out)⟩
              case measure => simp [intOf]; omega
            · have hb3 : Below wr.heap.size wr ((wr.alloc (.cells #[.int .i64 f, .int .i64 t] 57)).alloc (.cells #[.int .i64 (s + 1), .int .i64 (r + 1)] 59)) := ((Below.refl _ _).alloc (Nat.le_refl _) _).alloc (by simp) _
              obtain ⟨w6, hrun0, hM6, hg6, _⟩ := (HM.out.below' hb3).update keyedL mk2_inj Try.underlying54 HKEY.out (s + 1, r + 1)
              have hrun : (Instr.mapUpdate 54 (.map (some mb)) (.agg #[.int .i64 f, .int .i64 t]) (.agg #[.int .i64 (s + 1), .int .i64 (r + 1)])).run Try.prog ((wr.alloc (.cells #[.int .i64 f, .int .i64 t] 57)).alloc (.cells #[.int .i64 (s + 1), .int .i64 (r + 1)] 59)) = .ok () w6 := hrun0
              have hGS2 := hGS.out
              simp only [cond_true] at hGS2
              have HR6 : Hid (LpRel lo hi l2 h3 w w6 A n c xs (some ⟨bp, offp, none⟩) (m' + 1) d p mb (k + 1) ys') := by
                show LpRel _ _ _ _ _ _ _ _ _ _ _ _ _ _ _ _ _
                rw [HST.out]
                exact LpRel.grown (HR.out.below hb3) HH.out HH2.out hM6 hGS2 hg6
              clear hb3 hrun0 hM6 hg6 hGS2 hGS HM HR HB2 HST
              go_wp2
              go_roundw
              case rel => exact ⟨k + 1, by omega, by go_num, (by show LpRel _ _ _ _ _ _ _ _ _ _ _ _ _ _ _ _ _; rw [HYS.out]; exact HR6.out), (by show loopsOk _ = true; rw [HYS.out]; exact HOK'.out)⟩
              case measure => simp [intOf]; omega
        · obtain rfl : k = m' := by omega
          have HNE : Hid (addP xs p bk k ≠ []) := by
            show addP xs p bk k ≠ []
            obtain ⟨k', rfl⟩ : ∃ k', k = k' + 1 := ⟨k - 1, by omega⟩
            intro e
            have := congrArg List.length e
            simp [addP, cntOne] at this
          have HYL : Hid ((addP xs p bk k).length ≤ 1000) := by show _ ≤ _; have := addP_len HOK.out p bk k (by omega); omega
          have HAD2 : Hid (addL xs p bk = addP xs p bk k) := by show _ = _; rw [HAD.out, hs3]
          have HSD := Lib.hid (ok_sd.1 hO.out).1
          have HWF := Lib.hid (ok_wf hO.out)
          obtain ⟨G, hM, hG⟩ := hR.out.2.2.1
          have HM := Lib.hid hM
          have HG := Lib.hid hG
          have HB := Lib.hid hR.out.2.2.2.1
          have HNN : Hid (n + k ≤ 10000) := by have := HN64.out; show _ ≤ _; omega
          clear hM hG hR hlt
          go_wp2_with fail
          ((with_reducible refine (listOfCounts mb (n + k) G _ _ HM.out HNN.out HYL.out HNE.out HG.out HSD.out HWF.out).mono ?_); rintro e w6 ⟨A6, c6, rfl, ho6, hb6⟩)
          have HP6 : Hid (CntsPairPost (addR xs p bk) (addB xs p bk) w (.returned (.tuple #[.slice A6 (addP xs p bk k).length c6, .bool true])) w6) := by
            show CntsPairPost _ _ _ _ _
            rw [HV.out.1, HV.out.2, HAD2.out, hO.out]
            exact ⟨A6, c6, rfl, ho6.mono HB.out.size (Nat.le_refl _), HB.out.trans (hb6.mono HB.out.size)⟩
          clear ho6 hb6 HB HG HM
          go_wp2
          go_ret2
          exact HP6.out

end Im7
end Go.Proofs.Ytbhafchdcofceaa
