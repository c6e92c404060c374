/-
  Contracts of the program's chapter 32: BatchFlows.
-/
import Derived.Test.YtcbhjnjallnidabIm13
import Derived.Test.YtcbhjnjallnidabSp13c
import Derived.Test.YtcbhjnjallnidabSt13
import Derived.Test.YtcbhjnjallnidabNv
namespace Go.Proofs.Ytcbhjnjallnidab
open Go.RowKit
namespace Im13
open Il Sl Fc Fp Pm Sp13

set_option maxRecDepth 20000 in
theorem namesValid (lo hi : Nat) (A : Option Addr) (n c : Nat) (xs : List Int) (w : World) (hx : Ints lo hi w A n c xs) :
    Calls Try.prog 38 #[.slice A n c] w fun e w' => e = .returned (.bool (xs.all inName)) ∧ w = w' := by
  have hc1 := hx.2.2.1
  have hc2 := hx.2.1
  have HL := Lib.hid hx.1
  unfold maxLen at hc1
  have HX := Lib.hid hx
  clear hx
  go_enter Try.func38, Try.ntmps38
  go_wp2
  go_loop [7] (fun i => ∃ k : Nat, k ≤ n ∧ i = .int .i64 k ∧ Hid (nmsTo xs k)) (fun i => n - (intOf i).toNat)
  case atStart => exact ⟨0, Nat.zero_le _, rfl, nmsTo_zero _⟩
  case round =>
    obtain ⟨k, hk, rfl, hT⟩ := hrel
    by_cases hlt : k < n
    · obtain ⟨b, off, rfl, _, _, hcx⟩ := HX.out.at_ hlt
      have HF : Hid (inName (xs.getD k 0) = false → xs.all inName = false) := nms_bad (by rw [HL.out]; exact hlt)
      have HN : Hid (inName (xs.getD k 0) = true → nmsTo xs (k + 1)) := nmsTo_succ hT.out
      clear hT
      generalize xs.getD k 0 = x at *
      cases hin : inName x
      · have HF2 := Lib.hid (HF.out hin)
        go_wp2_with fail
        ((with_reducible refine (nameValid x w).mono ?_); rintro e w' ⟨rfl, rfl⟩)
        rw [hin]
        clear hin HF HN
        go_wp2
        go_ret
        rw [HF2.out]
        exact ⟨rfl, rfl⟩
      · have HN2 := Lib.hid (HN.out hin)
        go_wp2_with fail
        ((with_reducible refine (nameValid x w).mono ?_); rintro e w' ⟨rfl, rfl⟩)
        rw [hin]
        clear hin HF HN
        go_wp2
        go_round
        case rel => exact ⟨k + 1, by omega, by go_num, HN2.out⟩
        case measure => simp [intOf]; omega
    · obtain rfl : k = n := by omega
      have HF : Hid (xs.all inName = true) := nms_all (by rw [HL.out]; exact hT.out)
      clear hT hlt
      go_wp2
      go_ret
      rw [HF.out]
      exact ⟨rfl, rfl⟩
def bvOk (ss rs : List Int) : Bool := decide (ss.length = rs.length) && (decide (ss.length ≤ 8) && (ss.all inName && rs.all inName))
theorem bat_bv (ss rs : List Int) (nm : Int) : batOk ss rs nm = (bvOk ss rs && decide (0 ≤ nm ∧ nm ≤ 990)) := by
  unfold batOk bvOk
  rw [show decide (2 * ss.length ≤ 16) = decide (ss.length ≤ 8) from decide_eq_decide.2 (by omega)]
  cases ss.all inName <;> cases rs.all inName <;> cases decide (ss.length = rs.length) <;> cases decide (ss.length ≤ 8) <;> simp
set_option maxRecDepth 20000 in
theorem batchValid (la ha lb hb : Nat) (A B : Option Addr) (n m c d : Nat) (ss rs : List Int) (w : World) (hx : Ints la ha w A n c ss) (hy : Ints lb hb w B m d rs) (hn : n ≤ 2000000) :
    Calls Try.prog 25 #[.slice A n c, .slice B m d] w fun e w' => e = .returned (.bool (bvOk ss rs)) ∧ w = w' := by
  have HL := Lib.hid hx.1
  have HM := Lib.hid hy.1
  have hc2 := hx.2.1
  have hd2 := hy.2.1
  have hc1 := hx.2.2.1
  have hd1 := hy.2.2.1
  unfold maxLen at hc1 hd1
  have X0 := Lib.hid hx
  have Y0 := Lib.hid hy
  clear hx hy
  by_cases h3 : n = m
  case neg =>
    have hne : ((n : Int) == (m : Int)) = false := by rw [beq_eq_false_iff_ne]; omega
    have HV : Hid (bvOk ss rs = false) := by
      show _ = _
      unfold bvOk
      rw [HL.out, HM.out, decide_eq_false h3]; rfl
    clear h3
    go_enter Try.func25, Try.ntmps25
    go_wp2
    go_ret
    rw [HV.out]
    exact ⟨rfl, rfl⟩
  subst h3
  have ew : IntKind.i64.wrap (2 * (n : Int)) = 2 * (n : Int) := IntWalk.i64_in _ (by omega)
  by_cases h4 : n ≤ 8
  case neg =>
    have d16 : decide (2 * (n : Int) ≤ 16) = false := by simp; omega
    have HV : Hid (bvOk ss rs = false) := by
      show _ = _
      unfold bvOk
      rw [HL.out, decide_eq_false h4]; simp
    clear h4
    go_enter Try.func25, Try.ntmps25
    go_wp2
    go_ret
    rw [HV.out]
    exact ⟨rfl, rfl⟩
  have d16 : decide (2 * (n : Int) ≤ 16) = true := by simp; omega
  have HV : Hid (bvOk ss rs = (ss.all inName && rs.all inName)) := by
    show _ = _
    unfold bvOk
    rw [HL.out, HM.out, decide_eq_true rfl, decide_eq_true h4]; rfl
  clear h4
  cases h1 : ss.all inName
  · go_enter Try.func25, Try.ntmps25
    go_wp2_with fail
    ((with_reducible refine (namesValid _ _ _ _ _ ss _ X0.out).mono ?_); rintro e w1 ⟨rfl, rfl⟩)
    rw [h1]
    go_wp2
    go_ret
    rw [HV.out, h1]
    exact ⟨rfl, rfl⟩
  · go_enter Try.func25, Try.ntmps25
    go_wp2_with fail
    ((with_reducible refine (namesValid _ _ _ _ _ ss _ X0.out).mono ?_); rintro e w1 ⟨rfl, rfl⟩)
    rw [h1]
    go_wp2_with fail
    ((with_reducible refine (namesValid _ _ _ _ _ rs _ Y0.out).mono ?_); rintro e w1 ⟨rfl, rfl⟩)
    cases h2 : rs.all inName
    · go_wp2
      go_ret
      rw [HV.out, h1, h2]
      exact ⟨rfl, rfl⟩
    · go_wp2
      go_ret
      rw [HV.out, h1, h2]
      exact ⟨rfl, rfl⟩
/-- The flows to the mix and those from it, in two rows of the call's own. -/
def BfR (w wr : World) (v1 v2 : Value) (xs ys : List Fl) : Prop :=
  Below w.heap.size w wr ∧ ∃ g1 g2, g1 ≠ g2 ∧ w.heap.size ≤ g1 ∧ w.heap.size ≤ g2 ∧ Gat g1 wr v1 xs ∧ Gat g2 wr v2 ys
theorem bfR_new (w : World) : BfR w ((w.alloc (.cells #[] 30)).alloc (.cells #[] 30)) (.slice (some ⟨w.heap.size, 0, none⟩) 0 0) (.slice (some ⟨w.heap.size + 1, 0, none⟩) 0 0) [] [] := by
  have e : (w.alloc (.cells #[] 30)).heap.size = w.heap.size + 1 := by simp
  have h := gat_new (w.alloc (.cells #[] 30))
  rw [e] at h
  exact ⟨((Below.refl _ _).alloc (Nat.le_refl _) _).alloc (by simp) _, w.heap.size, w.heap.size + 1, by omega, Nat.le_refl _, by omega, (gat_new w).block (Below.heap_alloc _ _ _ (by simp)), h⟩
section
variable {w wr w2 : World} {v1 v2 v : Value} {xs ys : List Fl} {x : Fl} {g g1 g2 : Nat}
theorem BfR.bel (h : BfR w wr v1 v2 xs ys) : Below w.heap.size w wr := h.1
theorem BfR.fst (h : BfR w wr v1 v2 xs ys) : ∃ g1, Gat g1 wr v1 xs ∧ ∀ g v w2, Gat g w2 v (xs ++ [x]) → (g = g1 ∨ wr.heap.size ≤ g) → wr.grownBy w2 (some g1) → BfR w w2 v v2 (xs ++ [x]) ys := by
  obtain ⟨h1, g1, g2, h2, h3, h4, h5, h6⟩ := h
  have := h6.lt
  have := h1.size
  exact ⟨g1, h5, fun g v w2 ha hg hgr => ⟨h1.grown hgr h1.size (fun k hk => by cases hk; exact h3), g, g2, by omega, by omega, h4, ha, h6.block (hgr.block g2 h6.lt (by simp; omega))⟩⟩
theorem BfR.snd (h : BfR w wr v1 v2 xs ys) : ∃ g2, Gat g2 wr v2 ys ∧ ∀ g v w2, Gat g w2 v (ys ++ [x]) → (g = g2 ∨ wr.heap.size ≤ g) → wr.grownBy w2 (some g2) → BfR w w2 v1 v xs (ys ++ [x]) := by
  obtain ⟨h1, g1, g2, h2, h3, h4, h5, h6⟩ := h
  have := h5.lt
  have := h1.size
  exact ⟨g2, h6, fun g v w2 ha hg hgr => ⟨h1.grown hgr h1.size (fun k hk => by cases hk; exact h4), g1, g, by omega, h3, by omega, h5.block (hgr.block g1 h5.lt (by simp; omega)), ha⟩⟩
end
theorem gat_sl {g n : Nat} {w : World} {v : Value} {xs : List Fl} (h : Gat g w v xs) (hl : xs.length = n) : ∃ cap, v = .slice (some ⟨g, 0, none⟩) n cap ∧ n ≤ cap ∧ cap ≤ 9223372036854775807 := by
  obtain ⟨cap, e, ho⟩ := AccV.row h
  subst hl
  exact ⟨cap, e, ho.1.2.1, by have := ho.1.2.2.1; unfold maxLen at this; exact this⟩
/-- The flows of the first k letters from the mix, by index. -/
def passKo (rs : List Int) (base : Int) (k : Nat) : List Fl := (List.range k).map (passAt rs base)
theorem passKo_succ (rs : List Int) (base : Int) (k : Nat) : passKo rs base (k + 1) = passKo rs base k ++ [⟨-1, rs.getD k 0, base + k⟩] := range_snoc _ _
theorem passKo_len (rs : List Int) (base : Int) (k : Nat) : (passKo rs base k).length = k := by unfold passKo; rw [List.length_map, List.length_range]
set_option maxRecDepth 20000 in
set_option maxHeartbeats 4000000 in
theorem BatchFlows (la ha lb hb : Nat) (A B : Option Addr) (n m c d : Nat) (ss rs : List Int) (nm : Int) (w : World) (hx : Ints la ha w A n c ss) (hy : Ints lb hb w B m d rs) (hn : n ≤ 2000000) :
    Calls Try.prog 11 #[.slice A n c, .slice B m d, .int .i64 nm] w (FlsPost (batF ss rs nm) w) := by
  have hc2 := hx.2.1
  have hd2 := hy.2.1
  have hc1 := hx.2.2.1
  have hd1 := hy.2.2.1
  unfold maxLen at hc1 hd1
  have HL := Lib.hid hx.1
  have HM := Lib.hid hy.1
  have HX : Hid (∀ wr, Below w.heap.size w wr → Ints la ha wr A n c ss) := fun wr h => hx.below h (Nat.le_refl _)
  have HY : Hid (∀ wr, Below w.heap.size w wr → Ints lb hb wr B m d rs) := fun wr h => hy.below h (Nat.le_refl _)
  have X0 := Lib.hid hx
  have Y0 := Lib.hid hy
  have HNO : Hid (batOk ss rs nm = false → FlsPost (batF ss rs nm) w (.returned (.slice (some ⟨w.heap.size, 0, none⟩) 0 0)) (w.alloc (.cells #[] 30))) := fun h => by
    rw [batF_no h]; exact (Fc.acc_new w).post
  clear hx hy
  cases h1 : bvOk ss rs
  · have HP := Lib.hid (HNO.out (by rw [bat_bv, h1]; rfl))
    go_enter Try.func11, Try.ntmps11
    go_wp2_with fail
    ((with_reducible refine (batchValid _ _ _ _ _ _ _ _ _ _ ss rs _ X0.out Y0.out hn).mono ?_); rintro e w1 ⟨rfl, rfl⟩)
    rw [h1]
    clear h1
    go_wp2
    go_ret
    exact HP.out
  cases h2 : Mm.inN nm
  · have HP := Lib.hid (HNO.out (by rw [bat_bv, show decide (0 ≤ nm ∧ nm ≤ 990) = false from h2]; simp))
    go_enter Try.func11, Try.ntmps11
    go_wp2_with fail
    ((with_reducible refine (batchValid _ _ _ _ _ _ _ _ _ _ ss rs _ X0.out Y0.out hn).mono ?_); rintro e w1 ⟨rfl, rfl⟩)
    rw [h1]
    go_wp2_with fail
    ((with_reducible refine (Nv.numberValid nm _).mono ?_); rintro e w1 ⟨rfl, rfl⟩)
    rw [h2]
    clear h1 h2
    go_wp2
    go_ret
    exact HP.out
  have hok : batOk ss rs nm = true := by rw [bat_bv, h1, show decide (0 ≤ nm ∧ nm ≤ 990) = true from h2]; rfl
  obtain ⟨_, q2, q3, q4, q5, q6⟩ := batOk_iff.1 hok
  have hnm : n = m := by rw [← HL.out, ← HM.out]; exact q3
  have h8 : n ≤ 8 := by rw [← HL.out]; exact q4
  subst hnm
  have HRS := Lib.hid q2
  have HV : Hid (batF ss rs nm = sentTo ss nm n ++ passL rs (nm + n)) := by
    show _ = _
    rw [batF_yes hok]
    unfold batL sentL sentTo
    rw [HL.out]
  have HPO : Hid (passKo rs (nm + n) n = passO rs (nm + n)) := by show _ = _; unfold passKo passO; rw [HM.out]
  have H0 : Hid (BfR w ((w.alloc (.cells #[] 30)).alloc (.cells #[] 30)) (.slice (some ⟨w.heap.size, 0, none⟩) 0 0) (.slice (some ⟨w.heap.size + 1, 0, none⟩) 0 0) (sentTo ss nm 0) (passKo rs (nm + n) 0)) := bfR_new w
  go_enter Try.func11, Try.ntmps11
  go_wp2_with fail
  ((with_reducible refine (batchValid _ _ _ _ _ _ _ _ _ _ ss rs _ X0.out Y0.out hn).mono ?_); rintro e w1 ⟨rfl, rfl⟩)
  rw [h1]
  go_wp2_with fail
  ((with_reducible refine (Nv.numberValid nm _).mono ?_); rintro e w1 ⟨rfl, rfl⟩)
  rw [h2]
  clear h1 h2 HNO X0 Y0 hok q2 q3 q4
  go_wp2
  go_loopw [7, 8, 9, 10, 25] (fun v1 v2 _ _ i wr => ∃ k : Nat, k ≤ n ∧ i = .int .i64 (k : Int) ∧ Hid (BfR w wr v1 v2 (sentTo ss nm k) (passKo rs (nm + n) k))) (fun _ _ _ _ i _ => n - (intOf i).toNat)
  case atStart => exact ⟨0, Nat.zero_le _, rfl, H0.out⟩
  case round =>
    obtain ⟨k, hk, rfl, hR⟩ := hrel
    clear H0
    by_cases hlt : k < n
    · obtain ⟨b, off, rfl, _, _, c0⟩ := (HX.out _ hR.out.bel).at_ hlt
      obtain ⟨b2, off2, rfl, _, _, _⟩ := (HY.out _ hR.out.bel).at_ hlt
      have HST := Lib.hid (sentTo_succ ss nm k)
      have HSP := Lib.hid (passKo_succ rs (nm + n) k)
      have HY2 : Hid (∀ wr, Below w.heap.size w wr → wr.cell? ⟨b2, off2 + k, none⟩ = some (.int .i64 (rs.getD k 0))) := fun wr h => by
        obtain ⟨b, off, e, _, _, q⟩ := (HY.out wr h).at_ hlt
        simp only [Option.some.injEq, Addr.mk.injEq, and_true] at e
        obtain ⟨rfl, rfl⟩ := e
        exact q
      have hl1 : (sentTo ss nm k).length ≤ 100000 := by rw [sentTo_len]; omega
      have hl2 : (passKo rs (nm + n) k).length ≤ 100000 := by rw [passKo_len]; omega
      have ew : IntKind.i64.wrap (nm + k) = nm + k := IntWalk.i64_in _ (by omega)
      have ew1 : IntKind.i64.wrap (nm + n) = nm + n := IntWalk.i64_in _ (by omega)
      have ew2 : IntKind.i64.wrap (nm + n + k) = nm + n + k := IntWalk.i64_in _ (by omega)
      generalize ss.getD k 0 = x at *
      generalize rs.getD k 0 = y at *
      generalize sentTo ss nm k = vs at *
      generalize passKo rs (nm + n) k = ps at *
      obtain ⟨g1, hG1, hF1⟩ := hR.out.fst (x := ⟨x, -1, nm + k⟩)
      have HF1 := Lib.hid hF1
      have HG1 := Lib.hid hG1
      clear hG1 hF1 hR
      go_wp2_with (first
        | (at_builtin; refine Fc.wpList_gApp g2 _ _ ps HG2.out (⟨-1, y, nm + n + k⟩ : Fl) hl2 _ _ rfl rfl rfl rfl ?_; intro g8 v8 w8 hN8 hg8 hB8)
        | (at_builtin; refine Fc.wpList_gApp g1 _ _ vs HG1.out (⟨x, -1, nm + k⟩ : Fl) hl1 _ _ rfl rfl rfl rfl ?_; intro g9 v9 w9 hN9 hg9 hB9
           have HR2 := Lib.hid (HF1.out _ _ _ hN9 hg9 hB9)
           have c2 := HY2.out _ HR2.out.bel
           obtain ⟨g2, hG2, hF2⟩ := HR2.out.snd (x := ⟨-1, y, nm + n + k⟩)
           have HF2 := Lib.hid hF2
           have HG2 := Lib.hid hG2
           clear hG2 hF2 HR2 hN9 hg9 hB9))
      have HR3 := Lib.hid (HF2.out _ _ _ hN8 hg8 hB8)
      clear hN8 hg8 hB8 HF2 HG2 HF1 HG1 c0 c2 hl1 hl2 ew ew1 ew2
      go_wp2
      go_roundw
      case rel => exact ⟨k + 1, by omega, by go_num, by show BfR _ _ _ _ _ _; rw [HST.out, HSP.out]; exact HR3.out⟩
      case measure => simp [intOf]; omega
    · obtain rfl : k = n := by omega
      clear hlt
      rw [HPO.out] at hR
      obtain ⟨hB, g1, g2, hne, hg1, hg2, hG1, hG2⟩ := hR.out
      obtain ⟨cap2, rfl, hcc2, hcm2⟩ := gat_sl (n := k) hG2 (by rw [passO_len, HM.out])
      have HS := Lib.hid (St13.sortStable g2 cap2 k rs (nm + k) wr hG2 HRS.out HM.out h8)
      have HG1 := Lib.hid hG1
      have HB := Lib.hid hB
      have hpl : Hid ((passL rs (nm + k)).length = k) := by show _ = _; rw [pass_len _ HRS.out, HM.out]
      clear hR hG2
      go_wp2_with fail
      ((with_reducible refine (HS.out).mono ?_); rintro e w2 ⟨rfl, ho, hg⟩)
      have HAC : Hid (Fc.Acc w w2 u7 (sentTo ss nm k)) := ⟨g1, hg1, HG1.out.block (hg.block g1 HG1.out.lt (by simp; omega)), HB.out.grown hg HB.out.size (fun q e => by cases e; exact hg2)⟩
      rw [hpl.out] at ho
      have HRW := Lib.hid ho.row_
      have hl1 : (sentTo ss nm k).length + k ≤ 1000000 := by rw [sentTo_len]; omega
      clear ho hg HS HG1 HB hB hG1
      generalize sentTo ss nm k = vs at *
      generalize passL rs (nm + k) = ps at *
      go_wp2_with (at_builtin; refine Fc.wpList_cAppL w _ _ vs HAC.out _ _ _ _ _ ps HRW.out hl1 _ _ rfl rfl rfl rfl ?_; intro v5 w5 hN5 hB5)
      have HP := Lib.hid hN5.post
      clear hN5 hB5 HAC HRW
      go_wp2
      go_ret
      rw [HV.out]
      exact HP.out
end Im13
end Go.Proofs.Ytcbhjnjallnidab
