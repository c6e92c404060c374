/-
  The laws on pieces: parities and joins.
-/
import Derived.Test.YtoghgliijjfppabIm11f
import Derived.Test.YtoghgliijjfppabSp11e
import Derived.Test.YtoghgliijjfppabDr11
import Derived.Test.YtoghgliijjfppabH11
import Derived.Test.YtoghgliijjfppabGk2
import Derived.BigQuiet
import Derived.BigRegion
import Derived.Deep.RegionLaw
namespace Go.Proofs.Ytoghgliijjfppab
open Go.RowKit
namespace Law11
open Il Sl Fo Cm Cs Gm Mm Pc Rd

theorem int_eq_nat (a b : Nat) : ((a : Int) == (b : Int)) = decide (a = b) := by
  by_cases h : a = b
  · subst h; simp
  · rw [decide_eq_false h]; simpa using (by omega : ¬ (a : Int) = (b : Int))
theorem sts_mem {lo hi : Nat} {w : World} {A : Option Addr} {n c : Nat} {ps : List (List Int)} (h : Sts lo hi w A n c ps) : ps.length = n := h.len_
set_option maxRecDepth 20000 in
set_option maxHeartbeats 4000000 in
theorem fnJoin (A : Option Addr) (n c : Nat) (w : World) (h : CodeIs w A n c) : Calls Try.prog 9 #[.slice A n c] w (BoolB true w) := by
  by_cases hbig : (1048576 : Int) < (n : Int)
  · go_enter Try.func9, Try.ntmps9
    go_wp2
    go_ret
    exact ⟨rfl, Below.refl _ _⟩
  go_enter Try.func9, Try.ntmps9
  go_wp2_with fail
  ((with_reducible refine (Rd.DrawPiecesJoin A n c w h).mono ?_); rintro e w1 ⟨A1, n1, c1, ps, rfl, hn6, hs1, hb1⟩)
  have HS1 := Lib.hid hs1
  have HB1 := Lib.hid hb1
  clear hs1 hb1
  go_wp2_with fail
  ((with_reducible refine (Im11.PiecesJoin _ _ _ _ _ ps _ HS1.out).mono ?_); rintro e w2 ⟨A2, c2, rfl, ho2, hb2⟩)
  have HB2 := Lib.hid (HB1.out.trans (hb2.mono HB1.out.size))
  have HS2 := Lib.hid (HS1.out.below hb2 (Nat.le_refl _))
  have HO2 := Lib.hid ho2.ints
  clear ho2 hb2 HS1 HB1
  go_wp2_with fail
  ((with_reducible refine (Sp11.PiecesJoin _ _ _ _ _ ps _ HS2.out).mono ?_); rintro e w3 ⟨A3, c3, rfl, ho3, hb3⟩)
  have HB3 := Lib.hid (HB2.out.trans (hb3.mono HB2.out.size))
  have HS3 := Lib.hid (HS2.out.below hb3 (Nat.le_refl _))
  have HO3 := Lib.hid (HO2.out.below hb3 (Nat.le_refl _))
  have HW3 := Lib.hid ho3.ints
  clear ho3 hb3 HS2 HO2 HB2
  cases hj : joinOk ps
  · have _h := trivial
    go_wp2_with fail
    ((with_reducible refine (Hlp.sameInts _ _ _ _ _ _ _ _ _ _ (joinF ps) (joinF ps) _ HO3.out HW3.out).mono ?_); rintro e w4 ⟨rfl, q4, rfl⟩)
    rw [decide_eq_true rfl]
    obtain ⟨w4, hw4⟩ : ∃ W, w3.drewN q4 = W := ⟨_, rfl⟩
    have hb4 : Below w3.heap.size w3 w4 := by rw [← hw4]; exact Ck.below_dr (Below.refl _ _)
    rw [hw4]
    have HB4 := Lib.hid (HB3.out.trans (hb4.mono HB3.out.size))
    have HO4 := Lib.hid (HO3.out.below hb4 (Nat.le_refl _))
    have HW4 := Lib.hid (HW3.out.below hb4 (Nat.le_refl _))
    clear hb4 hw4 HB3 HO3 HW3 HS3
    go_wp2_with fail
    ((with_reducible refine (Hlp.sameInts _ _ _ _ _ _ _ _ _ _ (joinF ps) (joinF ps) _ HO4.out HW4.out).mono ?_); rintro e w5 ⟨rfl, q5, rfl⟩)
    rw [decide_eq_true rfl]
    have HB := Lib.hid (Ck.below_dr (d := q5) HB4.out)
    clear HB4 HO4 HW4
    generalize w4.drewN q5 = W at *
    go_wp2
    go_ret
    exact ⟨rfl, HB.out⟩
  go_wp2_with fail
  ((with_reducible refine (Hlp.sameInts _ _ _ _ _ _ _ _ _ _ (joinF ps) (joinF ps) _ HO3.out HW3.out).mono ?_); rintro e w4 ⟨rfl, q4, rfl⟩)
  rw [decide_eq_true rfl]
  obtain ⟨w4, hw4⟩ : ∃ W, w3.drewN q4 = W := ⟨_, rfl⟩
  have hb4 : Below w3.heap.size w3 w4 := by rw [← hw4]; exact Ck.below_dr (Below.refl _ _)
  rw [hw4]
  have HB4 := Lib.hid (HB3.out.trans (hb4.mono HB3.out.size))
  have HO4 := Lib.hid (HO3.out.below hb4 (Nat.le_refl _))
  have HS4 := Lib.hid (HS3.out.below hb4 (Nat.le_refl _))
  have hcj : cutF (joinF ps) = ps := by rw [joinF_yes hj]; exact join_cut hj
  clear hb4 hw4 HB3 HO3 HW3 HS3
  go_wp2_with fail
  ((with_reducible refine (Im11.PiecesCut _ _ _ _ _ (joinF ps) _ HO4.out).mono ?_); rintro e w5 ⟨A5, c5, G5, rfl, ho5, hw5, hb5⟩)
  rw [hcj] at ho5 ⊢
  have HO5 := Lib.hid (ho5.sts hw5)
  have HS5 := Lib.hid (HS4.out.below hb5 (Nat.le_refl _))
  have HB5 := Lib.hid (HB4.out.trans (hb5.mono HB4.out.size))
  clear ho5 hw5 hb5 HO4 HS4 HB4 hcj
  go_wp2_with fail
  ((with_reducible refine (H11.samePieces _ _ _ _ _ _ _ _ _ _ ps ps _ HO5.out HS5.out).mono ?_); rintro e w6 ⟨rfl, q6, rfl⟩)
  rw [decide_eq_true rfl]
  have HB := Lib.hid (Ck.below_dr (d := q6) HB5.out)
  clear HB5 HO5 HS5
  generalize w5.drewN q6 = W at *
  go_wp2
  go_ret
  exact ⟨rfl, HB.out⟩
theorem col_bd {ps : List (List Int)} (h : ∀ x ∈ ps, pieceOk x = true) (k j : Nat) : 0 ≤ colS (ps.take j) k ∧ colS (ps.take j) k ≤ 990 * (j : Int) := by
  induction j with
  | zero => simp [colS]
  | succ j ih =>
    rcases Nat.lt_or_ge j ps.length with hj | hj
    · rw [← Ck.take_slot hj, colS_snoc]
      have hm : slAt ps j ∈ ps := by unfold slAt; rw [List.getD_eq_getElem?_getD, List.getElem?_eq_getElem hj]; exact List.getElem_mem hj
      have hv := h _ hm
      have h2 : 0 ≤ (slAt ps j).getD k 0 ∧ (slAt ps j).getD k 0 ≤ 990 := by
        rcases Nat.lt_or_ge k (slAt ps j).length with hk | hk
        · exact Mm.okL_at (pieceOk_iff.1 hv).1 hk
        · rw [getD_far hk]; omega
      omega
    · rw [List.take_of_length_le (by omega)]
      rw [List.take_of_length_le (by omega)] at ih
      omega
theorem col_to {ps : List (List Int)} {j : Nat} (k : Nat) (hj : j < ps.length) : colS (ps.take (j + 1)) k = colS (ps.take j) k + (slAt ps j).getD k 0 := by
  rw [← Ck.take_slot hj, colS_snoc]
theorem par_at {ps : List (List Int)} (h : pcsOk ps 0 = true) {k : Nat} (hk : k < 3) : (parF ps).getD k 0 = colS ps k % 991 := by
  rw [parF_yes h, par_col]
  obtain rfl | rfl | rfl : k = 0 ∨ k = 1 ∨ k = 2 := by omega
  all_goals rfl
set_option maxRecDepth 20000 in
set_option maxHeartbeats 4000000 in
theorem fnParity (A : Option Addr) (n c : Nat) (w : World) (h : CodeIs w A n c) : Calls Try.prog 7 #[.slice A n c] w (BoolB true w) := by
  by_cases hbig : (1048576 : Int) < (n : Int)
  · go_enter Try.func7, Try.ntmps7
    go_wp2
    go_ret
    exact ⟨rfl, Below.refl _ _⟩
  go_enter Try.func7, Try.ntmps7
  go_wp2_with fail
  ((with_reducible refine (Rd.DrawPiecesParity A n c w h).mono ?_); rintro e w1 ⟨A1, n1, c1, ps, rfl, hn6, hs1, hb1⟩)
  have HS1 := Lib.hid hs1
  have HB1 := Lib.hid hb1
  clear hs1 hb1
  go_wp2_with fail
  ((with_reducible refine (Im11.PiecesParity _ _ _ _ _ ps _ HS1.out).mono ?_); rintro e w2 ⟨A2, c2, rfl, ho2, hb2⟩)
  have HB2 := Lib.hid (HB1.out.trans (hb2.mono HB1.out.size))
  have HS2 := Lib.hid (HS1.out.below hb2 (Nat.le_refl _))
  have HO2 := Lib.hid ho2.ints
  clear ho2 hb2 HS1 HB1
  go_wp2_with fail
  ((with_reducible refine (Sp11.PiecesParity _ _ _ _ _ ps _ HS2.out).mono ?_); rintro e w3 ⟨A3, c3, rfl, ho3, hb3⟩)
  have HB3 := Lib.hid (HB2.out.trans (hb3.mono HB2.out.size))
  have HS3 := Lib.hid (HS2.out.below hb3 (Nat.le_refl _))
  have HO3 := Lib.hid (HO2.out.below hb3 (Nat.le_refl _))
  have HW3 := Lib.hid ho3.ints
  have HL3 := Lib.hid HS3.out.len_
  clear ho3 hb3 HS2 HO2 HB2
  go_wp2_with fail
  ((with_reducible refine (Hlp.sameInts _ _ _ _ _ _ _ _ _ _ (parF ps) (parF ps) _ HO3.out HW3.out).mono ?_); rintro e w4 ⟨rfl, q4, rfl⟩)
  rw [decide_eq_true rfl]
  obtain ⟨w4, hw4⟩ : ∃ W, w3.drewN q4 = W := ⟨_, rfl⟩
  have hb4 : Below w3.heap.size w3 w4 := by rw [← hw4]; exact Ck.below_dr (Below.refl _ _)
  rw [hw4]
  have HB4 := Lib.hid (HB3.out.trans (hb4.mono HB3.out.size))
  have HO4 := Lib.hid (HO3.out.below hb4 (Nat.le_refl _))
  have HW4 := Lib.hid (HW3.out.below hb4 (Nat.le_refl _))
  have HS4 := Lib.hid (HS3.out.below hb4 (Nat.le_refl _))
  clear hb4 hw4 HB3 HO3 HW3 HS3
  cases hok : pcsOk ps 0
  · have h0 : parF ps = [] := parF_no hok
    have h0l : (parF ps).length = 0 := by rw [h0]; rfl
    rw [h0l] at HO4 HW4 ⊢
    clear h0l h0 hok
    go_wp2_with fail
    ((with_reducible refine (Hlp.sameInts _ _ _ _ _ _ _ _ _ _ (parF ps) (parF ps) _ HO4.out HW4.out).mono ?_); rintro e w5 ⟨rfl, q5, rfl⟩)
    rw [decide_eq_true rfl]
    have HB := Lib.hid (Ck.below_dr (d := q5) HB4.out)
    clear HB4 HO4 HW4 HS4
    generalize w4.drewN q5 = W at *
    go_wp2
    go_ret
    exact ⟨rfl, HB.out⟩
  have HOK := Lib.hid hok
  have hpl : (parF ps).length = 3 := by rw [parF_yes hok]; rfl
  have hn5 : n1 ≤ 5 := by rw [← HL3.out]; exact (pcs0.1 hok).1.2
  have hn1 : 1 ≤ n1 := by rw [← HL3.out]; exact (pcs0.1 hok).1.1
  rw [hpl] at HO4 ⊢
  clear hpl HW4 hok
  have HPO := Lib.hid (pcs0.1 HOK.out).2
  go_wp2
  go_loop [6] (fun i => ∃ k : Nat, k ≤ 3 ∧ i = .int .i64 k) (fun i => 3 - (intOf i).toNat)
  case atStart => exact ⟨0, Nat.zero_le _, rfl⟩
  case round =>
    obtain ⟨k, hk, rfl⟩ := hrel
    by_cases hlt : k < 3
    · have hw1 : IntKind.i64.wrap ((k : Int) + 1) = (k : Int) + 1 := IntWalk.i64_in _ (by omega)
      go_wp2
      go_loop [7, 8] (fun z i => ∃ (j : Nat) (q : Int), j ≤ n1 ∧ i = .int .i64 j ∧ z = .int .i64 q ∧ (0 ≤ q ∧ q ≤ 100000) ∧ Hid (q = colS (ps.take j) k)) (fun _ i => n1 - (intOf i).toNat)
      case atStart => exact ⟨0, 0, Nat.zero_le _, rfl, rfl, by omega, by show (0 : Int) = _; simp [colS]⟩
      case round =>
        obtain ⟨j, q, hj, rfl, rfl, hq, hQ⟩ := hrel
        by_cases hlj : j < n1
        · have hjl : j < ps.length := by rw [HL3.out]; exact hlj
          have hx3 := (Sp11.slice_pos HPO.out hjl).1
          have hct := col_to k hjl
          have hbd := col_bd HPO.out k (j + 1)
          obtain ⟨b, off, P, e, rfl, _, _, _, cB, iB⟩ := HS4.out.at_ hlj
          rw [hx3] at cB iB
          obtain ⟨b2, off2, rfl, _, _, cC⟩ := iB.at_ hlt
          have HQ2 : Hid (q + (slAt ps j).getD k 0 = colS (ps.take (j + 1)) k) := by show _ = _; rw [hct, hQ.out]
          rw [← HQ2.out] at hbd
          clear iB hct hQ hx3
          generalize (slAt ps j).getD k 0 = x at *
          have hw2 : IntKind.i64.wrap (q + x) = q + x := IntWalk.i64_in _ (by omega)
          have hw3 : IntKind.i64.wrap ((j : Int) + 1) = (j : Int) + 1 := IntWalk.i64_in _ (by omega)
          go_wp2
          go_round
          case rel => exact ⟨j + 1, q + x, by omega, by go_num, rfl, by omega, HQ2.out⟩
          case measure => simp [intOf]; omega
        · obtain rfl : j = n1 := by omega
          have hps : ps.take j = ps := List.take_of_length_le (by rw [HL3.out]; exact Nat.le_refl _)
          have hpa := par_at HOK.out hlt
          obtain ⟨b, off, rfl, _, _, cO⟩ := HO4.out.at_ hlt
          have hqe : (parF ps).getD k 0 = q % 991 := by rw [hpa, hQ.out, hps]
          rw [hqe] at cO
          have htm : q.tmod 991 = q % 991 := Int.tmod_eq_emod_of_nonneg (by omega)
          clear hpa hqe hQ hlj
          generalize q % 991 = y at *
          go_wp2
          go_round
          case rel => exact ⟨k + 1, by omega, by go_num⟩
          case measure => simp [intOf]; omega
    · obtain rfl : k = 3 := by omega
      clear hlt
      go_wp2
      go_ret
      exact ⟨rfl, HB4.out⟩
theorem par_rev {ps : List (List Int)} (h : pcsOk ps 0 = true) : parF ps.reverse = parF ps := by
  have h2 : pcsOk ps.reverse 0 = true := pcs0.2 (by have h1 := pcs0.1 h; exact ⟨by rw [List.length_reverse]; exact h1.1, fun x hx => h1.2 x (List.mem_reverse.1 hx)⟩)
  rw [parF_yes h, parF_yes h2, sumP_rev]
/-- The lists, gathered from the last one on. -/
def BkR (w0 wr : World) (ss : List Sk) (v : Value) (j : Nat) : Prop :=
  ∃ g, Dest 22 1 g wr v j (((ss.reverse).take j).map Sk.cell) ∧ (∀ k, g = some k → w0.heap.size ≤ k) ∧ Below w0.heap.size w0 wr
theorem rev_take {ss : List Sk} {n j : Nat} (hl : ss.length = n) (hj : j < n) {s : Sk} (hs : ss[n - 1 - j]? = some s) : (ss.reverse).take (j + 1) = (ss.reverse).take j ++ [s] := by
  rw [List.take_succ_eq_append_getElem (by rw [List.length_reverse]; omega)]
  congr 1
  rw [List.getElem_reverse]
  have h1 : ss.length - 1 - j = n - 1 - j := by omega
  have h2 := List.getElem?_eq_some_iff.1 hs
  obtain ⟨h3, h4⟩ := h2
  rw [← h4]
  congr 2
set_option maxRecDepth 20000 in
set_option maxHeartbeats 4000000 in
theorem fnParityOrder (A : Option Addr) (n c : Nat) (w : World) (h : CodeIs w A n c) : Calls Try.prog 8 #[.slice A n c] w (BoolB true w) := by
  by_cases hbig : (1048576 : Int) < (n : Int)
  · go_enter Try.func8, Try.ntmps8
    go_wp2
    go_ret
    exact ⟨rfl, Below.refl _ _⟩
  go_enter Try.func8, Try.ntmps8
  go_wp2_with fail
  ((with_reducible refine (Rd.DrawPiecesParity A n c w h).mono ?_); rintro e w1 ⟨A1, n1, c1, ps, rfl, hn6, hs1, hb1⟩)
  have HS1 := Lib.hid hs1
  have HB1 := Lib.hid hb1
  clear hs1 hb1
  go_wp2_with fail
  ((with_reducible refine (Im11.PiecesParity _ _ _ _ _ ps _ HS1.out).mono ?_); rintro e w2 ⟨A2, c2, rfl, ho2, hb2⟩)
  have HB2 := Lib.hid (HB1.out.trans (hb2.mono HB1.out.size))
  have HS2 := Lib.hid (HS1.out.below hb2 (Nat.le_refl _))
  have HO2 := Lib.hid ho2.ints
  clear ho2 hb2 HS1 HB1
  go_wp2_with fail
  ((with_reducible refine (Sp11.PiecesParity _ _ _ _ _ ps _ HS2.out).mono ?_); rintro e w3 ⟨A3, c3, rfl, ho3, hb3⟩)
  have HB3 := Lib.hid (HB2.out.trans (hb3.mono HB2.out.size))
  have HS3 := Lib.hid (HS2.out.below hb3 (Nat.le_refl _))
  have HO3 := Lib.hid (HO2.out.below hb3 (Nat.le_refl _))
  have HW3 := Lib.hid ho3.ints
  have HL3 := Lib.hid HS3.out.len_
  clear ho3 hb3 HS2 HO2 HB2
  go_wp2_with fail
  ((with_reducible refine (Hlp.sameInts _ _ _ _ _ _ _ _ _ _ (parF ps) (parF ps) _ HO3.out HW3.out).mono ?_); rintro e w4 ⟨rfl, q4, rfl⟩)
  rw [decide_eq_true rfl]
  obtain ⟨w4, hw4⟩ : ∃ W, w3.drewN q4 = W := ⟨_, rfl⟩
  have hb4 : Below w3.heap.size w3 w4 := by rw [← hw4]; exact Ck.below_dr (Below.refl _ _)
  rw [hw4]
  have HB4 := Lib.hid (HB3.out.trans (hb4.mono HB3.out.size))
  have HO4 := Lib.hid (HO3.out.below hb4 (Nat.le_refl _))
  have HW4 := Lib.hid (HW3.out.below hb4 (Nat.le_refl _))
  have HS4 := Lib.hid (HS3.out.below hb4 (Nat.le_refl _))
  clear hb4 hw4 HB3 HO3 HW3 HS3
  cases hok : pcsOk ps 0
  · have h0 : parF ps = [] := parF_no hok
    have h0l : (parF ps).length = 0 := by rw [h0]; rfl
    rw [h0l] at HO4 HW4 ⊢
    clear h0l h0 hok
    go_wp2_with fail
    ((with_reducible refine (Hlp.sameInts _ _ _ _ _ _ _ _ _ _ (parF ps) (parF ps) _ HO4.out HW4.out).mono ?_); rintro e w5 ⟨rfl, q5, rfl⟩)
    rw [decide_eq_true rfl]
    have HB := Lib.hid (Ck.below_dr (d := q5) HB4.out)
    clear HB4 HO4 HW4 HS4
    generalize w4.drewN q5 = W at *
    go_wp2
    go_ret
    exact ⟨rfl, HB.out⟩
  have HOK := Lib.hid hok
  have hpl : (parF ps).length = 3 := by rw [parF_yes hok]; rfl
  have hn5 : n1 ≤ 5 := by rw [← HL3.out]; exact (pcs0.1 hok).1.2
  have hn1 : 1 ≤ n1 := by rw [← HL3.out]; exact (pcs0.1 hok).1.1
  rw [hpl] at HO4 ⊢
  clear hpl HW4 hok
  obtain ⟨ss, hss, hrow, hin⟩ := HS4.out.top (Nat.zero_le _)
  have hssl : ss.length = n1 := by have h1 := hrow.1; rw [List.length_map, Nat.mul_one] at h1; exact h1
  obtain ⟨bA, offA, rfl, _, _, hzA, hcA⟩ := hrow.2.2.2 (by omega)
  have HSS := Lib.hid hss
  have HCA : Hid (∀ j s, ss[j]? = some s → w4.cell? ⟨bA, offA + j, none⟩ = some s.cell) := fun j s hs => hcA j s.cell (by rw [List.getElem?_map, hs]; rfl)
  have HIN := Lib.hid hin
  have hal : Below w4.heap.size w4 (w4.alloc (.cells #[] 22)) := (Below.refl _ _).alloc (Nat.le_refl _) _
  have HR0 : Hid (BkR w4 (w4.alloc (.cells #[] 22)) ss (.slice (some ⟨w4.heap.size, 0, none⟩) 0 0) 0) := ⟨some w4.heap.size, .inr ⟨_, rfl, accV_new w4 _ _⟩, fun k e => by cases e; exact Nat.le_refl _, hal⟩
  have HSL := Lib.hid hssl
  have hw0 : IntKind.i64.wrap ((n1 : Int) - 1) = (n1 : Int) - 1 := IntWalk.i64_in _ (by omega)
  clear hss hrow hin hcA hal hssl HS4
  go_wp2
  go_loopw [6, 7] (fun v i wr => ∃ j : Nat, j ≤ n1 ∧ i = .int .i64 ((n1 : Int) - 1 - (j : Int)) ∧ Hid (BkR w4 wr ss v j)) (fun _ i _ => (intOf i + 1).toNat)
  case atStart => exact ⟨0, Nat.zero_le _, by simp, HR0.out⟩
  case round =>
    obtain ⟨j, hj, rfl, hR⟩ := hrel
    clear HR0
    obtain ⟨g, k1, k2, k3⟩ := hR.out
    by_cases hlt : j < n1
    · obtain ⟨i, hi⟩ : ∃ i, n1 - 1 - j = i := ⟨_, rfl⟩
      have hie : (n1 : Int) - 1 - (j : Int) = (i : Int) := by omega
      have hin1 : i < n1 := by omega
      obtain ⟨s, hs⟩ : ∃ s, ss[i]? = some s := ⟨_, List.getElem?_eq_getElem (by rw [HSL.out]; exact hin1)⟩
      have HRT := Lib.hid (rev_take (n := n1) (j := j) HSL.out hlt (s := s) (by rw [hi]; exact hs))
      have hc : wr.cell? ⟨bA, offA + i, none⟩ = some (.slice s.A s.xs.length s.c) := (k3.cell (p := ⟨bA, offA + i, none⟩) hzA).trans (HCA.out i s hs)
      have hal : Below wr.heap.size wr (wr.alloc (.cells #[.slice s.A s.xs.length s.c] 22)) := (Below.refl _ _).alloc (Nat.le_refl _) _
      have HD := Lib.hid (dest_keep (w' := wr.alloc (.cells #[.slice s.A s.xs.length s.c] 22)) k1 fun k e => hal.block k (dest_lt k1 k e))
      have HRW := Lib.hid (row_lit wr 22 [.slice s.A s.xs.length s.c] rfl)
      have HK2 := Lib.hid k2
      have HK3 := Lib.hid (k3.trans (hal.mono k3.size))
      have hmb : j + 1 ≤ 1000000 := by omega
      have hw1 : IntKind.i64.wrap ((i : Int) - 1) = (i : Int) - 1 := IntWalk.i64_in _ (by omega)
      have hi0 : (0 : Int) ≤ (i : Int) := by omega
      have hjn : (n1 : Int) - 1 - ((j + 1 : Nat) : Int) = (i : Int) - 1 := by omega
      have HJN := Lib.hid hjn
      rw [hie]
      clear k1 k2 k3 hal hR hie hjn
      go_wp2_with (at_builtin; refine wpList_appD elSk _ _ _ _ _ HD.out _ _ _ _ _ _ HRW.out (fun u hu => by simp at hu; subst hu; rfl) hmb _ _ rfl rfl rfl rfl ?_; intro g5 v5 w5 hd5 hg5 hgr5)
      have HN : Hid (BkR w4 w5 ss v5 (j + 1)) := by
        refine ⟨g5, ?_, ?_, HK3.out.grown hgr5 HK3.out.size HK2.out⟩
        · rw [HRT.out, List.map_append]; exact hd5
        · rintro k' rfl
          rcases hg5 with e | ⟨k2, e, h2⟩
          · exact HK2.out k' e.symm
          · cases e; have := HK3.out.size; omega
      clear hd5 hg5 hgr5 HD HRW HK2 HK3
      go_wp2
      go_roundw
      case rel => exact ⟨j + 1, by omega, by rw [HJN.out], HN.out⟩
      case measure => simp only [intOf]; omega
    · obtain rfl : j = n1 := by omega
      have hneg : (j : Int) - 1 - (j : Int) = -1 := by omega
      rw [hneg]
      have hrl : ss.reverse.length = j := by rw [List.length_reverse]; exact HSL.out
      rw [List.take_of_length_le (by omega)] at k1
      have hs6 : ∃ A6 c6, u6 = .slice A6 j c6 ∧ Sts 0 wr.heap.size wr A6 j c6 ps.reverse := by
        rcases k1 with ⟨_, hz, _⟩ | ⟨q, _, ha⟩
        · omega
        · obtain ⟨cap, rfl, hr⟩ := ha.row
          exact ⟨_, cap, rfl, ss.reverse, by rw [List.map_reverse, HSS.out], hr.1.mono (Nat.zero_le _) (by have := ha.lt; omega), fun s hs => ((HIN.out s (List.mem_reverse.1 hs)).below' k3 (Nat.le_refl _)).mono (Nat.le_refl _) k3.size⟩
      obtain ⟨A6, c6, rfl, hs7⟩ := hs6
      have HS7 := Lib.hid hs7
      have HB7 := Lib.hid (HB4.out.trans (k3.mono HB4.out.size))
      have HO7 := Lib.hid (HO4.out.below k3 (Nat.le_refl _))
      clear k1 k2 k3 hR hlt hs7 HB4 HO4
      go_wp2_with fail
      ((with_reducible refine (Im11.PiecesParity _ _ _ _ _ ps.reverse _ HS7.out).mono ?_); rintro e w8 ⟨A8, c8, rfl, ho8, hb8⟩)
      rw [par_rev HOK.out] at ho8 ⊢
      have HO8 := Lib.hid ho8.ints
      have HO9 := Lib.hid (HO7.out.below hb8 (Nat.le_refl _))
      have HB8 := Lib.hid (HB7.out.trans (hb8.mono HB7.out.size))
      clear ho8 hb8 HS7 HB7 HO7
      go_wp2_with fail
      ((with_reducible refine (Hlp.sameInts _ _ _ _ _ _ _ _ _ _ (parF ps) (parF ps) _ HO8.out HO9.out).mono ?_); rintro e w9 ⟨rfl, q9, rfl⟩)
      rw [decide_eq_true rfl]
      have HB := Lib.hid (Ck.below_dr (d := q9) HB8.out)
      clear HB8 HO8 HO9
      generalize w8.drewN q9 = W at *
      go_wp2
      go_ret
      exact ⟨rfl, HB.out⟩
end Law11
end Go.Proofs.Ytoghgliijjfppab
