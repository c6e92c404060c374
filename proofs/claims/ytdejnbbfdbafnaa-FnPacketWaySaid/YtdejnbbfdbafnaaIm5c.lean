/-
  The contract of the program's headers: a method that calls itself along the layers.
-/
import Derived.Test.YtdejnbbfdbafnaaIm5b
namespace Go.Proofs.Ytdejnbbfdbafnaa
open Go.RowKit
namespace Im5
open Il Gm Mm Tm Lm Pm Pn Pq Im2 Im3 Im4
open Sp5 (HdrPost)

set_option maxHeartbeats 1000000 in
set_option maxRecDepth 20000 in
theorem header (f : List Int) (fl cf l1 h1 : Nat) (A : Option Addr) (hf6 : fl ≤ 6) (hfi : ∀ x ∈ f, 0 ≤ x ∧ x ≤ 990) (L : List (Int × Int)) :
    ∀ (p : Int × Int) (a : Option Addr) (w : World), Chain w a (p :: L) → (∀ q ∈ p :: L, inG q.1 = true ∧ inName q.2 = true) → Ints l1 h1 w A fl cf f →
      Calls Try.prog 42 #[.pointer a, .slice A fl cf] w (HdrPost (hdrL f (p :: L)) (tagL p.1 (hdrL f (p :: L))) w) := by
  induction L with
  | nil =>
    rintro ⟨k, x⟩ a w hc hg hi
    obtain ⟨b, u, rfl, hb, c0, c1, c2, hc2⟩ := hc.cells
    obtain rfl : u = none := hc2.out
    have hkg := (hg (k, x) (by simp)).1
    have hnx := inName_iff.1 (hg (k, x) (by simp)).2
    dsimp only at hkg hnx
    have HLF := Lib.hid hi.1
    have HFI := Lib.hid hfi
    have HI := Lib.hid (ints_hi hi)
    have HKG := Lib.hid hkg
    clear hc hc2 hg hi hkg hfi
    obtain ⟨q, hq⟩ : ∃ q : Nat, 9 - fl = q := ⟨_, rfl⟩
    have hqi : (9 : Int) - (fl : Int) = (q : Int) := by omega
    have hq3 : 3 ≤ q := by omega
    have hq9 : q ≤ 9 := by omega
    have hmk := run_make_row' (P := Try.prog) 23 3 (.int .i64 0) 8 Try.underlying23 infoInt rfl .i64 .i64 q (by omega) (by omega) w
    have hown := own_made w 3 q (by unfold maxLen; omega)
    have hbn : Below w.heap.size w (w.alloc (.cells (madeCells #[.int .i64 0] q) 3)) := (Below.refl _ _).alloc (Nat.le_refl _) _
    obtain ⟨_, _, eo, _, _, m0⟩ := hown.ints.at_ (k := 0) (by omega)
    simp only [Option.some.injEq, Addr.mk.injEq, and_true] at eo
    obtain ⟨rfl, rfl⟩ := eo
    obtain ⟨_, _, eo, _, _, m1⟩ := hown.ints.at_ (k := 1) (by omega)
    simp only [Option.some.injEq, Addr.mk.injEq, and_true] at eo
    obtain ⟨rfl, rfl⟩ := eo
    have z0 := hown.2 _ _ (by omega) rfl 0 (by omega)
    have z1 := hown.2 _ _ (by omega) rfl 1 (by omega)
    have d0 := (hbn.cell (p := ⟨b, 0, none⟩) hb).trans c0
    have d1 := (hbn.cell (p := ⟨b, 1, none⟩) hb).trans c1
    have HO := Lib.hid ((hown.set_ (k := 0) (by omega) 1).set_ (k := 1) (by omega) x)
    have hlast : ((List.replicate q (0 : Int)).set 0 1).set 1 x = lastL x fl := by rw [← hq]; exact last_eq x (by omega)
    rw [hlast] at HO
    have HBN := Lib.hid hbn
    generalize hw1 : w.alloc (.cells (madeCells #[.int .i64 0] q) 3) = w1 at *
    clear hown hbn hw1 hlast
    simp only [Nat.zero_add] at m0 m1 z0 z1 HO
    have g0 : (List.replicate q (0 : Int)).getD 0 0 = 0 := getD_zeros
    have g1 : (List.replicate q (0 : Int)).getD 1 0 = 0 := getD_zeros
    rw [g0] at m0
    rw [g1] at m1
    clear g0 g1
    go_enter Try.func42, Try.ntmps42
    go_wp2_with fail
    have HBS := Lib.hid ((HBN.out.setCell (p := ⟨w.heap.size, 0, none⟩) (Nat.le_refl _) (.int .i64 1)).setCell (p := ⟨w.heap.size, 1, none⟩) (Nat.le_refl _) (.int .i64 x))
    generalize ((w1.setCell { block := w.heap.size, off := 0 } (Value.int IntKind.i64 1)).setCell { block := w.heap.size, off := 1 } (Value.int IntKind.i64 x)) = w2 at HO HBS ⊢
    have HIF := Lib.hid (HI.out.below HBS.out (Nat.le_refl _))
    have hll : (lastL x fl).length = q := by rw [lastL_len x hf6]; exact hq
    have HLO := Lib.hid (lastL_ok x (m := fl) (by omega))
    have HM := Lib.hid (onF_yes HLO.out HKG.out)
    have HML : Hid ((onL (lastL x fl) k).length = q) := by show _ = _; rw [onL_len, hll]
    clear m0 m1 z0 z1 d0 d1 hmk hll
    ((with_reducible refine (MaskOnT _ _ _ _ _ (lastL x fl) k w2 HO.out.ints).mono ?_); rintro e w3 ⟨A3, rfl, ho3, hb3⟩)
    rw [HM.out, HML.out] at ho3 ⊢
    obtain ⟨b3, off3, rfl, _⟩ := ho3.ints.at_ (k := 0) (by omega)
    have HO3 := Lib.hid ho3
    have HB3 := Lib.hid (HBS.out.trans (hb3.mono HBS.out.size))
    have HI3 := Lib.hid (HIF.out.below hb3 (Nat.le_refl _))
    have hw23 := hb3.size
    have hw2 := HBS.out.size
    have HOK := Lib.hid (hdrL_ok f (by rw [HLF.out]; exact hf6) HFI.out (k, x) [])
    have HLH := Lib.hid (hdrL_len f (by rw [HLF.out]; exact hf6) (k, x) [])
    have HH : Hid (onL (lastL x fl) k ++ f = hdrL f [(k, x)]) := by show _ = _; rw [← HLF.out]; rfl
    clear ho3 hb3
    go_wp2_with (at_builtin; refine wpList_appFull _ _ _ _ _ _ _ HO3.out (by omega) (by omega) _ _ _ _ _ _ HI3.out (by omega) _ _ rfl rfl rfl rfl ?_; intro A4 c4 w4 ho4 hb4; rw [HH.out] at ho4; have c04 := ((HB3.out.trans (hb4.mono HB3.out.size)).cell (p := ⟨b, 0, none⟩) hb).trans c0)
    have HO4 := Lib.hid ho4
    have HB4 := Lib.hid (HB3.out.trans (hb4.mono HB3.out.size))
    clear ho4 hb4
    obtain ⟨q9, hq9'⟩ : ∃ q9, q + fl = q9 := ⟨_, rfl⟩
    rw [hq9'] at HO4 ⊢
    have hq99 : q9 = 9 := by omega
    subst hq99
    clear hq9' HO3 HI3 HB3
    have HT := Lib.hid (tagF_yes HKG.out HOK.out)
    ((with_reducible refine (TagOf _ _ _ _ _ (hdrL f [(k, x)]) k w4 HO4.out.ints).mono ?_); rintro e w5 ⟨rfl, hb5⟩)
    rw [HT.out]
    have HP : Hid (HdrPost (hdrL f [(k, x)]) (tagL k (hdrL f [(k, x)])) w (.returned (.tuple #[.slice A4 9 c4, .int .i64 (tagL k (hdrL f [(k, x)]))])) w5) := by
      refine ⟨A4, c4, by rw [HLH.out], ?_, HB4.out.trans (hb5.mono HB4.out.size)⟩
      rw [HLH.out]
      exact (HO4.out.below hb5 (Nat.le_refl _)).mono (by omega) hb5.size
    clear hb5
    go_wp2
    go_ret2
    exact HP.out
  | cons p2 L ih =>
    rintro ⟨k, x⟩ a w hc hg hi
    obtain ⟨b, u, rfl, hb, c0, c1, c2, hc2⟩ := hc.cells
    have hkg := (hg (k, x) (by simp)).1
    have hnx := inName_iff.1 (hg (k, x) (by simp)).2
    dsimp only at hkg hnx
    have HC2 := Lib.hid hc2.out
    obtain ⟨b2, u2, rfl, _, _⟩ := hc2.out
    have HG2 : Hid (∀ q ∈ p2 :: L, inG q.1 = true ∧ inName q.2 = true) := fun q hq => hg q (List.mem_cons_of_mem _ hq)
    have HLF := Lib.hid hi.1
    have HFI := Lib.hid hfi
    have HI := Lib.hid hi
    have HKG := Lib.hid hkg
    have hf6' : f.length ≤ 6 := by rw [hi.1]; exact hf6
    have HLH := Lib.hid (hdrL_len f hf6' p2 L)
    have HLH2 := Lib.hid (hdrL_len f hf6' (k, x) (p2 :: L))
    have HOK2 := Lib.hid (hdrL_ok f hf6' hfi (k, x) (p2 :: L))
    have HPO := Lib.hid (plainL_ok f hf6' hfi p2 L x p2.1 (by omega))
    have HE : Hid (hdrL f ((k, x) :: p2 :: L) = onL ([0, x, tagL p2.1 (hdrL f (p2 :: L))] ++ (hdrL f (p2 :: L)).take 6) k) := rfl
    clear hc hc2 hg hi hkg hfi hf6'
    go_enter Try.func42, Try.ntmps42
    go_wp2_with fail
    ((with_reducible refine (ih p2 _ w HC2.out HG2.out HI.out).mono ?_); rintro e w1 ⟨A1, e1, rfl, ho1, hb1⟩)
    rw [HLH.out] at ho1 ⊢
    generalize hdrL f (p2 :: L) = H at HLH HPO HE ho1 ⊢
    generalize hH2 : hdrL f ((k, x) :: p2 :: L) = H2 at HLH2 HOK2 HE
    have HH2 := Lib.hid hH2
    clear hH2
    generalize tagL p2.1 H = t at HPO HE ⊢
    obtain ⟨b3, off3, rfl, _⟩ := ho1.ints.at_ (k := 0) (by omega)
    have hcap := ho1.ints.cap_
    have h6i : (6 : Int) ≤ (e1 : Int) := by omega
    have h6 : 6 ≤ e1 := by omega
    have d0 := (hb1.cell (p := ⟨b, 0, none⟩) hb).trans c0
    have d1 := (hb1.cell (p := ⟨b, 1, none⟩) hb).trans c1
    have HB1 := Lib.hid hb1
    have hw1 := hb1.size
    have HA5 := Lib.hid (acc_three w1 0 x t).drew
    have hI7 := (ho1.ints.take (k := 6) (by omega)).below (B := w1.heap.size) (w' := w1.alloc (.cells #[.int .i64 0, .int .i64 x, .int .i64 t] 3)) ((Below.refl _ _).alloc (Nat.le_refl _) _) (Nat.le_refl _)
    have IH5 : Hid (Ints w.heap.size w1.heap.size (w1.alloc (.cells #[.int .i64 0, .int .i64 x, .int .i64 t] 3)).drew (some ⟨b3, off3, none⟩) 6 e1 (H.take 6)) := hI7
    have HM := Lib.hid (onF_yes HPO.out HKG.out)
    have d0a := (((Below.refl w1.heap.size w1).alloc (Nat.le_refl _) (.cells #[.int .i64 0, .int .i64 x, .int .i64 t] 3)).cell (p := ⟨b, 0, none⟩) (show b < w1.heap.size by omega)).trans d0
    have HC0 := Lib.hid c0
    have hPL0 : ([0, x, t] ++ H.take 6).length = 9 := by simp [HLH.out]
    generalize hPl : [0, x, t] ++ H.take 6 = Pl at HPO HM HE hPL0
    have HPL := Lib.hid hPl
    have HPLL := Lib.hid hPL0
    clear ho1 hb1 hI7 c0 c1 c2 hPl hPL0
    go_wp2_with fail
    go_region_law (first | (refine step_appL _ _ _ _ HA5.out _ _ _ _ _ _ IH5.out (by omega) (by simp) (.tmp 51) (.tmp 53) rfl rfl (by go_simp) (by go_simp) ?_; intro v5 w5 hN5 hB5; rw [HPL.out] at hN5; obtain ⟨A5, c5, rfl, ho5⟩ := own_of hN5.1; have hb5 := HB1.out.trans ((Il.Acc.below hN5).mono hw1); have d05 := (hb5.cell (p := ⟨b, 0, none⟩) hb).trans HC0.out) | (go_simp; go_at_call 23; refine (MaskOn _ _ _ _ _ Pl k _ ho5.ints).mono ?_; rintro e w6 ⟨A6, c6, rfl, ho6, hb6⟩))
    all_goals
      rw [HM.out, ← HE.out] at ho6 ⊢
      rw [HLH2.out] at ho6 ⊢
      have hb7 := hb5.trans (hb6.mono hb5.size)
      have d06 := (hb7.cell (p := ⟨b, 0, none⟩) hb).trans HC0.out
      have HO6 := Lib.hid (ho6.mono hb5.size (Nat.le_refl _))
      have HB7 := Lib.hid hb7
      have HT := Lib.hid (tagF_yes HKG.out HOK2.out)
      clear hN5 hB5 ho5 hb5 d05 ho6 hb6 hb7 d0 d1 d0a HA5 IH5
      go_wp2_with fail
      ((with_reducible refine (TagOf _ _ _ _ _ H2 k w6 HO6.out.ints).mono ?_); rintro e w7 ⟨rfl, hb8⟩)
      rw [HT.out]
      have HP : Hid (HdrPost H2 (tagL k H2) w (.returned (.tuple #[.slice A6 9 c6, .int .i64 (tagL k H2)])) w7) := by
        refine ⟨A6, c6, by rw [HLH2.out], ?_, HB7.out.trans (hb8.mono HB7.out.size)⟩
        rw [HLH2.out]
        exact (HO6.out.below hb8 (Nat.le_refl _)).mono (Nat.le_refl _) hb8.size
      clear hb8
      go_wp2
      go_ret2
      rw [HH2.out]
      exact HP.out

end Im5
end Go.Proofs.Ytdejnbbfdbafnaa
