/-
  Contract of the program's CacheAdd.
-/
import Derived.Test.YtmmnpmfkpieoiaaIm8g
namespace Go.Proofs.Ytmmnpmfkpieoiaa
open Go.RowKit
namespace Im8
open Il Sl Fo Cm Cs Sg Gm
open Sp8 (slot_small all_small ints_new newInts_nil cacheP_fin two_blocks)

theorem codeK_c (c : Ch) (k : Nat) (key : Int) : codeK (slAt c.sl k) key = addC c k key := rfl
theorem newK_c (c : Ch) (k : Nat) (key : Int) : ((⟨c.ep, c.sl.set k (newK (slAt c.sl k) key)⟩ : Ch)) = addH c k key := by
  unfold newK addH
  rw [codeK_c]
  cases h : decide (addC c k key = 0)
  · obtain ⟨ep, sl⟩ := c
    show (⟨ep, sl.set k (slAt sl k)⟩ : Ch) = ⟨ep, sl⟩
    congr 1
    unfold slAt
    refine List.ext_getElem? fun i => ?_
    rw [List.getElem?_set]
    split
    · rename_i e
      subst e
      split
      · rename_i h
        rw [List.getD_eq_getElem?_getD, List.getElem?_eq_getElem h]; rfl
      · rename_i h
        rw [List.getElem?_eq_none (by omega)]
    · rfl
  · rfl
theorem upd_map {c : Ch} {P R : List Nd} {nd : Nd} {s' : Kd} {k : Nat} (hl : c.sl.length = 3) (h : (P ++ nd :: R).map (fun nd => (nd.ep, nd.s.xs)) = [(c.ep - 2, slAt c.sl 0), (c.ep - 1, slAt c.sl 1), (c.ep, slAt c.sl 2)]) (hP : P.length = k) :
    (P ++ (⟨nd.b, nd.ep, s'⟩ : Nd) :: R).length = 3 ∧ lastE (P ++ (⟨nd.b, nd.ep, s'⟩ : Nd) :: R) = c.ep ∧ (P ++ (⟨nd.b, nd.ep, s'⟩ : Nd) :: R).map (fun nd => nd.s.xs) = c.sl.set k s'.xs := by
  have hlen : (P ++ nd :: R).length = 3 := by have := congrArg List.length h; rwa [List.length_map] at this
  have heps : (P ++ (⟨nd.b, nd.ep, s'⟩ : Nd) :: R).map (·.ep) = (P ++ nd :: R).map (·.ep) := by simp
  have h1 := congrArg (List.map Prod.fst) h
  have h2 := congrArg (List.map Prod.snd) h
  rw [List.map_map] at h1 h2
  have h1' : (P ++ nd :: R).map (·.ep) = [c.ep - 2, c.ep - 1, c.ep] := h1
  have h2' : (P ++ nd :: R).map (fun nd => nd.s.xs) = [slAt c.sl 0, slAt c.sl 1, slAt c.sl 2] := h2
  refine ⟨by simpa using hlen, ?_, ?_⟩
  · unfold lastE
    rw [← List.getLast?_map, heps, h1']; rfl
  · rw [← three_sl hl] at h2'
    have h3 : c.sl.set k s'.xs = ((P ++ nd :: R).map (fun nd => nd.s.xs)).set k s'.xs := by rw [h2']
    rw [h3, List.map_append, List.map_append, List.set_append_right _ _ (by rw [List.length_map]; omega), List.length_map, hP, Nat.sub_self]
    rfl
set_option maxRecDepth 20000 in
set_option maxHeartbeats 2000000 in
theorem CacheAdd (c : Ch) (e key : Int) (A : Option Addr) (n k lo hi : Nat) (w : World) (hx : Sts lo hi w A n k c.sl) :
    Calls Try.prog 24 #[.agg #[.int .i64 c.ep, .slice A n k], .int .i64 e, .int .i64 key] w (CacheP (addF c e key) (.int .i64 (addN c e key)) w) := by
  have hk1 := hx.max_
  have hk2 := hx.cap_
  have HL := Lib.hid hx.len_
  unfold maxLen at hk1
  obtain ⟨z0, z1, hs2, hb2⟩ := two_blocks w #[.int .i64 c.ep, .slice A n k] #[.int .i64 0, .slice none 0 0] 26 26
  have HX := Lib.hid ((hx.top (Nat.zero_le _)).below hb2 (Nat.le_refl _))
  have HB := Lib.hid hb2
  have K0 := Lib.hid z0
  have K1 := Lib.hid z1
  clear hx hb2 z0 z1 hs2
  cases hok : chOk c
  · have HV := Lib.hid (add_bad (key := key) e (.inl hok))
    go_enter Try.func24, Try.ntmps24
    go_wp2_with fail
    ((with_reducible refine (CacheValid c _ _ _ _ _ _ HX.out).mono ?_); rintro e w1 ⟨rfl, hb1⟩)
    rw [hok]
    have HB1 := Lib.hid (HB.out.trans (hb1.mono HB.out.size))
    obtain ⟨x0, x1, xf⟩ := two_cells (K1.out.below hb1 (Nat.le_refl _))
    clear hb1 hok
    go_wp2
    refine bodyPost_ret (v := .tuple #[.agg #[.int .i64 0, .slice none 0 0], .int .i64 4]) ?_ rfl ?_
    · rw [results_cell_tmp rfl]
      go_simp
    · rw [HV.out.1, HV.out.2]
      exact cacheP_zero _ ((HB1.out.setCell (p := ⟨w.heap.size + 1, 0, none⟩) (show w.heap.size ≤ w.heap.size + 1 by omega) _).setCell (p := ⟨w.heap.size + 1, 1, none⟩) (show w.heap.size ≤ w.heap.size + 1 by omega) _)
  cases hik : inG key
  · have HV := Lib.hid (add_bad (c := c) e (.inr hik))
    go_enter Try.func24, Try.ntmps24
    go_wp2_with fail
    ((with_reducible refine (CacheValid c _ _ _ _ _ _ HX.out).mono ?_); rintro e w1 ⟨rfl, hb1⟩)
    rw [hok]
    have HB1 := Lib.hid (HB.out.trans (hb1.mono HB.out.size))
    obtain ⟨x0, x1, xf⟩ := two_cells (K1.out.below hb1 (Nat.le_refl _))
    clear hb1 hok
    go_wp2_with fail
    ((with_reducible refine (inRange key _).mono ?_); rintro e w2 ⟨rfl, rfl⟩)
    rw [hik]
    clear hik
    go_wp2
    refine bodyPost_ret (v := .tuple #[.agg #[.int .i64 0, .slice none 0 0], .int .i64 4]) ?_ rfl ?_
    · rw [results_cell_tmp rfl]
      go_simp
    · rw [HV.out.1, HV.out.2]
      exact cacheP_zero _ ((HB1.out.setCell (p := ⟨w.heap.size + 1, 0, none⟩) (show w.heap.size ≤ w.heap.size + 1 by omega) _).setCell (p := ⟨w.heap.size + 1, 1, none⟩) (show w.heap.size ≤ w.heap.size + 1 by omega) _)
  have HOK := Lib.hid hok
  have HIK := Lib.hid hik
  have HC := Lib.hid (chOk_iff.1 hok).2.1
  have HL3 := Lib.hid (chOk_iff.1 hok).2.2
  have HSM := Lib.hid (slot_small hok)
  have HSO : Hid (∀ k, slotOk (slAt c.sl k) = true) := fun k => slots_at (chOk_iff.1 hok).1
  have HN3 : Hid (n = 3) := by show n = 3; rw [← HL.out]; exact HL3.out
  obtain rfl := HN3.out
  go_enter Try.func24, Try.ntmps24
  go_wp2_with fail
  ((with_reducible refine (CacheValid c _ _ _ _ _ _ HX.out).mono ?_); rintro e w1 ⟨rfl, hb1⟩)
  rw [hok]
  replace HB := Lib.hid (HB.out.trans (hb1.mono HB.out.size))
  replace K0 := Lib.hid (K0.out.below hb1 (Nat.le_refl _))
  replace K1 := Lib.hid (K1.out.below hb1 (Nat.le_refl _))
  replace HX := Lib.hid (HX.out.below hb1 (Nat.le_refl _))
  have hw1 : w.heap.size + 1 < w1.heap.size := K1.out.lt
  clear hb1 hok
  go_wp2_with fail
  ((with_reducible refine (inRange key _).mono ?_); rintro e w2 ⟨rfl, rfl⟩)
  rw [hik]
  clear hik
  obtain ⟨z0, z1, zf⟩ := two_cells K0.out
  go_wp2_with fail
  ((with_reducible refine (oldestSlot c A k _ _ _ HX.out HC.out HSM.out).mono ?_); rintro e w2 ⟨a, L, rfl, hch, hL, hb2⟩)
  have hw2 := hb2.size
  replace HB := Lib.hid (HB.out.trans (hb2.mono HB.out.size))
  replace K1 := Lib.hid (K1.out.below hb2 (Nat.le_refl _))
  have HCH := Lib.hid hch
  have HC1 := Lib.hid hch.1
  have HIX := Lib.hid (find_ix hL e)
  have HLL := Lib.hid hL
  clear hch hL hb2 z0 z1 zf HX K0
  go_wp2_with fail
  ((with_reducible refine (find a L e _ HC1.out).mono ?_); rintro e w3 ⟨rfl, rfl⟩)
  rcases HIX.out with ⟨hs, hf⟩ | ⟨j, P, nd, R, hs, _, rfl, hPj, hf, hxs⟩
  · have HV := Lib.hid (add_wrong HOK.out HIK.out hs)
    have HLE : Hid (L.length ≤ 1000 ∧ lastE L = c.ep ∧ (L.map fun nd => nd.s.xs) = c.sl) := by
      obtain ⟨n0, n1, n2, rfl, ⟨_, _, e2⟩, x0, x1, x2⟩ := three_nd HLL.out
      refine ⟨by simp, e2, ?_⟩
      show [n0.s.xs, n1.s.xs, n2.s.xs] = c.sl
      rw [x0, x1, x2, ← three_sl HL3.out]
    rw [hf]
    clear hs hf HIX
    go_wp2_with fail
    ((with_reducible refine (cacheC c a _ _ _ HCH.out HLE.out.1 hw2 HLE.out.2.1 HLE.out.2.2).mono ?_); rintro e w4 ⟨A9, k9, G, rfl, ho, hwG, hb4⟩)
    have HP := Lib.hid (cacheP_fin (v := .int .i64 2) (w := w) (b := w.heap.size + 1) ho hwG (by omega) (by omega) (HB.out.trans (hb4.mono HB.out.size)) (.int .i64 c.ep) (.slice A9 c.sl.length k9))
    obtain ⟨x0, x1, xf⟩ := two_cells (K1.out.below hb4 (Nat.le_refl _))
    clear ho hwG hb4
    rw [HL3.out] at HP ⊢
    go_wp2
    refine bodyPost_ret (v := .tuple #[.agg #[.int .i64 c.ep, .slice A9 3 k9], .int .i64 2]) ?_ rfl ?_
    · rw [results_cell_tmp rfl]
      go_simp
    · rw [HV.out.1, HV.out.2]
      exact HP.out
  · have HV := Lib.hid (add_in HOK.out HIK.out hs)
    obtain ⟨u, hb, hsk, _⟩ := chN_split HC1.out
    have HNB := Lib.hid hb
    have HSK := Lib.hid hsk
    have HNE := Lib.hid (foot_mem HCH.out.2.1)
    have HOS : Hid (slotOk nd.s.xs = true) := by show _ = _; rw [hxs]; exact HSO.out j
    have HXS := Lib.hid hxs
    have HPJ := Lib.hid hPj
    have hndb : w1.heap.size ≤ nd.b := (HCH.out.2.2 [nd.b] (by rw [fpN_app, fpN_cons]; exact List.mem_append.2 (.inr (List.mem_cons_self ..))) nd.b (List.mem_singleton.2 rfl)).1
    rw [hf]
    clear hs hf HIX hb hsk hxs hPj
    go_wp2_with fail
    ((with_reducible refine (add nd u key _ HNB.out HSK.out HNE.out HOS.out).mono ?_); rintro e w4 ⟨s', rfl, hs', hb4, hk4, hg4, hK4⟩)
    have hw4 := hK4.size
    have HCN := Lib.hid (chN_upd hK4 hb4 hk4 HNB.out HC1.out HCH.out.2.1)
    have HFW := Lib.hid (foot_upd (w' := w4) HCH.out.2.1 HCH.out.2.2 hg4 (fun x hx => hk4.lt_ x hx) hw4 hw2)
    have HUM := Lib.hid (upd_map (s' := s') HL3.out HLL.out HPJ.out)
    have hgin : ∀ f ∈ [[nd.b], nd.s.g.toList], ∀ x ∈ f, w1.heap.size ≤ x := fun f hf x hx => by
      simp only [List.mem_cons, List.not_mem_nil, or_false] at hf
      rcases hf with rfl | rfl
      · simp at hx; omega
      · exact (HCH.out.2.2 nd.s.g.toList (by rw [fpN_app, fpN_cons]; exact List.mem_append.2 (.inr (List.mem_cons_of_mem _ (List.mem_cons_self ..)))) x hx).1
    have hb24 : Below w1.heap.size w2 w4 := ⟨hK4.os, hK4.tape, hK4.output, hw4, fun x hx => hK4.block x (by omega) fun f hf hxf => by have := hgin f hf x hxf; omega⟩
    replace HB := Lib.hid (HB.out.trans (hb24.mono (by omega)))
    replace K1 := Lib.hid (K1.out.same (hb24.block _ hw1))
    have HNK : Hid ((⟨c.ep, c.sl.set j s'.xs⟩ : Ch) = addF c e key ∧ codeK nd.s.xs key = addN c e key) := by
      rw [HV.out.1, HV.out.2, hs', HXS.out]
      exact ⟨newK_c c j key, codeK_c c j key⟩
    have HSL : Hid ((⟨c.ep, c.sl.set j s'.xs⟩ : Ch).sl.length = 3) := by show (c.sl.set j s'.xs).length = 3; rw [List.length_set]; exact HL3.out
    have HCG : Hid (ChG w1.heap.size w4.heap.size w4 a (P ++ (⟨nd.b, nd.ep, s'⟩ : Nd) :: R)) := ⟨HCN.out, HFW.out⟩
    clear hs' hb4 hk4 hg4 hK4 hgin hb24 HCN HFW HNB HSK HNE HC1 HCH
    go_wp2_with fail
    ((with_reducible refine (cacheC ⟨c.ep, c.sl.set j s'.xs⟩ _ _ w1.heap.size _ HCG.out (by rw [HUM.out.1]; omega) (by omega) HUM.out.2.1 HUM.out.2.2).mono ?_); rintro e w5 ⟨A9, k9, G, rfl, ho, hwG, hb5⟩)
    have HP := Lib.hid (cacheP_fin (v := .int .i64 (codeK nd.s.xs key)) (w := w) (b := w.heap.size + 1) ho hwG (by omega) (by omega) (HB.out.trans (hb5.mono HB.out.size)) (.int .i64 c.ep) (.slice A9 (⟨c.ep, c.sl.set j s'.xs⟩ : Ch).sl.length k9))
    obtain ⟨x0, x1, xf⟩ := two_cells (K1.out.below hb5 (Nat.le_refl _))
    clear ho hwG hb5
    rw [HSL.out] at HP ⊢
    go_wp2
    refine bodyPost_ret (v := .tuple #[.agg #[.int .i64 c.ep, .slice A9 3 k9], .int .i64 (codeK nd.s.xs key)]) ?_ rfl ?_
    · rw [results_cell_tmp rfl]
      go_simp
    · rw [← HNK.out.1, ← HNK.out.2]
      exact HP.out

end Im8
end Go.Proofs.Ytmmnpmfkpieoiaa
