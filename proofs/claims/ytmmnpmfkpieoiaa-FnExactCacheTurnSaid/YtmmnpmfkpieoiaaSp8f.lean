/-
  Contract of the model's CacheAdd.
-/
import Derived.Test.YtmmnpmfkpieoiaaSp8e
import Derived.Deep.RegionHeld3
import Derived.Deep.Cut
namespace Go.Proofs.Ytmmnpmfkpieoiaa
open Go.RowKit
namespace Sp8
open Il Sl Fo Cm Cs Sg Gm

/-- One place of owned slots is given a new slice. -/
theorem StsO.setN {w : World} {A : Option Addr} {n c : Nat} {xss : List (List Int)} {G : List (List Nat)} {k : Nat} (h : StsO w A n c xss G) (hk : k < n) : ∃ b off H e, A = some ⟨b, off, none⟩ ∧ b < w.heap.size ∧ (∃ f ∈ G, b ∈ f) ∧ w.cell? ⟨b, off + k, none⟩ = some (.slice H (slAt xss k).length e) ∧ w.frozen? ⟨b, off + k, none⟩ = false ∧
    ∀ (w' : World) (x : Sk), w.heap.size ≤ w'.heap.size → (∀ f ∈ G, ∀ y ∈ f, w'.heap[y]? = w.heap[y]?) → SkO w' x → (∀ y ∈ fpk x, w.heap.size ≤ y ∧ y < w'.heap.size) →
      ∃ G', StsO (w'.setCell ⟨b, off + k, none⟩ x.cell) A n c (xss.set k x.xs) G' ∧ ∀ f ∈ G', ∀ y ∈ f, (∃ g ∈ G, y ∈ g) ∨ y ∈ fpk x := by
  have hl := h.len_
  have hlt := h.lt_
  obtain ⟨b, ss, rfl, h2, h3, rfl, h5⟩ := h
  rw [List.length_map] at hl
  obtain ⟨s, hx, hm, hs⟩ := sk_at (ss := ss) (k := k) (by omega)
  obtain ⟨b', off, rfl, q1, q2, hz, hc⟩ := h2.1.2.2.2 (by omega)
  obtain rfl : b' = b := by omega
  have hkl := (List.getElem?_eq_some_iff.1 hx).1
  have hbm : b' ∈ fp n b' := mem_fp.2 ⟨by omega, rfl⟩
  refine ⟨b', off, s.A, s.c, rfl, hz, ⟨_, List.mem_cons_self .., hbm⟩, ?_, h2.2 b' off (by omega) rfl k (by omega), fun w' x hsw hkp hxo hxf => ?_⟩
  · rw [hs]; exact hc k _ (by rw [List.getElem?_map, hx]; rfl)
  have h2' := rowO_keepC h2 hsw fun _ => hkp _ (List.mem_cons_self ..) b' hbm
  have hput := rowO_put h2' (i := k) (by omega) x.cell
  have hsz : (w'.setCell ⟨b', off + k, none⟩ x.cell).heap.size = w'.heap.size := by simp [World.setCell]
  have hset : ∀ t ∈ ss.set k x, t ∈ ss ∨ t = x := fun t ht => List.mem_or_eq_of_mem_set ht
  refine ⟨fp n b' :: (ss.set k x).map fpk, ⟨b', ss.set k x, by rw [List.map_set], by rw [List.map_set]; exact hput, fun t ht => ?_, rfl, ?_⟩, ?_⟩
  · obtain ⟨j, hj, e⟩ := List.getElem_of_mem ht
    rw [List.length_set] at hj
    by_cases hjk : j = k
    · subst hjk
      rw [List.getElem_set_self] at e
      rw [← e]
      exact hxo.keepC (by omega) fun y hy => Below.heap_setCell _ _ _ _ (show y ≠ b' by have := hxf y hy; omega)
    · rw [List.getElem_set_ne (by omega)] at e
      have htj : ss[j]? = some t := by rw [List.getElem?_eq_getElem hj, e]
      have hmt := List.mem_of_getElem? htj
      have hno := (foot_at h5 htj (by omega)).1
      exact (h3 t hmt).keepC (by omega) fun y hyt => (Below.heap_setCell _ _ _ _ (hno y hyt)).trans (hkp _ (List.mem_cons_of_mem _ (List.mem_map_of_mem hmt)) y hyt)
  · unfold Foot at h5 ⊢
    rw [List.pairwise_cons] at h5 ⊢
    refine ⟨fun f hf y q1 q2 => ?_, ?_⟩
    · obtain ⟨t, ht, rfl⟩ := List.mem_map.1 hf
      rcases hset t ht with ht | rfl
      · exact h5.1 _ (List.mem_map_of_mem ht) y q1 q2
      · have := (mem_fp.1 q1).2
        have := hxf y q2
        omega
    · rw [List.map_set]
      refine List.pairwise_iff_getElem.2 fun i j hi hj hij => ?_
      rw [List.length_set] at hi hj
      have hold := List.pairwise_iff_getElem.1 h5.2 i j hi hj hij
      rw [List.getElem_set, List.getElem_set]
      split
      · rename_i e1
        rw [if_neg (by omega)]
        intro y q1 q2
        have := hxf y q1
        have := hlt _ (List.mem_cons_of_mem _ (List.getElem_mem hj)) y q2
        omega
      · split
        · intro y q1 q2
          have := hxf y q2
          have := hlt _ (List.mem_cons_of_mem _ (List.getElem_mem hi)) y q1
          omega
        · exact hold
  · intro f hf y hy
    rcases List.mem_cons.1 hf with rfl | hf
    · exact .inl ⟨_, List.mem_cons_self .., hy⟩
    · obtain ⟨t, ht, rfl⟩ := List.mem_map.1 hf
      rcases hset t ht with ht | rfl
      · exact .inl ⟨_, List.mem_cons_of_mem _ (List.mem_map_of_mem ht), hy⟩
      · exact .inr hy
theorem no_val : ∀ u ∈ ([] : List Value), u.oneCell' = true := fun u hu => by simp at hu
theorem key_dest (w : World) (key : Int) : Dest 3 1 (some (w.heap.size + 1)) ((w.alloc (.cells #[.int .i64 key] 3)).alloc (.cells #[] 3)).drew (.slice (some ⟨w.heap.size + 1, 0, none⟩) 0 0) 0 [] := by
  have h := accV_new (w.alloc (.cells #[.int .i64 key] 3)) 3 1
  rw [World.size_alloc] at h
  exact .inr ⟨_, rfl, h.block rfl⟩
theorem key_row1 (w : World) (key : Int) : Row (w.heap.size + 1) (w.heap.size + 1 + 1) ((w.alloc (.cells #[] 3)).alloc (.cells #[.int .i64 key] 3)).drew (some ⟨w.heap.size + 1, 0, none⟩) 1 1 1 [.int .i64 key] := by
  have h := row_lit (w.alloc (.cells #[] 3)) 3 [.int .i64 key] (sz := 1) rfl
  rw [World.size_alloc] at h
  exact h
theorem key_row2 (w : World) (key : Int) : Row w.heap.size (w.heap.size + 1) ((w.alloc (.cells #[.int .i64 key] 3)).alloc (.cells #[] 3)).drew (some ⟨w.heap.size, 0, none⟩) 1 1 1 [.int .i64 key] := by
  have h := row_lit w 3 [.int .i64 key] (sz := 1) rfl
  have hb : Below (w.heap.size + 1) (w.alloc (.cells #[.int .i64 key] 3)) ((w.alloc (.cells #[.int .i64 key] 3)).alloc (.cells #[] 3)) := (Below.refl _ _).alloc (by simp) _
  exact h.below (below_dr hb (d := 1)) (Nat.le_of_eq (by simp))
theorem row_grown {lo hi n c sz r : Nat} {w w' : World} {A : Option Addr} {vs : List Value} (h : Row lo hi w A n c sz vs) (hg : w.grownBy w' (some r)) (hr : r < lo ∨ hi ≤ r) : Row lo hi w' A n c sz vs := h.keep hg.size fun b h1 h2 h3 => hg.block b h3 (by simp; omega)
theorem new_ge {g g' : Option Nat} {w : World} {K : Nat} (hg : g' = g ∨ ∃ k, g' = some k ∧ w.heap.size ≤ k) (h : ∀ y, g = some y → K ≤ y) (hK : K ≤ w.heap.size) : ∀ y, g' = some y → K ≤ y := fun y hy => by
  rcases hg with e | ⟨k, e, hk⟩
  · exact h y (by rw [← e]; exact hy)
  · rw [e] at hy; cases hy; omega
theorem dest_alloc {g : Option Nat} {w : World} {v : Value} {n : Nat} {vs : List Value} (h : Dest 3 1 g w v n vs) (o : Obj) : Dest 3 1 g (w.alloc o) v n vs := dest_keep h fun k e => ((Below.refl w.heap.size w).alloc (Nat.le_refl _) o).block k (dest_lt h k e)
theorem one_key (key : Int) : ∀ u ∈ [Value.int .i64 key], u.oneCell' = true := fun u hu => by simp at hu; subst hu; rfl
theorem ins_sk {xs : List Int} {key : Int} {q K : Nat} {g : Option Nat} {w : World} {v : Value} (hp : place xs key = q) (hq : q ≤ xs.length) (h : Dest 3 1 g w v (q + 1 + (xs.length - q)) ((xs.take q).map (Value.int .i64) ++ [Value.int .i64 key] ++ (xs.drop q).map (Value.int .i64))) (hg : ∀ y, g = some y → K ≤ y) :
    ∃ A c b, v = .slice A (insK xs key).length c ∧ SkO w ⟨insK xs key, A, c, b⟩ ∧ ∀ y ∈ fpk ⟨insK xs key, A, c, b⟩, K ≤ y := by
  have e1 : (xs.take q).map (Value.int .i64) ++ [Value.int .i64 key] ++ (xs.drop q).map (Value.int .i64) = (insK xs key).map (Value.int .i64) := by rw [insK_is, hp]; simp
  have e2 : q + 1 + (xs.length - q) = (insK xs key).length := by rw [insK_len]; omega
  rw [e1, e2] at h
  obtain ⟨A, c, b, rfl, ho, hk⟩ := dest_ints h
  refine ⟨A, c, b, rfl, ho, fun y hy => ?_⟩
  obtain ⟨hn, rfl⟩ := mem_fp.1 hy
  dsimp only at hn ⊢
  obtain ⟨k, e, _⟩ := Sg.dest_blk h hn
  have h1 := hk k e
  have h2 := hg k e
  omega
theorem ins_sk0 {key : Int} {K : Nat} {g : Option Nat} {w : World} {v : Value} (h : Dest 3 1 g w v (0 + 1 + 0) ([] ++ [Value.int .i64 key] ++ [])) (hg : ∀ y, g = some y → K ≤ y) :
    ∃ A c b, v = .slice A (insK [] key).length c ∧ SkO w ⟨insK [] key, A, c, b⟩ ∧ ∀ y ∈ fpk ⟨insK [] key, A, c, b⟩, K ≤ y := ins_sk (xs := []) (q := 0) rfl (Nat.le_refl _) h hg
set_option maxRecDepth 20000 in
set_option maxHeartbeats 2000000 in
theorem CacheAdd (c : Ch) (e key : Int) (A : Option Addr) (n k lo hi : Nat) (w : World) (hx : Sts lo hi w A n k c.sl) :
    Calls Try.prog 25 #[.agg #[.int .i64 c.ep, .slice A n k], .int .i64 e, .int .i64 key] w (CacheP (addF c e key) (.int .i64 (addN c e key)) w) := by
  have hk1 := hx.max_
  have hk2 := hx.cap_
  have HL := Lib.hid hx.len_
  unfold maxLen at hk1
  obtain ⟨z0, z1, hs2, hb2⟩ := two_blocks w #[.int .i64 c.ep, .slice A n k] #[.int .i64 0, .slice none 0 0] 26 26
  have HX := Lib.hid ((hx.top (Nat.zero_le _)).below hb2 (Nat.le_refl _))
  have HB := Lib.hid hb2
  have K0 := Lib.hid z0
  have K1 := Lib.hid z1
  clear hx hb2 z0 z1 hs2
  cases hok : chOk c
  · have HV := Lib.hid (add_bad (key := key) e (.inl hok))
    go_enter Try.func25, Try.ntmps25
    go_wp2_with fail
    ((with_reducible refine (CacheValid c _ _ _ _ _ _ HX.out).mono ?_); rintro e w1 ⟨rfl, hb1⟩)
    rw [hok]
    have HB1 := Lib.hid (HB.out.trans (hb1.mono HB.out.size))
    obtain ⟨x0, x1, xf⟩ := two_cells (K1.out.below hb1 (Nat.le_refl _))
    clear hb1 hok
    go_wp2
    refine bodyPost_ret (v := .tuple #[.agg #[.int .i64 0, .slice none 0 0], .int .i64 4]) ?_ rfl ?_
    · rw [results_cell_tmp rfl]
      go_simp
    · rw [HV.out.1, HV.out.2]
      exact cacheP_zero _ ((HB1.out.setCell (p := ⟨w.heap.size + 1, 0, none⟩) (show w.heap.size ≤ w.heap.size + 1 by omega) _).setCell (p := ⟨w.heap.size + 1, 1, none⟩) (show w.heap.size ≤ w.heap.size + 1 by omega) _)
  cases hik : inG key
  · have HV := Lib.hid (add_bad (c := c) e (.inr hik))
    go_enter Try.func25, Try.ntmps25
    go_wp2_with fail
    ((with_reducible refine (CacheValid c _ _ _ _ _ _ HX.out).mono ?_); rintro e w1 ⟨rfl, hb1⟩)
    rw [hok]
    have HB1 := Lib.hid (HB.out.trans (hb1.mono HB.out.size))
    obtain ⟨x0, x1, xf⟩ := two_cells (K1.out.below hb1 (Nat.le_refl _))
    clear hb1 hok
    go_wp2_with fail
    ((with_reducible refine (l1Is key _).mono ?_); rintro e w2 ⟨rfl, rfl⟩)
    rw [hik]
    clear hik
    go_wp2
    refine bodyPost_ret (v := .tuple #[.agg #[.int .i64 0, .slice none 0 0], .int .i64 4]) ?_ rfl ?_
    · rw [results_cell_tmp rfl]
      go_simp
    · rw [HV.out.1, HV.out.2]
      exact cacheP_zero _ ((HB1.out.setCell (p := ⟨w.heap.size + 1, 0, none⟩) (show w.heap.size ≤ w.heap.size + 1 by omega) _).setCell (p := ⟨w.heap.size + 1, 1, none⟩) (show w.heap.size ≤ w.heap.size + 1 by omega) _)
  have HOK := Lib.hid hok
  have HIK := Lib.hid hik
  have HC := Lib.hid (chOk_iff.1 hok).2.1
  have HL3 := Lib.hid (chOk_iff.1 hok).2.2
  have HAS := Lib.hid (all_small hok)
  have HSM := Lib.hid (slot_small hok)
  have HSO : Hid (∀ k, slotB (slAt c.sl k) = true) := fun k => by
    have h := slots_at (chOk_iff.1 hok).1 (k := k)
    unfold slotOk at h
    rw [Bool.and_eq_true] at h
    exact h.2
  have HN3 : Hid (n = 3) := by show n = 3; rw [← HL.out]; exact HL3.out
  obtain rfl := HN3.out
  go_enter Try.func25, Try.ntmps25
  go_wp2_with fail
  ((with_reducible refine (CacheValid c _ _ _ _ _ _ HX.out).mono ?_); rintro e w1 ⟨rfl, hb1⟩)
  rw [hok]
  replace HB := Lib.hid (HB.out.trans (hb1.mono HB.out.size))
  replace K0 := Lib.hid (K0.out.below hb1 (Nat.le_refl _))
  replace K1 := Lib.hid (K1.out.below hb1 (Nat.le_refl _))
  replace HX := Lib.hid (HX.out.below hb1 (Nat.le_refl _))
  have hw1 : w.heap.size + 1 < w1.heap.size := K1.out.lt
  clear hb1 hok
  go_wp2_with fail
  ((with_reducible refine (l1Is key _).mono ?_); rintro e w2 ⟨rfl, rfl⟩)
  rw [hik]
  clear hik
  obtain ⟨z0, z1, zf⟩ := two_cells K0.out
  go_wp2_with fail
  ((with_reducible refine (l13Copy c _ _ _ _ _ _ HX.out (by omega) HAS.out).mono ?_); rintro e w3 ⟨A9, k9, ss, rfl, hg, hss, hb3⟩)
  rw [HL3.out] at hg ⊢
  have hssl : ss.length = 3 := by rw [← HL3.out, ← hss, List.length_map]
  have hw3 := hb3.size
  replace HB := Lib.hid (HB.out.trans (hb3.mono HB.out.size))
  replace K0 := Lib.hid (K0.out.below hb3 (Nat.le_refl _))
  replace K1 := Lib.hid (K1.out.below hb3 (Nat.le_refl _))
  replace HX := Lib.hid (HX.out.below hb3 (Nat.le_refl _))
  obtain ⟨A', k', G, e', ho, hwG⟩ := hg.own
  rw [hssl] at e' ho
  simp only [Value.slice.injEq, true_and] at e'
  obtain ⟨rfl, rfl⟩ := e'
  rw [hss] at ho
  clear z0 z1 zf hb3 hg hss hssl
  go_upto_region 4 with (fail)
  have hal : Below w3.heap.size w3 (w3.alloc (.cells #[.int .i64 c.ep, .slice A9 3 k9] 26)) := (Below.refl _ _).alloc (Nat.le_refl _) _
  have K4 := Lib.hid (blk_new w3 #[.int .i64 c.ep, .slice A9 3 k9] 26)
  replace HB := Lib.hid (HB.out.trans (hal.mono HB.out.size))
  replace K0 := Lib.hid (K0.out.below hal (Nat.le_refl _))
  replace K1 := Lib.hid (K1.out.below hal (Nat.le_refl _))
  replace HX := Lib.hid (HX.out.below hal (Nat.le_refl _))
  have HO := Lib.hid (ho.below hal (Nat.le_refl _))
  have HWG := Lib.hid hwG
  have hs4 : w3.heap.size < (w3.alloc (.cells #[.int .i64 c.ep, .slice A9 3 k9] 26)).heap.size := by simp
  clear hal ho hwG
  generalize w3.alloc (.cells #[.int .i64 c.ep, .slice A9 3 k9] 26) = w4 at *
  obtain ⟨z0, z1, zf⟩ := two_cells K0.out
  go_wp2_with fail
  ((with_reducible refine (l13Slot c e _ _ _ _ HC.out).mono ?_); rintro e w5 ⟨rfl, hb5⟩)
  have hs5 := hb5.size
  replace HB := Lib.hid (HB.out.trans (hb5.mono HB.out.size))
  replace K0 := Lib.hid (K0.out.below hb5 (Nat.le_refl _))
  replace K1 := Lib.hid (K1.out.below hb5 (Nat.le_refl _))
  replace K4 := Lib.hid (K4.out.below hb5 (Nat.le_refl _))
  replace HX := Lib.hid (HX.out.below hb5 (Nat.le_refl _))
  replace HO := Lib.hid (HO.out.below hb5 (Nat.le_refl _))
  clear hb5 z0 z1 zf
  have HRET : Hid (∀ code : Int, CacheP c (.int .i64 code) w (.returned (.tuple #[.agg #[.int .i64 c.ep, .slice A9 3 k9], .int .i64 code])) ((w5.setCell ⟨w.heap.size + 1, 0, none⟩ (.int .i64 c.ep)).setCell ⟨w.heap.size + 1, 1, none⟩ (.slice A9 3 k9))) := fun code => by
    have ho := HO.out
    rw [← HL3.out] at ho
    have HP := cacheP_fin (v := .int .i64 code) (w := w) (b := w.heap.size + 1) ho (HWG.out.mono (Nat.le_refl _) (by omega)) (by omega) (by omega) HB.out (.int .i64 c.ep) (.slice A9 c.sl.length k9)
    rw [HL3.out] at HP
    exact HP
  obtain ⟨z0, z1, zf⟩ := two_cells K0.out
  obtain ⟨x0, x1, xf⟩ := two_cells K1.out
  obtain ⟨y0, y1, yf⟩ := two_cells K4.out
  rcases slotIx_bd c.ep e with hs | ⟨j, hs, hj, -⟩
  · have HV := Lib.hid (add_wrong HOK.out HIK.out hs)
    rw [hs]
    clear hs
    go_wp2
    refine bodyPost_ret (v := .tuple #[.agg #[.int .i64 c.ep, .slice A9 3 k9], .int .i64 2]) ?_ rfl ?_
    · rw [results_cell_tmp rfl]
      go_simp
    · rw [HV.out.1, HV.out.2]
      exact HRET.out 2
  have HV := Lib.hid (add_in HOK.out HIK.out hs)
  rw [hs]
  clear hs
  obtain ⟨b, off, B, d, rfl, _, _, hbz, cB, iB⟩ := HX.out.at_ (k := j) (by omega)
  have hsm := HSM.out j
  have HSJ := Lib.hid (HSO.out j)
  have IB := Lib.hid iB
  have hj3 : (j : Int) < 3 := by omega
  have hj0 : decide ((j : Int) < 0) = false := by simp
  clear iB
  cases hh : hasK (slAt c.sl j) key
  case «true» =>
    have HC1 := Lib.hid (addC_replay hh)
    go_wp2_with fail
    ((with_reducible refine (l1Has _ _ _ _ _ (slAt c.sl j) key _ IB.out).mono ?_); rintro e w6 ⟨rfl, rfl⟩)
    rw [hh]
    clear hh
    go_wp2
    refine bodyPost_ret (v := .tuple #[.agg #[.int .i64 c.ep, .slice A9 3 k9], .int .i64 1]) ?_ rfl ?_
    · rw [results_cell_tmp rfl]
      go_simp
    · rw [HV.out.1, HV.out.2, HC1.out.1, HC1.out.2]
      exact HRET.out 1
  by_cases h6 : 6 ≤ (slAt c.sl j).length
  · have HC1 := Lib.hid (addC_full hh h6)
    have h6' : (6 : Int) ≤ ((slAt c.sl j).length : Int) := by omega
    go_wp2_with fail
    ((with_reducible refine (l1Has _ _ _ _ _ (slAt c.sl j) key _ IB.out).mono ?_); rintro e w6 ⟨rfl, rfl⟩)
    rw [hh]
    clear hh
    go_wp2
    refine bodyPost_ret (v := .tuple #[.agg #[.int .i64 c.ep, .slice A9 3 k9], .int .i64 3]) ?_ rfl ?_
    · rw [results_cell_tmp rfl]
      go_simp
    · rw [HV.out.1, HV.out.2, HC1.out.1, HC1.out.2]
      exact HRET.out 3
  have HC1 := Lib.hid (addC_done hh (by omega))
  have h6' : ¬ ((6 : Int) ≤ ((slAt c.sl j).length : Int)) := by omega
  go_wp2_with fail
  ((with_reducible refine (l1Has _ _ _ _ _ (slAt c.sl j) key _ IB.out).mono ?_); rintro e w6 ⟨rfl, rfl⟩)
  rw [hh]
  clear hh
  obtain ⟨b9, off9, B9, d9, rfl, _, _, hb9z, cB9, iB9⟩ := (HO.out.sts HWG.out).at_ (k := j) (by omega)
  obtain ⟨_, _, _, _, e9, -, hb9G, -, f9, hset⟩ := StsO.setN HO.out (k := j) (by omega)
  simp only [Option.some.injEq, Addr.mk.injEq, and_true] at e9
  obtain ⟨rfl, rfl⟩ := e9
  have HSET := Lib.hid (And.intro hb9G hset)
  have I9 := Lib.hid iB9
  have hd9 := iB9.2.1
  have hd9m := iB9.2.2.1
  have hdd := IB.out.2.1
  have hddm := IB.out.2.2.1
  unfold maxLen at hd9m hddm
  have HXD : Hid (∃ xs, xs = slAt c.sl j) := ⟨_, rfl⟩
  obtain ⟨xs, hxs⟩ := HXD.out
  rw [← hxs] at HC1 HSJ hsm h6 h6' cB IB I9 cB9 hd9 hdd iB9
  have HF9 : Hid (∀ W', Below w5.heap.size w5 W' → W'.cell? ⟨b9, off9 + j, none⟩ = some (.slice B9 xs.length d9) ∧ W'.frozen? ⟨b9, off9 + j, none⟩ = false) := fun W' hb => ⟨(hb.cell (p := ⟨b9, off9 + j, none⟩) hb9z).trans cB9, (World.frozen?_of_block (a := ⟨b9, off9 + j, none⟩) (hb.block b9 hb9z)).trans f9⟩
  have HXS := Lib.hid hxs
  clear hset hb9G iB9 hxs HXD
  go_wp2
  go_loop [10] (fun i => ∃ q : Nat, q ≤ xs.length ∧ i = .int .i64 (q : Nat) ∧ Hid (∀ i, i < q → xs.getD i 0 < key)) (fun i => xs.length - (intOf i).toNat)
  case atStart => exact ⟨0, Nat.zero_le _, rfl, fun i hi => absurd hi (by omega)⟩
  case round =>
    obtain ⟨q, hq, rfl, hT⟩ := hrel
    by_cases hgo : q < xs.length ∧ xs.getD q 0 < key
    · obtain ⟨hql, hqk⟩ := hgo
      obtain ⟨b2, off2, rfl, _, _, cq⟩ := I9.out.at_ hql
      have HN : Hid (∀ i, i < q + 1 → xs.getD i 0 < key) := at_succ hT.out hqk
      generalize xs.getD q 0 = x at *
      clear hT
      go_wp2
      go_round
      case rel => exact ⟨q + 1, by omega, by go_num, HN.out⟩
      case measure => simp [intOf]; omega
    have HPL : Hid (place xs key = q) := place_of HSJ.out (isPlace_of HSJ.out hq hT.out fun h => by
      by_cases hk : xs.getD q 0 < key
      · exact absurd ⟨h, hk⟩ hgo
      · omega)
    clear hT
    by_cases hql : q < xs.length
    · obtain ⟨b2, off2, rfl, _, _, cq⟩ := I9.out.at_ hql
      have hqk : ¬ xs.getD q 0 < key := fun h => hgo ⟨hql, h⟩
      generalize xs.getD q 0 = x at *
      clear hgo
--A
      go_upto_region 14 with (fail)
      obtain ⟨bB, oB, rfl, _, _, _⟩ := IB.out.at_ (k := 0) (by omega)
      have hqd : q ≤ d := by omega
      have hqn : (q : Int) ≤ (xs.length : Int) := by omega
      have HBW : Hid (∀ W', Below w5.heap.size w5 W' → (W'.cell? ⟨w3.heap.size, 1, none⟩ = some (.slice (some ⟨b9, off9, none⟩) 3 k9) ∧ W'.cell? ⟨w.heap.size, 1, none⟩ = some (.slice (some ⟨b, off, none⟩) 3 k) ∧ W'.cell? ⟨b, off + j, none⟩ = some (.slice (some ⟨bB, oB, none⟩) xs.length d))) := fun W' hb => ⟨(hb.cell (p := ⟨w3.heap.size, 1, none⟩) (show w3.heap.size < w5.heap.size by omega)).trans y1, (hb.cell (p := ⟨w.heap.size, 1, none⟩) (show w.heap.size < w5.heap.size by omega)).trans z1, (hb.cell (p := ⟨b, off + j, none⟩) hbz).trans cB⟩
      have HRT : Hid (∀ W', Below w5.heap.size w5 W' → Row 0 w5.heap.size W' (some ⟨bB, oB, none⟩) q d 1 ((xs.take q).map (Value.int .i64))) := fun W' hb => by
        have h := (ints_topS IB.out (Nat.zero_le 0)).below hb (Nat.le_refl _)
        have h2 := h.sub_ (k := 0) (m := q) (by omega)
        rw [Nat.add_zero, List.drop_zero] at h2
        exact ints_row h2
      have HRD : Hid (∀ W', Below w5.heap.size w5 W' → Row 0 w5.heap.size W' (if d = q then some ⟨bB, oB, none⟩ else some ⟨bB, oB + q, none⟩) (xs.length - q) (d - q) 1 ((xs.drop q).map (Value.int .i64))) := fun W' hb => by
        have h := (ints_topS IB.out (Nat.zero_le 0)).below hb (Nat.le_refl _)
        split
        · rename_i e
          have e2 : xs.length - q = 0 := by omega
          rw [e2, List.drop_eq_nil_of_le (by omega)]
          exact ints_row ⟨rfl, by omega, by unfold maxLen; omega, fun hn => absurd hn (by omega)⟩
        · have h2 := h.sub_ (k := q) (m := xs.length - q) (by omega)
          rw [List.take_of_length_le (by rw [List.length_drop]; exact Nat.le_refl _)] at h2
          exact ints_row h2
      have HFAR : Hid (∀ (W' : World) (v : Value), (W'.cell? ⟨w3.heap.size, 1, none⟩ = some (.slice (some ⟨b9, off9, none⟩) 3 k9) ∧ W'.cell? ⟨w.heap.size, 1, none⟩ = some (.slice (some ⟨b, off, none⟩) 3 k) ∧ W'.cell? ⟨b, off + j, none⟩ = some (.slice (some ⟨bB, oB, none⟩) xs.length d)) → ((W'.setCell ⟨b9, off9 + j, none⟩ v).cell? ⟨w3.heap.size, 1, none⟩ = some (.slice (some ⟨b9, off9, none⟩) 3 k9) ∧ (W'.setCell ⟨b9, off9 + j, none⟩ v).cell? ⟨w.heap.size, 1, none⟩ = some (.slice (some ⟨b, off, none⟩) 3 k) ∧ (W'.setCell ⟨b9, off9 + j, none⟩ v).cell? ⟨b, off + j, none⟩ = some (.slice (some ⟨bB, oB, none⟩) xs.length d))) := fun W' v h =>
        ⟨(World.cell?_of_block (a := ⟨w3.heap.size, 1, none⟩) (Below.heap_setCell _ _ _ _ (show w3.heap.size ≠ b9 by omega))).trans h.1, (World.cell?_of_block (a := ⟨w.heap.size, 1, none⟩) (Below.heap_setCell _ _ _ _ (show w.heap.size ≠ b9 by omega))).trans h.2.1, (World.cell?_of_block (a := ⟨b, off + j, none⟩) (Below.heap_setCell _ _ _ _ (show b ≠ b9 by omega))).trans h.2.2⟩
      have hbE : Below w5.heap.size w5 (w5.alloc (.cells #[] 3)) := (Below.refl _ _).alloc (Nat.le_refl _) _
      have hbK : Below w5.heap.size w5 (w5.alloc (.cells #[.int .i64 key] 3)) := (Below.refl _ _).alloc (Nat.le_refl _) _
      have hbEK := hbE.alloc hbE.size (.cells #[.int .i64 key] 3)
      have hbKE := hbK.alloc hbK.size (.cells #[] 3)
      have S0 := Lib.hid (HBW.out w5.drew (below_dr (Below.refl _ _) (d := 1)))
      have SE := Lib.hid (HBW.out (w5.alloc (.cells #[] 3)).drew (below_dr hbE (d := 1)))
      have SK := Lib.hid (HBW.out (w5.alloc (.cells #[.int .i64 key] 3)).drew (below_dr hbK (d := 1)))
      have SEK := Lib.hid (HBW.out ((w5.alloc (.cells #[] 3)).alloc (.cells #[.int .i64 key] 3)).drew (below_dr hbEK (d := 1)))
      have SKE := Lib.hid (HBW.out ((w5.alloc (.cells #[.int .i64 key] 3)).alloc (.cells #[] 3)).drew (below_dr hbKE (d := 1)))
      have BE : Hid (Below w5.heap.size w5 (w5.alloc (.cells #[] 3)).drew) := below_dr hbE (d := 1)
      have BEK : Hid (Below w5.heap.size w5 ((w5.alloc (.cells #[] 3)).alloc (.cells #[.int .i64 key] 3)).drew) := below_dr hbEK (d := 1)
      have BKE : Hid (Below w5.heap.size w5 ((w5.alloc (.cells #[.int .i64 key] 3)).alloc (.cells #[] 3)).drew) := below_dr hbKE (d := 1)
      have DE : Hid (Dest 3 1 (some w5.heap.size) (w5.alloc (.cells #[] 3)).drew (.slice (some ⟨w5.heap.size, 0, none⟩) 0 0) 0 []) := .inr ⟨_, rfl, accV_new w5.drew _ _⟩
      have DEK : Hid (Dest 3 1 (some w5.heap.size) ((w5.alloc (.cells #[] 3)).alloc (.cells #[.int .i64 key] 3)).drew (.slice (some ⟨w5.heap.size, 0, none⟩) 0 0) 0 []) := .inr ⟨_, rfl, (accV_new w5.drew _ _).alloc (.cells #[.int .i64 key] 3)⟩
      have DKE : Hid (Dest 3 1 (some (w5.heap.size + 1)) ((w5.alloc (.cells #[.int .i64 key] 3)).alloc (.cells #[] 3)).drew (.slice (some ⟨w5.heap.size + 1, 0, none⟩) 0 0) 0 []) := key_dest w5 key
      have REK : Hid (Row (w5.heap.size + 1) (w5.heap.size + 1 + 1) ((w5.alloc (.cells #[] 3)).alloc (.cells #[.int .i64 key] 3)).drew (some ⟨w5.heap.size + 1, 0, none⟩) 1 1 1 [.int .i64 key]) := key_row1 w5 key
      have RKE : Hid (Row w5.heap.size (w5.heap.size + 1) ((w5.alloc (.cells #[.int .i64 key] 3)).alloc (.cells #[] 3)).drew (some ⟨w5.heap.size, 0, none⟩) 1 1 1 [.int .i64 key]) := key_row2 w5 key
      have hqi : decide ((q : Int) < 0) = false := by simp
      clear hbE hbK hbEK hbKE
      go_region_held3 (fun w' => w'.cell? ⟨w3.heap.size, 1, none⟩ = some (.slice (some ⟨b9, off9, none⟩) 3 k9) ∧ w'.cell? ⟨w.heap.size, 1, none⟩ = some (.slice (some ⟨b, off, none⟩) 3 k) ∧ w'.cell? ⟨b, off + j, none⟩ = some (.slice (some ⟨bB, oB, none⟩) xs.length d))
        (first | with_reducible exact S0.out | with_reducible exact SE.out | with_reducible exact SK.out | with_reducible exact SEK.out | with_reducible exact SKE.out | with_reducible exact s6 | with_reducible exact s6k | with_reducible exact s7 | with_reducible exact s8 | with_reducible exact s9 | fail)
        (first
          | (refine step_appD elInt _ _ _ _ _ DE.out _ _ _ _ _ _ (HRT.out _ BE.out) (ints_one_cell _) (by omega) (.tmp 72) (.tmp 79) rfl rfl (by go_simp) (by go_simp) ?_; intro g6 v6 w6 hd6 hg6 hgr6
             rw [List.nil_append, Nat.zero_add] at hd6
             have hge6 := new_ge (K := w5.heap.size) hg6 (fun y hy => by cases hy; exact Nat.le_refl _) BE.out.size
             have hb6 := BE.out.grown hgr6 BE.out.size (fun y hy => by simp at hy; omega)
             have s6 := HBW.out w6 hb6
             have s6k := HBW.out _ (hb6.alloc hb6.size (.cells #[.int .i64 key] 3)))
          | (refine step_appD elInt _ _ _ _ _ DEK.out _ _ _ _ _ _ (HRT.out _ BEK.out) (ints_one_cell _) (by omega) (.tmp 72) (.tmp 79) rfl rfl (by go_simp) (by go_simp) ?_; intro g6 v6 w6 hd6 hg6 hgr6
             rw [List.nil_append, Nat.zero_add] at hd6
             have hge6 := new_ge (K := w5.heap.size) hg6 (fun y hy => by cases hy; exact Nat.le_refl _) BEK.out.size
             have hb6 := BEK.out.grown hgr6 BEK.out.size (fun y hy => by simp at hy; omega)
             have hky := row_grown REK.out hgr6 (.inl (Nat.lt_succ_self _))
             have s6 := HBW.out w6 hb6)
          | (refine step_appD elInt _ _ _ _ _ DKE.out _ _ _ _ _ _ (HRT.out _ BKE.out) (ints_one_cell _) (by omega) (.tmp 72) (.tmp 79) rfl rfl (by go_simp) (by go_simp) ?_; intro g6 v6 w6 hd6 hg6 hgr6
             rw [List.nil_append, Nat.zero_add] at hd6
             have hge6 := new_ge (K := w5.heap.size) hg6 (fun y hy => by cases hy; exact Nat.le_succ _) BKE.out.size
             have hb6 := BKE.out.grown hgr6 BKE.out.size (fun y hy => by simp at hy; omega)
             have hky := row_grown RKE.out hgr6 (.inr (Nat.le_refl _))
             have s6 := HBW.out w6 hb6)
          | (refine step_appD elInt g6 _ v6 q _ (dest_alloc hd6 (.cells #[.int .i64 key] 3)) _ _ _ _ _ _ (row_lit w6 3 [.int .i64 key] (sz := 1) rfl) (one_key key) (by omega) (.tmp 80) (.tmp 82) rfl rfl (by go_simp) (by go_simp) ?_; intro g7 v7 w7 hd7 hg7 hgr7
             have hbz := hb6.alloc hb6.size (.cells #[.int .i64 key] 3)
             have hge7 := new_ge (K := w5.heap.size) hg7 hge6 hbz.size
             have hb7 := hbz.grown hgr7 hbz.size (fun y hy => hge6 y hy)
             have s7 := HBW.out w7 hb7)
          | (refine step_appD elInt g6 w6 v6 q _ hd6 _ _ _ _ _ _ hky (one_key key) (by omega) (.tmp 80) (.tmp 82) rfl rfl (by go_simp) (by go_simp) ?_; intro g7 v7 w7 hd7 hg7 hgr7
             have hge7 := new_ge (K := w5.heap.size) hg7 hge6 hb6.size
             have hb7 := hb6.grown hgr7 hb6.size (fun y hy => hge6 y hy)
             have s7 := HBW.out w7 hb7)
          | (refine step_appD elInt g7 w7 v7 (q + 1) _ hd7 _ _ _ _ _ _ (HRD.out w7 hb7) (ints_one_cell _) (by omega) (.tmp 83) (.tmp 90) rfl rfl (by go_simp) (by go_simp) ?_; intro g8 v8 w8 hd8 hg8 hgr8
             have hge8 := new_ge (K := w5.heap.size) hg8 hge7 hb7.size
             have hb8 := hb7.grown hgr8 hb7.size (fun y hy => hge7 y hy)
             obtain ⟨A8, c8, b8, rfl, ho8, hf8⟩ := ins_sk HPL.out hq hd8 hge8
             have s8 := HBW.out w8 hb8
             have s9 := HFAR.out w8 (.slice A8 (insK xs key).length c8) s8
             have f8c := (HF9.out w8 hb8).1
             have f8f := (HF9.out w8 hb8).2)
          | fail)
      all_goals
        have hin : ∀ f ∈ G, ∀ y ∈ f, w1.heap.size ≤ y ∧ y < w3.heap.size := HWG.out
        obtain ⟨G', ho9, hG'⟩ := HSET.out.2 w8 ⟨insK xs key, A8, c8, b8⟩ hb8.size (fun f hf y hy => hb8.block y (by have := hin f hf y hy; omega)) ho8 (fun y hy => ⟨hf8 y hy, ho8.lt_ y hy⟩)
        have ho9' : StsO (w8.setCell ⟨b9, off9 + j, none⟩ (.slice A8 (insK xs key).length c8)) (some ⟨b9, off9, none⟩) 3 k9 (c.sl.set j (insK xs key)) G' := ho9
        have hsz9 : (w8.setCell ⟨b9, off9 + j, none⟩ (.slice A8 (insK xs key).length c8)).heap.size = w8.heap.size := by simp [World.setCell]
        have hs8 := hb8.size
        have hwG' : Within w1.heap.size (w8.setCell ⟨b9, off9 + j, none⟩ (.slice A8 (insK xs key).length c8)).heap.size G' := fun f hf y hy => by
          rw [hsz9]
          rcases hG' f hf y hy with ⟨g, hg, hyg⟩ | hyf
          · have := hin g hg y hyg; omega
          · have h1 := hf8 y hyf
            have h2 := ho8.lt_ y hyf
            omega
        have hb9w : w1.heap.size ≤ b9 ∧ b9 < w3.heap.size := by obtain ⟨f, hf, hbf⟩ := HSET.out.1; exact hin f hf b9 hbf
        have hB9 : Below w.heap.size w (w8.setCell ⟨b9, off9 + j, none⟩ (.slice A8 (insK xs key).length c8)) := (HB.out.trans (hb8.mono HB.out.size)).setCell (p := ⟨b9, off9 + j, none⟩) (show w.heap.size ≤ b9 by omega) _
        have k19 := K1.out.same (w' := w8.setCell ⟨b9, off9 + j, none⟩ (.slice A8 (insK xs key).length c8)) ((Below.heap_setCell _ _ _ _ (show w.heap.size + 1 ≠ b9 by omega)).trans (hb8.block _ K1.out.lt))
        have k49 := K4.out.same (w' := w8.setCell ⟨b9, off9 + j, none⟩ (.slice A8 (insK xs key).length c8)) ((Below.heap_setCell _ _ _ _ (show w3.heap.size ≠ b9 by omega)).trans (hb8.block _ K4.out.lt))
        have HL9 : Hid ((⟨c.ep, c.sl.set j (insK xs key)⟩ : Ch).sl.length = 3) := by show (c.sl.set j (insK xs key)).length = 3; rw [List.length_set]; exact HL3.out
        have ho9'' := ho9'
        rw [← HL9.out] at ho9''
        have HP := Lib.hid (cacheP_fin (c := ⟨c.ep, c.sl.set j (insK xs key)⟩) (v := .int .i64 0) (w := w) (b := w.heap.size + 1) ho9'' hwG' hw1 (by omega) hB9 (.int .i64 c.ep) (.slice (some ⟨b9, off9, none⟩) (⟨c.ep, c.sl.set j (insK xs key)⟩ : Ch).sl.length k9))
        rw [HL9.out] at HP
        obtain ⟨p0, p1, pf⟩ := two_cells k19
        obtain ⟨q0, q1, qf⟩ := two_cells k49
        clear ho9 ho9' ho9'' hG' hwG' hB9 k19 k49 hb8 ho8 hf8 f8c f8f s8 s9 hd8 hg8 hgr8 hge8 x0 x1 xf y0 y1 yf z0 z1 zf cB cB9 f9
        generalize w8.setCell ⟨b9, off9 + j, none⟩ (.slice A8 (insK xs key).length c8) = w9 at *
        go_wp2
        all_goals
          refine bodyPost_ret (v := .tuple #[.agg #[.int .i64 c.ep, .slice (some ⟨b9, off9, none⟩) 3 k9], .int .i64 0]) ?_ rfl ?_
          · rw [results_cell_tmp rfl]
            go_simp
          · rw [HV.out.1, HV.out.2, HC1.out.1, HC1.out.2]
            exact HP.out
--Z
    · clear hgo
      rcases Nat.eq_zero_or_pos xs.length with hx0 | hx0
      · obtain rfl : xs = [] := List.eq_nil_of_length_eq_zero hx0
        obtain rfl : q = 0 := by simp at hq; omega
        clear hx0 hql
        rcases B with _ | ad
        · skip
          go_upto_region 14 with (fail)
          have HBW : Hid (∀ W', Below w5.heap.size w5 W' → (W'.cell? ⟨w3.heap.size, 1, none⟩ = some (.slice (some ⟨b9, off9, none⟩) 3 k9) ∧ W'.cell? ⟨w.heap.size, 1, none⟩ = some (.slice (some ⟨b, off, none⟩) 3 k) ∧ W'.cell? ⟨b, off + j, none⟩ = some (.slice none 0 d))) := fun W' hb => ⟨(hb.cell (p := ⟨w3.heap.size, 1, none⟩) (show w3.heap.size < w5.heap.size by omega)).trans y1, (hb.cell (p := ⟨w.heap.size, 1, none⟩) (show w.heap.size < w5.heap.size by omega)).trans z1, (hb.cell (p := ⟨b, off + j, none⟩) hbz).trans cB⟩
          have HR0 : Hid (∀ (W' : World) (base : Option Addr), Row 0 w5.heap.size W' base 0 d 1 ([] : List Value)) := fun W' base => Row.nil_ (by unfold maxLen; omega)
          have HFAR : Hid (∀ (W' : World) (v : Value), (W'.cell? ⟨w3.heap.size, 1, none⟩ = some (.slice (some ⟨b9, off9, none⟩) 3 k9) ∧ W'.cell? ⟨w.heap.size, 1, none⟩ = some (.slice (some ⟨b, off, none⟩) 3 k) ∧ W'.cell? ⟨b, off + j, none⟩ = some (.slice none 0 d)) → ((W'.setCell ⟨b9, off9 + j, none⟩ v).cell? ⟨w3.heap.size, 1, none⟩ = some (.slice (some ⟨b9, off9, none⟩) 3 k9) ∧ (W'.setCell ⟨b9, off9 + j, none⟩ v).cell? ⟨w.heap.size, 1, none⟩ = some (.slice (some ⟨b, off, none⟩) 3 k) ∧ (W'.setCell ⟨b9, off9 + j, none⟩ v).cell? ⟨b, off + j, none⟩ = some (.slice none 0 d))) := fun W' v h =>
            ⟨(World.cell?_of_block (a := ⟨w3.heap.size, 1, none⟩) (Below.heap_setCell _ _ _ _ (show w3.heap.size ≠ b9 by omega))).trans h.1, (World.cell?_of_block (a := ⟨w.heap.size, 1, none⟩) (Below.heap_setCell _ _ _ _ (show w.heap.size ≠ b9 by omega))).trans h.2.1, (World.cell?_of_block (a := ⟨b, off + j, none⟩) (Below.heap_setCell _ _ _ _ (show b ≠ b9 by omega))).trans h.2.2⟩
          have hbE : Below w5.heap.size w5 (w5.alloc (.cells #[] 3)) := (Below.refl _ _).alloc (Nat.le_refl _) _
          have hbK : Below w5.heap.size w5 (w5.alloc (.cells #[.int .i64 key] 3)) := (Below.refl _ _).alloc (Nat.le_refl _) _
          have hbEK := hbE.alloc hbE.size (.cells #[.int .i64 key] 3)
          have hbKE := hbK.alloc hbK.size (.cells #[] 3)
          have S0 := Lib.hid (HBW.out w5.drew (below_dr (Below.refl _ _) (d := 1)))
          have SE := Lib.hid (HBW.out (w5.alloc (.cells #[] 3)).drew (below_dr hbE (d := 1)))
          have SK := Lib.hid (HBW.out (w5.alloc (.cells #[.int .i64 key] 3)).drew (below_dr hbK (d := 1)))
          have SEK := Lib.hid (HBW.out ((w5.alloc (.cells #[] 3)).alloc (.cells #[.int .i64 key] 3)).drew (below_dr hbEK (d := 1)))
          have SKE := Lib.hid (HBW.out ((w5.alloc (.cells #[.int .i64 key] 3)).alloc (.cells #[] 3)).drew (below_dr hbKE (d := 1)))
          have BE : Hid (Below w5.heap.size w5 (w5.alloc (.cells #[] 3)).drew) := below_dr hbE (d := 1)
          have BEK : Hid (Below w5.heap.size w5 ((w5.alloc (.cells #[] 3)).alloc (.cells #[.int .i64 key] 3)).drew) := below_dr hbEK (d := 1)
          have BKE : Hid (Below w5.heap.size w5 ((w5.alloc (.cells #[.int .i64 key] 3)).alloc (.cells #[] 3)).drew) := below_dr hbKE (d := 1)
          have DE : Hid (Dest 3 1 (some w5.heap.size) (w5.alloc (.cells #[] 3)).drew (.slice (some ⟨w5.heap.size, 0, none⟩) 0 0) 0 []) := .inr ⟨_, rfl, accV_new w5.drew _ _⟩
          have DEK : Hid (Dest 3 1 (some w5.heap.size) ((w5.alloc (.cells #[] 3)).alloc (.cells #[.int .i64 key] 3)).drew (.slice (some ⟨w5.heap.size, 0, none⟩) 0 0) 0 []) := .inr ⟨_, rfl, (accV_new w5.drew _ _).alloc (.cells #[.int .i64 key] 3)⟩
          have DKE : Hid (Dest 3 1 (some (w5.heap.size + 1)) ((w5.alloc (.cells #[.int .i64 key] 3)).alloc (.cells #[] 3)).drew (.slice (some ⟨w5.heap.size + 1, 0, none⟩) 0 0) 0 []) := key_dest w5 key
          have REK : Hid (Row (w5.heap.size + 1) (w5.heap.size + 1 + 1) ((w5.alloc (.cells #[] 3)).alloc (.cells #[.int .i64 key] 3)).drew (some ⟨w5.heap.size + 1, 0, none⟩) 1 1 1 [.int .i64 key]) := key_row1 w5 key
          have RKE : Hid (Row w5.heap.size (w5.heap.size + 1) ((w5.alloc (.cells #[.int .i64 key] 3)).alloc (.cells #[] 3)).drew (some ⟨w5.heap.size, 0, none⟩) 1 1 1 [.int .i64 key]) := key_row2 w5 key
          clear hbE hbK hbEK hbKE
          go_region_held3 (fun w' => w'.cell? ⟨w3.heap.size, 1, none⟩ = some (.slice (some ⟨b9, off9, none⟩) 3 k9) ∧ w'.cell? ⟨w.heap.size, 1, none⟩ = some (.slice (some ⟨b, off, none⟩) 3 k) ∧ w'.cell? ⟨b, off + j, none⟩ = some (.slice none 0 d))
            (first | with_reducible exact S0.out | with_reducible exact SE.out | with_reducible exact SK.out | with_reducible exact SEK.out | with_reducible exact SKE.out | with_reducible exact s6 | with_reducible exact s6k | with_reducible exact s7 | with_reducible exact s8 | with_reducible exact s9 | fail)
            (first
              | (refine step_appD elInt _ _ _ _ _ DEK.out _ _ _ _ _ _ REK.out (one_key key) (by omega) (.tmp 80) (.tmp 82) rfl rfl (by go_simp) (by go_simp) ?_; intro g7 v7 w7 hd7 hg7 hgr7
                 have hge7 := new_ge (K := w5.heap.size) hg7 (fun y hy => by cases hy; exact Nat.le_refl _) BEK.out.size
                 have hb7 := BEK.out.grown hgr7 BEK.out.size (fun y hy => by simp at hy; omega)
                 have s7 := HBW.out w7 hb7)
              | (refine step_appD elInt _ _ _ _ _ DKE.out _ _ _ _ _ _ RKE.out (one_key key) (by omega) (.tmp 80) (.tmp 82) rfl rfl (by go_simp) (by go_simp) ?_; intro g7 v7 w7 hd7 hg7 hgr7
                 have hge7 := new_ge (K := w5.heap.size) hg7 (fun y hy => by cases hy; exact Nat.le_succ _) BKE.out.size
                 have hb7 := BKE.out.grown hgr7 BKE.out.size (fun y hy => by simp at hy; omega)
                 have s7 := HBW.out w7 hb7)
              | (refine step_appD elInt g7 w7 v7 (0 + 1) _ hd7 _ _ _ _ _ _ (HR0.out w7 none) no_val (by omega) (.tmp 83) (.tmp 90) rfl rfl (by go_simp) (by go_simp) ?_; intro g8 v8 w8 hd8 hg8 hgr8
                 have hge8 := new_ge (K := w5.heap.size) hg8 hge7 hb7.size
                 have hb8 := hb7.grown hgr8 hb7.size (fun y hy => hge7 y hy)
                 obtain ⟨A8, c8, b8, rfl, ho8, hf8⟩ := ins_sk0 hd8 hge8
                 have s8 := HBW.out w8 hb8
                 have s9 := HFAR.out w8 (.slice A8 (insK [] key).length c8) s8
                 have f8c := (HF9.out w8 hb8).1
                 have f8f := (HF9.out w8 hb8).2)
              | fail)
          all_goals
            have hin : ∀ f ∈ G, ∀ y ∈ f, w1.heap.size ≤ y ∧ y < w3.heap.size := HWG.out
            obtain ⟨G', ho9, hG'⟩ := HSET.out.2 w8 ⟨insK [] key, A8, c8, b8⟩ hb8.size (fun f hf y hy => hb8.block y (by have := hin f hf y hy; omega)) ho8 (fun y hy => ⟨hf8 y hy, ho8.lt_ y hy⟩)
            have ho9' : StsO (w8.setCell ⟨b9, off9 + j, none⟩ (.slice A8 (insK [] key).length c8)) (some ⟨b9, off9, none⟩) 3 k9 (c.sl.set j (insK [] key)) G' := ho9
            have hsz9 : (w8.setCell ⟨b9, off9 + j, none⟩ (.slice A8 (insK [] key).length c8)).heap.size = w8.heap.size := by simp [World.setCell]
            have hs8 := hb8.size
            have hwG' : Within w1.heap.size (w8.setCell ⟨b9, off9 + j, none⟩ (.slice A8 (insK [] key).length c8)).heap.size G' := fun f hf y hy => by
              rw [hsz9]
              rcases hG' f hf y hy with ⟨g, hg, hyg⟩ | hyf
              · have := hin g hg y hyg; omega
              · have h1 := hf8 y hyf
                have h2 := ho8.lt_ y hyf
                omega
            have hb9w : w1.heap.size ≤ b9 ∧ b9 < w3.heap.size := by obtain ⟨f, hf, hbf⟩ := HSET.out.1; exact hin f hf b9 hbf
            have hB9 : Below w.heap.size w (w8.setCell ⟨b9, off9 + j, none⟩ (.slice A8 (insK [] key).length c8)) := (HB.out.trans (hb8.mono HB.out.size)).setCell (p := ⟨b9, off9 + j, none⟩) (show w.heap.size ≤ b9 by omega) _
            have k19 := K1.out.same (w' := w8.setCell ⟨b9, off9 + j, none⟩ (.slice A8 (insK [] key).length c8)) ((Below.heap_setCell _ _ _ _ (show w.heap.size + 1 ≠ b9 by omega)).trans (hb8.block _ K1.out.lt))
            have k49 := K4.out.same (w' := w8.setCell ⟨b9, off9 + j, none⟩ (.slice A8 (insK [] key).length c8)) ((Below.heap_setCell _ _ _ _ (show w3.heap.size ≠ b9 by omega)).trans (hb8.block _ K4.out.lt))
            have HL9 : Hid ((⟨c.ep, c.sl.set j (insK [] key)⟩ : Ch).sl.length = 3) := by show (c.sl.set j (insK [] key)).length = 3; rw [List.length_set]; exact HL3.out
            have ho9'' := ho9'
            rw [← HL9.out] at ho9''
            have HP := Lib.hid (cacheP_fin (c := ⟨c.ep, c.sl.set j (insK [] key)⟩) (v := .int .i64 0) (w := w) (b := w.heap.size + 1) ho9'' hwG' hw1 (by omega) hB9 (.int .i64 c.ep) (.slice (some ⟨b9, off9, none⟩) (⟨c.ep, c.sl.set j (insK [] key)⟩ : Ch).sl.length k9))
            rw [HL9.out] at HP
            obtain ⟨p0, p1, pf⟩ := two_cells k19
            obtain ⟨q0, q1, qf⟩ := two_cells k49
            clear ho9 ho9' ho9'' hG' hwG' hB9 k19 k49 hb8 ho8 hf8 f8c f8f s8 s9 hd8 hg8 hgr8 hge8 x0 x1 xf y0 y1 yf z0 z1 zf cB cB9 f9
            generalize w8.setCell ⟨b9, off9 + j, none⟩ (.slice A8 (insK [] key).length c8) = w9 at *
            go_wp2
            all_goals
              refine bodyPost_ret (v := .tuple #[.agg #[.int .i64 c.ep, .slice (some ⟨b9, off9, none⟩) 3 k9], .int .i64 0]) ?_ rfl ?_
              · rw [results_cell_tmp rfl]
                go_simp
              · rw [HV.out.1, HV.out.2, HC1.out.1, HC1.out.2]
                exact HP.out
        · skip
          go_upto_region 14 with (fail)
          have HBW : Hid (∀ W', Below w5.heap.size w5 W' → (W'.cell? ⟨w3.heap.size, 1, none⟩ = some (.slice (some ⟨b9, off9, none⟩) 3 k9) ∧ W'.cell? ⟨w.heap.size, 1, none⟩ = some (.slice (some ⟨b, off, none⟩) 3 k) ∧ W'.cell? ⟨b, off + j, none⟩ = some (.slice (some ad) 0 d))) := fun W' hb => ⟨(hb.cell (p := ⟨w3.heap.size, 1, none⟩) (show w3.heap.size < w5.heap.size by omega)).trans y1, (hb.cell (p := ⟨w.heap.size, 1, none⟩) (show w.heap.size < w5.heap.size by omega)).trans z1, (hb.cell (p := ⟨b, off + j, none⟩) hbz).trans cB⟩
          have HR0 : Hid (∀ (W' : World) (base : Option Addr), Row 0 w5.heap.size W' base 0 d 1 ([] : List Value)) := fun W' base => Row.nil_ (by unfold maxLen; omega)
          have HFAR : Hid (∀ (W' : World) (v : Value), (W'.cell? ⟨w3.heap.size, 1, none⟩ = some (.slice (some ⟨b9, off9, none⟩) 3 k9) ∧ W'.cell? ⟨w.heap.size, 1, none⟩ = some (.slice (some ⟨b, off, none⟩) 3 k) ∧ W'.cell? ⟨b, off + j, none⟩ = some (.slice (some ad) 0 d)) → ((W'.setCell ⟨b9, off9 + j, none⟩ v).cell? ⟨w3.heap.size, 1, none⟩ = some (.slice (some ⟨b9, off9, none⟩) 3 k9) ∧ (W'.setCell ⟨b9, off9 + j, none⟩ v).cell? ⟨w.heap.size, 1, none⟩ = some (.slice (some ⟨b, off, none⟩) 3 k) ∧ (W'.setCell ⟨b9, off9 + j, none⟩ v).cell? ⟨b, off + j, none⟩ = some (.slice (some ad) 0 d))) := fun W' v h =>
            ⟨(World.cell?_of_block (a := ⟨w3.heap.size, 1, none⟩) (Below.heap_setCell _ _ _ _ (show w3.heap.size ≠ b9 by omega))).trans h.1, (World.cell?_of_block (a := ⟨w.heap.size, 1, none⟩) (Below.heap_setCell _ _ _ _ (show w.heap.size ≠ b9 by omega))).trans h.2.1, (World.cell?_of_block (a := ⟨b, off + j, none⟩) (Below.heap_setCell _ _ _ _ (show b ≠ b9 by omega))).trans h.2.2⟩
          have hbE : Below w5.heap.size w5 (w5.alloc (.cells #[] 3)) := (Below.refl _ _).alloc (Nat.le_refl _) _
          have hbK : Below w5.heap.size w5 (w5.alloc (.cells #[.int .i64 key] 3)) := (Below.refl _ _).alloc (Nat.le_refl _) _
          have hbEK := hbE.alloc hbE.size (.cells #[.int .i64 key] 3)
          have hbKE := hbK.alloc hbK.size (.cells #[] 3)
          have S0 := Lib.hid (HBW.out w5.drew (below_dr (Below.refl _ _) (d := 1)))
          have SE := Lib.hid (HBW.out (w5.alloc (.cells #[] 3)).drew (below_dr hbE (d := 1)))
          have SK := Lib.hid (HBW.out (w5.alloc (.cells #[.int .i64 key] 3)).drew (below_dr hbK (d := 1)))
          have SEK := Lib.hid (HBW.out ((w5.alloc (.cells #[] 3)).alloc (.cells #[.int .i64 key] 3)).drew (below_dr hbEK (d := 1)))
          have SKE := Lib.hid (HBW.out ((w5.alloc (.cells #[.int .i64 key] 3)).alloc (.cells #[] 3)).drew (below_dr hbKE (d := 1)))
          have BE : Hid (Below w5.heap.size w5 (w5.alloc (.cells #[] 3)).drew) := below_dr hbE (d := 1)
          have BEK : Hid (Below w5.heap.size w5 ((w5.alloc (.cells #[] 3)).alloc (.cells #[.int .i64 key] 3)).drew) := below_dr hbEK (d := 1)
          have BKE : Hid (Below w5.heap.size w5 ((w5.alloc (.cells #[.int .i64 key] 3)).alloc (.cells #[] 3)).drew) := below_dr hbKE (d := 1)
          have DE : Hid (Dest 3 1 (some w5.heap.size) (w5.alloc (.cells #[] 3)).drew (.slice (some ⟨w5.heap.size, 0, none⟩) 0 0) 0 []) := .inr ⟨_, rfl, accV_new w5.drew _ _⟩
          have DEK : Hid (Dest 3 1 (some w5.heap.size) ((w5.alloc (.cells #[] 3)).alloc (.cells #[.int .i64 key] 3)).drew (.slice (some ⟨w5.heap.size, 0, none⟩) 0 0) 0 []) := .inr ⟨_, rfl, (accV_new w5.drew _ _).alloc (.cells #[.int .i64 key] 3)⟩
          have DKE : Hid (Dest 3 1 (some (w5.heap.size + 1)) ((w5.alloc (.cells #[.int .i64 key] 3)).alloc (.cells #[] 3)).drew (.slice (some ⟨w5.heap.size + 1, 0, none⟩) 0 0) 0 []) := key_dest w5 key
          have REK : Hid (Row (w5.heap.size + 1) (w5.heap.size + 1 + 1) ((w5.alloc (.cells #[] 3)).alloc (.cells #[.int .i64 key] 3)).drew (some ⟨w5.heap.size + 1, 0, none⟩) 1 1 1 [.int .i64 key]) := key_row1 w5 key
          have RKE : Hid (Row w5.heap.size (w5.heap.size + 1) ((w5.alloc (.cells #[.int .i64 key] 3)).alloc (.cells #[] 3)).drew (some ⟨w5.heap.size, 0, none⟩) 1 1 1 [.int .i64 key]) := key_row2 w5 key
          clear hbE hbK hbEK hbKE
          go_region_held3 (fun w' => w'.cell? ⟨w3.heap.size, 1, none⟩ = some (.slice (some ⟨b9, off9, none⟩) 3 k9) ∧ w'.cell? ⟨w.heap.size, 1, none⟩ = some (.slice (some ⟨b, off, none⟩) 3 k) ∧ w'.cell? ⟨b, off + j, none⟩ = some (.slice (some ad) 0 d))
            (first | with_reducible exact S0.out | with_reducible exact SE.out | with_reducible exact SK.out | with_reducible exact SEK.out | with_reducible exact SKE.out | with_reducible exact s6 | with_reducible exact s6k | with_reducible exact s7 | with_reducible exact s8 | with_reducible exact s9 | fail)
            (first
              | (refine step_appD elInt _ _ _ _ _ DEK.out _ _ _ _ _ _ REK.out (one_key key) (by omega) (.tmp 80) (.tmp 82) rfl rfl (by go_simp) (by go_simp) ?_; intro g7 v7 w7 hd7 hg7 hgr7
                 have hge7 := new_ge (K := w5.heap.size) hg7 (fun y hy => by cases hy; exact Nat.le_refl _) BEK.out.size
                 have hb7 := BEK.out.grown hgr7 BEK.out.size (fun y hy => by simp at hy; omega)
                 have s7 := HBW.out w7 hb7)
              | (refine step_appD elInt _ _ _ _ _ DKE.out _ _ _ _ _ _ RKE.out (one_key key) (by omega) (.tmp 80) (.tmp 82) rfl rfl (by go_simp) (by go_simp) ?_; intro g7 v7 w7 hd7 hg7 hgr7
                 have hge7 := new_ge (K := w5.heap.size) hg7 (fun y hy => by cases hy; exact Nat.le_succ _) BKE.out.size
                 have hb7 := BKE.out.grown hgr7 BKE.out.size (fun y hy => by simp at hy; omega)
                 have s7 := HBW.out w7 hb7)
              | (refine step_appD elInt g7 w7 v7 (0 + 1) _ hd7 _ _ _ _ _ _ (HR0.out w7 (some ad)) no_val (by omega) (.tmp 83) (.tmp 90) rfl rfl (by go_simp) (by go_simp) ?_; intro g8 v8 w8 hd8 hg8 hgr8
                 have hge8 := new_ge (K := w5.heap.size) hg8 hge7 hb7.size
                 have hb8 := hb7.grown hgr8 hb7.size (fun y hy => hge7 y hy)
                 obtain ⟨A8, c8, b8, rfl, ho8, hf8⟩ := ins_sk0 hd8 hge8
                 have s8 := HBW.out w8 hb8
                 have s9 := HFAR.out w8 (.slice A8 (insK [] key).length c8) s8
                 have f8c := (HF9.out w8 hb8).1
                 have f8f := (HF9.out w8 hb8).2)
              | fail)
          all_goals
            have hin : ∀ f ∈ G, ∀ y ∈ f, w1.heap.size ≤ y ∧ y < w3.heap.size := HWG.out
            obtain ⟨G', ho9, hG'⟩ := HSET.out.2 w8 ⟨insK [] key, A8, c8, b8⟩ hb8.size (fun f hf y hy => hb8.block y (by have := hin f hf y hy; omega)) ho8 (fun y hy => ⟨hf8 y hy, ho8.lt_ y hy⟩)
            have ho9' : StsO (w8.setCell ⟨b9, off9 + j, none⟩ (.slice A8 (insK [] key).length c8)) (some ⟨b9, off9, none⟩) 3 k9 (c.sl.set j (insK [] key)) G' := ho9
            have hsz9 : (w8.setCell ⟨b9, off9 + j, none⟩ (.slice A8 (insK [] key).length c8)).heap.size = w8.heap.size := by simp [World.setCell]
            have hs8 := hb8.size
            have hwG' : Within w1.heap.size (w8.setCell ⟨b9, off9 + j, none⟩ (.slice A8 (insK [] key).length c8)).heap.size G' := fun f hf y hy => by
              rw [hsz9]
              rcases hG' f hf y hy with ⟨g, hg, hyg⟩ | hyf
              · have := hin g hg y hyg; omega
              · have h1 := hf8 y hyf
                have h2 := ho8.lt_ y hyf
                omega
            have hb9w : w1.heap.size ≤ b9 ∧ b9 < w3.heap.size := by obtain ⟨f, hf, hbf⟩ := HSET.out.1; exact hin f hf b9 hbf
            have hB9 : Below w.heap.size w (w8.setCell ⟨b9, off9 + j, none⟩ (.slice A8 (insK [] key).length c8)) := (HB.out.trans (hb8.mono HB.out.size)).setCell (p := ⟨b9, off9 + j, none⟩) (show w.heap.size ≤ b9 by omega) _
            have k19 := K1.out.same (w' := w8.setCell ⟨b9, off9 + j, none⟩ (.slice A8 (insK [] key).length c8)) ((Below.heap_setCell _ _ _ _ (show w.heap.size + 1 ≠ b9 by omega)).trans (hb8.block _ K1.out.lt))
            have k49 := K4.out.same (w' := w8.setCell ⟨b9, off9 + j, none⟩ (.slice A8 (insK [] key).length c8)) ((Below.heap_setCell _ _ _ _ (show w3.heap.size ≠ b9 by omega)).trans (hb8.block _ K4.out.lt))
            have HL9 : Hid ((⟨c.ep, c.sl.set j (insK [] key)⟩ : Ch).sl.length = 3) := by show (c.sl.set j (insK [] key)).length = 3; rw [List.length_set]; exact HL3.out
            have ho9'' := ho9'
            rw [← HL9.out] at ho9''
            have HP := Lib.hid (cacheP_fin (c := ⟨c.ep, c.sl.set j (insK [] key)⟩) (v := .int .i64 0) (w := w) (b := w.heap.size + 1) ho9'' hwG' hw1 (by omega) hB9 (.int .i64 c.ep) (.slice (some ⟨b9, off9, none⟩) (⟨c.ep, c.sl.set j (insK [] key)⟩ : Ch).sl.length k9))
            rw [HL9.out] at HP
            obtain ⟨p0, p1, pf⟩ := two_cells k19
            obtain ⟨q0, q1, qf⟩ := two_cells k49
            clear ho9 ho9' ho9'' hG' hwG' hB9 k19 k49 hb8 ho8 hf8 f8c f8f s8 s9 hd8 hg8 hgr8 hge8 x0 x1 xf y0 y1 yf z0 z1 zf cB cB9 f9
            generalize w8.setCell ⟨b9, off9 + j, none⟩ (.slice A8 (insK [] key).length c8) = w9 at *
            go_wp2
            all_goals
              refine bodyPost_ret (v := .tuple #[.agg #[.int .i64 c.ep, .slice (some ⟨b9, off9, none⟩) 3 k9], .int .i64 0]) ?_ rfl ?_
              · rw [results_cell_tmp rfl]
                go_simp
              · rw [HV.out.1, HV.out.2, HC1.out.1, HC1.out.2]
                exact HP.out
      · skip
        go_upto_region 14 with (fail)
        obtain ⟨bB, oB, rfl, _, _, _⟩ := IB.out.at_ (k := 0) (by omega)
        have hqd : q ≤ d := by omega
        have hqn : (q : Int) ≤ (xs.length : Int) := by omega
        have HBW : Hid (∀ W', Below w5.heap.size w5 W' → (W'.cell? ⟨w3.heap.size, 1, none⟩ = some (.slice (some ⟨b9, off9, none⟩) 3 k9) ∧ W'.cell? ⟨w.heap.size, 1, none⟩ = some (.slice (some ⟨b, off, none⟩) 3 k) ∧ W'.cell? ⟨b, off + j, none⟩ = some (.slice (some ⟨bB, oB, none⟩) xs.length d))) := fun W' hb => ⟨(hb.cell (p := ⟨w3.heap.size, 1, none⟩) (show w3.heap.size < w5.heap.size by omega)).trans y1, (hb.cell (p := ⟨w.heap.size, 1, none⟩) (show w.heap.size < w5.heap.size by omega)).trans z1, (hb.cell (p := ⟨b, off + j, none⟩) hbz).trans cB⟩
        have HRT : Hid (∀ W', Below w5.heap.size w5 W' → Row 0 w5.heap.size W' (some ⟨bB, oB, none⟩) q d 1 ((xs.take q).map (Value.int .i64))) := fun W' hb => by
          have h := (ints_topS IB.out (Nat.zero_le 0)).below hb (Nat.le_refl _)
          have h2 := h.sub_ (k := 0) (m := q) (by omega)
          rw [Nat.add_zero, List.drop_zero] at h2
          exact ints_row h2
        have HRD : Hid (∀ W', Below w5.heap.size w5 W' → Row 0 w5.heap.size W' (if d = q then some ⟨bB, oB, none⟩ else some ⟨bB, oB + q, none⟩) (xs.length - q) (d - q) 1 ((xs.drop q).map (Value.int .i64))) := fun W' hb => by
          have h := (ints_topS IB.out (Nat.zero_le 0)).below hb (Nat.le_refl _)
          split
          · rename_i e
            have e2 : xs.length - q = 0 := by omega
            rw [e2, List.drop_eq_nil_of_le (by omega)]
            exact ints_row ⟨rfl, by omega, by unfold maxLen; omega, fun hn => absurd hn (by omega)⟩
          · have h2 := h.sub_ (k := q) (m := xs.length - q) (by omega)
            rw [List.take_of_length_le (by rw [List.length_drop]; exact Nat.le_refl _)] at h2
            exact ints_row h2
        have HFAR : Hid (∀ (W' : World) (v : Value), (W'.cell? ⟨w3.heap.size, 1, none⟩ = some (.slice (some ⟨b9, off9, none⟩) 3 k9) ∧ W'.cell? ⟨w.heap.size, 1, none⟩ = some (.slice (some ⟨b, off, none⟩) 3 k) ∧ W'.cell? ⟨b, off + j, none⟩ = some (.slice (some ⟨bB, oB, none⟩) xs.length d)) → ((W'.setCell ⟨b9, off9 + j, none⟩ v).cell? ⟨w3.heap.size, 1, none⟩ = some (.slice (some ⟨b9, off9, none⟩) 3 k9) ∧ (W'.setCell ⟨b9, off9 + j, none⟩ v).cell? ⟨w.heap.size, 1, none⟩ = some (.slice (some ⟨b, off, none⟩) 3 k) ∧ (W'.setCell ⟨b9, off9 + j, none⟩ v).cell? ⟨b, off + j, none⟩ = some (.slice (some ⟨bB, oB, none⟩) xs.length d))) := fun W' v h =>
          ⟨(World.cell?_of_block (a := ⟨w3.heap.size, 1, none⟩) (Below.heap_setCell _ _ _ _ (show w3.heap.size ≠ b9 by omega))).trans h.1, (World.cell?_of_block (a := ⟨w.heap.size, 1, none⟩) (Below.heap_setCell _ _ _ _ (show w.heap.size ≠ b9 by omega))).trans h.2.1, (World.cell?_of_block (a := ⟨b, off + j, none⟩) (Below.heap_setCell _ _ _ _ (show b ≠ b9 by omega))).trans h.2.2⟩
        have hbE : Below w5.heap.size w5 (w5.alloc (.cells #[] 3)) := (Below.refl _ _).alloc (Nat.le_refl _) _
        have hbK : Below w5.heap.size w5 (w5.alloc (.cells #[.int .i64 key] 3)) := (Below.refl _ _).alloc (Nat.le_refl _) _
        have hbEK := hbE.alloc hbE.size (.cells #[.int .i64 key] 3)
        have hbKE := hbK.alloc hbK.size (.cells #[] 3)
        have S0 := Lib.hid (HBW.out w5.drew (below_dr (Below.refl _ _) (d := 1)))
        have SE := Lib.hid (HBW.out (w5.alloc (.cells #[] 3)).drew (below_dr hbE (d := 1)))
        have SK := Lib.hid (HBW.out (w5.alloc (.cells #[.int .i64 key] 3)).drew (below_dr hbK (d := 1)))
        have SEK := Lib.hid (HBW.out ((w5.alloc (.cells #[] 3)).alloc (.cells #[.int .i64 key] 3)).drew (below_dr hbEK (d := 1)))
        have SKE := Lib.hid (HBW.out ((w5.alloc (.cells #[.int .i64 key] 3)).alloc (.cells #[] 3)).drew (below_dr hbKE (d := 1)))
        have BE : Hid (Below w5.heap.size w5 (w5.alloc (.cells #[] 3)).drew) := below_dr hbE (d := 1)
        have BEK : Hid (Below w5.heap.size w5 ((w5.alloc (.cells #[] 3)).alloc (.cells #[.int .i64 key] 3)).drew) := below_dr hbEK (d := 1)
        have BKE : Hid (Below w5.heap.size w5 ((w5.alloc (.cells #[.int .i64 key] 3)).alloc (.cells #[] 3)).drew) := below_dr hbKE (d := 1)
        have DE : Hid (Dest 3 1 (some w5.heap.size) (w5.alloc (.cells #[] 3)).drew (.slice (some ⟨w5.heap.size, 0, none⟩) 0 0) 0 []) := .inr ⟨_, rfl, accV_new w5.drew _ _⟩
        have DEK : Hid (Dest 3 1 (some w5.heap.size) ((w5.alloc (.cells #[] 3)).alloc (.cells #[.int .i64 key] 3)).drew (.slice (some ⟨w5.heap.size, 0, none⟩) 0 0) 0 []) := .inr ⟨_, rfl, (accV_new w5.drew _ _).alloc (.cells #[.int .i64 key] 3)⟩
        have DKE : Hid (Dest 3 1 (some (w5.heap.size + 1)) ((w5.alloc (.cells #[.int .i64 key] 3)).alloc (.cells #[] 3)).drew (.slice (some ⟨w5.heap.size + 1, 0, none⟩) 0 0) 0 []) := key_dest w5 key
        have REK : Hid (Row (w5.heap.size + 1) (w5.heap.size + 1 + 1) ((w5.alloc (.cells #[] 3)).alloc (.cells #[.int .i64 key] 3)).drew (some ⟨w5.heap.size + 1, 0, none⟩) 1 1 1 [.int .i64 key]) := key_row1 w5 key
        have RKE : Hid (Row w5.heap.size (w5.heap.size + 1) ((w5.alloc (.cells #[.int .i64 key] 3)).alloc (.cells #[] 3)).drew (some ⟨w5.heap.size, 0, none⟩) 1 1 1 [.int .i64 key]) := key_row2 w5 key
        have hqi : decide ((q : Int) < 0) = false := by simp
        clear hbE hbK hbEK hbKE
        go_region_held3 (fun w' => w'.cell? ⟨w3.heap.size, 1, none⟩ = some (.slice (some ⟨b9, off9, none⟩) 3 k9) ∧ w'.cell? ⟨w.heap.size, 1, none⟩ = some (.slice (some ⟨b, off, none⟩) 3 k) ∧ w'.cell? ⟨b, off + j, none⟩ = some (.slice (some ⟨bB, oB, none⟩) xs.length d))
          (first | with_reducible exact S0.out | with_reducible exact SE.out | with_reducible exact SK.out | with_reducible exact SEK.out | with_reducible exact SKE.out | with_reducible exact s6 | with_reducible exact s6k | with_reducible exact s7 | with_reducible exact s8 | with_reducible exact s9 | fail)
          (first
            | (refine step_appD elInt _ _ _ _ _ DE.out _ _ _ _ _ _ (HRT.out _ BE.out) (ints_one_cell _) (by omega) (.tmp 72) (.tmp 79) rfl rfl (by go_simp) (by go_simp) ?_; intro g6 v6 w6 hd6 hg6 hgr6
               rw [List.nil_append, Nat.zero_add] at hd6
               have hge6 := new_ge (K := w5.heap.size) hg6 (fun y hy => by cases hy; exact Nat.le_refl _) BE.out.size
               have hb6 := BE.out.grown hgr6 BE.out.size (fun y hy => by simp at hy; omega)
               have s6 := HBW.out w6 hb6
               have s6k := HBW.out _ (hb6.alloc hb6.size (.cells #[.int .i64 key] 3)))
            | (refine step_appD elInt _ _ _ _ _ DEK.out _ _ _ _ _ _ (HRT.out _ BEK.out) (ints_one_cell _) (by omega) (.tmp 72) (.tmp 79) rfl rfl (by go_simp) (by go_simp) ?_; intro g6 v6 w6 hd6 hg6 hgr6
               rw [List.nil_append, Nat.zero_add] at hd6
               have hge6 := new_ge (K := w5.heap.size) hg6 (fun y hy => by cases hy; exact Nat.le_refl _) BEK.out.size
               have hb6 := BEK.out.grown hgr6 BEK.out.size (fun y hy => by simp at hy; omega)
               have hky := row_grown REK.out hgr6 (.inl (Nat.lt_succ_self _))
               have s6 := HBW.out w6 hb6)
            | (refine step_appD elInt _ _ _ _ _ DKE.out _ _ _ _ _ _ (HRT.out _ BKE.out) (ints_one_cell _) (by omega) (.tmp 72) (.tmp 79) rfl rfl (by go_simp) (by go_simp) ?_; intro g6 v6 w6 hd6 hg6 hgr6
               rw [List.nil_append, Nat.zero_add] at hd6
               have hge6 := new_ge (K := w5.heap.size) hg6 (fun y hy => by cases hy; exact Nat.le_succ _) BKE.out.size
               have hb6 := BKE.out.grown hgr6 BKE.out.size (fun y hy => by simp at hy; omega)
               have hky := row_grown RKE.out hgr6 (.inr (Nat.le_refl _))
               have s6 := HBW.out w6 hb6)
            | (refine step_appD elInt g6 _ v6 q _ (dest_alloc hd6 (.cells #[.int .i64 key] 3)) _ _ _ _ _ _ (row_lit w6 3 [.int .i64 key] (sz := 1) rfl) (one_key key) (by omega) (.tmp 80) (.tmp 82) rfl rfl (by go_simp) (by go_simp) ?_; intro g7 v7 w7 hd7 hg7 hgr7
               have hbz := hb6.alloc hb6.size (.cells #[.int .i64 key] 3)
               have hge7 := new_ge (K := w5.heap.size) hg7 hge6 hbz.size
               have hb7 := hbz.grown hgr7 hbz.size (fun y hy => hge6 y hy)
               have s7 := HBW.out w7 hb7)
            | (refine step_appD elInt g6 w6 v6 q _ hd6 _ _ _ _ _ _ hky (one_key key) (by omega) (.tmp 80) (.tmp 82) rfl rfl (by go_simp) (by go_simp) ?_; intro g7 v7 w7 hd7 hg7 hgr7
               have hge7 := new_ge (K := w5.heap.size) hg7 hge6 hb6.size
               have hb7 := hb6.grown hgr7 hb6.size (fun y hy => hge6 y hy)
               have s7 := HBW.out w7 hb7)
            | (refine step_appD elInt g7 w7 v7 (q + 1) _ hd7 _ _ _ _ _ _ (HRD.out w7 hb7) (ints_one_cell _) (by omega) (.tmp 83) (.tmp 90) rfl rfl (by go_simp) (by go_simp) ?_; intro g8 v8 w8 hd8 hg8 hgr8
               have hge8 := new_ge (K := w5.heap.size) hg8 hge7 hb7.size
               have hb8 := hb7.grown hgr8 hb7.size (fun y hy => hge7 y hy)
               obtain ⟨A8, c8, b8, rfl, ho8, hf8⟩ := ins_sk HPL.out hq hd8 hge8
               have s8 := HBW.out w8 hb8
               have s9 := HFAR.out w8 (.slice A8 (insK xs key).length c8) s8
               have f8c := (HF9.out w8 hb8).1
               have f8f := (HF9.out w8 hb8).2)
            | fail)
        all_goals
          have hin : ∀ f ∈ G, ∀ y ∈ f, w1.heap.size ≤ y ∧ y < w3.heap.size := HWG.out
          obtain ⟨G', ho9, hG'⟩ := HSET.out.2 w8 ⟨insK xs key, A8, c8, b8⟩ hb8.size (fun f hf y hy => hb8.block y (by have := hin f hf y hy; omega)) ho8 (fun y hy => ⟨hf8 y hy, ho8.lt_ y hy⟩)
          have ho9' : StsO (w8.setCell ⟨b9, off9 + j, none⟩ (.slice A8 (insK xs key).length c8)) (some ⟨b9, off9, none⟩) 3 k9 (c.sl.set j (insK xs key)) G' := ho9
          have hsz9 : (w8.setCell ⟨b9, off9 + j, none⟩ (.slice A8 (insK xs key).length c8)).heap.size = w8.heap.size := by simp [World.setCell]
          have hs8 := hb8.size
          have hwG' : Within w1.heap.size (w8.setCell ⟨b9, off9 + j, none⟩ (.slice A8 (insK xs key).length c8)).heap.size G' := fun f hf y hy => by
            rw [hsz9]
            rcases hG' f hf y hy with ⟨g, hg, hyg⟩ | hyf
            · have := hin g hg y hyg; omega
            · have h1 := hf8 y hyf
              have h2 := ho8.lt_ y hyf
              omega
          have hb9w : w1.heap.size ≤ b9 ∧ b9 < w3.heap.size := by obtain ⟨f, hf, hbf⟩ := HSET.out.1; exact hin f hf b9 hbf
          have hB9 : Below w.heap.size w (w8.setCell ⟨b9, off9 + j, none⟩ (.slice A8 (insK xs key).length c8)) := (HB.out.trans (hb8.mono HB.out.size)).setCell (p := ⟨b9, off9 + j, none⟩) (show w.heap.size ≤ b9 by omega) _
          have k19 := K1.out.same (w' := w8.setCell ⟨b9, off9 + j, none⟩ (.slice A8 (insK xs key).length c8)) ((Below.heap_setCell _ _ _ _ (show w.heap.size + 1 ≠ b9 by omega)).trans (hb8.block _ K1.out.lt))
          have k49 := K4.out.same (w' := w8.setCell ⟨b9, off9 + j, none⟩ (.slice A8 (insK xs key).length c8)) ((Below.heap_setCell _ _ _ _ (show w3.heap.size ≠ b9 by omega)).trans (hb8.block _ K4.out.lt))
          have HL9 : Hid ((⟨c.ep, c.sl.set j (insK xs key)⟩ : Ch).sl.length = 3) := by show (c.sl.set j (insK xs key)).length = 3; rw [List.length_set]; exact HL3.out
          have ho9'' := ho9'
          rw [← HL9.out] at ho9''
          have HP := Lib.hid (cacheP_fin (c := ⟨c.ep, c.sl.set j (insK xs key)⟩) (v := .int .i64 0) (w := w) (b := w.heap.size + 1) ho9'' hwG' hw1 (by omega) hB9 (.int .i64 c.ep) (.slice (some ⟨b9, off9, none⟩) (⟨c.ep, c.sl.set j (insK xs key)⟩ : Ch).sl.length k9))
          rw [HL9.out] at HP
          obtain ⟨p0, p1, pf⟩ := two_cells k19
          obtain ⟨q0, q1, qf⟩ := two_cells k49
          clear ho9 ho9' ho9'' hG' hwG' hB9 k19 k49 hb8 ho8 hf8 f8c f8f s8 s9 hd8 hg8 hgr8 hge8 x0 x1 xf y0 y1 yf z0 z1 zf cB cB9 f9
          generalize w8.setCell ⟨b9, off9 + j, none⟩ (.slice A8 (insK xs key).length c8) = w9 at *
          go_wp2
          all_goals
            refine bodyPost_ret (v := .tuple #[.agg #[.int .i64 c.ep, .slice (some ⟨b9, off9, none⟩) 3 k9], .int .i64 0]) ?_ rfl ?_
            · rw [results_cell_tmp rfl]
              go_simp
            · rw [HV.out.1, HV.out.2, HC1.out.1, HC1.out.2]
              exact HP.out

end Sp8
end Go.Proofs.Ytmmnpmfkpieoiaa
