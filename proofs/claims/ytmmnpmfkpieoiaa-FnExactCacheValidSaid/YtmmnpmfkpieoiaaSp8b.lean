/-
  Contracts of the model's chapter 13: copies of caches.
-/
import Derived.Test.YtmmnpmfkpieoiaaSp8
namespace Go.Proofs.Ytmmnpmfkpieoiaa
open Go.RowKit
namespace Sp8
open Il Sl Fo Cm Cs Sg Gm

/-- What l13Copy has gathered. -/
def CRel (w wr : World) (A : Option Addr) (n k : Nat) (c : Ch) (v : Value) (j : Nat) : Prop :=
  Blk wr w.heap.size #[.int .i64 c.ep, .slice A n k] 26 ∧ Blk wr (w.heap.size + 1 + 1) #[.int .i64 c.ep, v] 26 ∧ Blk wr (w.heap.size + 1) #[.int .i64 0, .slice none 0 0] 26 ∧ Sts 0 w.heap.size wr A n k c.sl ∧ Below w.heap.size w wr ∧
  ∃ ss : List Sk, GatK (w.heap.size + 1 + 1 + 1) wr.heap.size wr v ss ∧ ss.map (·.xs) = c.sl.take j
theorem three_blocks (w : World) (a b c : Array Value) (t1 t2 t3 : TypeId) :
    Blk (((w.alloc (.cells a t1)).alloc (.cells b t2)).alloc (.cells c t3)) w.heap.size a t1 ∧ Blk (((w.alloc (.cells a t1)).alloc (.cells b t2)).alloc (.cells c t3)) (w.heap.size + 1) b t2 ∧ Blk (((w.alloc (.cells a t1)).alloc (.cells b t2)).alloc (.cells c t3)) (w.heap.size + 1 + 1) c t3 ∧
    (((w.alloc (.cells a t1)).alloc (.cells b t2)).alloc (.cells c t3)).heap.size = w.heap.size + 1 + 1 + 1 ∧ Below w.heap.size w (((w.alloc (.cells a t1)).alloc (.cells b t2)).alloc (.cells c t3)) := by
  have h1 := (Below.refl w.heap.size w).alloc (Nat.le_refl _) (.cells a t1)
  have h2 := h1.alloc h1.size (.cells b t2)
  have h3 := h2.alloc h2.size (.cells c t3)
  have e1 : (w.alloc (.cells a t1)).heap.size = w.heap.size + 1 := by simp
  have e2 : ((w.alloc (.cells a t1)).alloc (.cells b t2)).heap.size = w.heap.size + 1 + 1 := by simp
  refine ⟨?_, ?_, ?_, by simp, h3⟩
  · exact (Below.heap_alloc _ _ _ (by omega)).trans ((Below.heap_alloc _ _ _ (by omega)).trans (heap_alloc_new _ _))
  · have := heap_alloc_new (w.alloc (.cells a t1)) (.cells b t2)
    rw [e1] at this
    exact (Below.heap_alloc _ _ _ (by omega)).trans this
  · have := heap_alloc_new ((w.alloc (.cells a t1)).alloc (.cells b t2)) (.cells c t3)
    rw [e2] at this
    exact this
theorem two_blocks (w : World) (a b : Array Value) (t1 t2 : TypeId) :
    Blk ((w.alloc (.cells a t1)).alloc (.cells b t2)) w.heap.size a t1 ∧ Blk ((w.alloc (.cells a t1)).alloc (.cells b t2)) (w.heap.size + 1) b t2 ∧ ((w.alloc (.cells a t1)).alloc (.cells b t2)).heap.size = w.heap.size + 1 + 1 ∧ Below w.heap.size w ((w.alloc (.cells a t1)).alloc (.cells b t2)) := by
  have h1 := (Below.refl w.heap.size w).alloc (Nat.le_refl _) (.cells a t1)
  have h2 := h1.alloc h1.size (.cells b t2)
  have e1 : (w.alloc (.cells a t1)).heap.size = w.heap.size + 1 := by simp
  refine ⟨(Below.heap_alloc _ _ _ (by omega)).trans (heap_alloc_new _ _), ?_, by simp, h2⟩
  have := heap_alloc_new (w.alloc (.cells a t1)) (.cells b t2)
  rw [e1] at this
  exact this
theorem take_slot {sl : List (List Int)} {j : Nat} (h : j < sl.length) : sl.take j ++ [slAt sl j] = sl.take (j + 1) := by
  rw [List.take_succ_eq_append_getElem h]
  unfold slAt
  rw [List.getD_eq_getElem?_getD, List.getElem?_eq_getElem h]
  rfl
/-- A clone of a list by append to a new one, as a slot. -/
theorem sk_new {lo B : Nat} {W w5 : World} {g5 : Option Nat} {v5 : Value} {xs : List Int} (hd : Dest 3 1 g5 w5 v5 xs.length (xs.map (Value.int .i64))) (hg : g5 = some B ∨ ∃ k, g5 = some k ∧ W.heap.size ≤ k) (h1 : lo ≤ B) (h2 : lo ≤ W.heap.size) :
    ∃ A c b, v5 = .slice A xs.length c ∧ SkO w5 ⟨xs, A, c, b⟩ ∧ ∀ y ∈ fpk ⟨xs, A, c, b⟩, lo ≤ y := by
  obtain ⟨A, c, b, rfl, ho, hk⟩ := dest_ints hd
  refine ⟨A, c, b, rfl, ho, fun y hy => ?_⟩
  obtain ⟨hn, rfl⟩ := mem_fp.1 hy
  dsimp only at hn ⊢
  obtain ⟨k, e, _⟩ := Sg.dest_blk hd hn
  have h3 := hk k e
  rcases hg with h | ⟨q, h, hq⟩
  · rw [e] at h; simp at h; omega
  · rw [e] at h; simp at h; omega
theorem cr_step {w wr w5 w6 : World} {A A5 : Option Addr} {n k j c5 b5 : Nat} {c : Ch} {v v6 : Value} {xs : List Int} {ss : List Sk} (k0 : Blk wr w.heap.size #[.int .i64 c.ep, .slice A n k] 26) (k1 : Blk wr (w.heap.size + 1) #[.int .i64 0, .slice none 0 0] 26) (k2 : Blk wr (w.heap.size + 1 + 1) #[.int .i64 c.ep, v] 26)
    (hst : Sts 0 w.heap.size wr A n k c.sl) (hbw : Below w.heap.size w wr) (hss : ss.map (·.xs) = c.sl.take j) (hts : c.sl.take j ++ [xs] = c.sl.take (j + 1)) (hb5 : Below wr.heap.size wr w5)
    (hg6 : GatK (w.heap.size + 1 + 1 + 1) w6.heap.size w6 v6 (ss ++ [⟨xs, A5, c5, b5⟩])) (hb6 : Below (w.heap.size + 1 + 1 + 1) w5 w6) (hk6 : ∀ y, y < w5.heap.size → y < w.heap.size + 1 + 1 + 1 ∨ wr.heap.size ≤ y → w6.heap[y]? = w5.heap[y]?) :
    CRel w (w6.setCell ⟨w.heap.size + 1 + 1, 1, none⟩ v6) A n k c v6 (j + 1) := by
  have hs5 := hb5.size
  have hs6 := hb6.size
  have hw3 := k2.lt
  have hfar : ∀ x, x < wr.heap.size → x < w.heap.size + 1 + 1 + 1 → x ≠ w.heap.size + 1 + 1 → (w6.setCell ⟨w.heap.size + 1 + 1, 1, none⟩ v6).heap[x]? = wr.heap[x]? := fun x h1 h2 h3 =>
    (Below.heap_setCell _ _ _ _ h3).trans ((hk6 x (by omega) (.inl h2)).trans (hb5.block x h1))
  have hsz6 : (w6.setCell ⟨w.heap.size + 1 + 1, 1, none⟩ v6).heap.size = w6.heap.size := by simp [World.setCell]
  have hbl6 : Below w.heap.size wr (w6.setCell ⟨w.heap.size + 1 + 1, 1, none⟩ v6) := ((hb5.mono (by omega)).trans (hb6.mono (by omega))).setCell (p := ⟨w.heap.size + 1 + 1, 1, none⟩) (show w.heap.size ≤ w.heap.size + 1 + 1 by omega) v6
  refine ⟨k0.same (hfar _ (by omega) (by omega) (by omega)), blk_set1 ((k2.below hb5 (Nat.le_refl _)).same (hk6 _ (by omega) (.inl (by omega)))), k1.same (hfar _ (by omega) (by omega) (by omega)), ?_, hbw.trans hbl6, ss ++ [⟨xs, A5, c5, b5⟩], ?_, ?_⟩
  · exact hst.below' hbl6 (Nat.le_refl _)
  · exact (hg6.keep (by omega) fun x h1 h2 h3 => Below.heap_setCell _ _ _ _ (show x ≠ w.heap.size + 1 + 1 by omega)).mono (Nat.le_refl _) (by omega)
  · rw [List.map_append, hss]
    exact hts
/-- A copy of a cache, its slots gathered. -/
def CopyG (c : Ch) (w : World) (e : Ending) (w' : World) : Prop :=
  ∃ A k ss, e = .returned (.agg #[.int .i64 c.ep, .slice A c.sl.length k]) ∧ GatK w.heap.size w'.heap.size w' (.slice A c.sl.length k) ss ∧ ss.map (·.xs) = c.sl ∧ Below w.heap.size w w'
theorem CopyG.o {c : Ch} {w : World} {e : Ending} {w' : World} (h : CopyG c w e w') : CacheO c w e w' := by
  obtain ⟨A, k, ss, rfl, hg, hs, hb⟩ := h
  obtain ⟨A', k', G, e, ho, hw⟩ := hg.own
  have hl : ss.length = c.sl.length := by rw [← hs, List.length_map]
  rw [hs, hl] at ho
  rw [hl] at e
  simp only [Value.slice.injEq, true_and] at e
  obtain ⟨rfl, rfl⟩ := e
  exact ⟨A, k, G, rfl, ho, hw, hb⟩
set_option maxRecDepth 20000 in
set_option maxHeartbeats 2000000 in
theorem l13Copy (c : Ch) (A : Option Addr) (n k lo hi : Nat) (w : World) (hx : Sts lo hi w A n k c.sl) (hn : n ≤ 1000) (hh : ∀ x ∈ c.sl, x.length ≤ 1000) :
    Calls Try.prog 54 #[.agg #[.int .i64 c.ep, .slice A n k]] w (CopyG c w) := by
  have hk1 := hx.max_
  have hk2 := hx.cap_
  have HL := Lib.hid hx.len_
  unfold maxLen at hk1
  obtain ⟨zb0, zb1, zb2, hs3, hb3⟩ := three_blocks w #[.int .i64 c.ep, .slice A n k] #[.int .i64 0, .slice none 0 0] #[.int .i64 c.ep, .slice none 0 0] 26 26 26
  have HR0 : Hid (CRel w (((w.alloc (.cells #[.int .i64 c.ep, .slice A n k] 26)).alloc (.cells #[.int .i64 0, .slice none 0 0] 26)).alloc (.cells #[.int .i64 c.ep, .slice none 0 0] 26)) A n k c (.slice none 0 0) 0) :=
    ⟨zb0, zb2, zb1, (hx.top (Nat.zero_le _)).below hb3 (Nat.le_refl _), hb3, [], GatK.nil_ _, rfl⟩
  have HH := Lib.hid hh
  clear hx zb0 zb1 zb2 hs3 hb3 hh
  go_enter Try.func54, Try.ntmps54
  go_wp2
  go_loopw [4] (fun i wr => ∃ (j : Nat) (v : Value), j ≤ n ∧ i = .int .i64 j ∧ Hid (CRel w wr A n k c v j)) (fun i _ => n - (intOf i).toNat)
  case atStart => exact ⟨0, _, Nat.zero_le _, rfl, HR0.out⟩
  case round =>
    obtain ⟨j, v, hj, rfl, hR⟩ := hrel
    clear HR0
    obtain ⟨k0, k2, k1, hst, hbw, ss, hgk, hss⟩ := hR.out
    clear hR
    by_cases hlt : j < n
    · obtain ⟨b, off, B, e, rfl, _, _, hbz, cB, iB⟩ := hst.at_ hlt
      have hxl : (slAt c.sl j).length ≤ 1000 := by
        have := HH.out (slAt c.sl j)
        refine this ?_
        unfold slAt
        rw [List.getD_eq_getElem?_getD, List.getElem?_eq_getElem (by rw [HL.out]; exact hlt)]
        exact List.getElem_mem _
      have HTS := Lib.hid (take_slot (sl := c.sl) (j := j) (by rw [HL.out]; exact hlt))
      have hssl : ss.length ≤ 100000 := by
        have h1 : (ss.map (·.xs)).length = (c.sl.take j).length := by rw [hss]
        rw [List.length_map, List.length_take] at h1
        omega
      generalize slAt c.sl j = xs at *
      obtain ⟨z0, z1, zf⟩ := two_cells k0
      obtain ⟨y0, y1, yf⟩ := two_cells k2
      have hal : ∀ o, Below wr.heap.size wr (wr.alloc o) := fun o => (Below.refl _ _).alloc (Nat.le_refl _) _
      have z1a : ∀ o, (wr.alloc o).cell? ⟨w.heap.size, 1, none⟩ = some (.slice (some ⟨b, off, none⟩) n k) := fun o => ((hal o).cell (p := ⟨w.heap.size, 1, none⟩) k0.lt).trans z1
      have y1a : ∀ o, (wr.alloc o).cell? ⟨w.heap.size + 1 + 1, 1, none⟩ = some v := fun o => ((hal o).cell (p := ⟨w.heap.size + 1 + 1, 1, none⟩) k2.lt).trans y1
      have cBa : ∀ o, (wr.alloc o).cell? ⟨b, off + j, none⟩ = some (.slice B xs.length e) := fun o => ((hal o).cell (p := ⟨b, off + j, none⟩) hbz).trans cB
      have HALD : Hid (Below wr.heap.size wr (wr.alloc (.cells #[] 3)).drew) := below_dr (hal _) (d := 1)
      have HD : Hid (Dest 3 1 (some wr.heap.size) (wr.alloc (.cells #[] 3)).drew (.slice (some ⟨wr.heap.size, 0, none⟩) 0 0) 0 []) := .inr ⟨_, rfl, accV_new wr.drew _ _⟩
      have HRW := Lib.hid (ints_row (iB.below HALD.out (Nat.le_refl _)))
      have K0 := Lib.hid k0
      have K1 := Lib.hid k1
      have K2 := Lib.hid k2
      have HST := Lib.hid hst
      have HBW := Lib.hid hbw
      have HGK := Lib.hid hgk
      have HSS := Lib.hid hss
      have hw3 : w.heap.size + 1 + 1 < wr.heap.size := k2.lt
      clear k0 k1 k2 hst hbw hgk hss iB hal
      go_upto_region 5 with (fail)
      go_region_law (first
        | (refine step_appD elInt _ _ _ _ _ HD.out _ _ _ _ _ _ HRW.out (ints_one_cell _) (by omega) (.tmp 17) (.tmp 22) rfl rfl (by go_simp) (by go_simp) ?_; intro g5 v5 w5 hd5 hg5 hgr5; rw [List.nil_append, Nat.zero_add] at hd5; obtain ⟨A5, c5, b5, rfl, ho5, hf5⟩ := sk_new hd5 hg5 (Nat.le_refl _) HALD.out.size; have hb5 : Below wr.heap.size wr w5 := HALD.out.grown hgr5 (by simp) (fun k hk => by simp at hk; omega)
           have y15 := ((hb5.cell (p := ⟨w.heap.size + 1 + 1, 1, none⟩) hw3).trans y1)
           have y15a : ∀ o, (w5.alloc o).cell? ⟨w.heap.size + 1 + 1, 1, none⟩ = some v := fun o => (((Below.refl w5.heap.size w5).alloc (Nat.le_refl _) o).cell (p := ⟨w.heap.size + 1 + 1, 1, none⟩) (Nat.lt_of_lt_of_le hw3 hb5.size)).trans y15)
        | (refine step_gatK (HGK.out.below hb5 (Nat.le_refl _)) ⟨xs, A5, c5, b5⟩ ho5 hf5 hw3 hb5.size hssl (.tmp 16) (.tmp 24) rfl rfl (by go_simp) (by go_simp) ?_; intro v6 w6 hg6 hb6 hk6; obtain ⟨A6, m6, c6, rfl⟩ := hg6.sl
           obtain ⟨y6, y61, y6f⟩ := two_cells ((K2.out.below hb5 (Nat.le_refl _)).same (hk6 _ (Nat.lt_of_lt_of_le hw3 hb5.size) (.inl (by omega))))))
      all_goals
        have HR6 := Lib.hid (cr_step K0.out K1.out K2.out HST.out HBW.out HSS.out HTS.out hb5 hg6 hb6 hk6)
        clear hg6 hb6 hk6 hb5 ho5 hf5 hd5 hg5 hgr5 z0 z1 zf y0 y1 yf z1a y1a cBa y15 y15a y6 y61 y6f cB HD HRW HALD HGK K0 K1 K2 HST
        go_wp2
        go_roundw
        case rel => exact ⟨j + 1, _, by omega, by go_num, HR6.out⟩
        case measure => simp [intOf]; omega
    · obtain rfl : j = n := by omega
      have hss' : ss.map (·.xs) = c.sl := by rw [hss, List.take_of_length_le (by rw [HL.out]; exact Nat.le_refl _)]
      obtain ⟨A9, c9, G, rfl, ho, hw9⟩ := hgk.own
      have hlen : ss.length = c.sl.length := by rw [← hss', List.length_map]
      rw [hss'] at ho
      rw [hlen] at ho k2
      have hsz : ((wr.setCell ⟨w.heap.size + 1, 0, none⟩ (.int .i64 c.ep)).setCell ⟨w.heap.size + 1, 1, none⟩ (.slice A9 c.sl.length c9)).heap.size = wr.heap.size := by simp [World.setCell]
      have hgk' := hgk
      rw [hlen] at hgk'
      have HP : Hid (CopyG c w (.returned (.agg #[.int .i64 c.ep, .slice A9 c.sl.length c9])) ((wr.setCell ⟨w.heap.size + 1, 0, none⟩ (.int .i64 c.ep)).setCell ⟨w.heap.size + 1, 1, none⟩ (.slice A9 c.sl.length c9))) :=
        ⟨A9, c9, ss, rfl, (hgk'.keep (by omega) fun x h1 h2 h3 => (Below.heap_setCell _ _ _ _ (show x ≠ w.heap.size + 1 by omega)).trans (Below.heap_setCell _ _ _ _ (show x ≠ w.heap.size + 1 by omega))).mono (by omega) (by omega), hss',
          (hbw.setCell (p := ⟨w.heap.size + 1, 0, none⟩) (show w.heap.size ≤ w.heap.size + 1 by omega) _).setCell (p := ⟨w.heap.size + 1, 1, none⟩) (show w.heap.size ≤ w.heap.size + 1 by omega) _⟩
      obtain ⟨z0, z1, zf⟩ := two_cells k0
      obtain ⟨y0, y1, yf⟩ := two_cells k2
      obtain ⟨x0, x1, xf⟩ := two_cells k1
      clear ho hw9 hgk hgk' hss hss' hsz hst hbw k0 k1 k2 hlt
      go_wp2
      refine bodyPost_ret (v := .agg #[.int .i64 c.ep, .slice A9 c.sl.length c9]) ?_ rfl ?_
      · rw [results_cell1 rfl]
        go_simp
      · exact HP.out

end Sp8
end Go.Proofs.Ytmmnpmfkpieoiaa
