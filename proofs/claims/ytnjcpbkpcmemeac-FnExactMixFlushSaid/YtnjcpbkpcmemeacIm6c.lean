/-
  Contracts of the program's MixTake and MixEpoch.
-/
import Derived.Test.YtnjcpbkpcmemeacIm6b
import Derived.Deep.Cut
namespace Go.Proofs.Ytnjcpbkpcmemeac
open Go.RowKit
namespace Im6
open Il Gm Mm Tm Lm Pm Pq Hlp5 Sl Mm6 Im2 Im5
open Sp6 (three_cells MixB mix_zero lacksTo newM mix_no)

theorem mixP_fin {lo mid hi b : Nat} {w wF : World} {A B : Option Addr} {c d : Nat} {y : Mx} (hm : MixG lo mid hi wF (.slice A y.seen.length c) (.slice B y.pool.length d) y) (hhi : hi ≤ wF.heap.size) (hb : b < lo) (hwb : w.heap.size ≤ b) (hbw : Below w.heap.size w wF) (v v0 v1 v2 : Value) :
    MixP y v w (.returned (.tuple #[.agg #[.int .i64 y.sec, .slice A y.seen.length c, .slice B y.pool.length d], v])) (((wF.setCell ⟨b, 0, none⟩ v0).setCell ⟨b, 1, none⟩ v1).setCell ⟨b, 2, none⟩ v2) := by
  obtain ⟨G, h1, h2⟩ := mixG_fin hm hb v0 v1 v2
  have hs : (((wF.setCell ⟨b, 0, none⟩ v0).setCell ⟨b, 1, none⟩ v1).setCell ⟨b, 2, none⟩ v2).heap.size = wF.heap.size := by simp [World.setCell]
  exact ⟨A, c, B, d, G, rfl, h1, fun f hf x hx => by have := h2 f hf x hx; omega, ((hbw.setCell hwb _).setCell hwb _).setCell hwb _⟩

set_option maxRecDepth 20000 in
set_option maxHeartbeats 8000000 in
theorem MixTakeP (x : Mx) (p : Pkt) (A B A2 B2 : Option Addr) (c d c2 d2 lo hi l1 h1 l2 h2 : Nat) (w : World) (hx : MixR lo hi w A x.seen.length c B x.pool.length d x) (i1 : Ints l1 h1 w A2 p.hd.length c2 p.hd) (i2 : Ints l2 h2 w B2 p.bd.length d2 p.bd) :
    Calls Try.prog 23 #[.agg #[.int .i64 x.sec, .slice A x.seen.length c, .slice B x.pool.length d], .agg #[.int .i64 p.el, .slice A2 p.hd.length c2, .int .i64 p.tag, .slice B2 p.bd.length d2]] w (MixP (mtakeM x p) (.int .i64 (mtakeC x p)) w) := by
  obtain ⟨zb0, zb1, zb2, hs2, hb2⟩ := Hlp6.three_blocks w #[.int .i64 x.sec, .slice A x.seen.length c, .slice B x.pool.length d] #[.int .i64 p.el, .slice A2 p.hd.length c2, .int .i64 p.tag, .slice B2 p.bd.length d2] #[.int .i64 0, .slice none 0 0, .slice none 0 0] 26 37 26
  have HX := Lib.hid (hx.below hb2 (Nat.le_refl _))
  have I1 := Lib.hid (i1.below hb2 (Nat.le_refl _))
  have I2 := Lib.hid (i2.below hb2 (Nat.le_refl _))
  have Z0 := Lib.hid zb0
  have Z1 := Lib.hid zb1
  have Z2 := Lib.hid zb2
  have HB := Lib.hid hb2
  have hsz : w.heap.size + 1 + 1 < (((w.alloc (.cells #[.int .i64 x.sec, .slice A x.seen.length c, .slice B x.pool.length d] 26)).alloc (.cells #[.int .i64 p.el, .slice A2 p.hd.length c2, .int .i64 p.tag, .slice B2 p.bd.length d2] 37)).alloc (.cells #[.int .i64 0, .slice none 0 0, .slice none 0 0] 26)).heap.size := by rw [hs2]; omega
  clear hx i1 i2 zb0 zb1 zb2 hs2 hb2
  go_enter Try.func23, Try.ntmps23
  go_wp2_with fail
  generalize (((w.alloc (.cells #[.int .i64 x.sec, .slice A x.seen.length c, .slice B x.pool.length d] 26)).alloc (.cells #[.int .i64 p.el, .slice A2 p.hd.length c2, .int .i64 p.tag, .slice B2 p.bd.length d2] 37)).alloc (.cells #[.int .i64 0, .slice none 0 0, .slice none 0 0] 26)) = w2 at *
  ((with_reducible refine (MixValid x _ _ _ _ _ _ _ _ _ HX.out).mono ?_); rintro e w3 ⟨rfl, hb3⟩)
  have hs3 := hb3.size
  replace HX := Lib.hid (HX.out.below hb3 (Nat.le_refl _))
  replace I1 := Lib.hid (I1.out.below hb3 (Nat.le_refl _))
  replace I2 := Lib.hid (I2.out.below hb3 (Nat.le_refl _))
  replace Z0 := Lib.hid (Z0.out.below hb3 (Nat.le_refl _))
  replace Z1 := Lib.hid (Z1.out.below hb3 (Nat.le_refl _))
  replace Z2 := Lib.hid (Z2.out.below hb3 (Nat.le_refl _))
  replace HB := Lib.hid (HB.out.trans (hb3.mono HB.out.size))
  clear hb3
  cases hok : mixOk x
  · have HT := Lib.hid (mtake_no (p := p) (.inl hok))
    clear hok
    obtain ⟨r0, r1, r2, rf⟩ := three_cells Z2.out
    go_wp2
    refine bodyPost_ret (v := .tuple #[.agg #[.int .i64 0, .slice none 0 0, .slice none 0 0], .int .i64 4]) ?_ rfl ?_
    · rw [results_cell_tmp rfl]
      go_simp
    · rw [HT.out.1, HT.out.2]
      exact mixP_zero _ (((HB.out.setCell (show w.heap.size ≤ w.heap.size + 1 + 1 by omega) _).setCell (show w.heap.size ≤ w.heap.size + 1 + 1 by omega) _).setCell (show w.heap.size ≤ w.heap.size + 1 + 1 by omega) _)
  have HOK := Lib.hid hok
  clear hok
  obtain ⟨p0, p1, p2, p3, pf⟩ := four_cells Z1.out
  go_wp2_with fail
  ((with_reducible refine (Im5.PacketValid _ _ _ _ _ _ _ _ _ _ p.el p.tag p.hd p.bd _ I1.out I2.out).mono ?_); rintro e w4 ⟨rfl, hb4⟩)
  have hs4 := hb4.size
  replace HX := Lib.hid (HX.out.below hb4 (Nat.le_refl _))
  replace I1 := Lib.hid (I1.out.below hb4 (Nat.le_refl _))
  replace I2 := Lib.hid (I2.out.below hb4 (Nat.le_refl _))
  replace Z0 := Lib.hid (Z0.out.below hb4 (Nat.le_refl _))
  replace Z1 := Lib.hid (Z1.out.below hb4 (Nat.le_refl _))
  replace Z2 := Lib.hid (Z2.out.below hb4 (Nat.le_refl _))
  replace HB := Lib.hid (HB.out.trans (hb4.mono HB.out.size))
  clear hb4 p0 p1 p2 p3 pf
  obtain ⟨r0, r1, r2, rf⟩ := three_cells Z2.out
  cases hpk : pktOk p
  · have HT := Lib.hid (mtake_no (m := x) (.inr hpk))
    clear hpk
    go_wp2
    refine bodyPost_ret (v := .tuple #[.agg #[.int .i64 0, .slice none 0 0, .slice none 0 0], .int .i64 4]) ?_ rfl ?_
    · rw [results_cell_tmp rfl]
      go_simp
    · rw [HT.out.1, HT.out.2]
      exact mixP_zero _ (((HB.out.setCell (show w.heap.size ≤ w.heap.size + 1 + 1 by omega) _).setCell (show w.heap.size ≤ w.heap.size + 1 + 1 by omega) _).setCell (show w.heap.size ≤ w.heap.size + 1 + 1 by omega) _)
  have HPK := Lib.hid hpk
  have HT := Lib.hid (mtake_yes HOK.out hpk)
  clear hpk
  obtain ⟨q1, q2, q3⟩ := Sp6.mix_sizes HOK.out
  have HH : Hid (∀ p ∈ x.pool, p.pk.hd.length ≤ 1000 ∧ p.pk.bd.length ≤ 1000) := fun p hp => by have := q3 p hp; omega
  have HG := Lib.hid (mixOk_iff.1 HOK.out).1
  clear q3
  have hq12 : x.seen.length ≤ 12 := q1
  have hq5 : x.pool.length ≤ 5 := q2
  obtain ⟨a0, a1, a2, af⟩ := three_cells Z0.out
  go_wp2_with fail
  ((with_reducible refine (copyMix x _ _ _ _ _ _ _ HX.out (by omega) (by omega) HH.out).mono ?_); rintro e w30 ⟨A3, c3, B3, d3, mid, rfl, hmg, hb3⟩)
  clear a0 a1 a2 af r0 r1 r2 rf
  have hs30 := hb3.size
  replace HX := Lib.hid (HX.out.below hb3 (Nat.le_refl _))
  replace I1 := Lib.hid (I1.out.below hb3 (Nat.le_refl _))
  replace I2 := Lib.hid (I2.out.below hb3 (Nat.le_refl _))
  replace Z0 := Lib.hid (Z0.out.below hb3 (Nat.le_refl _))
  replace Z1 := Lib.hid (Z1.out.below hb3 (Nat.le_refl _))
  replace Z2 := Lib.hid (Z2.out.below hb3 (Nat.le_refl _))
  replace HB := Lib.hid (HB.out.trans (hb3.mono HB.out.size))
  have HMG := Lib.hid hmg
  have hm1 := hmg.2.2.1
  have hm2 := hmg.2.2.2
  clear hmg hb3
  -- the mix's copy is stored
  have hal : Below w30.heap.size w30 (w30.alloc (.cells #[.int .i64 x.sec, .slice A3 x.seen.length c3, .slice B3 x.pool.length d3] 26)) := (Below.refl _ _).alloc (Nat.le_refl _) _
  have Z6 : Hid (Blk (w30.alloc (.cells #[.int .i64 x.sec, .slice A3 x.seen.length c3, .slice B3 x.pool.length d3] 26)) w30.heap.size #[.int .i64 x.sec, .slice A3 x.seen.length c3, .slice B3 x.pool.length d3] 26) := heap_alloc_new _ _
  replace HX := Lib.hid (HX.out.below hal (Nat.le_refl _))
  replace I1 := Lib.hid (I1.out.below hal (Nat.le_refl _))
  replace I2 := Lib.hid (I2.out.below hal (Nat.le_refl _))
  replace Z0 := Lib.hid (Z0.out.below hal (Nat.le_refl _))
  replace Z1 := Lib.hid (Z1.out.below hal (Nat.le_refl _))
  replace Z2 := Lib.hid (Z2.out.below hal (Nat.le_refl _))
  replace HB := Lib.hid (HB.out.trans (hal.mono HB.out.size))
  replace HMG := Lib.hid (HMG.out.below hal (Nat.le_refl _))
  have hs40 : w30.heap.size < (w30.alloc (.cells #[.int .i64 x.sec, .slice A3 x.seen.length c3, .slice B3 x.pool.length d3] 26)).heap.size := by simp
  clear hal
  obtain ⟨a0, a1, a2, af⟩ := three_cells Z0.out
  obtain ⟨p0, p1, p2, p3, pf⟩ := four_cells Z1.out
  go_wp2_with fail
  clear a0 a1 a2 af p0 p1 p2 p3 pf
  generalize (w30.alloc (.cells #[.int .i64 x.sec, .slice A3 x.seen.length c3, .slice B3 x.pool.length d3] 26)) = w40 at *
  ((with_reducible refine (Im5.PacketPeel _ _ _ _ _ _ _ _ _ _ x.sec p.el p.tag p.hd p.bd _ I1.out I2.out).mono ?_); rintro e w5 ⟨AM, cm, BM, dm, g1, g2, rfl, hlie, hg1, hg2, hb5⟩)
  rw [show (⟨p.el, p.hd, p.tag, p.bd⟩ : Pkt) = p from rfl] at *
  have hs5 := hb5.size
  replace HX := Lib.hid (HX.out.below hb5 (Nat.le_refl _))
  replace Z0 := Lib.hid (Z0.out.below hb5 (Nat.le_refl _))
  replace Z2 := Lib.hid (Z2.out.below hb5 (Nat.le_refl _))
  replace Z6 := Lib.hid (Z6.out.below hb5 (Nat.le_refl _))
  replace HB := Lib.hid (HB.out.trans (hb5.mono HB.out.size))
  replace HMG := Lib.hid (HMG.out.below hb5 (Nat.le_refl _))
  replace Z1 := Lib.hid (Z1.out.below hb5 (Nat.le_refl _))
  clear hb5 I1 I2
  generalize hpe : peelF x.sec p = q at *
  have HPE := Lib.hid hpe
  clear hpe
  have hal : Below w5.heap.size w5 (w5.alloc (.cells #[.int .i64 q.kind, .int .i64 q.next, .int .i64 q.pk.el, .slice AM q.pk.hd.length cm, .int .i64 q.pk.tag, .slice BM q.pk.bd.length dm] 39)) := (Below.refl _ _).alloc (Nat.le_refl _) _
  have Z8 : Hid (Blk (w5.alloc (.cells #[.int .i64 q.kind, .int .i64 q.next, .int .i64 q.pk.el, .slice AM q.pk.hd.length cm, .int .i64 q.pk.tag, .slice BM q.pk.bd.length dm] 39)) w5.heap.size #[.int .i64 q.kind, .int .i64 q.next, .int .i64 q.pk.el, .slice AM q.pk.hd.length cm, .int .i64 q.pk.tag, .slice BM q.pk.bd.length dm] 39) := heap_alloc_new _ _
  replace HX := Lib.hid (HX.out.below hal (Nat.le_refl _))
  replace Z0 := Lib.hid (Z0.out.below hal (Nat.le_refl _))
  replace Z2 := Lib.hid (Z2.out.below hal (Nat.le_refl _))
  replace Z6 := Lib.hid (Z6.out.below hal (Nat.le_refl _))
  replace HB := Lib.hid (HB.out.trans (hal.mono HB.out.size))
  replace HMG := Lib.hid (HMG.out.below hal (Nat.le_refl _))
  replace Z1 := Lib.hid (Z1.out.below hal (Nat.le_refl _))
  have HLI := Lib.hid (hlie.below hal (Nat.le_refl _))
  have hs6 : w5.heap.size < (w5.alloc (.cells #[.int .i64 q.kind, .int .i64 q.next, .int .i64 q.pk.el, .slice AM q.pk.hd.length cm, .int .i64 q.pk.tag, .slice BM q.pk.bd.length dm] 39)).heap.size := by simp
  clear hal hlie
  cases hok : peelOk x.sec p
  · have HC := Lib.hid (takeC_wrong hok)
    have HM : Hid (takeM x p = x) := takeM_no (by rw [HC.out]; decide)
    clear hok
    obtain ⟨u0, u1, u2, uf⟩ := three_cells Z6.out
    obtain ⟨r0, r1, r2, rf⟩ := three_cells Z2.out
    go_wp2
    refine bodyPost_ret (v := .tuple #[.agg #[.int .i64 x.sec, .slice A3 x.seen.length c3, .slice B3 x.pool.length d3], .int .i64 2]) ?_ rfl ?_
    · rw [results_cell_tmp rfl]
      go_simp
    · rw [HT.out.1, HT.out.2, HC.out, HM.out]
      exact mixP_fin HMG.out (by omega) (by omega) (by omega) HB.out _ _ _ _
  have HOK := Lib.hid hok
  clear hok
  obtain ⟨a0, a1, a2, af⟩ := three_cells Z0.out
  obtain ⟨p0, p1, p2, p3, pf⟩ := four_cells Z1.out
  go_wp2_with fail
  generalize (w5.alloc (.cells #[.int .i64 q.kind, .int .i64 q.next, .int .i64 q.pk.el, .slice AM q.pk.hd.length cm, .int .i64 q.pk.tag, .slice BM q.pk.bd.length dm] 39)) = w6 at *
  ((with_reducible refine (Grp.iShared x.sec p.el _).mono ?_); rintro e w' ⟨rfl, rfl⟩)
  generalize hse : mulG x.sec p.el = s at *
  have HSE := Lib.hid hse
  clear hse p0 p1 p2 p3 pf
  go_wp2_with fail
  ((with_reducible refine (contains _ _ _ _ _ x.seen s _ HX.out.keys).mono ?_); rintro e w' ⟨rfl, rfl⟩)
  cases hct : has x.seen s
  case true =>
    have HC : Hid (takeC x p = 1) := takeC_replay HOK.out (by rw [HSE.out]; exact hct)
    have HM : Hid (takeM x p = x) := takeM_no (by rw [HC.out]; decide)
    clear hct
    obtain ⟨u0, u1, u2, uf⟩ := three_cells Z6.out
    obtain ⟨r0, r1, r2, rf⟩ := three_cells Z2.out
    go_wp2
    refine bodyPost_ret (v := .tuple #[.agg #[.int .i64 x.sec, .slice A3 x.seen.length c3, .slice B3 x.pool.length d3], .int .i64 1]) ?_ rfl ?_
    · rw [results_cell_tmp rfl]
      go_simp
    · rw [HT.out.1, HT.out.2, HC.out, HM.out]
      exact mixP_fin HMG.out (by omega) (by omega) (by omega) HB.out _ _ _ _
  case false =>
  have HCT := Lib.hid hct
  clear hct
  by_cases hf : 12 ≤ x.seen.length ∨ 5 ≤ x.pool.length
  · have HC : Hid (takeC x p = 3) := takeC_full HOK.out (by rw [HSE.out]; exact HCT.out) hf
    have HM : Hid (takeM x p = x) := takeM_no (by rw [HC.out]; decide)
    obtain ⟨u0, u1, u2, uf⟩ := three_cells Z6.out
    obtain ⟨r0, r1, r2, rf⟩ := three_cells Z2.out
    by_cases h12 : 12 ≤ x.seen.length
    · have e12 : ((x.seen.length : Int) == 12) = true := by simp; omega
      clear hf
      go_wp2
      refine bodyPost_ret (v := .tuple #[.agg #[.int .i64 x.sec, .slice A3 x.seen.length c3, .slice B3 x.pool.length d3], .int .i64 3]) ?_ rfl ?_
      · rw [results_cell_tmp rfl]
        go_simp
      · rw [HT.out.1, HT.out.2, HC.out, HM.out]
        exact mixP_fin HMG.out (by omega) (by omega) (by omega) HB.out _ _ _ _
    · have e12 : ((x.seen.length : Int) == 12) = false := by simp; omega
      have e5 : ((x.pool.length : Int) == 5) = true := by simp; omega
      clear hf
      go_wp2
      refine bodyPost_ret (v := .tuple #[.agg #[.int .i64 x.sec, .slice A3 x.seen.length c3, .slice B3 x.pool.length d3], .int .i64 3]) ?_ rfl ?_
      · rw [results_cell_tmp rfl]
        go_simp
      · rw [HT.out.1, HT.out.2, HC.out, HM.out]
        exact mixP_fin HMG.out (by omega) (by omega) (by omega) HB.out _ _ _ _
  have e12 : ((x.seen.length : Int) == 12) = false := by simp; omega
  have e5 : ((x.pool.length : Int) == 5) = false := by simp; omega
  have HC : Hid (takeC x p = 0) := takeC_done HOK.out (by rw [HSE.out]; exact HCT.out) hf
  have HM : Hid (takeM x p = ⟨x.sec, x.seen ++ [s], x.pool ++ [q]⟩) := by
    show _ = _
    rw [takeM_yes HC.out, HSE.out, HPE.out]
  obtain ⟨⟨g, hd, hgk⟩, hpd, _, _⟩ := HMG.out
  have hdl := dest_lt hd
  have hns : x.seen.length + 1 ≤ 1000000 := by omega
  have hnp : x.pool.length ≤ 100000 := by omega
  have hal : Below w6.heap.size w6 (w6.alloc (.cells #[.int .i64 s] 3)) := (Below.refl _ _).alloc (Nat.le_refl _) _
  have HD7 := Lib.hid (dest_keep hd (w' := w6.alloc (.cells #[.int .i64 s] 3)) (fun k e => hal.block k (hdl k e)))
  have HR7 := Lib.hid (ints_row (ints_lit1 w6 s))
  have HPD := Lib.hid hpd
  have HGK := Lib.hid hgk
  have HDL := Lib.hid hdl
  obtain ⟨u0, u1, u2, uf⟩ := three_cells Z6.out
  clear hd hpd hgk hdl hal hf
  have hhh : mid ≤ w30.heap.size := hm2
  go_upto_region 13 with (at_builtin; refine wpList_appD elInt _ _ _ _ _ HD7.out _ _ _ _ _ _ HR7.out (ints_one_cell [s]) hns (.tmp 53) (.tmp 55) rfl rfl rfl rfl ?_; intro g7 v7 w7 hd7 hg7 hgr7; rw [← List.map_append] at hd7; obtain ⟨A7, c7, b7, rfl, ho7, hk7⟩ := dest_ints hd7; have hk67 : ∀ y, y < w6.heap.size → (y < w4.heap.size ∨ mid ≤ y) → w7.heap[y]? = w6.heap[y]? := (fun y h1 h2 => (hgr7.block y (by simp; omega) (fun e => by have := HGK.out y e.symm; omega)).trans (Below.heap_alloc _ _ _ h1)); have z6 : Blk w7 w30.heap.size _ _ := (hk67 _ (by omega) (by omega)).trans Z6.out; obtain ⟨s0, s1, s2, sf⟩ := three_cells z6)
  have hs7 : w6.heap.size < w7.heap.size := by
    have := hgr7.size
    simp at this; omega
  have z61 := Sp6.blk3_set1 (v := .slice A7 (x.seen.length + 1) c7) z6
  have h8k : ∀ y, y ≠ w30.heap.size → (w7.setCell ⟨w30.heap.size, 1, none⟩ (.slice A7 (x.seen.length + 1) c7)).heap[y]? = w7.heap[y]? := fun y h => Below.heap_setCell _ _ _ _ h
  have h8s : (w7.setCell ⟨w30.heap.size, 1, none⟩ (.slice A7 (x.seen.length + 1) c7)).heap.size = w7.heap.size := by simp [World.setCell]
  have h8b : Below w.heap.size w (w7.setCell ⟨w30.heap.size, 1, none⟩ (.slice A7 (x.seen.length + 1) c7)) := by
    have h1 : Below w.heap.size w (w6.alloc (.cells #[.int .i64 s] 3)) := HB.out.alloc HB.out.size _
    exact (h1.grown hgr7 (by simp; have := HB.out.size; omega) (fun k e => by have := HGK.out k e; omega)).setCell (show w.heap.size ≤ w30.heap.size by omega) _
  clear u0 u1 u2 uf s0 s1 s2 sf
  generalize (w7.setCell ⟨w30.heap.size, 1, none⟩ (.slice A7 (x.seen.length + 1) c7)) = w8 at *
  have h68 : ∀ y, y < w6.heap.size → (y < w4.heap.size ∨ mid ≤ y) → y ≠ w30.heap.size → w8.heap[y]? = w6.heap[y]? := fun y q1 q2 q3 => (h8k y q3).trans (hk67 y q1 q2)
  have hs8 : w6.heap.size ≤ w8.heap.size := by omega
  have hs8a : w7.heap.size ≤ w8.heap.size := by omega
  have hs8b : w8.heap.size ≤ w7.heap.size := by omega
  clear h8s
  have Z8' : Hid (Blk w8 w5.heap.size _ _) := (h68 _ (by omega) (by omega) (by omega)).trans Z8.out
  have Z2' : Hid (Blk w8 (w.heap.size + 1 + 1) _ _) := (h68 _ (by omega) (by omega) (by omega)).trans Z2.out
  have Z6' := Lib.hid z61
  have D8 := Lib.hid (dest_keep hd7 (w' := w8) (fun k e => h8k k (by
    rcases hg7 with q | ⟨k', q, hk⟩
    · rw [q] at e; have := HGK.out k e; omega
    · rw [q] at e; simp at e hk; omega)))
  have D8L : Hid (∀ k, g7 = some k → (w4.heap.size ≤ k ∧ k < mid) ∨ (w6.heap.size < k ∧ k < w8.heap.size)) := fun k e => by
    rcases hg7 with q | ⟨k', q, hk⟩
    · rw [q] at e; have := HGK.out k e; omega
    · have h3 := dest_lt D8.out k e
      rw [q] at e; simp at e hk; omega
  have HPD8 := Lib.hid (HPD.out.keep hs8 (fun y q1 q2 q3 => h68 y q3 (by omega) (by omega)))
  have hl1 := Hlp5.lies_lt HLI.out
  have HSO : Hid (SlotO w8 ⟨q, AM, cm, BM, dm, g1, g2⟩) := ⟨own_keepC HLI.out.1 hs8 (fun h => h68 g1 (by have := hl1.1 h; omega) (by omega) (by omega)), own_keepC HLI.out.2.1 hs8 (fun h => h68 g2 (by have := hl1.2 h; omega) (by omega) (by omega))⟩
  have HSF : Hid (∀ y ∈ fpS ⟨q, AM, cm, BM, dm, g1, g2⟩, w30.heap.size < y ∧ y < w6.heap.size) := fun y hy => by
    rcases List.mem_append.1 hy with h | h
    · obtain ⟨q1, q2⟩ := mem_fp.1 h
      have := hl1.1 q1
      dsimp only at q2; omega
    · obtain ⟨q1, q2⟩ := mem_fp.1 h
      have := hl1.2 q1
      dsimp only at q2; omega
  have HSN := Lib.hid (Sp6.slot_nodup ⟨q, AM, cm, BM, dm, g1, g2⟩ HLI.out.2.2)
  have HB8 := Lib.hid h8b
  obtain ⟨y0, y1, y2, y3, y4, y5, yf⟩ := six_cells Z8'.out
  obtain ⟨u0, u1, u2, uf⟩ := three_cells Z6'.out
  clear h68 hk67 h8k hgr7 hg7 hd7 ho7 hk7 z6 z61 h8b hl1 HPD HLI HMG HD7 HR7 Z8 Z2 Z6 HX Z0 a0 a1 a2 af
  go_upto_region 14 with (at_builtin; refine wpList_gatD (x := ⟨q, AM, cm, BM, dm, g1, g2⟩) HPD8.out HSO.out (fun y hy => Nat.le_of_lt (HSF.out y hy).1) HSN.out hhh (by omega) hnp (.tmp 59) (.tmp 61) rfl rfl rfl rfl ?_; intro v9 w9 hQ9 hB9 hK9; obtain ⟨A9, c9, G9, rfl, ho9, hw9⟩ := hQ9.own; have z9 : Blk w9 w30.heap.size _ _ := (hK9 _ (by omega) (by omega)).trans Z6'.out; obtain ⟨s0, s1, s2, sf⟩ := three_cells z9)
  have hl9 : (x.pool ++ [(⟨q, AM, cm, BM, dm, g1, g2⟩ : Slot).p]).length = (takeM x p).pool.length := by rw [HM.out]
  have hl7 : x.seen.length + 1 = (takeM x p).seen.length := by rw [HM.out]; simp
  have hs9 := hB9.size
  have d8 := D8.out
  rw [hl7] at d8
  rw [hl9] at hQ9
  obtain ⟨G, hmo, hwi⟩ := mixO_app (y := takeM x p) (lo := w4.heap.size) (M1 := w6.heap.size) (by rw [show (takeM x p).seen = x.seen ++ [s] by rw [HM.out]] at d8 ⊢; exact d8) D8L.out (by rw [show (takeM x p).pool = x.pool ++ [q] by rw [HM.out]] at hQ9 ⊢; exact hQ9) (fun y hy => by have := HSF.out y hy; omega) hK9 hm1 hm2 (by omega) (by omega) hs9
  have z2 : Blk w9 (w.heap.size + 1 + 1) _ _ := (hK9 _ (by omega) (by omega)).trans Z2'.out
  have z2b := blk_far z2 (q := ⟨w30.heap.size, 2, none⟩) (by show w.heap.size + 1 + 1 ≠ w30.heap.size; omega) (.slice A9 (takeM x p).pool.length c9)
  have hbw : Below w.heap.size w w9 := HB8.out.trans (hB9.mono (by omega))
  have z91 := Sp6.blk3_set2 (v := .slice A9 (takeM x p).pool.length c9) z9
  have h10s : (w9.setCell ⟨w30.heap.size, 2, none⟩ (.slice A9 (takeM x p).pool.length c9)).heap.size = w9.heap.size := by simp [World.setCell]
  have hmo2 := hmo.keep (w' := w9.setCell ⟨w30.heap.size, 2, none⟩ (.slice A9 (takeM x p).pool.length c9)) (Nat.le_of_eq h10s.symm) (fun f hf y hy => Below.heap_setCell _ _ _ _ (hwi f hf y hy).2.2)
  have hbw2 := hbw.setCell (p := ⟨w30.heap.size, 2, none⟩) (show w.heap.size ≤ w30.heap.size by omega) (.slice A9 (takeM x p).pool.length c9)
  have hl9b : x.pool.length + 1 = (takeM x p).pool.length := by rw [HM.out]; simp
  rw [hl9b]
  rw [hl7] at z91 s1 ⊢
  have HMO := Lib.hid hmo2
  have HWI := Lib.hid hwi
  have HBW := Lib.hid hbw2
  have HZ2 := Lib.hid z2b
  have HZ9 := Lib.hid z91
  have HSX := Lib.hid (And.intro (Nat.le_of_eq h10s) (Nat.le_of_eq h10s.symm))
  clear y0 y1 y2 y3 y4 y5 yf u0 u1 u2 uf s0 s1 s2 sf hmo2 hwi hbw hbw2 z2 z2b z9 z91 h10s hmo hQ9 ho9 hw9 hB9 hK9 d8 hl7 hl9 hl9b hs9 D8 D8L HSO HSF HSN HB8 Z8' Z2' Z6' HPD8
  generalize (w9.setCell ⟨w30.heap.size, 2, none⟩ (.slice A9 (takeM x p).pool.length c9)) = w10 at *
  obtain ⟨u0, u1, u2, uf⟩ := three_cells HZ9.out
  obtain ⟨r0, r1, r2, rf⟩ := three_cells HZ2.out
  have HSEC : Hid ((takeM x p).sec = x.sec) := by show _ = _; rw [HM.out]
  go_wp2
  refine bodyPost_ret (v := .tuple #[.agg #[.int .i64 x.sec, .slice A7 (takeM x p).seen.length c7, .slice A9 (takeM x p).pool.length c9], .int .i64 0]) ?_ rfl ?_
  · rw [results_cell_tmp rfl]
    go_simp
  · rw [HT.out.1, HT.out.2, HC.out]
    have h3 : (((w10.setCell ⟨w.heap.size + 1 + 1, 0, none⟩ (.int .i64 x.sec)).setCell ⟨w.heap.size + 1 + 1, 1, none⟩ (.slice A7 (takeM x p).seen.length c7)).setCell ⟨w.heap.size + 1 + 1, 2, none⟩ (.slice A9 (takeM x p).pool.length c9)).heap.size = w10.heap.size := by simp [World.setCell]
    have hk := HMO.out.keep (w' := (((w10.setCell ⟨w.heap.size + 1 + 1, 0, none⟩ (.int .i64 x.sec)).setCell ⟨w.heap.size + 1 + 1, 1, none⟩ (.slice A7 (takeM x p).seen.length c7)).setCell ⟨w.heap.size + 1 + 1, 2, none⟩ (.slice A9 (takeM x p).pool.length c9))) (by omega) (fun f hf y hy => Sp6.farb3 (by have := HWI.out f hf y hy; omega) _ _ _)
    refine ⟨A7, c7, A9, c9, G, by rw [HSEC.out], hk, fun f hf y hy => ?_, ((HBW.out.setCell (show w.heap.size ≤ w.heap.size + 1 + 1 by omega) _).setCell (show w.heap.size ≤ w.heap.size + 1 + 1 by omega) _).setCell (show w.heap.size ≤ w.heap.size + 1 + 1 by omega) _⟩
    have h1 := HWI.out f hf y hy
    have h2 := HSX.out.2
    omega
theorem MixTake (x : Mx) (p : Pkt) (A B A2 B2 : Option Addr) (c d c2 d2 lo hi l1 h1 l2 h2 : Nat) (w : World) (hx : MixR lo hi w A x.seen.length c B x.pool.length d x) (i1 : Ints l1 h1 w A2 p.hd.length c2 p.hd) (i2 : Ints l2 h2 w B2 p.bd.length d2 p.bd) :
    Calls Try.prog 23 #[.agg #[.int .i64 x.sec, .slice A x.seen.length c, .slice B x.pool.length d], .agg #[.int .i64 p.el, .slice A2 p.hd.length c2, .int .i64 p.tag, .slice B2 p.bd.length d2]] w (MixB (mtakeM x p) (.int .i64 (mtakeC x p)) w) :=
  (MixTakeP x p A B A2 B2 c d c2 d2 lo hi l1 h1 l2 h2 w hx i1 i2).mono fun _ _ h => h.b

theorem mixO_noSeen {w : World} {A B : Option Addr} {c d m : Nat} {s : Int} {ps : List Pld} {G : List (List Nat)} (hc : c ≤ maxLen) (hp : PoolO w B m d ps G) : MixO w A 0 c B m d ⟨s, [], ps⟩ ([] :: G) :=
  ⟨0, G, Own.nil_ hc, hp, rfl, foot_cons hp.foot (by simp) fun g _ x h => by simp at h⟩
set_option maxRecDepth 20000 in
set_option maxHeartbeats 2000000 in
theorem MixEpochP (x : Mx) (s : Int) (A B : Option Addr) (c d lo hi : Nat) (w : World) (hx : MixR lo hi w A x.seen.length c B x.pool.length d x) :
    Calls Try.prog 32 #[.agg #[.int .i64 x.sec, .slice A x.seen.length c, .slice B x.pool.length d], .int .i64 s] w (MixP (epochM x s) (.bool (epochB x s)) w) := by
  obtain ⟨zb0, zb1, hs2, hb2⟩ := Sp6.two_blocks w #[.int .i64 x.sec, .slice A x.seen.length c, .slice B x.pool.length d] #[.int .i64 0, .slice none 0 0, .slice none 0 0] 26 26
  have HX := Lib.hid (hx.below hb2 (Nat.le_refl _))
  have Z0 := Lib.hid zb0
  have Z2 := Lib.hid zb1
  have HB := Lib.hid hb2
  have hsz : w.heap.size + 1 < ((w.alloc (.cells #[.int .i64 x.sec, .slice A x.seen.length c, .slice B x.pool.length d] 26)).alloc (.cells #[.int .i64 0, .slice none 0 0, .slice none 0 0] 26)).heap.size := by rw [hs2]; omega
  clear hx zb0 zb1 hs2 hb2
  go_enter Try.func32, Try.ntmps32
  go_wp2_with fail
  generalize ((w.alloc (.cells #[.int .i64 x.sec, .slice A x.seen.length c, .slice B x.pool.length d] 26)).alloc (.cells #[.int .i64 0, .slice none 0 0, .slice none 0 0] 26)) = w2 at *
  ((with_reducible refine (MixValid x _ _ _ _ _ _ _ _ _ HX.out).mono ?_); rintro e w3 ⟨rfl, hb3⟩)
  have hs3 := hb3.size
  replace HX := Lib.hid (HX.out.below hb3 (Nat.le_refl _))
  replace Z0 := Lib.hid (Z0.out.below hb3 (Nat.le_refl _))
  replace Z2 := Lib.hid (Z2.out.below hb3 (Nat.le_refl _))
  replace HB := Lib.hid (HB.out.trans (hb3.mono HB.out.size))
  clear hb3
  obtain ⟨r0, r1, r2, rf⟩ := three_cells Z2.out
  cases hok : mixOk x
  · have HM := Lib.hid (Sp6.epoch_no (s := s) (.inl hok))
    clear hok
    go_wp2
    refine bodyPost_ret (v := .tuple #[.agg #[.int .i64 0, .slice none 0 0, .slice none 0 0], .bool false]) ?_ rfl ?_
    · rw [results_cell_tmp rfl]
      go_simp
    · rw [HM.out.1, HM.out.2]
      exact mixP_zero _ (((HB.out.setCell (show w.heap.size ≤ w.heap.size + 1 by omega) _).setCell (show w.heap.size ≤ w.heap.size + 1 by omega) _).setCell (show w.heap.size ≤ w.heap.size + 1 by omega) _)
  have HOK := Lib.hid hok
  clear hok
  go_wp2_with fail
  ((with_reducible refine (inRange s _).mono ?_); rintro e w' ⟨rfl, rfl⟩)
  cases hg : inG s
  · have HM := Lib.hid (Sp6.epoch_no (x := x) (.inr hg))
    clear hg
    go_wp2
    refine bodyPost_ret (v := .tuple #[.agg #[.int .i64 0, .slice none 0 0, .slice none 0 0], .bool false]) ?_ rfl ?_
    · rw [results_cell_tmp rfl]
      go_simp
    · rw [HM.out.1, HM.out.2]
      exact mixP_zero _ (((HB.out.setCell (show w.heap.size ≤ w.heap.size + 1 by omega) _).setCell (show w.heap.size ≤ w.heap.size + 1 by omega) _).setCell (show w.heap.size ≤ w.heap.size + 1 by omega) _)
  have HG := Lib.hid hg
  clear hg
  obtain ⟨q1, q2, q3⟩ := Sp6.mix_sizes HOK.out
  have HH : Hid (∀ p ∈ x.pool, p.pk.hd.length ≤ 1000 ∧ p.pk.bd.length ≤ 1000) := fun p hp => by have := q3 p hp; omega
  clear q3
  obtain ⟨a0, a1, a2, af⟩ := three_cells Z0.out
  go_wp2_with fail
  ((with_reducible refine (copyMix x _ _ _ _ _ _ _ HX.out (by omega) (by omega) HH.out).mono ?_); rintro e w4 ⟨A3, c3, B3, d3, mid, rfl, hmg, hb4⟩)
  have hs4 := hb4.size
  replace Z0 := Lib.hid (Z0.out.below hb4 (Nat.le_refl _))
  replace Z2 := Lib.hid (Z2.out.below hb4 (Nat.le_refl _))
  replace HB := Lib.hid (HB.out.trans (hb4.mono HB.out.size))
  have HMG := Lib.hid hmg
  clear hb4 hmg a0 a1 a2 af r0 r1 r2 rf HX
  have hal : Below w4.heap.size w4 (w4.alloc (.cells #[.int .i64 x.sec, .slice A3 x.seen.length c3, .slice B3 x.pool.length d3] 26)) := (Below.refl _ _).alloc (Nat.le_refl _) _
  have Z6 : Hid (Blk (w4.alloc (.cells #[.int .i64 x.sec, .slice A3 x.seen.length c3, .slice B3 x.pool.length d3] 26)) w4.heap.size #[.int .i64 x.sec, .slice A3 x.seen.length c3, .slice B3 x.pool.length d3] 26) := heap_alloc_new _ _
  replace Z0 := Lib.hid (Z0.out.below hal (Nat.le_refl _))
  replace Z2 := Lib.hid (Z2.out.below hal (Nat.le_refl _))
  replace HB := Lib.hid (HB.out.trans (hal.mono HB.out.size))
  replace HMG := Lib.hid (HMG.out.below hal (Nat.le_refl _))
  have hs5 : w4.heap.size < (w4.alloc (.cells #[.int .i64 x.sec, .slice A3 x.seen.length c3, .slice B3 x.pool.length d3] 26)).heap.size := by simp
  clear hal
  go_upto_region 4 with (fail)
  generalize (w4.alloc (.cells #[.int .i64 x.sec, .slice A3 x.seen.length c3, .slice B3 x.pool.length d3] 26)) = w5 at *
  obtain ⟨a0, a1, a2, af⟩ := three_cells Z0.out
  obtain ⟨r0, r1, r2, rf⟩ := three_cells Z2.out
  obtain ⟨u0, u1, u2, uf⟩ := three_cells Z6.out
  by_cases he : s = x.sec
  · have HM := Lib.hid (Sp6.epoch_same HOK.out HG.out he)
    have e0 : (s == x.sec) = true := by simpa using he
    clear he
    go_wp2
    refine bodyPost_ret (v := .tuple #[.agg #[.int .i64 x.sec, .slice A3 x.seen.length c3, .slice B3 x.pool.length d3], .bool false]) ?_ rfl ?_
    · rw [results_cell_tmp rfl]
      go_simp
    · rw [HM.out.1, HM.out.2]
      exact mixP_fin HMG.out (by omega) (by omega) (by omega) HB.out _ _ _ _
  · have HM := Lib.hid (Sp6.epoch_new HOK.out HG.out he)
    have e0 : (s == x.sec) = false := by simpa using he
    clear he
    obtain ⟨B6, d6, G6, e6, hpo, hwi⟩ := HMG.out.2.1.own
    simp only [Value.slice.injEq, true_and] at e6
    obtain ⟨rfl, rfl⟩ := e6
    have HPL := Lib.hid hpo
    have HWI : Hid (Within w3.heap.size w4.heap.size G6) := fun f hf y hy => by have h1 := hwi f hf y hy; have h2 := HMG.out.2.2.1; omega
    clear hpo hwi
    have hk : ∀ y, y < w5.heap.size → y ≠ w4.heap.size → (((w5.setCell ⟨w4.heap.size, 0, none⟩ (.int .i64 s)).setCell ⟨w4.heap.size, 1, none⟩ (.slice (some ⟨w5.heap.size, 0, none⟩) 0 0)).alloc (.cells #[] 3)).heap[y]? = w5.heap[y]? := fun y q1 q2 =>
      (Below.heap_alloc _ _ _ (by simpa [World.setCell] using q1)).trans ((Below.heap_setCell _ _ _ _ q2).trans (Below.heap_setCell _ _ _ _ q2))
    have hs6 : (((w5.setCell ⟨w4.heap.size, 0, none⟩ (.int .i64 s)).setCell ⟨w4.heap.size, 1, none⟩ (.slice (some ⟨w5.heap.size, 0, none⟩) 0 0)).alloc (.cells #[] 3)).heap.size = w5.heap.size + 1 := by simp [World.setCell]
    have z6 : Blk (((w5.setCell ⟨w4.heap.size, 0, none⟩ (.int .i64 s)).setCell ⟨w4.heap.size, 1, none⟩ (.slice (some ⟨w5.heap.size, 0, none⟩) 0 0)).alloc (.cells #[] 3)) w4.heap.size #[.int .i64 s, .slice (some ⟨w5.heap.size, 0, none⟩) 0 0, .slice B3 x.pool.length d3] 26 := by
      have q1 := Sp6.blk3_set0 (v := .int .i64 s) Z6.out
      exact (Below.heap_alloc _ _ _ (by simpa [World.setCell] using hs5)).trans (Sp6.blk3_set1 q1)
    have hbw : Below w.heap.size w (((w5.setCell ⟨w4.heap.size, 0, none⟩ (.int .i64 s)).setCell ⟨w4.heap.size, 1, none⟩ (.slice (some ⟨w5.heap.size, 0, none⟩) 0 0)).alloc (.cells #[] 3)) := ((HB.out.setCell (p := ⟨w4.heap.size, 0, none⟩) (show w.heap.size ≤ w4.heap.size by omega) (.int .i64 s)).setCell (show w.heap.size ≤ w4.heap.size by omega) _).alloc (by simp [World.setCell]; omega) _
    have z2 : Blk (((w5.setCell ⟨w4.heap.size, 0, none⟩ (.int .i64 s)).setCell ⟨w4.heap.size, 1, none⟩ (.slice (some ⟨w5.heap.size, 0, none⟩) 0 0)).alloc (.cells #[] 3)) (w.heap.size + 1) _ _ := (hk _ (by omega) (by omega)).trans Z2.out
    have hpl := HPL.out.keep (w' := (((w5.setCell ⟨w4.heap.size, 0, none⟩ (.int .i64 s)).setCell ⟨w4.heap.size, 1, none⟩ (.slice (some ⟨w5.heap.size, 0, none⟩) 0 0)).alloc (.cells #[] 3))) (by omega) (fun f hf y hy => hk y (by have := HWI.out f hf y hy; omega) (by have := HWI.out f hf y hy; omega))
    have HZ6 := Lib.hid z6
    have HZ2 := Lib.hid z2
    have HBW := Lib.hid hbw
    have HPW := Lib.hid hpl
    have hs7 : w5.heap.size ≤ (((w5.setCell ⟨w4.heap.size, 0, none⟩ (.int .i64 s)).setCell ⟨w4.heap.size, 1, none⟩ (.slice (some ⟨w5.heap.size, 0, none⟩) 0 0)).alloc (.cells #[] 3)).heap.size := by omega
    clear hk hs6 z6 z2 hbw hpl
    go_upto_region 7 with (fail)
    clear a0 a1 a2 af r0 r1 r2 rf u0 u1 u2 uf
    generalize (((w5.setCell ⟨w4.heap.size, 0, none⟩ (.int .i64 s)).setCell ⟨w4.heap.size, 1, none⟩ (.slice (some ⟨w5.heap.size, 0, none⟩) 0 0)).alloc (.cells #[] 3)) = w6 at *
    obtain ⟨u0, u1, u2, uf⟩ := three_cells HZ6.out
    obtain ⟨r0, r1, r2, rf⟩ := three_cells HZ2.out
    go_wp2
    refine bodyPost_ret (v := .tuple #[.agg #[.int .i64 s, .slice (some ⟨w5.heap.size, 0, none⟩) 0 0, .slice B3 x.pool.length d3], .bool true]) ?_ rfl ?_
    · rw [results_cell_tmp rfl]
      go_simp
    · rw [HM.out.1, HM.out.2]
      have h3 : (((w6.setCell ⟨w.heap.size + 1, 0, none⟩ (.int .i64 s)).setCell ⟨w.heap.size + 1, 1, none⟩ (.slice (some ⟨w5.heap.size, 0, none⟩) 0 0)).setCell ⟨w.heap.size + 1, 2, none⟩ (.slice B3 x.pool.length d3)).heap.size = w6.heap.size := by simp [World.setCell]
      have hk := HPW.out.keep (w' := (((w6.setCell ⟨w.heap.size + 1, 0, none⟩ (.int .i64 s)).setCell ⟨w.heap.size + 1, 1, none⟩ (.slice (some ⟨w5.heap.size, 0, none⟩) 0 0)).setCell ⟨w.heap.size + 1, 2, none⟩ (.slice B3 x.pool.length d3))) (by omega) (fun f hf y hy => Sp6.farb3 (by have := HWI.out f hf y hy; omega) _ _ _)
      refine ⟨_, 0, B3, d3, _, rfl, mixO_noSeen (Nat.zero_le _) hk, fun f hf y hy => ?_, ((HBW.out.setCell (show w.heap.size ≤ w.heap.size + 1 by omega) _).setCell (show w.heap.size ≤ w.heap.size + 1 by omega) _).setCell (show w.heap.size ≤ w.heap.size + 1 by omega) _⟩
      rcases List.mem_cons.1 hf with rfl | hf
      · simp at hy
      · have := HWI.out f hf y hy
        omega
theorem MixEpoch (x : Mx) (s : Int) (A B : Option Addr) (c d lo hi : Nat) (w : World) (hx : MixR lo hi w A x.seen.length c B x.pool.length d x) :
    Calls Try.prog 32 #[.agg #[.int .i64 x.sec, .slice A x.seen.length c, .slice B x.pool.length d], .int .i64 s] w (MixB (epochM x s) (.bool (epochB x s)) w) :=
  (MixEpochP x s A B c d lo hi w hx).mono fun _ _ h => h.b

end Im6
end Go.Proofs.Ytnjcpbkpcmemeac
