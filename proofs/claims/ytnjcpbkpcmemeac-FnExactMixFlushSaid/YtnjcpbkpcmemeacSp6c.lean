/-
  Contracts of the model's MixTake and MixEpoch.
-/
import Derived.Test.YtnjcpbkpcmemeacSp6b
namespace Go.Proofs.Ytnjcpbkpcmemeac
open Go.RowKit
namespace Sp6
open Il Gm Mm Tm Lm Pm Pq Hlp5 Sl Mm6 Sp2

/-- What a valid mix's sizes are. -/
theorem mix_sizes {x : Mx} (h : mixOk x = true) : x.seen.length ≤ 12 ∧ x.pool.length ≤ 5 ∧ ∀ p ∈ x.pool, p.pk.hd.length = 9 ∧ p.pk.bd.length = 6 := by
  obtain ⟨h1, h2, h3, h4, h5⟩ := mixOk_iff.1 h
  refine ⟨h3, h5, fun p hp => ?_⟩
  unfold poolOk at h4
  rw [List.all_eq_true] at h4
  obtain ⟨q1, q2, q3⟩ := pldOk_iff.1 (h4 p hp)
  obtain ⟨r1, r2, r3, r4, r5, r6⟩ := pktOk_iff.1 q3
  exact ⟨r3, r6⟩
/-- The mix that is returned is handed on, by way of a block. -/
theorem mixB_on {lo hi b : Nat} {w wF : World} {A B : Option Addr} {c d : Nat} {y : Mx} (hm : MixR lo hi wF A y.seen.length c B y.pool.length d y) (hlo : w.heap.size ≤ lo) (hhi : hi ≤ wF.heap.size) (hb : b < lo) (hwb : w.heap.size ≤ b) (hbw : Below w.heap.size w wF) (v v0 v1 v2 : Value) :
    MixB y v w (.returned (.tuple #[.agg #[.int .i64 y.sec, .slice A y.seen.length c, .slice B y.pool.length d], v])) (((wF.setCell ⟨b, 0, none⟩ v0).setCell ⟨b, 1, none⟩ v1).setCell ⟨b, 2, none⟩ v2) := by
  have hs : (((wF.setCell ⟨b, 0, none⟩ v0).setCell ⟨b, 1, none⟩ v1).setCell ⟨b, 2, none⟩ v2).heap.size = wF.heap.size := by simp [World.setCell]
  have hk : ∀ x, lo ≤ x → x < hi → x < wF.heap.size → (((wF.setCell ⟨b, 0, none⟩ v0).setCell ⟨b, 1, none⟩ v1).setCell ⟨b, 2, none⟩ v2).heap[x]? = wF.heap[x]? := fun x q1 _ _ => farb3 (by omega) _ _ _
  exact ⟨A, c, B, d, rfl, ⟨(hm.1.keep (Nat.le_of_eq hs.symm) hk).mono hlo (by omega), (hm.2.keep (Nat.le_of_eq hs.symm) hk).mono hlo (by omega)⟩, ((hbw.setCell hwb _).setCell hwb _).setCell hwb _⟩

set_option maxRecDepth 20000 in
set_option maxHeartbeats 2000000 in
theorem MixTake (x : Mx) (p : Pkt) (A B A2 B2 : Option Addr) (c d c2 d2 lo hi l1 h1 l2 h2 : Nat) (w : World) (hx : MixR lo hi w A x.seen.length c B x.pool.length d x) (i1 : Ints l1 h1 w A2 p.hd.length c2 p.hd) (i2 : Ints l2 h2 w B2 p.bd.length d2 p.bd) :
    Calls Try.prog 21 #[.agg #[.int .i64 x.sec, .slice A x.seen.length c, .slice B x.pool.length d], .agg #[.int .i64 p.el, .slice A2 p.hd.length c2, .int .i64 p.tag, .slice B2 p.bd.length d2]] w (MixB (mtakeM x p) (.int .i64 (mtakeC x p)) w) := by
  obtain ⟨zb0, zb1, zb2, hs2, hb2⟩ := Hlp6.three_blocks w #[.int .i64 x.sec, .slice A x.seen.length c, .slice B x.pool.length d] #[.int .i64 p.el, .slice A2 p.hd.length c2, .int .i64 p.tag, .slice B2 p.bd.length d2] #[.int .i64 0, .slice none 0 0, .slice none 0 0] 26 37 26
  have HX := Lib.hid (hx.below hb2 (Nat.le_refl _))
  have I1 := Lib.hid (i1.below hb2 (Nat.le_refl _))
  have I2 := Lib.hid (i2.below hb2 (Nat.le_refl _))
  have Z0 := Lib.hid zb0
  have Z1 := Lib.hid zb1
  have Z2 := Lib.hid zb2
  have HB := Lib.hid hb2
  have hsz : w.heap.size + 1 + 1 < (((w.alloc (.cells #[.int .i64 x.sec, .slice A x.seen.length c, .slice B x.pool.length d] 26)).alloc (.cells #[.int .i64 p.el, .slice A2 p.hd.length c2, .int .i64 p.tag, .slice B2 p.bd.length d2] 37)).alloc (.cells #[.int .i64 0, .slice none 0 0, .slice none 0 0] 26)).heap.size := by rw [hs2]; omega
  clear hx i1 i2 zb0 zb1 zb2 hs2 hb2
  go_enter Try.func21, Try.ntmps21
  go_wp2_with fail
  generalize (((w.alloc (.cells #[.int .i64 x.sec, .slice A x.seen.length c, .slice B x.pool.length d] 26)).alloc (.cells #[.int .i64 p.el, .slice A2 p.hd.length c2, .int .i64 p.tag, .slice B2 p.bd.length d2] 37)).alloc (.cells #[.int .i64 0, .slice none 0 0, .slice none 0 0] 26)) = w2 at *
  ((with_reducible refine (MixValid x _ _ _ _ _ _ _ _ _ HX.out).mono ?_); rintro e w3 ⟨rfl, hb3⟩)
  have hs3 := hb3.size
  replace HX := Lib.hid (HX.out.below hb3 (Nat.le_refl _))
  replace I1 := Lib.hid (I1.out.below hb3 (Nat.le_refl _))
  replace I2 := Lib.hid (I2.out.below hb3 (Nat.le_refl _))
  replace Z0 := Lib.hid (Z0.out.below hb3 (Nat.le_refl _))
  replace Z1 := Lib.hid (Z1.out.below hb3 (Nat.le_refl _))
  replace Z2 := Lib.hid (Z2.out.below hb3 (Nat.le_refl _))
  replace HB := Lib.hid (HB.out.trans (hb3.mono HB.out.size))
  clear hb3
  cases hok : mixOk x
  · have HM := Lib.hid (mtake_no (p := p) (.inl hok))
    clear hok
    obtain ⟨r0, r1, r2, rf⟩ := three_cells Z2.out
    go_wp2
    refine bodyPost_ret (v := .tuple #[.agg #[.int .i64 0, .slice none 0 0, .slice none 0 0], .int .i64 4]) ?_ rfl ?_
    · rw [results_cell_tmp rfl]
      go_simp
    · rw [HM.out.1, HM.out.2]
      exact mix_zero _ (((HB.out.setCell (show w.heap.size ≤ w.heap.size + 1 + 1 by omega) _).setCell (show w.heap.size ≤ w.heap.size + 1 + 1 by omega) _).setCell (show w.heap.size ≤ w.heap.size + 1 + 1 by omega) _)
  have HOK := Lib.hid hok
  clear hok
  obtain ⟨p0, p1, p2, p3, pf⟩ := four_cells Z1.out
  go_wp2_with fail
  ((with_reducible refine (Sp5.PacketValid _ _ _ _ _ _ _ _ _ _ p.el p.tag p.hd p.bd _ I1.out I2.out).mono ?_); rintro e w4 ⟨rfl, hb4⟩)
  have hs4 := hb4.size
  replace HX := Lib.hid (HX.out.below hb4 (Nat.le_refl _))
  replace I1 := Lib.hid (I1.out.below hb4 (Nat.le_refl _))
  replace I2 := Lib.hid (I2.out.below hb4 (Nat.le_refl _))
  replace Z0 := Lib.hid (Z0.out.below hb4 (Nat.le_refl _))
  replace Z1 := Lib.hid (Z1.out.below hb4 (Nat.le_refl _))
  replace Z2 := Lib.hid (Z2.out.below hb4 (Nat.le_refl _))
  replace HB := Lib.hid (HB.out.trans (hb4.mono HB.out.size))
  clear hb4 p0 p1 p2 p3 pf
  obtain ⟨r0, r1, r2, rf⟩ := three_cells Z2.out
  cases hpk : pktOk p
  · have HM := Lib.hid (mtake_no (m := x) (.inr hpk))
    clear hpk
    go_wp2
    refine bodyPost_ret (v := .tuple #[.agg #[.int .i64 0, .slice none 0 0, .slice none 0 0], .int .i64 4]) ?_ rfl ?_
    · rw [results_cell_tmp rfl]
      go_simp
    · rw [HM.out.1, HM.out.2]
      exact mix_zero _ (((HB.out.setCell (show w.heap.size ≤ w.heap.size + 1 + 1 by omega) _).setCell (show w.heap.size ≤ w.heap.size + 1 + 1 by omega) _).setCell (show w.heap.size ≤ w.heap.size + 1 + 1 by omega) _)
  have HPK := Lib.hid hpk
  have HM := Lib.hid (mtake_yes HOK.out hpk)
  clear hpk
  obtain ⟨q1, q2, q3⟩ := mix_sizes HOK.out
  have HH : Hid (∀ p ∈ x.pool, p.pk.hd.length ≤ 1000 ∧ p.pk.bd.length ≤ 1000) := fun p hp => by have := q3 p hp; omega
  have HG := Lib.hid (mixOk_iff.1 HOK.out).1
  clear q3
  obtain ⟨a0, a1, a2, af⟩ := three_cells Z0.out
  obtain ⟨p0, p1, p2, p3, pf⟩ := four_cells Z1.out
  go_wp2_with fail
  ((with_reducible refine (l11Take x p _ _ _ _ _ _ _ _ _ _ _ _ _ _ _ _ _ HX.out I1.out I2.out (by omega) (by omega) HH.out HG.out HPK.out).mono ?_); rintro e w5 ⟨A5, c5, B5, d5, rfl, hr5, hb5⟩)
  have hs5 := hb5.size
  have HR5 := Lib.hid hr5
  replace Z2 := Lib.hid (Z2.out.below hb5 (Nat.le_refl _))
  replace HB := Lib.hid (HB.out.trans (hb5.mono HB.out.size))
  clear hb5 hr5 a0 a1 a2 af p0 p1 p2 p3 pf r0 r1 r2 rf
  obtain ⟨r0, r1, r2, rf⟩ := three_cells Z2.out
  go_wp2
  refine bodyPost_ret (v := .tuple #[.agg #[.int .i64 (takeM x p).sec, .slice A5 (takeM x p).seen.length c5, .slice B5 (takeM x p).pool.length d5], .int .i64 (takeC x p)]) ?_ rfl ?_
  · rw [results_cell_tmp rfl]
    go_simp
  · rw [HM.out.1, HM.out.2]
    exact mixB_on HR5.out (by omega) (Nat.le_refl _) (by omega) (by omega) HB.out _ _ _ _

theorem epoch_no {x : Mx} {s : Int} (h : mixOk x = false ∨ inG s = false) : epochM x s = Mx.zero ∧ epochB x s = false := by
  unfold epochM epochB
  rcases h with h | h <;> simp [h]
theorem epoch_same {x : Mx} {s : Int} (h : mixOk x = true) (h2 : inG s = true) (h3 : s = x.sec) : epochM x s = x ∧ epochB x s = false := by
  unfold epochM epochB
  rw [h, h2, decide_eq_true h3, decide_eq_false (by simpa using h3)]
  exact ⟨rfl, rfl⟩
theorem epoch_new {x : Mx} {s : Int} (h : mixOk x = true) (h2 : inG s = true) (h3 : ¬ s = x.sec) : epochM x s = ⟨s, [], x.pool⟩ ∧ epochB x s = true := by
  unfold epochM epochB
  rw [h, h2, decide_eq_false h3, decide_eq_true h3]
  exact ⟨rfl, rfl⟩
set_option maxRecDepth 20000 in
set_option maxHeartbeats 2000000 in
theorem MixEpoch (x : Mx) (s : Int) (A B : Option Addr) (c d lo hi : Nat) (w : World) (hx : MixR lo hi w A x.seen.length c B x.pool.length d x) :
    Calls Try.prog 31 #[.agg #[.int .i64 x.sec, .slice A x.seen.length c, .slice B x.pool.length d], .int .i64 s] w (MixB (epochM x s) (.bool (epochB x s)) w) := by
  obtain ⟨zb0, zb1, hs2, hb2⟩ := two_blocks w #[.int .i64 x.sec, .slice A x.seen.length c, .slice B x.pool.length d] #[.int .i64 0, .slice none 0 0, .slice none 0 0] 26 26
  have HX := Lib.hid (hx.below hb2 (Nat.le_refl _))
  have Z0 := Lib.hid zb0
  have Z2 := Lib.hid zb1
  have HB := Lib.hid hb2
  have hsz : w.heap.size + 1 < ((w.alloc (.cells #[.int .i64 x.sec, .slice A x.seen.length c, .slice B x.pool.length d] 26)).alloc (.cells #[.int .i64 0, .slice none 0 0, .slice none 0 0] 26)).heap.size := by rw [hs2]; omega
  clear hx zb0 zb1 hs2 hb2
  go_enter Try.func31, Try.ntmps31
  go_wp2_with fail
  generalize ((w.alloc (.cells #[.int .i64 x.sec, .slice A x.seen.length c, .slice B x.pool.length d] 26)).alloc (.cells #[.int .i64 0, .slice none 0 0, .slice none 0 0] 26)) = w2 at *
  ((with_reducible refine (MixValid x _ _ _ _ _ _ _ _ _ HX.out).mono ?_); rintro e w3 ⟨rfl, hb3⟩)
  have hs3 := hb3.size
  replace HX := Lib.hid (HX.out.below hb3 (Nat.le_refl _))
  replace Z0 := Lib.hid (Z0.out.below hb3 (Nat.le_refl _))
  replace Z2 := Lib.hid (Z2.out.below hb3 (Nat.le_refl _))
  replace HB := Lib.hid (HB.out.trans (hb3.mono HB.out.size))
  clear hb3
  obtain ⟨r0, r1, r2, rf⟩ := three_cells Z2.out
  cases hok : mixOk x
  · have HM := Lib.hid (epoch_no (s := s) (.inl hok))
    clear hok
    go_wp2
    refine bodyPost_ret (v := .tuple #[.agg #[.int .i64 0, .slice none 0 0, .slice none 0 0], .bool false]) ?_ rfl ?_
    · rw [results_cell_tmp rfl]
      go_simp
    · rw [HM.out.1, HM.out.2]
      exact mix_zero _ (((HB.out.setCell (show w.heap.size ≤ w.heap.size + 1 by omega) _).setCell (show w.heap.size ≤ w.heap.size + 1 by omega) _).setCell (show w.heap.size ≤ w.heap.size + 1 by omega) _)
  have HOK := Lib.hid hok
  clear hok
  go_wp2_with fail
  ((with_reducible refine (l1Is s _).mono ?_); rintro e w' ⟨rfl, rfl⟩)
  cases hg : inG s
  · have HM := Lib.hid (epoch_no (x := x) (.inr hg))
    clear hg
    go_wp2
    refine bodyPost_ret (v := .tuple #[.agg #[.int .i64 0, .slice none 0 0, .slice none 0 0], .bool false]) ?_ rfl ?_
    · rw [results_cell_tmp rfl]
      go_simp
    · rw [HM.out.1, HM.out.2]
      exact mix_zero _ (((HB.out.setCell (show w.heap.size ≤ w.heap.size + 1 by omega) _).setCell (show w.heap.size ≤ w.heap.size + 1 by omega) _).setCell (show w.heap.size ≤ w.heap.size + 1 by omega) _)
  have HG := Lib.hid hg
  clear hg
  obtain ⟨q1, q2, q3⟩ := mix_sizes HOK.out
  have HH : Hid (∀ p ∈ x.pool, p.pk.hd.length ≤ 1000 ∧ p.pk.bd.length ≤ 1000) := fun p hp => by have := q3 p hp; omega
  clear q3
  obtain ⟨a0, a1, a2, af⟩ := three_cells Z0.out
  go_wp2_with fail
  ((with_reducible refine (l11Copy x _ _ _ _ _ _ _ _ _ HX.out (by omega) (by omega) HH.out).mono ?_); rintro e w4 ⟨A3, c3, B3, d3, mid, rfl, hmg, hb4⟩)
  have hs4 := hb4.size
  replace Z0 := Lib.hid (Z0.out.below hb4 (Nat.le_refl _))
  replace Z2 := Lib.hid (Z2.out.below hb4 (Nat.le_refl _))
  replace HB := Lib.hid (HB.out.trans (hb4.mono HB.out.size))
  have HMG := Lib.hid hmg
  clear hb4 hmg a0 a1 a2 af r0 r1 r2 rf HX
  have hal : Below w4.heap.size w4 (w4.alloc (.cells #[.int .i64 x.sec, .slice A3 x.seen.length c3, .slice B3 x.pool.length d3] 26)) := (Below.refl _ _).alloc (Nat.le_refl _) _
  have Z6 : Hid (Blk (w4.alloc (.cells #[.int .i64 x.sec, .slice A3 x.seen.length c3, .slice B3 x.pool.length d3] 26)) w4.heap.size #[.int .i64 x.sec, .slice A3 x.seen.length c3, .slice B3 x.pool.length d3] 26) := heap_alloc_new _ _
  replace Z0 := Lib.hid (Z0.out.below hal (Nat.le_refl _))
  replace Z2 := Lib.hid (Z2.out.below hal (Nat.le_refl _))
  replace HB := Lib.hid (HB.out.trans (hal.mono HB.out.size))
  replace HMG := Lib.hid (HMG.out.below hal (Nat.le_refl _))
  have hs5 : w4.heap.size < (w4.alloc (.cells #[.int .i64 x.sec, .slice A3 x.seen.length c3, .slice B3 x.pool.length d3] 26)).heap.size := by simp
  clear hal
  go_upto_region 4 with (fail)
  generalize (w4.alloc (.cells #[.int .i64 x.sec, .slice A3 x.seen.length c3, .slice B3 x.pool.length d3] 26)) = w5 at *
  obtain ⟨a0, a1, a2, af⟩ := three_cells Z0.out
  obtain ⟨r0, r1, r2, rf⟩ := three_cells Z2.out
  obtain ⟨u0, u1, u2, uf⟩ := three_cells Z6.out
  by_cases he : s = x.sec
  · have HM := Lib.hid (epoch_same HOK.out HG.out he)
    have e0 : (s == x.sec) = true := by simpa using he
    clear he
    go_wp2
    refine bodyPost_ret (v := .tuple #[.agg #[.int .i64 x.sec, .slice A3 x.seen.length c3, .slice B3 x.pool.length d3], .bool false]) ?_ rfl ?_
    · rw [results_cell_tmp rfl]
      go_simp
    · rw [HM.out.1, HM.out.2]
      exact mixB_fin HMG.out (by omega) (by omega) (by omega) HB.out _ _ _ _
  · have HM := Lib.hid (epoch_new HOK.out HG.out he)
    have e0 : (s == x.sec) = false := by simpa using he
    clear he
    obtain ⟨B6, d6, G6, e6, hpo, hwi⟩ := HMG.out.2.1.own
    have hpl := hpo.pool (lo := w3.heap.size) (hi := w4.heap.size) (fun f hf y hy => by have h1 := hwi f hf y hy; have h2 := HMG.out.2.2.1; omega)
    simp only [Value.slice.injEq, true_and] at e6
    obtain ⟨rfl, rfl⟩ := e6
    have HPL := Lib.hid hpl
    clear hpl hpo hwi
    have hk : ∀ y, y < w5.heap.size → y ≠ w4.heap.size → (((w5.setCell ⟨w4.heap.size, 0, none⟩ (.int .i64 s)).setCell ⟨w4.heap.size, 1, none⟩ (.slice (some ⟨w5.heap.size, 0, none⟩) 0 0)).alloc (.cells #[] 3)).heap[y]? = w5.heap[y]? := fun y q1 q2 =>
      (Below.heap_alloc _ _ _ (by simpa [World.setCell] using q1)).trans ((Below.heap_setCell _ _ _ _ q2).trans (Below.heap_setCell _ _ _ _ q2))
    have hs6 : (((w5.setCell ⟨w4.heap.size, 0, none⟩ (.int .i64 s)).setCell ⟨w4.heap.size, 1, none⟩ (.slice (some ⟨w5.heap.size, 0, none⟩) 0 0)).alloc (.cells #[] 3)).heap.size = w5.heap.size + 1 := by simp [World.setCell]
    have z6 : Blk (((w5.setCell ⟨w4.heap.size, 0, none⟩ (.int .i64 s)).setCell ⟨w4.heap.size, 1, none⟩ (.slice (some ⟨w5.heap.size, 0, none⟩) 0 0)).alloc (.cells #[] 3)) w4.heap.size #[.int .i64 s, .slice (some ⟨w5.heap.size, 0, none⟩) 0 0, .slice B3 x.pool.length d3] 26 := by
      have q1 := blk3_set0 (v := .int .i64 s) Z6.out
      exact (Below.heap_alloc _ _ _ (by simpa [World.setCell] using hs5)).trans (blk3_set1 q1)
    have hbw : Below w.heap.size w (((w5.setCell ⟨w4.heap.size, 0, none⟩ (.int .i64 s)).setCell ⟨w4.heap.size, 1, none⟩ (.slice (some ⟨w5.heap.size, 0, none⟩) 0 0)).alloc (.cells #[] 3)) := ((HB.out.setCell (p := ⟨w4.heap.size, 0, none⟩) (show w.heap.size ≤ w4.heap.size by omega) (.int .i64 s)).setCell (show w.heap.size ≤ w4.heap.size by omega) _).alloc (by simp [World.setCell]; omega) _
    have z2 : Blk (((w5.setCell ⟨w4.heap.size, 0, none⟩ (.int .i64 s)).setCell ⟨w4.heap.size, 1, none⟩ (.slice (some ⟨w5.heap.size, 0, none⟩) 0 0)).alloc (.cells #[] 3)) (w.heap.size + 1) _ _ := (hk _ (by omega) (by omega)).trans Z2.out
    have hpl := HPL.out.keep (w' := (((w5.setCell ⟨w4.heap.size, 0, none⟩ (.int .i64 s)).setCell ⟨w4.heap.size, 1, none⟩ (.slice (some ⟨w5.heap.size, 0, none⟩) 0 0)).alloc (.cells #[] 3))) (by omega) (fun y q1 q2 q3 => hk y q3 (by omega))
    have HZ6 := Lib.hid z6
    have HZ2 := Lib.hid z2
    have HBW := Lib.hid hbw
    have HPW := Lib.hid hpl
    have hs7 : w5.heap.size ≤ (((w5.setCell ⟨w4.heap.size, 0, none⟩ (.int .i64 s)).setCell ⟨w4.heap.size, 1, none⟩ (.slice (some ⟨w5.heap.size, 0, none⟩) 0 0)).alloc (.cells #[] 3)).heap.size := by omega
    clear hk hs6 z6 z2 hbw hpl
    go_upto_region 8 with (fail)
    clear a0 a1 a2 af r0 r1 r2 rf u0 u1 u2 uf
    generalize (((w5.setCell ⟨w4.heap.size, 0, none⟩ (.int .i64 s)).setCell ⟨w4.heap.size, 1, none⟩ (.slice (some ⟨w5.heap.size, 0, none⟩) 0 0)).alloc (.cells #[] 3)) = w6 at *
    obtain ⟨u0, u1, u2, uf⟩ := three_cells HZ6.out
    obtain ⟨r0, r1, r2, rf⟩ := three_cells HZ2.out
    go_wp2
    refine bodyPost_ret (v := .tuple #[.agg #[.int .i64 s, .slice (some ⟨w5.heap.size, 0, none⟩) 0 0, .slice B3 x.pool.length d3], .bool true]) ?_ rfl ?_
    · rw [results_cell_tmp rfl]
      go_simp
    · rw [HM.out.1, HM.out.2]
      exact mixB_on (y := ⟨s, [], x.pool⟩) (lo := w3.heap.size) (hi := w4.heap.size) ⟨Ints.nil_ (Nat.zero_le _), HPW.out⟩ (by omega) (by omega) (by omega) (by omega) HBW.out _ _ _ _

end Sp6
end Go.Proofs.Ytnjcpbkpcmemeac
