/-
  Contracts of the model's MixTake and MixEpoch.
-/
import Derived.Test.YtnjcpbkpcmemeaaSp6b
namespace Go.Proofs.Ytnjcpbkpcmemeaa
open Go.RowKit
namespace Sp6
open Il Gm Mm Tm Lm Pm Pq Hlp5 Sl Mm6 Sp2

/-- What a valid mix's sizes are. -/
theorem mix_sizes {x : Mx} (h : mixOk x = true) : x.seen.length ≤ 12 ∧ x.pool.length ≤ 5 ∧ ∀ p ∈ x.pool, p.pk.hd.length = 9 ∧ p.pk.bd.length = 6 := by
  obtain ⟨h1, h2, h3, h4, h5⟩ := mixOk_iff.1 h
  refine ⟨h3, h5, fun p hp => ?_⟩
  unfold poolOk at h4
  rw [List.all_eq_true] at h4
  obtain ⟨q1, q2, q3⟩ := pldOk_iff.1 (h4 p hp)
  obtain ⟨r1, r2, r3, r4, r5, r6⟩ := pktOk_iff.1 q3
  exact ⟨r3, r6⟩
/-- The mix that is returned is handed on, by way of a block. -/
theorem mixB_on {lo hi b : Nat} {w wF : World} {A B : Option Addr} {c d : Nat} {y : Mx} (hm : MixR lo hi wF A y.seen.length c B y.pool.length d y) (hlo : w.heap.size ≤ lo) (hhi : hi ≤ wF.heap.size) (hb : b < lo) (hwb : w.heap.size ≤ b) (hbw : Below w.heap.size w wF) (v v0 v1 v2 : Value) :
    MixB y v w (.returned (.tuple #[.agg #[.int .i64 y.sec, .slice A y.seen.length c, .slice B y.pool.length d], v])) (((wF.setCell ⟨b, 0, none⟩ v0).setCell ⟨b, 1, none⟩ v1).setCell ⟨b, 2, none⟩ v2) := by
  have hs : (((wF.setCell ⟨b, 0, none⟩ v0).setCell ⟨b, 1, none⟩ v1).setCell ⟨b, 2, none⟩ v2).heap.size = wF.heap.size := by simp [World.setCell]
  have hk : ∀ x, lo ≤ x → x < hi → x < wF.heap.size → (((wF.setCell ⟨b, 0, none⟩ v0).setCell ⟨b, 1, none⟩ v1).setCell ⟨b, 2, none⟩ v2).heap[x]? = wF.heap[x]? := fun x q1 _ _ => farb3 (by omega) _ _ _
  exact ⟨A, c, B, d, rfl, ⟨(hm.1.keep (Nat.le_of_eq hs.symm) hk).mono hlo (by omega), (hm.2.keep (Nat.le_of_eq hs.symm) hk).mono hlo (by omega)⟩, ((hbw.setCell hwb _).setCell hwb _).setCell hwb _⟩

set_option maxRecDepth 20000 in
set_option maxHeartbeats 2000000 in
theorem MixTake (x : Mx) (p : Pkt) (A B A2 B2 : Option Addr) (c d c2 d2 lo hi l1 h1 l2 h2 : Nat) (w : World) (hx : MixR lo hi w A x.seen.length c B x.pool.length d x) (i1 : Ints l1 h1 w A2 p.hd.length c2 p.hd) (i2 : Ints l2 h2 w B2 p.bd.length d2 p.bd) :
    Calls Try.prog 16 #[.agg #[.int .i64 x.sec, .slice A x.seen.length c, .slice B x.pool.length d], .agg #[.int .i64 p.el, .slice A2 p.hd.length c2, .int .i64 p.tag, .slice B2 p.bd.length d2]] w (MixB (mtakeM x p) (.int .i64 (mtakeC x p)) w) := by
  obtain ⟨zb0, zb1, zb2, hs2, hb2⟩ := Hlp6.three_blocks w #[.int .i64 x.sec, .slice A x.seen.length c, .slice B x.pool.length d] #[.int .i64 p.el, .slice A2 p.hd.length c2, .int .i64 p.tag, .slice B2 p.bd.length d2] #[.int .i64 0, .slice none 0 0, .slice none 0 0] 27 34 27
  have HX := Lib.hid (hx.below hb2 (Nat.le_refl _))
  have I1 := Lib.hid (i1.below hb2 (Nat.le_refl _))
  have I2 := Lib.hid (i2.below hb2 (Nat.le_refl _))
  have Z0 := Lib.hid zb0
  have Z1 := Lib.hid zb1
  have Z2 := Lib.hid zb2
  have HB := Lib.hid hb2
  have hsz : w.heap.size + 1 + 1 < (((w.alloc (.cells #[.int .i64 x.sec, .slice A x.seen.length c, .slice B x.pool.length d] 27)).alloc (.cells #[.int .i64 p.el, .slice A2 p.hd.length c2, .int .i64 p.tag, .slice B2 p.bd.length d2] 34)).alloc (.cells #[.int .i64 0, .slice none 0 0, .slice none 0 0] 27)).heap.size := by rw [hs2]; omega
  clear hx i1 i2 zb0 zb1 zb2 hs2 hb2
  go_enter Try.func16, Try.ntmps16
  go_wp2_with fail
  generalize (((w.alloc (.cells #[.int .i64 x.sec, .slice A x.seen.length c, .slice B x.pool.length d] 27)).alloc (.cells #[.int .i64 p.el, .slice A2 p.hd.length c2, .int .i64 p.tag, .slice B2 p.bd.length d2] 34)).alloc (.cells #[.int .i64 0, .slice none 0 0, .slice none 0 0] 27)) = w2 at *
  ((with_reducible refine (MixValid x _ _ _ _ _ _ _ _ _ HX.out).mono ?_); rintro e w3 ⟨rfl, hb3⟩)
  have hs3 := hb3.size
  replace HX := Lib.hid (HX.out.below hb3 (Nat.le_refl _))
  replace I1 := Lib.hid (I1.out.below hb3 (Nat.le_refl _))
  replace I2 := Lib.hid (I2.out.below hb3 (Nat.le_refl _))
  replace Z0 := Lib.hid (Z0.out.below hb3 (Nat.le_refl _))
  replace Z1 := Lib.hid (Z1.out.below hb3 (Nat.le_refl _))
  replace Z2 := Lib.hid (Z2.out.below hb3 (Nat.le_refl _))
  replace HB := Lib.hid (HB.out.trans (hb3.mono HB.out.size))
  clear hb3
  cases hok : mixOk x
  · have HM := Lib.hid (mtake_no (p := p) (.inl hok))
    clear hok
    obtain ⟨r0, r1, r2, rf⟩ := three_cells Z2.out
    go_wp2
    refine bodyPost_ret (v := .tuple #[.agg #[.int .i64 0, .slice none 0 0, .slice none 0 0], .int .i64 4]) ?_ rfl ?_
    · rw [results_cell_tmp rfl]
      go_simp
    · rw [HM.out.1, HM.out.2]
      exact mix_zero _ (((HB.out.setCell (show w.heap.size ≤ w.heap.size + 1 + 1 by omega) _).setCell (show w.heap.size ≤ w.heap.size + 1 + 1 by omega) _).setCell (show w.heap.size ≤ w.heap.size + 1 + 1 by omega) _)
  have HOK := Lib.hid hok
  clear hok
  obtain ⟨p0, p1, p2, p3, pf⟩ := four_cells Z1.out
  go_wp2_with fail
  ((with_reducible refine (Sp5.PacketValid _ _ _ _ _ _ _ _ _ _ p.el p.tag p.hd p.bd _ I1.out I2.out).mono ?_); rintro e w4 ⟨rfl, hb4⟩)
  have hs4 := hb4.size
  replace HX := Lib.hid (HX.out.below hb4 (Nat.le_refl _))
  replace I1 := Lib.hid (I1.out.below hb4 (Nat.le_refl _))
  replace I2 := Lib.hid (I2.out.below hb4 (Nat.le_refl _))
  replace Z0 := Lib.hid (Z0.out.below hb4 (Nat.le_refl _))
  replace Z1 := Lib.hid (Z1.out.below hb4 (Nat.le_refl _))
  replace Z2 := Lib.hid (Z2.out.below hb4 (Nat.le_refl _))
  replace HB := Lib.hid (HB.out.trans (hb4.mono HB.out.size))
  clear hb4 p0 p1 p2 p3 pf
  obtain ⟨r0, r1, r2, rf⟩ := three_cells Z2.out
  cases hpk : pktOk p
  · have HM := Lib.hid (mtake_no (m := x) (.inr hpk))
    clear hpk
    go_wp2
    refine bodyPost_ret (v := .tuple #[.agg #[.int .i64 0, .slice none 0 0, .slice none 0 0], .int .i64 4]) ?_ rfl ?_
    · rw [results_cell_tmp rfl]
      go_simp
    · rw [HM.out.1, HM.out.2]
      exact mix_zero _ (((HB.out.setCell (show w.heap.size ≤ w.heap.size + 1 + 1 by omega) _).setCell (show w.heap.size ≤ w.heap.size + 1 + 1 by omega) _).setCell (show w.heap.size ≤ w.heap.size + 1 + 1 by omega) _)
  have HPK := Lib.hid hpk
  have HM := Lib.hid (mtake_yes HOK.out hpk)
  clear hpk
  obtain ⟨q1, q2, q3⟩ := mix_sizes HOK.out
  have HH : Hid (∀ p ∈ x.pool, p.pk.hd.length ≤ 1000 ∧ p.pk.bd.length ≤ 1000) := fun p hp => by have := q3 p hp; omega
  have HG := Lib.hid (mixOk_iff.1 HOK.out).1
  clear q3
  obtain ⟨a0, a1, a2, af⟩ := three_cells Z0.out
  obtain ⟨p0, p1, p2, p3, pf⟩ := four_cells Z1.out
  go_wp2_with fail
  ((with_reducible refine (l11Take x p _ _ _ _ _ _ _ _ _ _ _ _ _ _ _ _ _ HX.out I1.out I2.out (by omega) (by omega) HH.out HG.out HPK.out).mono ?_); rintro e w5 ⟨A5, c5, B5, d5, rfl, hr5, hb5⟩)
  have hs5 := hb5.size
  have HR5 := Lib.hid hr5
  replace Z2 := Lib.hid (Z2.out.below hb5 (Nat.le_refl _))
  replace HB := Lib.hid (HB.out.trans (hb5.mono HB.out.size))
  clear hb5 hr5 a0 a1 a2 af p0 p1 p2 p3 pf r0 r1 r2 rf
  obtain ⟨r0, r1, r2, rf⟩ := three_cells Z2.out
  go_wp2
  refine bodyPost_ret (v := .tuple #[.agg #[.int .i64 (takeM x p).sec, .slice A5 (takeM x p).seen.length c5, .slice B5 (takeM x p).pool.length d5], .int .i64 (takeC x p)]) ?_ rfl ?_
  · rw [results_cell_tmp rfl]
    go_simp
  · rw [HM.out.1, HM.out.2]
    exact mixB_on HR5.out (by omega) (Nat.le_refl _) (by omega) (by omega) HB.out _ _ _ _


end Sp6
end Go.Proofs.Ytnjcpbkpcmemeaa
