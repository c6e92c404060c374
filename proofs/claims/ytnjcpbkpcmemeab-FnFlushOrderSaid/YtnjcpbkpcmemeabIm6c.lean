/-
  Contracts of the program's MixTake and MixEpoch.
-/
import Derived.Test.YtnjcpbkpcmemeabIm6b
import Derived.Deep.Cut
namespace Go.Proofs.Ytnjcpbkpcmemeab
open Go.RowKit
namespace Im6
open Il Gm Mm Tm Lm Pm Pq Hlp5 Sl Mm6 Im2 Im5
open Sp6 (three_cells MixB mix_zero lacksTo newM mix_no)

theorem mixP_fin {lo mid hi b : Nat} {w wF : World} {A B : Option Addr} {c d : Nat} {y : Mx} (hm : MixG lo mid hi wF (.slice A y.seen.length c) (.slice B y.pool.length d) y) (hhi : hi ≤ wF.heap.size) (hb : b < lo) (hwb : w.heap.size ≤ b) (hbw : Below w.heap.size w wF) (v v0 v1 v2 : Value) :
    MixP y v w (.returned (.tuple #[.agg #[.int .i64 y.sec, .slice A y.seen.length c, .slice B y.pool.length d], v])) (((wF.setCell ⟨b, 0, none⟩ v0).setCell ⟨b, 1, none⟩ v1).setCell ⟨b, 2, none⟩ v2) := by
  obtain ⟨G, h1, h2⟩ := mixG_fin hm hb v0 v1 v2
  have hs : (((wF.setCell ⟨b, 0, none⟩ v0).setCell ⟨b, 1, none⟩ v1).setCell ⟨b, 2, none⟩ v2).heap.size = wF.heap.size := by simp [World.setCell]
  exact ⟨A, c, B, d, G, rfl, h1, fun f hf x hx => by have := h2 f hf x hx; omega, ((hbw.setCell hwb _).setCell hwb _).setCell hwb _⟩


theorem mixO_noSeen {w : World} {A B : Option Addr} {c d m : Nat} {s : Int} {ps : List Pld} {G : List (List Nat)} (hc : c ≤ maxLen) (hp : PoolO w B m d ps G) : MixO w A 0 c B m d ⟨s, [], ps⟩ ([] :: G) :=
  ⟨0, G, Own.nil_ hc, hp, rfl, foot_cons hp.foot (by simp) fun g _ x h => by simp at h⟩
set_option maxRecDepth 20000 in
set_option maxHeartbeats 2000000 in
theorem MixEpochP (x : Mx) (s : Int) (A B : Option Addr) (c d lo hi : Nat) (w : World) (hx : MixR lo hi w A x.seen.length c B x.pool.length d x) :
    Calls Try.prog 16 #[.agg #[.int .i64 x.sec, .slice A x.seen.length c, .slice B x.pool.length d], .int .i64 s] w (MixP (epochM x s) (.bool (epochB x s)) w) := by
  obtain ⟨zb0, zb1, hs2, hb2⟩ := Sp6.two_blocks w #[.int .i64 x.sec, .slice A x.seen.length c, .slice B x.pool.length d] #[.int .i64 0, .slice none 0 0, .slice none 0 0] 26 26
  have HX := Lib.hid (hx.below hb2 (Nat.le_refl _))
  have Z0 := Lib.hid zb0
  have Z2 := Lib.hid zb1
  have HB := Lib.hid hb2
  have hsz : w.heap.size + 1 < ((w.alloc (.cells #[.int .i64 x.sec, .slice A x.seen.length c, .slice B x.pool.length d] 26)).alloc (.cells #[.int .i64 0, .slice none 0 0, .slice none 0 0] 26)).heap.size := by rw [hs2]; omega
  clear hx zb0 zb1 hs2 hb2
  go_enter Try.func16, Try.ntmps16
  go_wp2_with fail
  generalize ((w.alloc (.cells #[.int .i64 x.sec, .slice A x.seen.length c, .slice B x.pool.length d] 26)).alloc (.cells #[.int .i64 0, .slice none 0 0, .slice none 0 0] 26)) = w2 at *
  ((with_reducible refine (MixValid x _ _ _ _ _ _ _ _ _ HX.out).mono ?_); rintro e w3 ⟨rfl, hb3⟩)
  have hs3 := hb3.size
  replace HX := Lib.hid (HX.out.below hb3 (Nat.le_refl _))
  replace Z0 := Lib.hid (Z0.out.below hb3 (Nat.le_refl _))
  replace Z2 := Lib.hid (Z2.out.below hb3 (Nat.le_refl _))
  replace HB := Lib.hid (HB.out.trans (hb3.mono HB.out.size))
  clear hb3
  obtain ⟨r0, r1, r2, rf⟩ := three_cells Z2.out
  cases hok : mixOk x
  · have HM := Lib.hid (Sp6.epoch_no (s := s) (.inl hok))
    clear hok
    go_wp2
    refine bodyPost_ret (v := .tuple #[.agg #[.int .i64 0, .slice none 0 0, .slice none 0 0], .bool false]) ?_ rfl ?_
    · rw [results_cell_tmp rfl]
      go_simp
    · rw [HM.out.1, HM.out.2]
      exact mixP_zero _ (((HB.out.setCell (show w.heap.size ≤ w.heap.size + 1 by omega) _).setCell (show w.heap.size ≤ w.heap.size + 1 by omega) _).setCell (show w.heap.size ≤ w.heap.size + 1 by omega) _)
  have HOK := Lib.hid hok
  clear hok
  go_wp2_with fail
  ((with_reducible refine (inRange s _).mono ?_); rintro e w' ⟨rfl, rfl⟩)
  cases hg : inG s
  · have HM := Lib.hid (Sp6.epoch_no (x := x) (.inr hg))
    clear hg
    go_wp2
    refine bodyPost_ret (v := .tuple #[.agg #[.int .i64 0, .slice none 0 0, .slice none 0 0], .bool false]) ?_ rfl ?_
    · rw [results_cell_tmp rfl]
      go_simp
    · rw [HM.out.1, HM.out.2]
      exact mixP_zero _ (((HB.out.setCell (show w.heap.size ≤ w.heap.size + 1 by omega) _).setCell (show w.heap.size ≤ w.heap.size + 1 by omega) _).setCell (show w.heap.size ≤ w.heap.size + 1 by omega) _)
  have HG := Lib.hid hg
  clear hg
  obtain ⟨q1, q2, q3⟩ := Sp6.mix_sizes HOK.out
  have HH : Hid (∀ p ∈ x.pool, p.pk.hd.length ≤ 1000 ∧ p.pk.bd.length ≤ 1000) := fun p hp => by have := q3 p hp; omega
  clear q3
  obtain ⟨a0, a1, a2, af⟩ := three_cells Z0.out
  go_wp2_with fail
  ((with_reducible refine (copyMix x _ _ _ _ _ _ _ HX.out (by omega) (by omega) HH.out).mono ?_); rintro e w4 ⟨A3, c3, B3, d3, mid, rfl, hmg, hb4⟩)
  have hs4 := hb4.size
  replace Z0 := Lib.hid (Z0.out.below hb4 (Nat.le_refl _))
  replace Z2 := Lib.hid (Z2.out.below hb4 (Nat.le_refl _))
  replace HB := Lib.hid (HB.out.trans (hb4.mono HB.out.size))
  have HMG := Lib.hid hmg
  clear hb4 hmg a0 a1 a2 af r0 r1 r2 rf HX
  have hal : Below w4.heap.size w4 (w4.alloc (.cells #[.int .i64 x.sec, .slice A3 x.seen.length c3, .slice B3 x.pool.length d3] 26)) := (Below.refl _ _).alloc (Nat.le_refl _) _
  have Z6 : Hid (Blk (w4.alloc (.cells #[.int .i64 x.sec, .slice A3 x.seen.length c3, .slice B3 x.pool.length d3] 26)) w4.heap.size #[.int .i64 x.sec, .slice A3 x.seen.length c3, .slice B3 x.pool.length d3] 26) := heap_alloc_new _ _
  replace Z0 := Lib.hid (Z0.out.below hal (Nat.le_refl _))
  replace Z2 := Lib.hid (Z2.out.below hal (Nat.le_refl _))
  replace HB := Lib.hid (HB.out.trans (hal.mono HB.out.size))
  replace HMG := Lib.hid (HMG.out.below hal (Nat.le_refl _))
  have hs5 : w4.heap.size < (w4.alloc (.cells #[.int .i64 x.sec, .slice A3 x.seen.length c3, .slice B3 x.pool.length d3] 26)).heap.size := by simp
  clear hal
  go_upto_region 4 with (fail)
  generalize (w4.alloc (.cells #[.int .i64 x.sec, .slice A3 x.seen.length c3, .slice B3 x.pool.length d3] 26)) = w5 at *
  obtain ⟨a0, a1, a2, af⟩ := three_cells Z0.out
  obtain ⟨r0, r1, r2, rf⟩ := three_cells Z2.out
  obtain ⟨u0, u1, u2, uf⟩ := three_cells Z6.out
  by_cases he : s = x.sec
  · have HM := Lib.hid (Sp6.epoch_same HOK.out HG.out he)
    have e0 : (s == x.sec) = true := by simpa using he
    clear he
    go_wp2
    refine bodyPost_ret (v := .tuple #[.agg #[.int .i64 x.sec, .slice A3 x.seen.length c3, .slice B3 x.pool.length d3], .bool false]) ?_ rfl ?_
    · rw [results_cell_tmp rfl]
      go_simp
    · rw [HM.out.1, HM.out.2]
      exact mixP_fin HMG.out (by omega) (by omega) (by omega) HB.out _ _ _ _
  · have HM := Lib.hid (Sp6.epoch_new HOK.out HG.out he)
    have e0 : (s == x.sec) = false := by simpa using he
    clear he
    obtain ⟨B6, d6, G6, e6, hpo, hwi⟩ := HMG.out.2.1.own
    simp only [Value.slice.injEq, true_and] at e6
    obtain ⟨rfl, rfl⟩ := e6
    have HPL := Lib.hid hpo
    have HWI : Hid (Within w3.heap.size w4.heap.size G6) := fun f hf y hy => by have h1 := hwi f hf y hy; have h2 := HMG.out.2.2.1; omega
    clear hpo hwi
    have hk : ∀ y, y < w5.heap.size → y ≠ w4.heap.size → (((w5.setCell ⟨w4.heap.size, 0, none⟩ (.int .i64 s)).setCell ⟨w4.heap.size, 1, none⟩ (.slice (some ⟨w5.heap.size, 0, none⟩) 0 0)).alloc (.cells #[] 3)).heap[y]? = w5.heap[y]? := fun y q1 q2 =>
      (Below.heap_alloc _ _ _ (by simpa [World.setCell] using q1)).trans ((Below.heap_setCell _ _ _ _ q2).trans (Below.heap_setCell _ _ _ _ q2))
    have hs6 : (((w5.setCell ⟨w4.heap.size, 0, none⟩ (.int .i64 s)).setCell ⟨w4.heap.size, 1, none⟩ (.slice (some ⟨w5.heap.size, 0, none⟩) 0 0)).alloc (.cells #[] 3)).heap.size = w5.heap.size + 1 := by simp [World.setCell]
    have z6 : Blk (((w5.setCell ⟨w4.heap.size, 0, none⟩ (.int .i64 s)).setCell ⟨w4.heap.size, 1, none⟩ (.slice (some ⟨w5.heap.size, 0, none⟩) 0 0)).alloc (.cells #[] 3)) w4.heap.size #[.int .i64 s, .slice (some ⟨w5.heap.size, 0, none⟩) 0 0, .slice B3 x.pool.length d3] 26 := by
      have q1 := Sp6.blk3_set0 (v := .int .i64 s) Z6.out
      exact (Below.heap_alloc _ _ _ (by simpa [World.setCell] using hs5)).trans (Sp6.blk3_set1 q1)
    have hbw : Below w.heap.size w (((w5.setCell ⟨w4.heap.size, 0, none⟩ (.int .i64 s)).setCell ⟨w4.heap.size, 1, none⟩ (.slice (some ⟨w5.heap.size, 0, none⟩) 0 0)).alloc (.cells #[] 3)) := ((HB.out.setCell (p := ⟨w4.heap.size, 0, none⟩) (show w.heap.size ≤ w4.heap.size by omega) (.int .i64 s)).setCell (show w.heap.size ≤ w4.heap.size by omega) _).alloc (by simp [World.setCell]; omega) _
    have z2 : Blk (((w5.setCell ⟨w4.heap.size, 0, none⟩ (.int .i64 s)).setCell ⟨w4.heap.size, 1, none⟩ (.slice (some ⟨w5.heap.size, 0, none⟩) 0 0)).alloc (.cells #[] 3)) (w.heap.size + 1) _ _ := (hk _ (by omega) (by omega)).trans Z2.out
    have hpl := HPL.out.keep (w' := (((w5.setCell ⟨w4.heap.size, 0, none⟩ (.int .i64 s)).setCell ⟨w4.heap.size, 1, none⟩ (.slice (some ⟨w5.heap.size, 0, none⟩) 0 0)).alloc (.cells #[] 3))) (by omega) (fun f hf y hy => hk y (by have := HWI.out f hf y hy; omega) (by have := HWI.out f hf y hy; omega))
    have HZ6 := Lib.hid z6
    have HZ2 := Lib.hid z2
    have HBW := Lib.hid hbw
    have HPW := Lib.hid hpl
    have hs7 : w5.heap.size ≤ (((w5.setCell ⟨w4.heap.size, 0, none⟩ (.int .i64 s)).setCell ⟨w4.heap.size, 1, none⟩ (.slice (some ⟨w5.heap.size, 0, none⟩) 0 0)).alloc (.cells #[] 3)).heap.size := by omega
    clear hk hs6 z6 z2 hbw hpl
    go_upto_region 7 with (fail)
    clear a0 a1 a2 af r0 r1 r2 rf u0 u1 u2 uf
    generalize (((w5.setCell ⟨w4.heap.size, 0, none⟩ (.int .i64 s)).setCell ⟨w4.heap.size, 1, none⟩ (.slice (some ⟨w5.heap.size, 0, none⟩) 0 0)).alloc (.cells #[] 3)) = w6 at *
    obtain ⟨u0, u1, u2, uf⟩ := three_cells HZ6.out
    obtain ⟨r0, r1, r2, rf⟩ := three_cells HZ2.out
    go_wp2
    refine bodyPost_ret (v := .tuple #[.agg #[.int .i64 s, .slice (some ⟨w5.heap.size, 0, none⟩) 0 0, .slice B3 x.pool.length d3], .bool true]) ?_ rfl ?_
    · rw [results_cell_tmp rfl]
      go_simp
    · rw [HM.out.1, HM.out.2]
      have h3 : (((w6.setCell ⟨w.heap.size + 1, 0, none⟩ (.int .i64 s)).setCell ⟨w.heap.size + 1, 1, none⟩ (.slice (some ⟨w5.heap.size, 0, none⟩) 0 0)).setCell ⟨w.heap.size + 1, 2, none⟩ (.slice B3 x.pool.length d3)).heap.size = w6.heap.size := by simp [World.setCell]
      have hk := HPW.out.keep (w' := (((w6.setCell ⟨w.heap.size + 1, 0, none⟩ (.int .i64 s)).setCell ⟨w.heap.size + 1, 1, none⟩ (.slice (some ⟨w5.heap.size, 0, none⟩) 0 0)).setCell ⟨w.heap.size + 1, 2, none⟩ (.slice B3 x.pool.length d3))) (by omega) (fun f hf y hy => Sp6.farb3 (by have := HWI.out f hf y hy; omega) _ _ _)
      refine ⟨_, 0, B3, d3, _, rfl, mixO_noSeen (Nat.zero_le _) hk, fun f hf y hy => ?_, ((HBW.out.setCell (show w.heap.size ≤ w.heap.size + 1 by omega) _).setCell (show w.heap.size ≤ w.heap.size + 1 by omega) _).setCell (show w.heap.size ≤ w.heap.size + 1 by omega) _⟩
      rcases List.mem_cons.1 hf with rfl | hf
      · simp at hy
      · have := HWI.out f hf y hy
        omega
theorem MixEpoch (x : Mx) (s : Int) (A B : Option Addr) (c d lo hi : Nat) (w : World) (hx : MixR lo hi w A x.seen.length c B x.pool.length d x) :
    Calls Try.prog 16 #[.agg #[.int .i64 x.sec, .slice A x.seen.length c, .slice B x.pool.length d], .int .i64 s] w (MixB (epochM x s) (.bool (epochB x s)) w) :=
  (MixEpochP x s A B c d lo hi w hx).mono fun _ _ h => h.b

end Im6
end Go.Proofs.Ytnjcpbkpcmemeab
