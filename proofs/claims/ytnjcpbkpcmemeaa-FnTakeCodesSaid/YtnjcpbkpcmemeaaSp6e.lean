/-
  The contract of the model's MixFlush.
-/
import Derived.Test.YtnjcpbkpcmemeaaSp6d
namespace Go.Proofs.Ytnjcpbkpcmemeaa
open Go.RowKit
namespace Sp6
open Il Gm Mm Tm Lm Pm Pq Hlp5 Sl Mm6 Sp2

/-- A mix and a list of packets are returned, in new memory. -/
def FlushB (x : Mx) (l : List Pld) (w : World) (e : Ending) (w' : World) : Prop :=
  ∃ A c B d C q, e = .returned (.tuple #[.agg #[.int .i64 x.sec, .slice A x.seen.length c, .slice B x.pool.length d], .slice C l.length q]) ∧ MixR w.heap.size w'.heap.size w' A x.seen.length c B x.pool.length d x ∧ Pool w.heap.size w'.heap.size w' C l.length q l ∧ Below w.heap.size w w'
/-- .. the mix is the caller's own, and its keys can be appended to. -/
def FlushS (x : Mx) (l : List Pld) (w : World) (e : Ending) (w' : World) : Prop :=
  ∃ A c B d C q, e = .returned (.tuple #[.agg #[.int .i64 x.sec, .slice A x.seen.length c, .slice B x.pool.length d], .slice C l.length q]) ∧ MixD w.heap.size w' A c B d x ∧ Pool w.heap.size w'.heap.size w' C l.length q l ∧ Below w.heap.size w w'
theorem FlushS.b {x : Mx} {l : List Pld} {w : World} {e : Ending} {w' : World} (h : FlushS x l w e w') : FlushB x l w e w' := by
  obtain ⟨A, c, B, d, C, q, rfl, h1, h2, h3⟩ := h
  exact ⟨A, c, B, d, C, q, rfl, h1.mix, h2, h3⟩
theorem flush_no {x : Mx} {all : Bool} (h : mixOk x = false) : flushM x all = Mx.zero ∧ flushL x all = [] := by
  unfold flushM flushL
  rw [h]; exact ⟨rfl, rfl⟩
theorem flush_few {x : Mx} {all : Bool} (h : mixOk x = true) (h2 : x.pool.length < 2) (h3 : all = false) : flushM x all = x ∧ flushL x all = [] := by
  unfold flushM flushL
  rw [h, decide_eq_true h2, h3]; exact ⟨rfl, rfl⟩
theorem flush_yes {x : Mx} {all : Bool} (h : mixOk x = true) (h2 : ¬ x.pool.length < 2 ∨ all = true) : flushM x all = ⟨x.sec, x.seen, []⟩ ∧ flushL x all = sortP x.pool := by
  unfold flushM flushL
  have : (decide (x.pool.length < 2) && !all) = false := by
    rcases h2 with h2 | h2
    · rw [decide_eq_false h2]; rfl
    · rw [h2]; simp
  rw [h, this]; exact ⟨rfl, rfl⟩

set_option maxRecDepth 20000 in
set_option maxHeartbeats 2000000 in
theorem MixFlushS (x : Mx) (all : Bool) (A B : Option Addr) (c d lo hi : Nat) (w : World) (hx : MixR lo hi w A x.seen.length c B x.pool.length d x) :
    Calls Try.prog 55 #[.agg #[.int .i64 x.sec, .slice A x.seen.length c, .slice B x.pool.length d], .bool all] w (FlushS (flushM x all) (flushL x all) w) := by
  obtain ⟨zb0, zb1, hs2, hb2⟩ := two_blocks w #[.int .i64 x.sec, .slice A x.seen.length c, .slice B x.pool.length d] #[.int .i64 0, .slice none 0 0, .slice none 0 0] 27 27
  have HX := Lib.hid ((hx.top (lo2 := 0) (Nat.zero_le _)).below hb2 (Nat.le_refl _))
  have Z0 := Lib.hid zb0
  have Z2 := Lib.hid zb1
  have HB := Lib.hid hb2
  have hsz : w.heap.size + 1 < ((w.alloc (.cells #[.int .i64 x.sec, .slice A x.seen.length c, .slice B x.pool.length d] 27)).alloc (.cells #[.int .i64 0, .slice none 0 0, .slice none 0 0] 27)).heap.size := by rw [hs2]; omega
  clear hx zb0 zb1 hs2 hb2
  go_enter Try.func55, Try.ntmps55
  go_wp2_with fail
  generalize ((w.alloc (.cells #[.int .i64 x.sec, .slice A x.seen.length c, .slice B x.pool.length d] 27)).alloc (.cells #[.int .i64 0, .slice none 0 0, .slice none 0 0] 27)) = w2 at *
  ((with_reducible refine (MixValid x _ _ _ _ _ _ _ _ _ HX.out).mono ?_); rintro e w3 ⟨rfl, hb3⟩)
  have hs3 := hb3.size
  replace HX := Lib.hid (HX.out.below hb3 (Nat.le_refl _))
  replace Z0 := Lib.hid (Z0.out.below hb3 (Nat.le_refl _))
  replace Z2 := Lib.hid (Z2.out.below hb3 (Nat.le_refl _))
  replace HB := Lib.hid (HB.out.trans (hb3.mono HB.out.size))
  clear hb3
  cases hok : mixOk x
  · have HM := Lib.hid (flush_no (all := all) hok)
    clear hok
    have hal : Below w3.heap.size w3 (w3.alloc (.cells #[] 40)) := (Below.refl _ _).alloc (Nat.le_refl _) _
    obtain ⟨r0, r1, r2, rf⟩ := three_cells (Z2.out.below hal (Nat.le_refl _))
    have HBA := Lib.hid (HB.out.trans (hal.mono HB.out.size))
    clear hal
    go_upto_region 2 with (fail)
    go_wp2
    refine bodyPost_ret (v := .tuple #[.agg #[.int .i64 0, .slice none 0 0, .slice none 0 0], .slice (some ⟨w3.heap.size, 0, none⟩) 0 0]) ?_ rfl ?_
    · rw [results_cell_tmp rfl]
      go_simp
    · rw [HM.out.1, HM.out.2]
      exact ⟨none, 0, none, 0, _, 0, rfl, mixD_empty rfl (Nat.zero_le _), Pool.nil_ (Nat.zero_le _), by
        repeat first | exact HB.out | exact HBA.out | (refine Below.setCell ?_ (show w.heap.size ≤ w.heap.size + 1 by omega) _) | (refine Below.alloc ?_ (by have := HB.out.size; simp [World.setCell]; omega) _)⟩
  have HOK := Lib.hid hok
  clear hok
  obtain ⟨q1, q2, q3⟩ := mix_sizes HOK.out
  have HH : Hid (∀ p ∈ x.pool, p.pk.hd.length ≤ 1000 ∧ p.pk.bd.length ≤ 1000) := fun p hp => by have := q3 p hp; omega
  clear q3
  obtain ⟨a0, a1, a2, af⟩ := three_cells Z0.out
  go_wp2_with fail
  ((with_reducible refine (l11Copy x _ _ _ _ _ _ _ _ _ HX.out (by omega) (by omega) HH.out).mono ?_); rintro e w4 ⟨A3, c3, B3, d3, mid, rfl, hmg, hb4⟩)
  have hs4 := hb4.size
  replace HX := Lib.hid (HX.out.below hb4 (Nat.le_refl _))
  replace Z0 := Lib.hid (Z0.out.below hb4 (Nat.le_refl _))
  replace Z2 := Lib.hid (Z2.out.below hb4 (Nat.le_refl _))
  replace HB := Lib.hid (HB.out.trans (hb4.mono HB.out.size))
  have HMG := Lib.hid hmg
  clear hb4 hmg a0 a1 a2 af
  have hal : Below w4.heap.size w4 (w4.alloc (.cells #[.int .i64 x.sec, .slice A3 x.seen.length c3, .slice B3 x.pool.length d3] 27)) := (Below.refl _ _).alloc (Nat.le_refl _) _
  have Z6 : Hid (Blk (w4.alloc (.cells #[.int .i64 x.sec, .slice A3 x.seen.length c3, .slice B3 x.pool.length d3] 27)) w4.heap.size #[.int .i64 x.sec, .slice A3 x.seen.length c3, .slice B3 x.pool.length d3] 27) := heap_alloc_new _ _
  replace HX := Lib.hid (HX.out.below hal (Nat.le_refl _))
  replace Z0 := Lib.hid (Z0.out.below hal (Nat.le_refl _))
  replace Z2 := Lib.hid (Z2.out.below hal (Nat.le_refl _))
  replace HB := Lib.hid (HB.out.trans (hal.mono HB.out.size))
  replace HMG := Lib.hid (HMG.out.below hal (Nat.le_refl _))
  have hs5 : w4.heap.size < (w4.alloc (.cells #[.int .i64 x.sec, .slice A3 x.seen.length c3, .slice B3 x.pool.length d3] 27)).heap.size := by simp
  clear hal
  go_upto_region 4 with (fail)
  generalize (w4.alloc (.cells #[.int .i64 x.sec, .slice A3 x.seen.length c3, .slice B3 x.pool.length d3] 27)) = w5 at *
  have hal : Below w5.heap.size w5 (w5.alloc (.cells #[] 40)) := (Below.refl _ _).alloc (Nat.le_refl _) _
  have HMGA := Lib.hid (HMG.out.below hal (Nat.le_refl _))
  have HXA := Lib.hid (HX.out.below hal (Nat.le_refl _))
  have Z0A := Lib.hid (Z0.out.below hal (Nat.le_refl _))
  have Z2A := Lib.hid (Z2.out.below hal (Nat.le_refl _))
  have Z6A := Lib.hid (Z6.out.below hal (Nat.le_refl _))
  have HBA := Lib.hid (HB.out.trans (hal.mono HB.out.size))
  have hs6 : w5.heap.size < (w5.alloc (.cells #[] 40)).heap.size := by simp
  clear hal
  obtain ⟨a0, a1, a2, af⟩ := three_cells Z0.out
  obtain ⟨u0, u1, u2, uf⟩ := three_cells Z6.out
  by_cases hfew : x.pool.length < 2 ∧ all = false
  · obtain ⟨h2, h3⟩ := hfew
    have HM := Lib.hid (flush_few HOK.out h2 h3)
    have e2 : decide ((x.pool.length : Int) < 2) = true := by simp; omega
    subst h3
    obtain ⟨r0, r1, r2, rf⟩ := three_cells Z2A.out
    obtain ⟨y0, y1, y2, yf⟩ := three_cells Z6A.out
    go_wp2
    refine bodyPost_ret (v := .tuple #[.agg #[.int .i64 x.sec, .slice A3 x.seen.length c3, .slice B3 x.pool.length d3], .slice (some ⟨w5.heap.size, 0, none⟩) 0 0]) ?_ rfl ?_
    · rw [results_cell_tmp rfl]
      go_simp
    · rw [HM.out.1, HM.out.2]
      obtain ⟨A9, c9, B9, d9, e9, h9, h8⟩ := mixS_fin HMGA.out (b := w.heap.size + 1) (w := w) (by omega) (by omega) (by omega) (by omega) HBA.out (.bool true) (.int .i64 x.sec) (.slice A3 x.seen.length c3) (.slice B3 x.pool.length d3)
      simp only [Ending.returned.injEq, Value.tuple.injEq, Array.mk.injEq, List.cons.injEq, Value.agg.injEq, Value.slice.injEq, true_and, and_true] at e9
      obtain ⟨⟨rfl, rfl⟩, rfl, rfl⟩ := e9
      exact ⟨A3, c3, B3, d3, _, 0, rfl, h9, Pool.nil_ (Nat.zero_le _), h8⟩
  · have HM := Lib.hid (flush_yes (all := all) HOK.out (by
      by_cases h2 : x.pool.length < 2
      · right
        cases all
        · exact absurd ⟨h2, rfl⟩ hfew
        · rfl
      · exact .inl h2))
    have hk : ∀ y, y < w5.heap.size → y ≠ w4.heap.size → ((w5.setCell ⟨w4.heap.size, 2, none⟩ (.slice (some ⟨w5.heap.size, 0, none⟩) 0 0)).alloc (.cells #[] 40)).heap[y]? = w5.heap[y]? := fun y q1 q2 =>
      (Below.heap_alloc _ _ _ (by simpa [World.setCell] using q1)).trans (Below.heap_setCell _ _ _ _ q2)
    have hs7 : ((w5.setCell ⟨w4.heap.size, 2, none⟩ (.slice (some ⟨w5.heap.size, 0, none⟩) 0 0)).alloc (.cells #[] 40)).heap.size = w5.heap.size + 1 := by simp [World.setCell]
    obtain ⟨g8, hd8, hg8⟩ := HMG.out.1
    have hdl8 := dest_lt hd8
    have hmid := HMG.out.2.2.2
    have SEEN := Lib.hid (dest_keep hd8 (w' := ((w5.setCell ⟨w4.heap.size, 2, none⟩ (.slice (some ⟨w5.heap.size, 0, none⟩) 0 0)).alloc (.cells #[] 40))) (fun y e => hk y (hdl8 y e) (by have := hg8 y e; omega)))
    have HG8 := Lib.hid hg8
    have HX7 : Hid (Pool 0 w.heap.size ((w5.setCell ⟨w4.heap.size, 2, none⟩ (.slice (some ⟨w5.heap.size, 0, none⟩) 0 0)).alloc (.cells #[] 40)) B x.pool.length d x.pool) := HX.out.2.keep (by omega) (fun y q1 q2 q3 => hk y q3 (by omega))
    have Z67 : Hid (Blk ((w5.setCell ⟨w4.heap.size, 2, none⟩ (.slice (some ⟨w5.heap.size, 0, none⟩) 0 0)).alloc (.cells #[] 40)) w4.heap.size #[.int .i64 x.sec, .slice A3 x.seen.length c3, .slice (some ⟨w5.heap.size, 0, none⟩) 0 0] 27) := (Below.heap_alloc _ _ _ (by simpa [World.setCell] using hs5)).trans (blk3_set2 Z6.out)
    have Z07 : Hid (Blk ((w5.setCell ⟨w4.heap.size, 2, none⟩ (.slice (some ⟨w5.heap.size, 0, none⟩) 0 0)).alloc (.cells #[] 40)) w.heap.size _ _) := (hk _ (by omega) (by omega)).trans Z0.out
    have Z27 : Hid (Blk ((w5.setCell ⟨w4.heap.size, 2, none⟩ (.slice (some ⟨w5.heap.size, 0, none⟩) 0 0)).alloc (.cells #[] 40)) (w.heap.size + 1) _ _) := (hk _ (by omega) (by omega)).trans Z2.out
    have HB7 : Hid (Below w.heap.size w ((w5.setCell ⟨w4.heap.size, 2, none⟩ (.slice (some ⟨w5.heap.size, 0, none⟩) 0 0)).alloc (.cells #[] 40))) := (HB.out.setCell (show w.heap.size ≤ w4.heap.size by omega) _).alloc (by have := HB.out.size; simp [World.setCell]; omega) _
    have hs7' : w5.heap.size < ((w5.setCell ⟨w4.heap.size, 2, none⟩ (.slice (some ⟨w5.heap.size, 0, none⟩) 0 0)).alloc (.cells #[] 40)).heap.size := by omega
    have HNE : Hid (w4.heap.size ≠ w.heap.size + 1) := by show _ ≠ _; omega
    have HNE2 : Hid (w.heap.size ≠ w.heap.size + 1) := by show _ ≠ _; omega
    clear hk hs7 hd8 hg8 hdl8
    by_cases h2 : x.pool.length < 2
    case' pos =>
      have hall : all = true := by
        cases all
        · exact absurd ⟨h2, rfl⟩ hfew
        · rfl
      subst hall
      have e2 : decide ((x.pool.length : Int) < 2) = true := by simp; omega
    case' neg =>
      have e2 : decide ((x.pool.length : Int) < 2) = false := by simp; omega
    all_goals
      clear hfew
      go_upto_region 7 with (fail)
      clear a0 a1 a2 af u0 u1 u2 uf
      generalize ((w5.setCell ⟨w4.heap.size, 2, none⟩ (.slice (some ⟨w5.heap.size, 0, none⟩) 0 0)).alloc (.cells #[] 40)) = w6 at *
      have SA : Hid (w6.drew.cell? ⟨w4.heap.size, 0, none⟩ = some (.int .i64 x.sec) ∧ w6.drew.cell? ⟨w4.heap.size, 1, none⟩ = some (.slice A3 x.seen.length c3) ∧ w6.drew.cell? ⟨w4.heap.size, 2, none⟩ = some (.slice (some ⟨w5.heap.size, 0, none⟩) 0 0) ∧ w6.drew.cell? ⟨w.heap.size, 2, none⟩ = some (.slice B x.pool.length d)) := ⟨(three_cells Z67.out).1, (three_cells Z67.out).2.1, (three_cells Z67.out).2.2.1, (three_cells Z07.out).2.2.1⟩
      have PO : Hid (Pool 0 w.heap.size w6.drew B x.pool.length d x.pool) := HX7.out
      go_region_held3 (fun w' => w'.cell? ⟨w4.heap.size, 0, none⟩ = some (.int .i64 x.sec) ∧ w'.cell? ⟨w4.heap.size, 1, none⟩ = some (.slice A3 x.seen.length c3) ∧ w'.cell? ⟨w4.heap.size, 2, none⟩ = some (.slice (some ⟨w5.heap.size, 0, none⟩) 0 0) ∧ w'.cell? ⟨w.heap.size, 2, none⟩ = some (.slice B x.pool.length d))
        (first | with_reducible exact SA.out | with_reducible exact kB | with_reducible exact ⟨(far3 HNE.out _ _ _).trans kB.1, (far3 HNE.out _ _ _).trans kB.2.1, (far3 HNE.out _ _ _).trans kB.2.2.1, (far3 HNE2.out _ _ _).trans kB.2.2.2⟩ | fail)
        ((go_at_call 77; refine (l11Sort _ _ _ _ _ x.pool _ PO.out (by omega) HH.out).mono ?_; rintro e w7 ⟨A9, c9, rfl, hg9, hb90⟩; have hb9 : Below w6.heap.size w6 w7 := below_drew hb90; have z6 := Z67.out.below hb9 (Nat.le_refl _); have z0 := Z07.out.below hb9 (Nat.le_refl _); have kB : (w7.cell? ⟨w4.heap.size, 0, none⟩ = some (.int .i64 x.sec) ∧ w7.cell? ⟨w4.heap.size, 1, none⟩ = some (.slice A3 x.seen.length c3) ∧ w7.cell? ⟨w4.heap.size, 2, none⟩ = some (.slice (some ⟨w5.heap.size, 0, none⟩) 0 0) ∧ w7.cell? ⟨w.heap.size, 2, none⟩ = some (.slice B x.pool.length d)) := ⟨(three_cells z6).1, (three_cells z6).2.1, (three_cells z6).2.2.1, (three_cells z0).2.2.1⟩; obtain ⟨r0, r1, r2, rf⟩ := three_cells (Z27.out.below hb9 (Nat.le_refl _))))
      all_goals
        obtain ⟨A8, c8, G8, e8, hpo, hwi⟩ := hg9.own
        simp only [Value.slice.injEq, true_and] at e8
        obtain ⟨rfl, rfl⟩ := e8
        have hs8 : (((w7.setCell ⟨w.heap.size + 1, 0, none⟩ (.int .i64 x.sec)).setCell ⟨w.heap.size + 1, 1, none⟩ (.slice A3 x.seen.length c3)).setCell ⟨w.heap.size + 1, 2, none⟩ (.slice (some ⟨w5.heap.size, 0, none⟩) 0 0)).heap.size = w7.heap.size := by simp [World.setCell]
        have hs9 := hb9.size
        have P9 := Lib.hid ((hpo.pool hwi).keep (w' := (((w7.setCell ⟨w.heap.size + 1, 0, none⟩ (.int .i64 x.sec)).setCell ⟨w.heap.size + 1, 1, none⟩ (.slice A3 x.seen.length c3)).setCell ⟨w.heap.size + 1, 2, none⟩ (.slice (some ⟨w5.heap.size, 0, none⟩) 0 0))) (by omega) (fun y q1 q2 q3 => farb3 (by simp at q1; omega) _ _ _))
        have d7 := dest_keep SEEN.out (w' := w7) (fun y e => hb9.block y (dest_lt SEEN.out y e))
        have S9 : Hid (MixD w.heap.size (((w7.setCell ⟨w.heap.size + 1, 0, none⟩ (.int .i64 x.sec)).setCell ⟨w.heap.size + 1, 1, none⟩ (.slice A3 x.seen.length c3)).setCell ⟨w.heap.size + 1, 2, none⟩ (.slice (some ⟨w5.heap.size, 0, none⟩) 0 0)) A3 c3 (some ⟨w5.heap.size, 0, none⟩) 0 ⟨x.sec, x.seen, []⟩) :=
          ⟨g8, [[]], dest_keep d7 (fun y e => farb3 (by have := HG8.out y e; omega) _ _ _), PoolO.nil_ (Nat.zero_le _), fun f hf z hz => by simp at hf; subst hf; simp at hz, fun y e => ⟨by have := HG8.out y e; omega, fun f hf hm => by simp at hf; subst hf; simp at hm⟩⟩
        clear d7
        have B9 := Lib.hid ((((HB7.out.trans (hb9.mono HB7.out.size)).setCell (p := ⟨w.heap.size + 1, 0, none⟩) (show w.heap.size ≤ w.heap.size + 1 by omega) (.int .i64 x.sec)).setCell (p := ⟨w.heap.size + 1, 1, none⟩) (show w.heap.size ≤ w.heap.size + 1 by omega) (.slice A3 x.seen.length c3)).setCell (p := ⟨w.heap.size + 1, 2, none⟩) (show w.heap.size ≤ w.heap.size + 1 by omega) (.slice (some ⟨w5.heap.size, 0, none⟩) 0 0))
        have HS8 := Lib.hid hs8
        clear hs8 hpo hwi hg9 hb9 hb90 z6 z0 kB
        go_wp2
        refine bodyPost_ret (v := .tuple #[.agg #[.int .i64 x.sec, .slice A3 x.seen.length c3, .slice (some ⟨w5.heap.size, 0, none⟩) 0 0], .slice A9 (sortP x.pool).length c9]) ?_ rfl ?_
        · rw [results_cell_tmp rfl]
          go_simp
        · rw [HM.out.1, HM.out.2]
          have h8 := HS8.out
          exact ⟨A3, c3, _, 0, A9, c9, rfl, S9.out, P9.out.mono (by show w.heap.size ≤ w6.heap.size; omega) (by omega), B9.out⟩
theorem MixFlush (x : Mx) (all : Bool) (A B : Option Addr) (c d lo hi : Nat) (w : World) (hx : MixR lo hi w A x.seen.length c B x.pool.length d x) :
    Calls Try.prog 55 #[.agg #[.int .i64 x.sec, .slice A x.seen.length c, .slice B x.pool.length d], .bool all] w (FlushB (flushM x all) (flushL x all) w) := (MixFlushS x all A B c d lo hi w hx).mono fun _ _ h => h.b

end Sp6
end Go.Proofs.Ytnjcpbkpcmemeaa
