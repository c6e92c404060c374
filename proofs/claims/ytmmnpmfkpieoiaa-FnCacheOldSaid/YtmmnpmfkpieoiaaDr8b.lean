/-
  Draws of chapter 13: an epoch; a cache with an epoch, and a key.
-/
import Derived.Test.YtmmnpmfkpieoiaaDr8
namespace Go.Proofs.Ytmmnpmfkpieoiaa
open Go.RowKit
namespace Rd
open Il Sl Fo Cm Cs Sg Gm

def Dc (c : Ch) : Prop := (-1 ≤ c.ep ∧ c.ep ≤ 100) ∧ c.sl.length ≤ 3 ∧ ∀ x ∈ c.sl, x.length ≤ 9
def CaHas (w w' : World) (c : Ch) (A : Option Addr) (k : Nat) : Prop := Sts w.heap.size w'.heap.size w' A c.sl.length k c.sl ∧ Below w.heap.size w w'
def CaOne (w : World) (e : Ending) (w' : World) : Prop := ∃ A k c, e = .returned (.agg #[.int .i64 (Ch.ep c), .slice A c.sl.length k]) ∧ Dc c ∧ CaHas w w' c A k
def CaTwo (w : World) (e : Ending) (w' : World) : Prop := ∃ A k c f, e = .returned (.tuple #[.agg #[.int .i64 (Ch.ep c), .slice A c.sl.length k], .int .i64 f]) ∧ Dc c ∧ CaHas w w' c A k
def CaThree (w : World) (e : Ending) (w' : World) : Prop := ∃ A k c f g, e = .returned (.tuple #[.agg #[.int .i64 (Ch.ep c), .slice A c.sl.length k], .int .i64 f, .int .i64 g]) ∧ Dc c ∧ CaHas w w' c A k
def DaRel (N bv : Nat) (w wr : World) (c : Ch) (A : Option Addr) (k : Nat) : Prop :=
  Blk wr w.heap.size #[.int .i64 0, .slice none 0 0] 26 ∧ Blk wr bv #[.int .i64 c.ep, .slice A c.sl.length k] 26 ∧ Sts (w.heap.size + 2) wr.heap.size wr A c.sl.length k c.sl ∧ Reader wr (w.heap.size + 1) N ∧ Below w.heap.size w wr ∧ w.heap.size + 2 ≤ bv ∧ Dc c
theorem DaRel.grown {N N' bv : Nat} {w wr w' : World} {c : Ch} {A : Option Addr} {k : Nat} (h : DaRel N bv w wr c A k) (hg : wr.grownBy w' (some (w.heap.size + 1))) (hr : Reader w' (w.heap.size + 1) N') : DaRel N' bv w w' c A k := by
  obtain ⟨h1, h2, h3, h4, h5, h6, h7⟩ := h
  exact ⟨blk_grown h1 hg (by omega), blk_grown h2 hg (by omega), (h3.grown hg (fun b e => by cases e; omega)).mono (Nat.le_refl _) hg.size, hr, h5.grown hg h5.size (fun b e => by cases e; omega), h6, h7⟩
theorem DaRel.drew {N bv : Nat} {w wr : World} {c : Ch} {A : Option Addr} {k : Nat} (h : DaRel N bv w wr c A k) : DaRel N bv w wr.drew c A k := by
  obtain ⟨h1, h2, h3, h4, h5, h6, h7⟩ := h
  exact ⟨h1, h2, h3.drewN 1, h4, ⟨h5.os, h5.tape, h5.output, h5.size, h5.block⟩, h6, h7⟩
theorem DaRel.rd {N bv : Nat} {w wr : World} {c : Ch} {A : Option Addr} {k : Nat} (h : DaRel N bv w wr c A k) : Reader wr (w.heap.size + 1) N := h.2.2.2.1
theorem DaRel.done {N bv : Nat} {w wr : World} {c : Ch} {A : Option Addr} {k : Nat} (h : DaRel N bv w wr c A k) (u0 u1 : Value) : Dc c ∧ CaHas w ((wr.setCell ⟨w.heap.size, 0, none⟩ u0).setCell ⟨w.heap.size, 1, none⟩ u1) c A k := by
  obtain ⟨h1, h2, h3, h4, h5, h6, h7⟩ := h
  have hsz : ((wr.setCell ⟨w.heap.size, 0, none⟩ u0).setCell ⟨w.heap.size, 1, none⟩ u1).heap.size = wr.heap.size := by simp [World.setCell]
  refine ⟨h7, (h3.keep (Nat.le_of_eq hsz.symm) fun b q1 _ _ => (Below.heap_setCell _ _ _ _ (show b ≠ w.heap.size by omega)).trans (Below.heap_setCell _ _ _ _ (show b ≠ w.heap.size by omega))).mono (by omega) (Nat.le_of_eq hsz.symm),
    (h5.setCell (p := ⟨w.heap.size, 0, none⟩) (Nat.le_refl _) _).setCell (p := ⟨w.heap.size, 1, none⟩) (Nat.le_refl _) _⟩
theorem code_al {w : World} {A : Option Addr} {n c : Nat} (h : CodeIs w A n c) (o : Obj) : CodeIs (w.alloc o) A n c := by
  have hal : Below w.heap.size w (w.alloc o) := (Below.refl _ _).alloc (Nat.le_refl _) _
  refine ⟨h.1, h.2.1, fun hn => ?_⟩
  obtain ⟨b, off, e, hb, hc⟩ := h.2.2 hn
  refine ⟨b, off, e, Nat.lt_of_lt_of_le hb hal.size, fun j hj => ?_⟩
  obtain ⟨u, hu, hcell⟩ := hc j hj
  exact ⟨u, hu, (hal.cell (p := ⟨b, off + j, none⟩) hb).trans hcell⟩
theorem da_first {w w1 w2 : World} {c : Ch} {A : Option Addr} {k : Nat} (hb1 : Below (w.heap.size + 1) (w.alloc (.cells #[.int .i64 0, .slice none 0 0] 26)) w1) (hs : w1.heap.size = w.heap.size + 1 + 1)
    (he : -1 ≤ c.ep ∧ c.ep ≤ 100) (hl : c.sl.length ≤ 3) (hx : ∀ x ∈ c.sl, x.length ≤ 9) (hst : Sts w1.heap.size w2.heap.size w2 A c.sl.length k c.sl) (hg : w1.grownBy w2 (some (w.heap.size + 1))) :
    Blk w2 w.heap.size #[.int .i64 0, .slice none 0 0] 26 ∧ Sts (w.heap.size + 2) w2.heap.size w2 A c.sl.length k c.sl ∧ Below w.heap.size w w2 ∧ Dc c := by
  have hz := blk_new w #[.int .i64 0, .slice none 0 0] 26
  have hal : Below w.heap.size w (w.alloc (.cells #[.int .i64 0, .slice none 0 0] 26)) := (Below.refl _ _).alloc (Nat.le_refl _) _
  have hz1 : Blk w1 w.heap.size #[.int .i64 0, .slice none 0 0] 26 := hz.same (hb1.block _ (by omega))
  have hb := hal.trans (hb1.mono (by omega))
  exact ⟨blk_grown hz1 hg (by omega), hst.mono (by omega) (Nat.le_refl _), hb.grown hg hb.size (fun b e => by cases e; omega), he, hl, hx⟩
theorem results_cell_tmp2 {fn : Func} {p u v : Tmp} {ty : TypeId} (h : fn.results = #[.cell p ty, .tmp u, .tmp v]) (tmps : Array Value) (P : Program) (w : World) :
    (results fn tmps).run P w =
      ((asAddr (tmps.getD p undef)).run P w).andThen fun a w₁ => ((loadVar ty a).run P w₁).andThen fun x w₂ => .ok (.tuple #[x, tmps.getD u undef, tmps.getD v undef]) w₂ := by
  simp only [results, h]
  simp [Sem.run_bind, Result.andThen]
theorem DrawCacheNew (A0 : Option Addr) (n0 c0 : Nat) (w : World) (h : CodeIs w A0 n0 c0) : Calls Try.prog 17 #[.slice A0 n0 c0] w fun e w' => ∃ v : Int, e = .returned (.int .i64 v) ∧ -1 ≤ v ∧ v ≤ 100 ∧ Below w.heap.size w w' := by
  have HC := Lib.hid h
  clear h
  go_enter Try.func17, Try.ntmps17
  go_wp2_with fail
  ((with_reducible refine (l6Open _ _ _ _ HC.out).mono ?_); rintro e w1 ⟨rfl, r1, b1, s1⟩)
  have R1 := Lib.hid r1
  have B1 := Lib.hid b1
  clear r1 b1 s1 HC
  go_wp2_with fail
  ((with_reducible refine (pick _ _ 102 _ R1.out (by omega) (by omega) (by omega)).mono ?_); rintro e w2 ⟨v2, rfl, hv0, hv1, r2, g2, s2⟩)
  have e2 : IntKind.i64.wrap (v2 - 1) = v2 - 1 := IntWalk.i64_in _ (by omega)
  have HB := Lib.hid (B1.out.grown g2 B1.out.size (fun b e => by cases e; omega))
  clear r2 g2 s2
  go_wp2
  go_ret
  exact ⟨v2 - 1, rfl, by omega, by omega, HB.out⟩
set_option maxRecDepth 20000 in
set_option maxHeartbeats 1000000 in
theorem DrawCacheTurn (A0 : Option Addr) (n0 c0 : Nat) (w : World) (h : CodeIs w A0 n0 c0) : Calls Try.prog 27 #[.slice A0 n0 c0] w (CaOne w) := by
  have HC := Lib.hid (code_al h (.cells #[.int .i64 0, .slice none 0 0] 26))
  have hsz : (w.alloc (.cells #[.int .i64 0, .slice none 0 0] 26)).heap.size = w.heap.size + 1 := by simp
  have HSZ := Lib.hid hsz
  clear h hsz
  go_enter Try.func27, Try.ntmps27
  go_wp2_with fail
  ((with_reducible refine (l6Open _ _ _ _ HC.out).mono ?_); rintro e w1 ⟨rfl, r1, b1, s1⟩)
  rw [HSZ.out] at r1 b1 s1 ⊢
  have R1 := Lib.hid r1
  have B1 := Lib.hid b1
  have S1 := Lib.hid s1
  clear r1 b1 s1 HC HSZ
  go_wp2_with fail
  ((with_reducible refine (l91Cache _ _ _ R1.out (by omega)).mono ?_); rintro e w2 ⟨A, k, c, rfl, he, hl, hx, hst, r2, g2⟩)
  obtain ⟨q1, q2, q3, q4⟩ := da_first B1.out S1.out he hl hx hst g2
  have Q1 := Lib.hid q1
  have Q2 := Lib.hid q2
  have Q3 := Lib.hid q3
  have Q4 := Lib.hid q4
  have R2 := Lib.hid r2
  clear he hl hx hst r2 g2 q1 q2 q3 q4 R1 B1 S1
  have HD : Hid (∀ u0 u1 : Value, CaOne w (.returned (.agg #[.int .i64 c.ep, .slice A c.sl.length k])) ((w2.setCell ⟨w.heap.size, 0, none⟩ u0).setCell ⟨w.heap.size, 1, none⟩ u1)) := fun u0 u1 => by
    have hsz : ((w2.setCell ⟨w.heap.size, 0, none⟩ u0).setCell ⟨w.heap.size, 1, none⟩ u1).heap.size = w2.heap.size := by simp [World.setCell]
    refine ⟨A, k, c, rfl, Q4.out, (Q2.out.keep (Nat.le_of_eq hsz.symm) fun b q1 _ _ => (Below.heap_setCell _ _ _ _ (show b ≠ w.heap.size by omega)).trans (Below.heap_setCell _ _ _ _ (show b ≠ w.heap.size by omega))).mono (by omega) (Nat.le_of_eq hsz.symm),
      (Q3.out.setCell (p := ⟨w.heap.size, 0, none⟩) (Nat.le_refl _) _).setCell (p := ⟨w.heap.size, 1, none⟩) (Nat.le_refl _) _⟩
  obtain ⟨z0, z1, zf⟩ := two_cells Q1.out
  go_wp2
  refine bodyPost_ret (v := .agg #[.int .i64 c.ep, .slice A c.sl.length k]) ?_ rfl ?_
  · rw [results_cell1 rfl]
    go_simp
  · exact HD.out _ _
set_option maxRecDepth 20000 in
set_option maxHeartbeats 1000000 in
theorem DrawCacheKeys (A0 : Option Addr) (n0 c0 : Nat) (w : World) (h : CodeIs w A0 n0 c0) : Calls Try.prog 31 #[.slice A0 n0 c0] w (CaTwo w) := by
  have HC := Lib.hid (code_al h (.cells #[.int .i64 0, .slice none 0 0] 26))
  have hsz : (w.alloc (.cells #[.int .i64 0, .slice none 0 0] 26)).heap.size = w.heap.size + 1 := by simp
  have HSZ := Lib.hid hsz
  clear h hsz
  go_enter Try.func31, Try.ntmps31
  go_wp2_with fail
  ((with_reducible refine (l6Open _ _ _ _ HC.out).mono ?_); rintro e w1 ⟨rfl, r1, b1, s1⟩)
  rw [HSZ.out] at r1 b1 s1 ⊢
  have R1 := Lib.hid r1
  have B1 := Lib.hid b1
  have S1 := Lib.hid s1
  clear r1 b1 s1 HC HSZ
  go_wp2_with fail
  ((with_reducible refine (l91Cache _ _ _ R1.out (by omega)).mono ?_); rintro e w2 ⟨A, k, c, rfl, he, hl, hx, hst, r2, g2⟩)
  obtain ⟨q1, q2, q3, q4⟩ := da_first B1.out S1.out he hl hx hst g2
  have Q1 := Lib.hid q1
  have Q2 := Lib.hid q2
  have Q3 := Lib.hid q3
  have Q4 := Lib.hid q4
  have R2 := Lib.hid r2
  clear he hl hx hst r2 g2 q1 q2 q3 q4 R1 B1 S1
  have HD0 : Hid (DaRel (0 + 120) w2.heap.size w (w2.alloc (.cells #[.int .i64 c.ep, .slice A c.sl.length k] 26)) c A k) := by
    have hal : Below w2.heap.size w2 (w2.alloc (.cells #[.int .i64 c.ep, .slice A c.sl.length k] 26)) := (Below.refl _ _).alloc (Nat.le_refl _) _
    have := R2.out.lt
    exact ⟨Blk.below Q1.out hal (Nat.le_refl _), blk_new _ _ _, (Q2.out.below hal (Nat.le_refl _)).mono (Nat.le_refl _) hal.size, R2.out.alloc _, Q3.out.trans (hal.mono Q3.out.size), by omega, Q4.out⟩
  clear Q1 Q2 Q3 R2
  go_upto_region 3 with (fail)
  generalize (w2.alloc (.cells #[.int .i64 c.ep, .slice A c.sl.length k] 26)) = w3 at *
  generalize w2.heap.size = bv at *
  have HDD : Hid (DaRel (0 + 120) bv w w3.drew c A k) := HD0.out.drew
  obtain ⟨z0, z1, zf⟩ := two_cells HD0.out.2.1
  have hbv : ¬ bv = w.heap.size := by have := HD0.out.2.2.2.2.2.1; omega
  have hbv2 : ¬ w.heap.size = bv := fun e => hbv e.symm
  clear HD0
  have HK0 := Lib.hid HDD.out
  obtain ⟨b0, b1, bf⟩ := two_cells HDD.out.1
  go_region_law (first
    | (go_simp; go_at_call 43; refine (pick _ (0 + 120 + 1) 12 _ HD4.out.rd (by decide) (by decide) (by decide)).mono ?_; rintro e w5 ⟨v5, rfl, h50, h51, r5, g5, s5⟩
       have HD5 := Lib.hid (HD4.out.grown g5 r5)
       obtain ⟨z50, z51, z5f⟩ := two_cells HD5.out.2.1
       obtain ⟨y0, y1, yf⟩ := two_cells HD5.out.1)
    | (go_simp; go_at_call 43; refine (pick _ (0 + 120) 4 _ HDD.out.rd (by decide) (by decide) (by decide)).mono ?_; rintro e w4 ⟨v4, rfl, h40, h41, r4, g4, s4⟩
       have HD4 := Lib.hid (HDD.out.grown g4 r4)
       obtain ⟨z40, z41, z4f⟩ := two_cells HD4.out.2.1)
    | fail)
  all_goals
    have HP := Lib.hid (HD5.out.done (.int .i64 c.ep) (.slice A c.sl.length k))
    clear r4 g4 r5 g5
    go_wp2
    refine bodyPost_ret (v := ?_) ?_ rfl ?_
    rotate_left
    · rw [results_cell_tmp rfl]
      go_simp
      try rfl
    · exact ⟨A, k, c, _, rfl, HP.out.1, HP.out.2⟩
set_option maxRecDepth 20000 in
set_option maxHeartbeats 1000000 in
theorem DrawCacheAdd (A0 : Option Addr) (n0 c0 : Nat) (w : World) (h : CodeIs w A0 n0 c0) : Calls Try.prog 23 #[.slice A0 n0 c0] w (CaThree w) := by
  have HC := Lib.hid (code_al h (.cells #[.int .i64 0, .slice none 0 0] 26))
  have hsz : (w.alloc (.cells #[.int .i64 0, .slice none 0 0] 26)).heap.size = w.heap.size + 1 := by simp
  have HSZ := Lib.hid hsz
  clear h hsz
  go_enter Try.func23, Try.ntmps23
  go_wp2_with fail
  ((with_reducible refine (l6Open _ _ _ _ HC.out).mono ?_); rintro e w1 ⟨rfl, r1, b1, s1⟩)
  rw [HSZ.out] at r1 b1 s1 ⊢
  have R1 := Lib.hid r1
  have B1 := Lib.hid b1
  have S1 := Lib.hid s1
  clear r1 b1 s1 HC HSZ
  go_wp2_with fail
  ((with_reducible refine (l91Cache _ _ _ R1.out (by omega)).mono ?_); rintro e w2 ⟨A, k, c, rfl, he, hl, hx, hst, r2, g2⟩)
  obtain ⟨q1, q2, q3, q4⟩ := da_first B1.out S1.out he hl hx hst g2
  have Q1 := Lib.hid q1
  have Q2 := Lib.hid q2
  have Q3 := Lib.hid q3
  have Q4 := Lib.hid q4
  have R2 := Lib.hid r2
  clear he hl hx hst r2 g2 q1 q2 q3 q4 R1 B1 S1
  have HD0 : Hid (DaRel (0 + 120) w2.heap.size w (w2.alloc (.cells #[.int .i64 c.ep, .slice A c.sl.length k] 26)) c A k) := by
    have hal : Below w2.heap.size w2 (w2.alloc (.cells #[.int .i64 c.ep, .slice A c.sl.length k] 26)) := (Below.refl _ _).alloc (Nat.le_refl _) _
    have := R2.out.lt
    exact ⟨Blk.below Q1.out hal (Nat.le_refl _), blk_new _ _ _, (Q2.out.below hal (Nat.le_refl _)).mono (Nat.le_refl _) hal.size, R2.out.alloc _, Q3.out.trans (hal.mono Q3.out.size), by omega, Q4.out⟩
  clear Q1 Q2 Q3 R2
  go_upto_region 3 with (fail)
  generalize (w2.alloc (.cells #[.int .i64 c.ep, .slice A c.sl.length k] 26)) = w3 at *
  generalize w2.heap.size = bv at *
  have HDD : Hid (DaRel (0 + 120) bv w w3.drew c A k) := HD0.out.drew
  obtain ⟨z0, z1, zf⟩ := two_cells HD0.out.2.1
  have hbv : ¬ bv = w.heap.size := by have := HD0.out.2.2.2.2.2.1; omega
  have hbv2 : ¬ w.heap.size = bv := fun e => hbv e.symm
  clear HD0
  go_region_law (first
    | (go_simp; go_at_call 43; refine (pick _ (0 + 120 + 1 + 1) 12 _ HD5.out.rd (by decide) (by decide) (by decide)).mono ?_; rintro e w6 ⟨v6, rfl, h60, h61, r6, g6, s6⟩
       have HD6 := Lib.hid (HD5.out.grown g6 r6)
       obtain ⟨z60, z61, z6f⟩ := two_cells HD6.out.2.1)
    | (go_simp; go_at_call 43; refine (pick _ (0 + 120 + 1) 12 _ HD4.out.rd (by decide) (by decide) (by decide)).mono ?_; rintro e w5 ⟨v5, rfl, h50, h51, r5, g5, s5⟩
       have HD5 := Lib.hid (HD4.out.grown g5 r5)
       obtain ⟨z50, z51, z5f⟩ := two_cells HD5.out.2.1)
    | (go_simp; go_at_call 43; refine (pick _ (0 + 120) 3 _ HDD.out.rd (by decide) (by decide) (by decide)).mono ?_; rintro e w4 ⟨v4, rfl, h40, h41, r4, g4, s4⟩
       have HD4 := Lib.hid (HDD.out.grown g4 r4)
       obtain ⟨z40, z41, z4f⟩ := two_cells HD4.out.2.1)
    | fail)
  all_goals
    clear r4 g4 r5 g5 r6 g6 z40 z41 z4f z50 z51 z5f z60 z61 z6f z0 z1 zf
    have HE := HD6.out.drew
    obtain ⟨z0, z1, zf⟩ := two_cells HD6.out.2.1
    have HEE : Hid (DaRel (0 + 120 + 1 + 1 + 1) bv w w6.drew c A k) := HE
    clear HE HD4 HD5 HDD
    go_upto_region 4 with (fail)
    go_region_law (first
      | (go_simp; go_at_call 43; refine (pick _ (0 + 120 + 1 + 1 + 1 + 1) 24 _ HD7.out.rd (by decide) (by decide) (by decide)).mono ?_; rintro e w8 ⟨v8, rfl, h80, h81, r8, g8, s8⟩
         have HD8 := Lib.hid (HD7.out.grown g8 r8)
         obtain ⟨z80, z81, z8f⟩ := two_cells HD8.out.2.1
         obtain ⟨y0, y1, yf⟩ := two_cells HD8.out.1)
      | (go_simp; go_at_call 43; refine (pick _ (0 + 120 + 1 + 1 + 1) 40 _ HEE.out.rd (by decide) (by decide) (by decide)).mono ?_; rintro e w7 ⟨v7, rfl, h70, h71, r7, g7, s7⟩
         have HD7 := Lib.hid (HEE.out.grown g7 r7)
         obtain ⟨z70, z71, z7f⟩ := two_cells HD7.out.2.1)
      | fail)
    all_goals
      have HP := Lib.hid (HD8.out.done (.int .i64 c.ep) (.slice A c.sl.length k))
      clear r7 g7 r8 g8
      go_wp2
      refine bodyPost_ret (v := ?_) ?_ rfl ?_
      rotate_left
      · rw [results_cell_tmp2 rfl]
        go_simp
        try rfl
      · exact ⟨A, k, c, _, _, rfl, HP.out.1, HP.out.2⟩

end Rd
end Go.Proofs.Ytmmnpmfkpieoiaa
