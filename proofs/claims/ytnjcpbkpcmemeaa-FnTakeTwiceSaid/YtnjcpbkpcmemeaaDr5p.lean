/-
  Contracts of the functions that draw packets out of a code: a copy of a packet, a spoilt one, a packet on its way.
-/
import Derived.Test.YtnjcpbkpcmemeaaDr5
import Derived.Test.YtnjcpbkpcmemeaaHlp5
import Derived.Test.YtnjcpbkpcmemeaaSp5b
import Derived.Test.YtnjcpbkpcmemeaaPk5
import Derived.Test.YtnjcpbkpcmemeaaSp5c
import Derived.Deep.RegionHeld3
import Derived.BigRegion
import Derived.Deep.Cut
namespace Go.Proofs.Ytnjcpbkpcmemeaa
open Go.RowKit
namespace Rd
open Il Pm Pq Hlp5

theorem peel_len {x : Int} {p : Pkt} : (peelF x p).pk.hd.length ≤ 9 ∧ (peelF x p).pk.bd.length ≤ 6 := by
  cases h : peelOk x p
  · rw [peelF_no h]
    exact ⟨Nat.zero_le _, Nat.zero_le _⟩
  · rw [peelF_yes h]
    obtain ⟨_, _, h3, _, _, h6⟩ := pktOk_iff.1 (peelOk_iff.1 h).2.1
    refine ⟨?_, ?_⟩
    · show ((plainF p.hd (Pm.keyOf x p)).drop 3).length ≤ 9
      rw [List.length_drop, plainF_len _ h3]
      omega
    · show (Mm.offL p.bd (Pm.keyOf x p)).length ≤ 6
      rw [Mm.offL_len, h6]
      omega

def SpoiltPost (K rb N : Nat) (w : World) (e : Ending) (w' : World) : Prop :=
  ∃ (p : Pkt) (A : Option Addr) (c : Nat) (B : Option Addr) (d : Nat), e = .returned (.agg #[.int .i64 p.el, .slice A p.hd.length c, .int .i64 p.tag, .slice B p.bd.length d]) ∧ Ints w.heap.size w'.heap.size w' A p.hd.length c p.hd ∧ Ints w.heap.size w'.heap.size w' B p.bd.length d p.bd ∧ p.hd.length ≤ K ∧ p.bd.length ≤ K ∧ Reader w' rb N ∧ w.grownBy w' (some rb)
theorem spoilt_end {K rb N b n c m d l1 h1 l2 h2 : Nat} {w w' : World} {A B : Option Addr} {el tag : Int} {hd bd : List Int} (u0 u1 u2 u3 : Value) (i1 : Ints l1 h1 w' A n c hd) (i2 : Ints l2 h2 w' B m d bd) (hn : n ≤ K) (hm : m ≤ K) (e1 : w.heap.size ≤ l1) (e2 : w.heap.size ≤ l2) (f1 : h1 ≤ b ∨ b < l1) (f2 : h2 ≤ b ∨ b < l2) (hb : w.heap.size ≤ b) (hrb : rb < w.heap.size) (hr : Reader w' rb N) (hg : w.grownBy w' (some rb)) :
    SpoiltPost K rb N w (.returned (.agg #[.int .i64 el, .slice A n c, .int .i64 tag, .slice B m d])) ((((w'.setCell ⟨b, 0, none⟩ u0).setCell ⟨b, 1, none⟩ u1).setCell ⟨b, 2, none⟩ u2).setCell ⟨b, 3, none⟩ u3) := by
  have hbel := below_set4 (B := b) (Below.refl b w') (Nat.le_refl _) u0 u1 u2 u3
  have hfar : ∀ i, i ≠ b → ((((w'.setCell ⟨b, 0, none⟩ u0).setCell ⟨b, 1, none⟩ u1).setCell ⟨b, 2, none⟩ u2).setCell ⟨b, 3, none⟩ u3).heap[i]? = w'.heap[i]? := fun i hi =>
    (Below.heap_setCell _ _ _ _ hi).trans ((Below.heap_setCell _ _ _ _ hi).trans ((Below.heap_setCell _ _ _ _ hi).trans (Below.heap_setCell _ _ _ _ hi)))
  have k1 := i1.keep hbel.size (fun i q1 q2 _ => hfar i (by omega))
  have k2 := i2.keep hbel.size (fun i q1 q2 _ => hfar i (by omega))
  have g1 := k1.1
  have g2 := k2.1
  subst g1
  subst g2
  refine ⟨⟨el, hd, tag, bd⟩, A, c, B, d, rfl, (ints_top k1).mono e1 (Nat.le_refl _), (ints_top k2).mono e2 (Nat.le_refl _), hn, hm, hr.keep (fun i hi => hfar i (by omega)), ?_⟩
  exact ⟨hbel.os.trans hg.os, hbel.tape.trans hg.tape, hbel.output.trans hg.output, Nat.le_trans hg.size hbel.size, fun i hi hne => (hfar i (by omega)).trans (hg.block i hi hne)⟩

set_option maxHeartbeats 2000000 in
set_option maxRecDepth 20000 in
theorem l91Spoilt (rb N : Nat) (p : Pkt) (A B : Option Addr) (c d l1 h1 l2 h2 : Nat) (w : World) (hr : Reader w rb N) (hN : N ≤ 80000) (i1 : Ints l1 h1 w A p.hd.length c p.hd) (i2 : Ints l2 h2 w B p.bd.length d p.bd) (hn : p.hd.length ≤ 100) (hm : p.bd.length ≤ 100) :
    Calls Try.prog 32 #[.pointer (some ⟨rb, 0, none⟩), .agg #[.int .i64 p.el, .slice A p.hd.length c, .int .i64 p.tag, .slice B p.bd.length d]] w (SpoiltPost 1000 rb (N + 10) w) := by
  have hrb := hr.lt
  obtain ⟨el, hd, tag, bd⟩ := p
  dsimp only at *
  have h0a : Below w.heap.size w (w.alloc (.cells #[.int .i64 el, .slice A hd.length c, .int .i64 tag, .slice B bd.length d] 34)) := (Below.refl _ _).alloc (Nat.le_refl _) _
  have h0 : Below w.heap.size w ((w.alloc (.cells #[.int .i64 el, .slice A hd.length c, .int .i64 tag, .slice B bd.length d] 34)).alloc (.cells #[.int .i64 0, .slice none 0 0, .int .i64 0, .slice none 0 0] 34)) := h0a.alloc h0a.size (.cells #[.int .i64 0, .slice none 0 0, .int .i64 0, .slice none 0 0] 34)
  have hz0 : Blk ((w.alloc (.cells #[.int .i64 el, .slice A hd.length c, .int .i64 tag, .slice B bd.length d] 34)).alloc (.cells #[.int .i64 0, .slice none 0 0, .int .i64 0, .slice none 0 0] 34)) w.heap.size #[.int .i64 el, .slice A hd.length c, .int .i64 tag, .slice B bd.length d] 34 := (Below.heap_alloc _ _ _ (by simp)).trans (heap_alloc_new w _)
  have hz1 : Blk ((w.alloc (.cells #[.int .i64 el, .slice A hd.length c, .int .i64 tag, .slice B bd.length d] 34)).alloc (.cells #[.int .i64 0, .slice none 0 0, .int .i64 0, .slice none 0 0] 34)) (w.heap.size + 1) #[.int .i64 0, .slice none 0 0, .int .i64 0, .slice none 0 0] 34 := by
    have := heap_alloc_new (w.alloc (.cells #[.int .i64 el, .slice A hd.length c, .int .i64 tag, .slice B bd.length d] 34)) (.cells #[.int .i64 0, .slice none 0 0, .int .i64 0, .slice none 0 0] 34)
    simpa [Blk] using this
  have hsW : w.heap.size + 1 + 1 ≤ ((w.alloc (.cells #[.int .i64 el, .slice A hd.length c, .int .i64 tag, .slice B bd.length d] 34)).alloc (.cells #[.int .i64 0, .slice none 0 0, .int .i64 0, .slice none 0 0] 34)).heap.size := by simp
  have I1 := Lib.hid (i1.below h0 (Nat.le_refl _))
  have I2 := Lib.hid (i2.below h0 (Nat.le_refl _))
  have Z0 := Lib.hid hz0
  have Z1 := Lib.hid hz1
  have R0 := Lib.hid (hr.below h0 hrb)
  have B0 := Lib.hid h0
  clear i1 i2 h0a h0 hz0 hz1 hr
  go_enter Try.func32, Try.ntmps32
  go_wp2_with fail
  ((with_reducible refine (l11Packet ⟨el, hd, tag, bd⟩ A B c d _ _ _ _ _ I1.out I2.out (by show hd.length ≤ 1000; omega) (by show bd.length ≤ 1000; omega)).mono ?_); rintro e w1 ⟨g1, c1, g2, d1, rfl, a1, a2, hne, hg1, hg2, hb1⟩)
  dsimp only at a1 a2 ⊢
  have hs1 := hb1.size
  have y0 := Z0.out.below hb1 (Nat.le_refl _)
  have y1 := Z1.out.below hb1 (Nat.le_refl _)
  have r1 := R0.out.below hb1 (by omega)
  have bb1 := B0.out.trans (hb1.mono (by omega))
  obtain ⟨k0, k1, k2, k3, kf⟩ := four_cells y0
  have hf := fun i (hi : i ≠ w.heap.size) => (Below.heap_setCell (((w1.setCell ⟨w.heap.size, 0, none⟩ (.int .i64 el)).setCell ⟨w.heap.size, 1, none⟩ (.slice (some ⟨g1, 0, none⟩) hd.length c1)).setCell ⟨w.heap.size, 2, none⟩ (.int .i64 tag)) ⟨w.heap.size, 3, none⟩ (.slice (some ⟨g2, 0, none⟩) bd.length d1) i hi).trans ((Below.heap_setCell _ _ _ i hi).trans ((Below.heap_setCell _ _ _ i hi).trans (Below.heap_setCell w1 ⟨w.heap.size, 0, none⟩ (.int .i64 el) i hi)))
  have A1 := Lib.hid (accB_set4 a1 (b := w.heap.size) (by omega) (.int .i64 el) (.slice (some ⟨g1, 0, none⟩) hd.length c1) (.int .i64 tag) (.slice (some ⟨g2, 0, none⟩) bd.length d1))
  have A2 := Lib.hid (accB_set4 a2 (b := w.heap.size) (by omega) (.int .i64 el) (.slice (some ⟨g1, 0, none⟩) hd.length c1) (.int .i64 tag) (.slice (some ⟨g2, 0, none⟩) bd.length d1))
  obtain ⟨x0, hsx, hbx⟩ := set4 (v0 := .int .i64 el) (v1 := .slice (some ⟨g1, 0, none⟩) hd.length c1) (v2 := .int .i64 tag) (v3 := .slice (some ⟨g2, 0, none⟩) bd.length d1) y0
  have X0 : Hid (Blk _ w.heap.size #[.int .i64 el, .slice (some ⟨g1, 0, none⟩) hd.length c1, .int .i64 tag, .slice (some ⟨g2, 0, none⟩) bd.length d1] 34) := x0
  have X1 := Lib.hid (show Blk _ (w.heap.size + 1) #[.int .i64 0, .slice none 0 0, .int .i64 0, .slice none 0 0] 34 from (hf (w.heap.size + 1) (by omega)).trans y1)
  have R1 := Lib.hid (r1.keep fun i hi => hf i (by omega))
  have G1 := Lib.hid (grown_of_below (row := some rb) (bb1.trans (hbx w.heap.size (Nat.le_refl _))))
  go_upto_region 2 with (fail)
  generalize (((w1.setCell ⟨w.heap.size, 0, none⟩ (.int .i64 el)).setCell ⟨w.heap.size, 1, none⟩ (.slice (some ⟨g1, 0, none⟩) hd.length c1)).setCell ⟨w.heap.size, 2, none⟩ (.int .i64 tag)).setCell ⟨w.heap.size, 3, none⟩ (.slice (some ⟨g2, 0, none⟩) bd.length d1) = w2 at *
  clear k0 k1 k2 k3 kf hf a1 a2 x0 hbx y0 y1 r1 bb1 hb1 I1 I2 Z0 Z1 R0 B0
  have hl1 := A1.out.lt
  have hl2 := A2.out.lt
  go_wp2_with fail
  ((with_reducible refine (pick rb _ _ _ R1.out (by omega) (by omega) (by omega)).mono ?_); rintro e w3 ⟨v, rfl, hv0, hv1, r3, g3, s3⟩)
  replace A1 := Lib.hid (A1.out.keep g3 (by simp; omega))
  replace A2 := Lib.hid (A2.out.keep g3 (by simp; omega))
  replace X0 := Lib.hid (blk_grown X0.out g3 (by simp; omega))
  replace X1 := Lib.hid (blk_grown X1.out g3 (by simp; omega))
  replace G1 := Lib.hid (grown_trans G1.out g3)
  replace R1 := Lib.hid r3
  have hs3 := g3.size
  clear r3 g3 s3
  obtain ⟨k0, k1, k2, k3, kf⟩ := four_cells X0.out
  obtain ⟨z0, z1, z2, z3, zf⟩ := four_cells X1.out
  by_cases h0 : v = 0
  · subst h0
    by_cases hp : 0 < hd.length
    · have hpI : (0 : Int) < (hd.length : Int) := by omega
      have RD : Hid (Reader w3.drew rb (N + 1)) := R1.out
      have SA : Hid (w3.drew.cell? ⟨w.heap.size, 1, none⟩ = some (.slice (some ⟨g1, 0, none⟩) hd.length c1)) := k1
      have G1D : Hid (w.grownBy w3.drew (some rb)) := ⟨G1.out.os, G1.out.tape, G1.out.output, G1.out.size, G1.out.block⟩
      have hob : w.heap.size ≠ g1 := by omega
      have HOB := Lib.hid hob
      go_wp2_with fail
      go_region_held3 (fun w' => w'.cell? ⟨w.heap.size, 1, none⟩ = some (.slice (some ⟨g1, 0, none⟩) hd.length c1))
        (first | with_reducible exact SA.out | with_reducible exact kA | with_reducible exact kB | with_reducible exact (far1 HOB.out _).trans kB)
        (first
        | (go_at_call 34; refine (pick rb (N + 1) _ _ RD.out (by omega) (by omega) (by omega)).mono ?_; rintro e w4 ⟨q, rfl, hq0, hq1, r4, g4, s4⟩; obtain ⟨j, rfl⟩ := Int.eq_ofNat_of_zero_le hq0; have kA := (four_cells (blk_grown (show Blk w3.drew _ _ _ from X0.out) g4 (by simp; omega))).2.1)
        | (go_at_call 57; refine (l91Number rb (N + 1 + 1) _ r4 (by omega)).mono ?_; rintro e w5 ⟨y, rfl, hy0, hy1, r5, g5⟩; have kB := (four_cells (blk_grown (blk_grown (show Blk w3.drew _ _ _ from X0.out) g4 (by simp; omega)) g5 (by simp; omega))).2.1; have ow := (accB_own ((show AccB g1 w3.drew _ _ from A1.out).keep g4 (by simp; omega))).grown g5 (by simp <;> omega); have hjn : j < hd.length := (by omega); obtain ⟨bb, ff, ee, _, _, cj⟩ := ow.ints.at_ hjn; simp only [Option.some.injEq, Addr.mk.injEq, and_true] at ee; obtain ⟨rfl, rfl⟩ := ee; have fj := ow.2 _ _ (by omega) rfl j hjn; rw [Nat.zero_add] at cj fj))
      all_goals
        have gg := grown_set w5 ⟨g1, j, none⟩ (.int .i64 y)
        have os := ow.set_ hjn y
        rw [Nat.zero_add] at os
        have ao := ((((show AccB g2 w3.drew _ _ from A2.out).keep g4 (by simp; omega)).keep g5 (by simp; omega)).keep gg (by simp; omega))
        have x0 := blk_grown (blk_grown (blk_grown (show Blk w3.drew _ _ _ from X0.out) g4 (by simp; omega)) g5 (by simp; omega)) gg (by simp; omega)
        have x1 := blk_grown (blk_grown (blk_grown (show Blk w3.drew _ _ _ from X1.out) g4 (by simp; omega)) g5 (by simp; omega)) gg (by simp; omega)
        have R6 := Lib.hid (r5.grown gg (fun k e => by simp at e; omega))
        have G6 := Lib.hid (grown_trans' (grown_trans (grown_trans G1D.out g4) g5) gg (fun k e => by simp at e; omega))
        have OS := Lib.hid os
        have AO := Lib.hid ao
        obtain ⟨n0, n1, n2, n3, nf⟩ := four_cells x0
        obtain ⟨m0, m1, m2, m3, mf⟩ := four_cells x1
        clear gg os ao x0 x1 r4 g4 s4 r5 g5 ow cj fj kA kB k0 k1 k2 k3 kf z0 z1 z2 z3 zf
        generalize w5.setCell ⟨g1, j, none⟩ (.int .i64 y) = w6 at *
        go_wp2
        refine bodyPost_ret (v := .agg #[.int .i64 el, .slice (some ⟨g1, 0, none⟩) hd.length c1, .int .i64 tag, .slice (some ⟨g2, 0, none⟩) bd.length d1]) ?_ rfl ?_
        · rw [results_cell1 rfl]
          go_simp
        · exact spoilt_end (K := 1000) (N := N + 10) _ _ _ _ OS.out.ints (accB_own AO.out).ints (by omega) (by omega) (by omega) (by omega) (by omega) (by omega) (by omega) hrb (R6.out.mono (by omega)) G6.out
    · obtain rfl : hd = [] := List.eq_nil_of_length_eq_zero (by omega)
      clear hp
      go_wp2
      refine bodyPost_ret (v := .agg #[.int .i64 el, .slice (some ⟨g1, 0, none⟩) 0 c1, .int .i64 tag, .slice (some ⟨g2, 0, none⟩) bd.length d1]) ?_ rfl ?_
      · rw [results_cell1 rfl]
        go_simp
      · exact spoilt_end (K := 1000) (N := N + 10) _ _ _ _ (accB_own A1.out).ints (accB_own A2.out).ints (by omega) (by omega) (by omega) (by omega) (by omega) (by omega) (by omega) hrb (R1.out.mono (by omega)) G1.out
  have e0 : (v == 0) = false := by simpa using h0
  by_cases h1 : v = 1
  · subst h1
    by_cases hp : 0 < bd.length
    · have hpI : (0 : Int) < (bd.length : Int) := by omega
      have RD : Hid (Reader w3.drew rb (N + 1)) := R1.out
      have SA : Hid (w3.drew.cell? ⟨w.heap.size, 3, none⟩ = some (.slice (some ⟨g2, 0, none⟩) bd.length d1)) := k3
      have G1D : Hid (w.grownBy w3.drew (some rb)) := ⟨G1.out.os, G1.out.tape, G1.out.output, G1.out.size, G1.out.block⟩
      have hob : w.heap.size ≠ g2 := by omega
      have HOB := Lib.hid hob
      go_wp2_with fail
      go_region_held3 (fun w' => w'.cell? ⟨w.heap.size, 3, none⟩ = some (.slice (some ⟨g2, 0, none⟩) bd.length d1))
        (first | with_reducible exact SA.out | with_reducible exact kA | with_reducible exact kB | with_reducible exact (far1 HOB.out _).trans kB)
        (first
        | (go_at_call 34; refine (pick rb (N + 1) _ _ RD.out (by omega) (by omega) (by omega)).mono ?_; rintro e w4 ⟨q, rfl, hq0, hq1, r4, g4, s4⟩; obtain ⟨j, rfl⟩ := Int.eq_ofNat_of_zero_le hq0; have kA := (four_cells (blk_grown (show Blk w3.drew _ _ _ from X0.out) g4 (by simp; omega))).2.2.2.1)
        | (go_at_call 57; refine (l91Number rb (N + 1 + 1) _ r4 (by omega)).mono ?_; rintro e w5 ⟨y, rfl, hy0, hy1, r5, g5⟩; have kB := (four_cells (blk_grown (blk_grown (show Blk w3.drew _ _ _ from X0.out) g4 (by simp; omega)) g5 (by simp; omega))).2.2.2.1; have ow := (accB_own ((show AccB g2 w3.drew _ _ from A2.out).keep g4 (by simp; omega))).grown g5 (by simp <;> omega); have hjn : j < bd.length := (by omega); obtain ⟨bb, ff, ee, _, _, cj⟩ := ow.ints.at_ hjn; simp only [Option.some.injEq, Addr.mk.injEq, and_true] at ee; obtain ⟨rfl, rfl⟩ := ee; have fj := ow.2 _ _ (by omega) rfl j hjn; rw [Nat.zero_add] at cj fj))
      all_goals
        have gg := grown_set w5 ⟨g2, j, none⟩ (.int .i64 y)
        have os := ow.set_ hjn y
        rw [Nat.zero_add] at os
        have ao := ((((show AccB g1 w3.drew _ _ from A1.out).keep g4 (by simp; omega)).keep g5 (by simp; omega)).keep gg (by simp; omega))
        have x0 := blk_grown (blk_grown (blk_grown (show Blk w3.drew _ _ _ from X0.out) g4 (by simp; omega)) g5 (by simp; omega)) gg (by simp; omega)
        have x1 := blk_grown (blk_grown (blk_grown (show Blk w3.drew _ _ _ from X1.out) g4 (by simp; omega)) g5 (by simp; omega)) gg (by simp; omega)
        have R6 := Lib.hid (r5.grown gg (fun k e => by simp at e; omega))
        have G6 := Lib.hid (grown_trans' (grown_trans (grown_trans G1D.out g4) g5) gg (fun k e => by simp at e; omega))
        have OS := Lib.hid os
        have AO := Lib.hid ao
        obtain ⟨n0, n1, n2, n3, nf⟩ := four_cells x0
        obtain ⟨m0, m1, m2, m3, mf⟩ := four_cells x1
        clear gg os ao x0 x1 r4 g4 s4 r5 g5 ow cj fj kA kB k0 k1 k2 k3 kf z0 z1 z2 z3 zf
        generalize w5.setCell ⟨g2, j, none⟩ (.int .i64 y) = w6 at *
        go_wp2
        refine bodyPost_ret (v := .agg #[.int .i64 el, .slice (some ⟨g1, 0, none⟩) hd.length c1, .int .i64 tag, .slice (some ⟨g2, 0, none⟩) bd.length d1]) ?_ rfl ?_
        · rw [results_cell1 rfl]
          go_simp
        · exact spoilt_end (K := 1000) (N := N + 10) _ _ _ _ (accB_own AO.out).ints OS.out.ints (by omega) (by omega) (by omega) (by omega) (by omega) (by omega) (by omega) hrb (R6.out.mono (by omega)) G6.out
    · obtain rfl : bd = [] := List.eq_nil_of_length_eq_zero (by omega)
      clear hp
      go_wp2
      refine bodyPost_ret (v := .agg #[.int .i64 el, .slice (some ⟨g1, 0, none⟩) hd.length c1, .int .i64 tag, .slice (some ⟨g2, 0, none⟩) 0 d1]) ?_ rfl ?_
      · rw [results_cell1 rfl]
        go_simp
      · exact spoilt_end (K := 1000) (N := N + 10) _ _ _ _ (accB_own A1.out).ints (accB_own A2.out).ints (by omega) (by omega) (by omega) (by omega) (by omega) (by omega) (by omega) hrb (R1.out.mono (by omega)) G1.out
  have e1 : (v == 1) = false := by simpa using h1
  by_cases h2 : v = 2
  · subst h2
    go_wp2_with fail
    ((with_reducible refine (l91Number rb (N + 1) _ R1.out (by omega)).mono ?_); rintro e w4 ⟨y, rfl, hy0, hy1, r4, g4⟩)
    have gg := grown_set w4 ⟨w.heap.size, 2, none⟩ (.int .i64 y)
    have a1 := (A1.out.keep g4 (by simp; omega)).keep gg (by simp; omega)
    have a2 := (A2.out.keep g4 (by simp; omega)).keep gg (by simp; omega)
    have R6 := Lib.hid (r4.grown gg (fun k e => by simp at e; omega))
    have G6 := Lib.hid (grown_trans' (grown_trans G1.out g4) gg (fun k e => by simp at e; omega))
    have AA1 := Lib.hid a1
    have AA2 := Lib.hid a2
    obtain ⟨n0, n1, n2, n3, nf⟩ := four_cells (blk_grown X0.out g4 (by simp; omega))
    obtain ⟨m0, m1, m2, m3, mf⟩ := four_cells (blk_grown X1.out g4 (by simp; omega))
    clear gg a1 a2 r4 g4 k0 k1 k2 k3 kf z0 z1 z2 z3 zf
    go_wp2
    refine bodyPost_ret (v := .agg #[.int .i64 el, .slice (some ⟨g1, 0, none⟩) hd.length c1, .int .i64 y, .slice (some ⟨g2, 0, none⟩) bd.length d1]) ?_ rfl ?_
    · rw [results_cell1 rfl]
      go_simp
    · exact spoilt_end (K := 1000) (N := N + 10) _ _ _ _ (accB_own AA1.out).ints (accB_own AA2.out).ints (by omega) (by omega) (by omega) (by omega) (by omega) (by omega) (by omega) hrb (R6.out.mono (by omega)) G6.out
  have e2 : (v == 2) = false := by simpa using h2
  by_cases h3 : v = 3
  · subst h3
    go_wp2_with fail
    ((with_reducible refine (l91Is rb (N + 1) _ R1.out (by omega)).mono ?_); rintro e w4 ⟨y, rfl, hy0, hy1, r4, g4⟩)
    have gg := grown_set w4 ⟨w.heap.size, 0, none⟩ (.int .i64 y)
    have a1 := (A1.out.keep g4 (by simp; omega)).keep gg (by simp; omega)
    have a2 := (A2.out.keep g4 (by simp; omega)).keep gg (by simp; omega)
    have R6 := Lib.hid (r4.grown gg (fun k e => by simp at e; omega))
    have G6 := Lib.hid (grown_trans' (grown_trans G1.out g4) gg (fun k e => by simp at e; omega))
    have AA1 := Lib.hid a1
    have AA2 := Lib.hid a2
    obtain ⟨n0, n1, n2, n3, nf⟩ := four_cells (blk_grown X0.out g4 (by simp; omega))
    obtain ⟨m0, m1, m2, m3, mf⟩ := four_cells (blk_grown X1.out g4 (by simp; omega))
    clear gg a1 a2 r4 g4 k0 k1 k2 k3 kf z0 z1 z2 z3 zf
    go_wp2
    refine bodyPost_ret (v := .agg #[.int .i64 y, .slice (some ⟨g1, 0, none⟩) hd.length c1, .int .i64 tag, .slice (some ⟨g2, 0, none⟩) bd.length d1]) ?_ rfl ?_
    · rw [results_cell1 rfl]
      go_simp
    · exact spoilt_end (K := 1000) (N := N + 10) _ _ _ _ (accB_own AA1.out).ints (accB_own AA2.out).ints (by omega) (by omega) (by omega) (by omega) (by omega) (by omega) (by omega) hrb (R6.out.mono (by omega)) G6.out
  have e3 : (v == 3) = false := by simpa using h3
  by_cases h4 : v = 4
  · subst h4
    go_upto_region 17 with (at_builtin; refine wpList_app1B g1 w3 _ hd 1 A1.out (by omega) (.tmp 54) (.tmp 55) rfl rfl rfl rfl ?_; intro g5 v5 w5 hN5 hW5 hG5; have hN5' := hN5; obtain ⟨c5, rfl, _⟩ := hN5'; rw [List.length_append, List.length_singleton] at hN5 ⊢; obtain ⟨n0, n1, n2, n3, nf⟩ := four_cells (blk_grown X0.out hG5 (by simp; omega)))
    have hs5 := hG5.size
    have gg := grown_set w5 ⟨w.heap.size, 1, none⟩ (.slice (some ⟨g5, 0, none⟩) (hd.length + 1) c5)
    have a1 := hN5.keep gg (by simp; omega)
    have a2 := (A2.out.keep hG5 (by simp; omega)).keep gg (by simp; omega)
    have x0 := blk_set (i := 1) (blk_grown X0.out hG5 (by simp; omega)) (.slice (some ⟨g5, 0, none⟩) (hd.length + 1) c5)
    have x1 := blk_grown (blk_grown X1.out hG5 (by simp; omega)) gg (by simp)
    have R6 := Lib.hid ((R1.out.grown hG5 (fun k e => by simp at e; omega)).grown gg (fun k e => by simp at e; omega))
    have G6 := Lib.hid (grown_trans' (grown_trans' G1.out hG5 (fun k e => by simp at e; omega)) gg (fun k e => by simp at e; omega))
    have AA1 := Lib.hid a1
    have AA2 := Lib.hid a2
    have x0' : Blk (w5.setCell ⟨w.heap.size, 1, none⟩ (.slice (some ⟨g5, 0, none⟩) (hd.length + 1) c5)) w.heap.size #[.int .i64 el, .slice (some ⟨g5, 0, none⟩) (hd.length + 1) c5, .int .i64 tag, .slice (some ⟨g2, 0, none⟩) bd.length d1] 34 := x0
    clear n0 n1 n2 n3 nf gg a1 a2 x0 hN5 hG5 k0 k1 k2 k3 kf z0 z1 z2 z3 zf
    obtain ⟨n0, n1, n2, n3, nf⟩ := four_cells x0'
    obtain ⟨m0, m1, m2, m3, mf⟩ := four_cells x1
    clear x0' x1
    generalize w5.setCell ⟨w.heap.size, 1, none⟩ (.slice (some ⟨g5, 0, none⟩) (hd.length + 1) c5) = w6 at *
    go_wp2
    refine bodyPost_ret (v := .agg #[.int .i64 el, .slice (some ⟨g5, 0, none⟩) (hd.length + 1) c5, .int .i64 tag, .slice (some ⟨g2, 0, none⟩) bd.length d1]) ?_ rfl ?_
    · rw [results_cell1 rfl]
      go_simp
    · exact spoilt_end (K := 1000) (N := N + 10) _ _ _ _ (accB_own AA1.out).ints (accB_own AA2.out).ints (by omega) (by omega) (by omega) (by omega) (by omega) (by omega) (by omega) hrb (R6.out.mono (by omega)) G6.out
  have e4 : (v == 4) = false := by simpa using h4
  by_cases h5 : v = 5
  · subst h5
    have RD : Hid (Reader w3.drew rb (N + 1)) := R1.out
    have G1D : Hid (w.grownBy w3.drew (some rb)) := ⟨G1.out.os, G1.out.tape, G1.out.output, G1.out.size, G1.out.block⟩
    have hsum : IntKind.i64.wrap ((bd.length : Int) + 1) = (bd.length : Int) + 1 := IntWalk.i64_in _ (by omega)
    have hcap := (accB_own A2.out).ints.cap_
    go_wp2_with fail
    go_region_law ((go_simp; go_at_call 34; refine (pick rb (N + 1) _ _ RD.out (by omega) (by omega) (by omega)).mono ?_; rintro e w4 ⟨q, rfl, hq0, hq1, r4, g4, s4⟩; obtain ⟨j, rfl⟩ := Int.eq_ofNat_of_zero_le hq0; have hjI : (j : Int) ≤ (d1 : Int) := (by omega); obtain ⟨n0, n1, n2, n3, nf⟩ := four_cells (blk_grown (show Blk w3.drew _ _ _ from X0.out) g4 (by simp; omega))))
    all_goals
      have gg := grown_set w4 ⟨w.heap.size, 3, none⟩ (.slice (some ⟨g2, 0, none⟩) j d1)
      have a1 := ((show AccB g1 w3.drew _ _ from A1.out).keep g4 (by simp; omega)).keep gg (by simp; omega)
      have a2 := ((show AccB g2 w3.drew _ _ from A2.out).keep g4 (by simp; omega)).keep gg (by simp; omega)
      have x0 := blk_set (i := 3) (blk_grown (show Blk w3.drew _ _ _ from X0.out) g4 (by simp; omega)) (.slice (some ⟨g2, 0, none⟩) j d1)
      have x1 := blk_grown (blk_grown (show Blk w3.drew _ _ _ from X1.out) g4 (by simp; omega)) gg (by simp)
      have R6 := Lib.hid (r4.grown gg (fun k e => by simp at e; omega))
      have G6 := Lib.hid (grown_trans' (grown_trans G1D.out g4) gg (fun k e => by simp at e; omega))
      have I6 := Lib.hid ((accB_own a2).ints.take (k := j) (by omega))
      have AA1 := Lib.hid a1
      have x0' : Blk (w4.setCell ⟨w.heap.size, 3, none⟩ (.slice (some ⟨g2, 0, none⟩) j d1)) w.heap.size #[.int .i64 el, .slice (some ⟨g1, 0, none⟩) hd.length c1, .int .i64 tag, .slice (some ⟨g2, 0, none⟩) j d1] 34 := x0
      clear n0 n1 n2 n3 nf gg a1 a2 x0 r4 g4 s4 k0 k1 k2 k3 kf z0 z1 z2 z3 zf hsum hcap
      obtain ⟨n0, n1, n2, n3, nf⟩ := four_cells x0'
      obtain ⟨m0, m1, m2, m3, mf⟩ := four_cells x1
      clear x0' x1
      generalize w4.setCell ⟨w.heap.size, 3, none⟩ (.slice (some ⟨g2, 0, none⟩) j d1) = w6 at *
      go_wp2
      refine bodyPost_ret (v := .agg #[.int .i64 el, .slice (some ⟨g1, 0, none⟩) hd.length c1, .int .i64 tag, .slice (some ⟨g2, 0, none⟩) j d1]) ?_ rfl ?_
      · rw [results_cell1 rfl]
        go_simp
      · exact spoilt_end (K := 1000) (N := N + 10) _ _ _ _ (accB_own AA1.out).ints I6.out (by omega) (by omega) (by omega) (by omega) (by omega) (by omega) (by omega) hrb (R6.out.mono (by omega)) G6.out
  have e5 : (v == 5) = false := by simpa using h5
  clear h0 h1 h2 h3 h4 h5
  go_wp2
  refine bodyPost_ret (v := .agg #[.int .i64 el, .slice (some ⟨g1, 0, none⟩) hd.length c1, .int .i64 tag, .slice (some ⟨g2, 0, none⟩) bd.length d1]) ?_ rfl ?_
  · rw [results_cell1 rfl]
    go_simp
  · exact spoilt_end (K := 1000) (N := N + 10) _ _ _ _ (accB_own A1.out).ints (accB_own A2.out).ints (by omega) (by omega) (by omega) (by omega) (by omega) (by omega) (by omega) hrb (R1.out.mono (by omega)) G1.out

end Rd
end Go.Proofs.Ytnjcpbkpcmemeaa
