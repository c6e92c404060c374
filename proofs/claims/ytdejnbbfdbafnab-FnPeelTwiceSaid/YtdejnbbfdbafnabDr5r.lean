/-
  The contract of the function that draws what peeling is tried at.
-/
import Derived.Test.YtdejnbbfdbafnabDr5q
namespace Go.Proofs.Ytdejnbbfdbafnab
open Go.RowKit
namespace Rd
open Il Pm Pq Hlp5

theorem results_tmp_cell {fn : Func} {u p : Tmp} {ty : TypeId} (h : fn.results = #[.tmp u, .cell p ty]) (tmps : Array Value) (P : Program) (w : World) :
    (results fn tmps).run P w = ((asAddr (tmps.getD p undef)).run P w).andThen fun a w₁ => ((loadVar ty a).run P w₁).andThen fun v w₂ => .ok (.tuple #[tmps.getD u undef, v]) w₂ := by
  simp only [results, h]
  simp [Sem.run_bind, Result.andThen]

def PeelDraw (w : World) (e : Ending) (w' : World) : Prop :=
  ∃ (x : Int) (p : Pkt) (A : Option Addr) (c : Nat) (B : Option Addr) (d : Nat), e = .returned (.tuple #[.int .i64 x, .agg #[.int .i64 p.el, .slice A p.hd.length c, .int .i64 p.tag, .slice B p.bd.length d]]) ∧ p.hd.length ≤ 1000 ∧ p.bd.length ≤ 1000 ∧ Ints w.heap.size w'.heap.size w' A p.hd.length c p.hd ∧ Ints w.heap.size w'.heap.size w' B p.bd.length d p.bd ∧ Below w.heap.size w w'
set_option maxHeartbeats 1000000 in
set_option maxRecDepth 20000 in
theorem DrawPacketPeel (A0 : Option Addr) (n0 c0 : Nat) (w : World) (h : CodeIs w A0 n0 c0) :
    Calls Try.prog 20 #[.slice A0 n0 c0] w (PeelDraw w) := by
  have hal : Below w.heap.size w (w.alloc (.cells #[.int .i64 0, .slice none 0 0, .int .i64 0, .slice none 0 0] 26)) := (Below.refl _ _).alloc (Nat.le_refl _) _
  have hz : Blk (w.alloc (.cells #[.int .i64 0, .slice none 0 0, .int .i64 0, .slice none 0 0] 26)) w.heap.size #[.int .i64 0, .slice none 0 0, .int .i64 0, .slice none 0 0] 26 := heap_alloc_new _ _
  have HC : Hid (CodeIs (w.alloc (.cells #[.int .i64 0, .slice none 0 0, .int .i64 0, .slice none 0 0] 26)) A0 n0 c0) := by
    refine ⟨h.1, h.2.1, fun hn => ?_⟩
    obtain ⟨b, off, e, hb, hc⟩ := h.2.2 hn
    refine ⟨b, off, e, Nat.lt_of_lt_of_le hb hal.size, fun j hj => ?_⟩
    obtain ⟨u, hu, hcell⟩ := hc j hj
    exact ⟨u, hu, (hal.cell (p := ⟨b, off + j, none⟩) hb).trans hcell⟩
  have Z0 := Lib.hid hz
  have B0 := Lib.hid hal
  have hsz : (w.alloc (.cells #[.int .i64 0, .slice none 0 0, .int .i64 0, .slice none 0 0] 26)).heap.size = w.heap.size + 1 := by simp
  have HSZ := Lib.hid hsz
  clear h hal hz hsz
  go_enter Try.func20, Try.ntmps20
  go_wp2_with fail
  ((with_reducible refine (l6Open _ _ _ _ HC.out).mono ?_); rintro e w1 ⟨rfl, r1, b1, s1⟩)
  rw [HSZ.out] at r1 b1 s1 ⊢
  have Z1 := Lib.hid (Z0.out.below b1 (by rw [HSZ.out]; exact Nat.le_refl _))
  have B1 := Lib.hid (B0.out.trans (b1.mono (by omega)))
  have R1 := Lib.hid r1
  have hs1 : w.heap.size + 1 < w1.heap.size := by omega
  clear r1 b1 s1 Z0 B0 HSZ HC
  go_wp2_with fail
  ((with_reducible refine (l91Good _ _ _ R1.out (by omega)).mono ?_); rintro e w2 ⟨x, rfl, hx0, hx1, r2, g2⟩)
  have Z2 := Lib.hid (blk_grown Z1.out g2 (by simp))
  have B2 := Lib.hid (below_g B1.out g2 (by omega) (fun k e => by simp at e; omega))
  have R2 := Lib.hid r2
  have hs2 := g2.size
  clear r2 g2 Z1 B1 R1
  go_wp2_with fail
  ((with_reducible refine (l91Packet _ _ x _ R2.out (by omega)).mono ?_); rintro e w3 ⟨p, A, c, B, d, rfl, i1, i2, hl1, hl2, r3, g3⟩)
  have Z3 := Lib.hid (blk_grown Z2.out g3 (by simp))
  have B3 := Lib.hid (below_g B2.out g3 (by omega) (fun k e => by simp at e; omega))
  have R3 := Lib.hid r3
  have J1 := Lib.hid i1
  have J2 := Lib.hid i2
  have hs3 := g3.size
  clear r3 g3 i1 i2 Z2 B2 R2
  go_wp2_with fail
  ((with_reducible refine (l91Spoilt _ _ p A B c d _ _ _ _ _ R3.out (by omega) J1.out J2.out hl1 hl2).mono ?_); rintro e w4 ⟨p2, A2, c2, B2, d2, rfl, i1, i2, hm1, hm2, r4, g4⟩)
  have Z4 := Lib.hid (blk_grown Z3.out g4 (by simp))
  have B4 := Lib.hid (below_g B3.out g4 (by omega) (fun k e => by simp at e; omega))
  have R4 := Lib.hid r4
  have K1 := Lib.hid (i1.mono (lo' := w.heap.size + 2) (by omega) (Nat.le_refl _))
  have K2 := Lib.hid (i2.mono (lo' := w.heap.size + 2) (by omega) (Nat.le_refl _))
  have hs4 := g4.size
  clear r4 g4 i1 i2 Z3 B3 R3 J1 J2
  have hal : Below w4.heap.size w4 (w4.alloc (.cells #[.int .i64 p2.el, .slice A2 p2.hd.length c2, .int .i64 p2.tag, .slice B2 p2.bd.length d2] 26)) := (Below.refl _ _).alloc (Nat.le_refl _) _
  have zz : Blk (w4.alloc (.cells #[.int .i64 p2.el, .slice A2 p2.hd.length c2, .int .i64 p2.tag, .slice B2 p2.bd.length d2] 26)) w4.heap.size #[.int .i64 p2.el, .slice A2 p2.hd.length c2, .int .i64 p2.tag, .slice B2 p2.bd.length d2] 26 := heap_alloc_new _ _
  have ZP := Lib.hid zz
  replace Z4 := Lib.hid (Z4.out.below hal (Nat.le_refl _))
  replace B4 := Lib.hid (B4.out.trans (hal.mono (by omega)))
  replace R4 := Lib.hid (R4.out.below hal (by omega))
  replace K1 := Lib.hid (K1.out.below hal (Nat.le_refl _))
  replace K2 := Lib.hid (K2.out.below hal (Nat.le_refl _))
  have hs5 := hal.size
  clear hal zz
  go_wp2_with fail
  ((with_reducible refine (pick _ _ _ _ R4.out (by omega) (by omega) (by omega)).mono ?_); rintro e w5 ⟨v, rfl, hv0, hv1, r5, g5, s5⟩)
  replace Z4 := Lib.hid (blk_grown Z4.out g5 (by simp))
  replace ZP := Lib.hid (blk_grown ZP.out g5 (by simp; omega))
  replace B4 := Lib.hid (below_g B4.out g5 (by omega) (fun k e => by simp at e; omega))
  replace K1 := Lib.hid (K1.out.grown g5 (by simp))
  replace K2 := Lib.hid (K2.out.grown g5 (by simp))
  replace R4 := Lib.hid r5
  have hs6 := g5.size
  clear r5 g5 s5
  by_cases hv : v = 0
  · subst hv
    go_wp2_with fail
    ((with_reducible refine (l91Is _ _ _ R4.out (by omega)).mono ?_); rintro e w6 ⟨y, rfl, hy0, hy1, r6, g6⟩)
    replace Z4 := Lib.hid (blk_grown Z4.out g6 (by simp))
    replace ZP := Lib.hid (blk_grown ZP.out g6 (by simp; omega))
    replace B4 := Lib.hid (below_g B4.out g6 (by omega) (fun k e => by simp at e; omega))
    replace K1 := Lib.hid (K1.out.grown g6 (by simp))
    replace K2 := Lib.hid (K2.out.grown g6 (by simp))
    clear r6 g6
    obtain ⟨k0, k1, k2, k3, kf⟩ := four_cells ZP.out
    obtain ⟨z0, z1, z2, z3, zf⟩ := four_cells Z4.out
    go_wp2_with fail
    go_region
    go_wp2
    refine bodyPost_ret (v := .tuple #[.int .i64 y, .agg #[.int .i64 p2.el, .slice A2 p2.hd.length c2, .int .i64 p2.tag, .slice B2 p2.bd.length d2]]) ?_ rfl ?_
    · rw [results_tmp_cell rfl]
      go_simp
    · have hf := set4_far w6 w.heap.size (.int .i64 p2.el) (.slice A2 p2.hd.length c2) (.int .i64 p2.tag) (.slice B2 p2.bd.length d2)
      have hbs := below_set4 (B := w.heap.size) (Below.refl _ w6) (Nat.le_refl _) (.int .i64 p2.el) (.slice A2 p2.hd.length c2) (.int .i64 p2.tag) (.slice B2 p2.bd.length d2)
      have q1 := (ints_top (K1.out.keep hbs.size (fun i a b _ => hf i (by omega)))).mono (lo' := w.heap.size) (by omega) (Nat.le_refl _)
      have q2 := (ints_top (K2.out.keep hbs.size (fun i a b _ => hf i (by omega)))).mono (lo' := w.heap.size) (by omega) (Nat.le_refl _)
      have hB := B4.out.trans hbs
      exact ⟨y, p2, A2, c2, B2, d2, rfl, hm1, hm2, q1, q2, ⟨hB.os, hB.tape, hB.output, hB.size, hB.block⟩⟩
  · have hv' : (v == 0) = false := by simpa using hv
    clear hv
    obtain ⟨k0, k1, k2, k3, kf⟩ := four_cells ZP.out
    obtain ⟨z0, z1, z2, z3, zf⟩ := four_cells Z4.out
    go_wp2_with fail
    go_region
    go_wp2
    refine bodyPost_ret (v := .tuple #[.int .i64 x, .agg #[.int .i64 p2.el, .slice A2 p2.hd.length c2, .int .i64 p2.tag, .slice B2 p2.bd.length d2]]) ?_ rfl ?_
    · rw [results_tmp_cell rfl]
      go_simp
    · have hf := set4_far w5 w.heap.size (.int .i64 p2.el) (.slice A2 p2.hd.length c2) (.int .i64 p2.tag) (.slice B2 p2.bd.length d2)
      have hbs := below_set4 (B := w.heap.size) (Below.refl _ w5) (Nat.le_refl _) (.int .i64 p2.el) (.slice A2 p2.hd.length c2) (.int .i64 p2.tag) (.slice B2 p2.bd.length d2)
      have q1 := (ints_top (K1.out.keep hbs.size (fun i a b _ => hf i (by omega)))).mono (lo' := w.heap.size) (by omega) (Nat.le_refl _)
      have q2 := (ints_top (K2.out.keep hbs.size (fun i a b _ => hf i (by omega)))).mono (lo' := w.heap.size) (by omega) (Nat.le_refl _)
      have hB := B4.out.trans hbs
      exact ⟨x, p2, A2, c2, B2, d2, rfl, hm1, hm2, q1, q2, ⟨hB.os, hB.tape, hB.output, hB.size, hB.block⟩⟩

end Rd
end Go.Proofs.Ytdejnbbfdbafnab
