/-
  The draw of a block and a letter.
-/
import Derived.Test.YtljfhddgifacnaaDr10
import Derived.Test.YtljfhddgifacnaaDr5q
import Derived.Test.YtljfhddgifacnaaSp10
import Derived.Deep.RegionLaw
import Derived.Laws.ResultCell
namespace Go.Proofs.Ytljfhddgifacnaa
open Go.RowKit
namespace Rd
open Il Pm Pq Hlp5 Rm Cl Rp Sl

def FillDraw (w : World) (e : Ending) (w' : World) : Prop :=
  ∃ (f el tag : Int) (A B : Option Addr) (c d : Nat) (hd ls : List Int), e = .returned (.tuple #[.agg #[.int .i64 f, .int .i64 el, .slice A hd.length c, .int .i64 tag], .slice B ls.length d]) ∧ hd.length ≤ 9 ∧ ls.length ≤ 6 ∧
    Ints w.heap.size w'.heap.size w' A hd.length c hd ∧ Ints w.heap.size w'.heap.size w' B ls.length d ls ∧ Below w.heap.size w w'
/-- A block that has been drawn, in memory block g. -/
def FRel (N g : Nat) (w wr : World) (f el tag : Int) (A : Option Addr) (n c : Nat) (hd : List Int) : Prop :=
  Blk wr w.heap.size #[.int .i64 0, .int .i64 0, .slice none 0 0, .int .i64 0] 27 ∧ Blk wr g #[.int .i64 f, .int .i64 el, .slice A n c, .int .i64 tag] 27 ∧ (∃ l h, w.heap.size + 1 < l ∧ ((h ≤ g ∨ g < l) ∧ h ≤ wr.heap.size) ∧ Ints l h wr A n c hd) ∧ Reader wr (w.heap.size + 1) N ∧ Below w.heap.size w wr ∧ w.heap.size + 1 < g ∧ n ≤ 9
section
variable {N N' g : Nat} {w wr w' : World} {f el tag : Int} {A : Option Addr} {n c : Nat} {hd : List Int}
theorem FRel.rd (h : FRel N g w wr f el tag A n c hd) : Reader wr (w.heap.size + 1) N := h.2.2.2.1
theorem FRel.drew (h : FRel N g w wr f el tag A n c hd) : FRel N g w wr.drew f el tag A n c hd := by
  obtain ⟨h1, h2, h3, h4, h5, h6⟩ := h
  exact ⟨h1, h2, h3, h4, ⟨h5.os, h5.tape, h5.output, h5.size, h5.block⟩, h6⟩
theorem FRel.step (h : FRel N g w wr f el tag A n c hd) (hg : wr.grownBy w' (some (w.heap.size + 1))) (hr : Reader w' (w.heap.size + 1) N') : FRel N' g w w' f el tag A n c hd := by
  obtain ⟨h1, h2, ⟨l, hh, q1, q2, q3⟩, h4, h5, h6, h7⟩ := h
  exact ⟨blk_grown h1 hg (by simp), blk_grown h2 hg (by simp; omega), ⟨l, hh, q1, ⟨q2.1, Nat.le_trans q2.2 hg.size⟩, q3.grown hg (fun k e => by cases e; omega)⟩, hr, h5.grown hg h5.size (fun k e => by cases e; omega), h6, h7⟩
theorem FRel.alloc (h : FRel N g w wr f el tag A n c hd) (o : Obj) : FRel N g w (wr.alloc o) f el tag A n c hd :=
  h.step (World.grownBy_alloc wr o _) (h.rd.alloc o)
theorem FRel.cells (h : FRel N g w wr f el tag A n c hd) : wr.cell? ⟨g, 0, none⟩ = some (.int .i64 f) ∧ wr.cell? ⟨g, 1, none⟩ = some (.int .i64 el) ∧ wr.cell? ⟨g, 2, none⟩ = some (.slice A n c) ∧ wr.cell? ⟨g, 3, none⟩ = some (.int .i64 tag) := by
  obtain ⟨k0, k1, k2, k3, _⟩ := four_cells h.2.1
  exact ⟨k0, k1, k2, k3⟩
theorem FRel.set0 (h : FRel N g w wr f el tag A n c hd) (x : Int) : FRel N g w (wr.setCell ⟨g, 0, none⟩ (.int .i64 x)) x el tag A n c hd := by
  obtain ⟨h1, h2, ⟨l, hh, q1, q2, q3⟩, h4, h5, h6, h7⟩ := h
  exact ⟨blk_far h1 (show w.heap.size ≠ g by omega) _, by simpa using blk_set (i := 0) h2 (.int .i64 x), ⟨l, hh, q1, ⟨q2.1, by simpa [World.setCell] using q2.2⟩, ints_far q3 (q := ⟨g, 0, none⟩) (by show g < l ∨ hh ≤ g; omega) _⟩, h4.grown (grown_set wr ⟨g, 0, none⟩ _) (fun k e => by simp at e; omega), h5.setCell (p := ⟨g, 0, none⟩) (show w.heap.size ≤ g by omega) _, h6, h7⟩
theorem FRel.set1 (h : FRel N g w wr f el tag A n c hd) (x : Int) : FRel N g w (wr.setCell ⟨g, 1, none⟩ (.int .i64 x)) f x tag A n c hd := by
  obtain ⟨h1, h2, ⟨l, hh, q1, q2, q3⟩, h4, h5, h6, h7⟩ := h
  exact ⟨blk_far h1 (show w.heap.size ≠ g by omega) _, blk_set1 h2, ⟨l, hh, q1, ⟨q2.1, by simpa [World.setCell] using q2.2⟩, ints_far q3 (q := ⟨g, 1, none⟩) (by show g < l ∨ hh ≤ g; omega) _⟩, h4.grown (grown_set wr ⟨g, 1, none⟩ _) (fun k e => by simp at e; omega), h5.setCell (p := ⟨g, 1, none⟩) (show w.heap.size ≤ g by omega) _, h6, h7⟩
theorem FRel.set2 (h : FRel N g w wr f el tag A n c hd) {A2 : Option Addr} {m c2 b : Nat} {xs : List Int} (hm : m ≤ 9) (ho : Il.Own b (b + 1) wr A2 m c2 xs) (hb : 0 < m → g < b) : FRel N g w (wr.setCell ⟨g, 2, none⟩ (.slice A2 m c2)) f el tag A2 m c2 xs := by
  obtain ⟨h1, h2, _, h4, h5, h6, h7⟩ := h
  refine ⟨blk_far h1 (show w.heap.size ≠ g by omega) _, blk_set2 h2, ?_, h4.grown (grown_set wr ⟨g, 2, none⟩ _) (fun k e => by simp at e; omega), h5.setCell (p := ⟨g, 2, none⟩) (show w.heap.size ≤ g by omega) _, h6, hm⟩
  rcases Nat.eq_zero_or_pos m with rfl | hm0
  · exact ⟨g + 1, g + 1, by omega, ⟨.inr (by omega), by have := (Array.getElem?_eq_some_iff.1 h2).1; simp [World.setCell]; omega⟩, ⟨ho.1.1, ho.1.2.1, ho.1.2.2.1, fun h => absurd h (by omega)⟩⟩
  · have := hb hm0
    obtain ⟨b', _, _, r1, r2, r3, _⟩ := ho.1.2.2.2 hm0
    exact ⟨b, b + 1, by omega, ⟨.inr (by omega), by simp [World.setCell]; omega⟩, ints_far ho.1 (q := ⟨g, 2, none⟩) (by show g < b ∨ b + 1 ≤ g; omega) _⟩
theorem FRel.new {f el tag : Int} {A : Option Addr} {c b : Nat} {hd : List Int} {w w5 : World} (z : Blk w5 w.heap.size #[.int .i64 0, .int .i64 0, .slice none 0 0, .int .i64 0] 27) (ho : Il.Own b (b + 1) w5 A hd.length c hd) (hb : w.heap.size + 1 < b) (hr : Reader w5 (w.heap.size + 1) N) (hw : Below w.heap.size w w5) (h9 : hd.length ≤ 9) (hs : w.heap.size + 1 < w5.heap.size) :
    FRel N w5.heap.size w (w5.alloc (.cells #[.int .i64 f, .int .i64 el, .slice A hd.length c, .int .i64 tag] 27)) f el tag A hd.length c hd := by
  have hal : Below w5.heap.size w5 (w5.alloc (.cells #[.int .i64 f, .int .i64 el, .slice A hd.length c, .int .i64 tag] 27)) := (Below.refl _ _).alloc (Nat.le_refl _) _
  refine ⟨z.below hal (Nat.le_refl _), heap_alloc_new _ _, ?_, hr.alloc _, hw.trans (hal.mono hw.size), hs, h9⟩
  rcases Nat.eq_zero_or_pos hd.length with h0 | h0
  · exact ⟨w5.heap.size, w5.heap.size, hs, ⟨.inl (Nat.le_refl _), hal.size⟩, ⟨ho.1.1, ho.1.2.1, ho.1.2.2.1, fun h => absurd h (by omega)⟩⟩
  · obtain ⟨b', _, _, r1, r2, r3, _⟩ := ho.1.2.2.2 h0
    exact ⟨b, b + 1, hb, ⟨.inl (by omega), by have := hal.size; omega⟩, ho.1.below hal (Nat.le_refl _)⟩
theorem fill_fin {B : Option Addr} {d lo : Nat} {ls : List Int} {wF : World} (h : FRel N g w wF f el tag A n c hd) (ho : Il.Own lo wF.heap.size wF B ls.length d ls) (hlo : w.heap.size < lo) (hl : ls.length ≤ 6) (u0 u1 u2 u3 : Value) :
    FillDraw w (.returned (.tuple #[.agg #[.int .i64 f, .int .i64 el, .slice A n c, .int .i64 tag], .slice B ls.length d])) ((((wF.setCell ⟨w.heap.size, 0, none⟩ u0).setCell ⟨w.heap.size, 1, none⟩ u1).setCell ⟨w.heap.size, 2, none⟩ u2).setCell ⟨w.heap.size, 3, none⟩ u3) := by
  obtain ⟨h1, h2, ⟨l, hh, q1, q2, q3⟩, h4, h5, h6, h7⟩ := h
  have e1 := q3.1
  subst e1
  have hsz := size03 wF w.heap.size u0 u1 u2 u3
  have hfar : ∀ b, b ≠ w.heap.size → ((((wF.setCell ⟨w.heap.size, 0, none⟩ u0).setCell ⟨w.heap.size, 1, none⟩ u1).setCell ⟨w.heap.size, 2, none⟩ u2).setCell ⟨w.heap.size, 3, none⟩ u3).heap[b]? = wF.heap[b]? := fun b hb => far03b hb _ _ _ _
  have k1 := ints_top (q3.keep (Nat.le_of_eq hsz.symm) fun b r1 r2 _ => hfar b (by omega))
  have k2 := ints_top (ho.1.keep (Nat.le_of_eq hsz.symm) fun b r1 r2 _ => hfar b (by omega))
  exact ⟨f, el, tag, A, B, c, d, hd, ls, rfl, h7, hl, k1.mono (by omega) (Nat.le_refl _), k2.mono (by omega) (Nat.le_refl _), below03 h5 (Nat.le_refl _) _ _ _ _⟩
end
theorem FRel.stepO {N g G : Nat} {w wr w' : World} {f el tag : Int} {A : Option Addr} {n c : Nat} {hd : List Int} (h : FRel N g w wr f el tag A n c hd) (hg : wr.grownBy w' (some G)) (hG : g < G) (hGr : G < wr.heap.size) (hx : ∃ l hh, w.heap.size + 1 < l ∧ (hh ≤ g ∨ g < l) ∧ hh ≤ G ∧ Ints l hh wr A n c hd) : FRel N g w w' f el tag A n c hd := by
  obtain ⟨h1, h2, _, h4, h5, h6, h7⟩ := h
  obtain ⟨l, hh, q1, q2, q4, q3⟩ := hx
  have hGw : hh ≤ wr.heap.size := Nat.le_trans q4 (Nat.le_of_lt hGr)
  exact ⟨blk_grown h1 hg (by simp; omega), blk_grown h2 hg (by simp; omega), ⟨l, hh, q1, ⟨q2, Nat.le_trans hGw hg.size⟩, q3.grown hg (fun k e => by cases e; omega)⟩, h4.grown hg (fun k e => by cases e; omega), h5.grown hg h5.size (fun k e => by cases e; omega), h6, h7⟩
theorem dest_at {g5 : Option Nat} {G n b5 : Nat} {W w5 : World} {v : Value} {xs : List Int} (hd : Dest 3 1 g5 w5 v n (xs.map (Value.int .i64))) (hk : ∀ k, g5 = some k → b5 = k) (hg : g5 = some G ∨ ∃ k, g5 = some k ∧ W.heap.size ≤ k) (hn : 0 < n) : b5 = G ∨ W.heap.size ≤ b5 := by
  obtain ⟨k, e, _⟩ := dest_blk hd hn
  have h1 := hk k e
  rcases hg with q | ⟨k', q, h2⟩
  · rw [q] at e; simp at e; omega
  · rw [q] at e; simp at e; omega
theorem rep_len (x r : Int) (ps ns : List Int) : (repF x ps ns r).hd.length ≤ 9 := by
  cases h : makeOk x ps ns r []
  · rw [repF_no h]; exact Nat.zero_le _
  · rw [repF_yes h]; exact (make_len x r ps ns []).1

set_option maxRecDepth 20000 in
set_option maxHeartbeats 4000000 in
theorem DrawReplyFill (A0 : Option Addr) (n0 c0 : Nat) (w : World) (h : CodeIs w A0 n0 c0) :
    Calls Try.prog 24 #[.slice A0 n0 c0] w (FillDraw w) := by
  have hz : Blk (w.alloc (.cells #[.int .i64 0, .int .i64 0, .slice none 0 0, .int .i64 0] 27)) w.heap.size #[.int .i64 0, .int .i64 0, .slice none 0 0, .int .i64 0] 27 := heap_alloc_new _ _
  have hal : Below w.heap.size w (w.alloc (.cells #[.int .i64 0, .int .i64 0, .slice none 0 0, .int .i64 0] 27)) := (Below.refl _ _).alloc (Nat.le_refl _) _
  have HC : Hid (CodeIs (w.alloc (.cells #[.int .i64 0, .int .i64 0, .slice none 0 0, .int .i64 0] 27)) A0 n0 c0) := by
    refine ⟨h.1, h.2.1, fun hn => ?_⟩
    obtain ⟨b, off, e, hb, hc⟩ := h.2.2 hn
    refine ⟨b, off, e, Nat.lt_of_lt_of_le hb hal.size, fun j hj => ?_⟩
    obtain ⟨u, hu, hcell⟩ := hc j hj
    exact ⟨u, hu, (hal.cell (p := ⟨b, off + j, none⟩) hb).trans hcell⟩
  have Z0 := Lib.hid hz
  have B0 := Lib.hid hal
  have HSZ : Hid ((w.alloc (.cells #[.int .i64 0, .int .i64 0, .slice none 0 0, .int .i64 0] 27)).heap.size = w.heap.size + 1) := by show _ = _; simp
  clear h hal hz
  go_enter Try.func24, Try.ntmps24
  go_wp2_with fail
  ((with_reducible refine (l6Open _ _ _ _ HC.out).mono ?_); rintro e w1 ⟨rfl, r1, b1, s1⟩)
  rw [HSZ.out] at r1 b1 s1 ⊢
  have Z1 := Lib.hid (Z0.out.below b1 (by rw [HSZ.out]; exact Nat.le_refl _))
  have B1 := Lib.hid (B0.out.trans (b1.mono (by omega)))
  have R1 := Lib.hid r1
  clear r1 b1 Z0 B0 HSZ HC
  go_wp2_with fail
  ((with_reducible refine (l91Path _ _ _ R1.out (by omega)).mono ?_); rintro e w2 ⟨A3, c3, B3, d3, ps, ns, rfl, hl1, hl2, i1, i2, r2, g2⟩)
  have Z2 := Lib.hid (blk_grown Z1.out g2 (by simp))
  have B2 := Lib.hid (below_g B1.out g2 (by omega) (fun k e => by simp at e; omega))
  have R2 := Lib.hid r2
  have hs2 := g2.size
  have I1 := Lib.hid (i1.mono (lo' := w.heap.size + 2) (by omega) (Nat.le_refl _))
  have I2 := Lib.hid (i2.mono (lo' := w.heap.size + 2) (by omega) (Nat.le_refl _))
  clear r2 g2 Z1 B1 R1 i1 i2
  go_wp2_with fail
  ((with_reducible refine (l91Good _ _ _ R2.out (by omega)).mono ?_); rintro e w3 ⟨x, rfl, hx0, hx1, r3, g3⟩)
  have Z3 := Lib.hid (blk_grown Z2.out g3 (by simp))
  have B3 := Lib.hid (below_g B2.out g3 (by omega) (fun k e => by simp at e; omega))
  have R3 := Lib.hid r3
  have hs3 := g3.size
  have J1 := Lib.hid (I1.out.grown g3 (fun k e => by cases e; omega))
  have J2 := Lib.hid (I2.out.grown g3 (fun k e => by cases e; omega))
  clear r3 g3 Z2 B2 R2 I1 I2
  go_wp2_with fail
  ((with_reducible refine (pick _ _ _ _ R3.out (by omega) (by omega) (by omega)).mono ?_); rintro e w4 ⟨v4, rfl, h40, h41, r4, g4, s4⟩)
  have Z4 := Lib.hid (blk_grown Z3.out g4 (by simp))
  have B4 := Lib.hid (below_g B3.out g4 (by omega) (fun k e => by simp at e; omega))
  have R4 := Lib.hid r4
  have hs4 := g4.size
  have K1 := Lib.hid (J1.out.grown g4 (fun k e => by cases e; omega))
  have K2 := Lib.hid (J2.out.grown g4 (fun k e => by cases e; omega))
  clear r4 g4 s4 Z3 B3 R3 J1 J2
  go_wp2_with fail
  ((with_reducible refine (Sp10.ReplyMake ps ns x v4 _ _ _ _ _ _ _ _ _ _ w4 K1.out K2.out).mono ?_); rintro e w5 ⟨A, c, B, d, b1, b2, rfl, hlie, hb1, hb2, hb5⟩)
  have hh9 := rep_len x v4 ps ns
  have hs5 := hb5.size
  have HF5 := Lib.hid (FRel.new (f := fstF x ps ns v4) (el := (repF x ps ns v4).el) (tag := (repF x ps ns v4).tag) (Z4.out.below hb5 (Nat.le_refl _)) hlie.hdr (by omega) (R4.out.below hb5 (by omega)) (B4.out.trans (hb5.mono B4.out.size)) hh9 (by omega))
  clear hlie hb5 Z4 B4 R4 K1 K2
  generalize hP : repF x ps ns v4 = p at *
  generalize fstF x ps ns v4 = f at *
  generalize makeOk x ps ns v4 [] = ok at *
  obtain ⟨el, hd, tag, bd⟩ := p
  dsimp only at *
  clear hP hl1 hl2
  go_upto_region 4 with (fail)
  generalize hgg : w5.heap.size = g at *
  generalize (w5.alloc (.cells #[.int .i64 f, .int .i64 el, .slice A hd.length c, .int .i64 tag] 27)) = w6 at *
  have hg2 := HF5.out.2.2.2.2.2.1
  generalize hnn : hd.length = n at *
  go_wp2_with fail
  ((with_reducible refine (pick _ _ _ _ HF5.out.rd (by omega) (by omega) (by omega)).mono ?_); rintro e w7 ⟨s, rfl, hs0, hs1, r7, g7, s7⟩)
  have HF := Lib.hid (HF5.out.step g7 r7)
  clear r7 g7 s7 HF5
  by_cases h0 : s = 0
  · subst h0
    go_wp2_with fail
    ((with_reducible refine (pick _ _ _ _ HF.out.rd (by omega) (by omega) (by omega)).mono ?_); rintro e w8 ⟨y, rfl, hy0, hy1, r8, g8, s8⟩)
    have H8 := HF.out.step g8 r8
    obtain ⟨k0, k1, k2, k3, kf⟩ := four_cells H8.2.1
    replace HF := Lib.hid (H8.set0 (y - 1))
    clear r8 g8 s8 H8
    go_upto_region 11 with (fail)
    clear k0 k1 k2 k3 kf
    generalize w8.setCell ⟨g, 0, none⟩ (.int .i64 (y - 1)) = wq at *
    generalize y - 1 = fy at *
    go_upto_region 11 with (fail)
    have FD := Lib.hid HF.out.drew
    have SA := Lib.hid FD.out.cells
    have HNG : Hid (g ≠ w.heap.size) := by show _ ≠ _; omega
    go_region_held3 (fun w' => w'.cell? ⟨g, 0, none⟩ = some (.int .i64 fy) ∧ w'.cell? ⟨g, 1, none⟩ = some (.int .i64 el) ∧ w'.cell? ⟨g, 2, none⟩ = some (.slice A n c) ∧ w'.cell? ⟨g, 3, none⟩ = some (.int .i64 tag))
      (first | with_reducible exact SA.out | with_reducible exact s8 | with_reducible exact ⟨(far03 HNG.out _ _ _ _).trans s8.1, (far03 HNG.out _ _ _ _).trans s8.2.1, (far03 HNG.out _ _ _ _).trans s8.2.2.1, (far03 HNG.out _ _ _ _).trans s8.2.2.2⟩ | (trace_state; fail))
      (first
      | (go_at_call 71; refine (l91ListAt _ _ 4 4 _ rfl FD.out.rd (by omega) (by omega)).mono ?_; rintro e w8 ⟨A8, c8, ls, rfl, hl8, hb8, ho8, r8, g8⟩; have f8 := FD.out.step g8 r8; have s8 := f8.cells; obtain ⟨y0, y1, y2, y3, yf⟩ := four_cells f8.1)
      | fail)
    all_goals
      have hsd : wq.drew.heap.size = wq.heap.size := rfl
      have hlw := FD.out.2.2.2.2.1.size
      have hgl := (Array.getElem?_eq_some_iff.1 FD.out.2.1).1
      have HP := Lib.hid (fill_fin f8 ho8 (by omega) (by omega) (.int .i64 fy) (.int .i64 el) (.slice A n c) (.int .i64 tag))
      clear s8 f8 ho8 r8 g8 hb8 SA FD HF
      go_wp2
      refine bodyPost_ret (v := .tuple #[.agg #[.int .i64 fy, .int .i64 el, .slice A n c, .int .i64 tag], .slice A8 ls.length c8]) ?_ rfl ?_
      · rw [results_cell_tmp rfl]
        go_simp
      · exact HP.out
  have e0 : (s == 0) = false := by simpa using h0
  by_cases h1 : s = 1
  · subst h1
    have hsum : IntKind.i64.wrap ((n : Int) + 1) = (n : Int) + 1 := IntWalk.i64_in _ (by have := HF.out.2.2.2.2.2.2; omega)
    have FD := Lib.hid HF.out.drew
    have FE := Lib.hid (HF.out.alloc (.cells #[] 3)).drew
    have SA := Lib.hid FD.out.cells.2.2.1
    have SE := Lib.hid FE.out.cells.2.2.1
    have hn9 := HF.out.2.2.2.2.2.2
    obtain ⟨l0, hh0, q1, q2, q3⟩ := HF.out.2.2.1
    have hcap := q3.cap_
    have hmax := q3.2.2.1
    unfold maxLen at hmax
    have hln := q3.len_
    have HGL : Hid (g < w7.heap.size) := (Array.getElem?_eq_some_iff.1 HF.out.2.1).1
    have HWE : Hid ((w7.alloc (.cells #[] 3)).drew.heap.size = w7.heap.size + 1) := by show (w7.alloc (.cells #[] 3)).heap.size = _; simp
    have HWD : Hid (w7.drew.heap.size = w7.heap.size) := rfl
    have HNG : Hid (g ≠ w.heap.size) := by show _ ≠ _; omega
    have hrg : w.heap.size + 1 < w7.heap.size := by have := HGL.out; omega
    have HQ := Lib.hid (And.intro q1 (And.intro q2 q3))
    have hh7 := q2.2
    clear q1 q2 q3
    cases A with
    | none =>
      have sa := SA.out
      have se := SE.out
      go_upto_region 8 with (fail)
      go_region_law (first
        | (refine step_appD elInt _ _ _ _ _ (by with_reducible exact eD) _ _ _ _ _ _ (by with_reducible exact eR) (ints_one_cell _) (by omega) (.tmp 38) (.tmp 47) rfl rfl (by go_simp) (by go_simp) ?_; intro g5 v5 w10 hd5 hg5 hgr5; rw [List.nil_append, Nat.zero_add] at hd5; obtain ⟨A5, c5, b5, rfl, ho5, hk5⟩ := dest_ints hd5; have f10 := eF.stepO hgr5 (by have := HGL.out; omega) eL eX; have s10 := f10.cells.2.2.1; have zz := four_cells f10.2.1; obtain ⟨y0, y1, y2, y3, yf⟩ := zz; have HG : Hid (FRel _ g w (w10.setCell ⟨g, 2, none⟩ (.slice A5 j c5)) f el tag A5 j c5 (hd.take j)) := f10.set2 (by omega) ho5 (fun hj => by have := dest_at hd5 hk5 hg5 hj; have := HGL.out; omega))
        | (refine step_appD elInt _ _ _ _ _ (by with_reducible exact dD) _ _ _ _ _ _ (by with_reducible exact dR) (ints_one_cell _) (by omega) (.tmp 38) (.tmp 47) rfl rfl (by go_simp) (by go_simp) ?_; intro g5 v5 w10 hd5 hg5 hgr5; rw [List.nil_append, Nat.zero_add] at hd5; obtain ⟨A5, c5, b5, rfl, ho5, hk5⟩ := dest_ints hd5; have f10 := dF.stepO hgr5 (by have := HGL.out; omega) dL dX; have s10 := f10.cells.2.2.1; have zz := four_cells f10.2.1; obtain ⟨y0, y1, y2, y3, yf⟩ := zz; have HG : Hid (FRel _ g w (w10.setCell ⟨g, 2, none⟩ (.slice A5 j c5)) f el tag A5 j c5 (hd.take j)) := f10.set2 (by omega) ho5 (fun hj => by have := dest_at hd5 hk5 hg5 hj; have := HGL.out; omega))
        | (go_simp; go_at_call 52; refine (pick _ _ _ _ (by with_reducible exact FD.out.rd) (by omega) (by omega) (by omega)).mono ?_; rintro e w8 ⟨j0, rfl, hj0, hj1, r8, g8, z8⟩; obtain ⟨j, rfl⟩ := Int.eq_ofNat_of_zero_le hj0; have hjn : j ≤ n := (by omega); have hjc : (j : Int) ≤ (c : Int) := (by omega); have hwd := HWD.out; have hgs := g8.size; have f8 := FD.out.step g8 r8; have s8 := f8.cells.2.2.1; have dF := f8.alloc (.cells #[] 3); have s9 := dF.cells.2.2.1; have dD : Dest 3 1 (some w8.heap.size) (w8.alloc (.cells #[] 3)) (.slice (some ⟨w8.heap.size, 0, none⟩) 0 0) 0 [] := .inr ⟨_, rfl, accV_new w8 _ _⟩; have q9 : Ints l0 hh0 (w8.alloc (.cells #[] 3)) none n c hd := ((show Ints l0 hh0 w7.drew _ n c hd from HQ.out.2.2).grown g8 (fun k e => by cases e; have := HQ.out.1; omega)).keep (by simp) (fun b _ _ hb => Below.heap_alloc _ _ _ (by omega)); have dX : ∃ l hh, w.heap.size + 1 < l ∧ (hh ≤ g ∨ g < l) ∧ hh ≤ w8.heap.size ∧ Ints l hh (w8.alloc (.cells #[] 3)) none n c hd := ⟨l0, hh0, HQ.out.1, HQ.out.2.1.1, (by have := HQ.out.2.1.2; omega), q9⟩; have dL : w8.heap.size < (w8.alloc (.cells #[] 3)).heap.size := (by simp); have dR := ints_row (q9.take hjn))
        | (go_simp; go_at_call 52; refine (pick _ _ _ _ (by with_reducible exact FE.out.rd) (by omega) (by omega) (by omega)).mono ?_; rintro e w8 ⟨j0, rfl, hj0, hj1, r8, g8, z8⟩; obtain ⟨j, rfl⟩ := Int.eq_ofNat_of_zero_le hj0; have hjn : j ≤ n := (by omega); have hjc : (j : Int) ≤ (c : Int) := (by omega); have hwe := HWE.out; have hgs := g8.size; have eF := FE.out.step g8 r8; have s8 := eF.cells.2.2.1; have eD : Dest 3 1 (some w7.heap.size) w8 (.slice (some ⟨w7.heap.size, 0, none⟩) 0 0) 0 [] := .inr ⟨_, rfl, (accV_new w7.drew 3 1).block (g8.block w7.heap.size (by rw [hwe]; omega) (by simp; omega))⟩; have q9 : Ints l0 hh0 w8 none n c hd := (((show Ints l0 hh0 w7.drew _ n c hd from HQ.out.2.2).keep (w' := (w7.alloc (.cells #[] 3)).drew) (by rw [hwe, HWD.out]; omega) (fun b _ _ hb => Below.heap_alloc w7 _ _ hb))).grown g8 (fun k e => by cases e; have := HQ.out.1; omega); have eX : ∃ l hh, w.heap.size + 1 < l ∧ (hh ≤ g ∨ g < l) ∧ hh ≤ w7.heap.size ∧ Ints l hh w8 none n c hd := ⟨l0, hh0, HQ.out.1, HQ.out.2.1.1, HQ.out.2.1.2, q9⟩; have eL : w7.heap.size < w8.heap.size := (by omega); have eR := ints_row (q9.take hjn))
        | fail)
      all_goals
        try clear dD dR dF dX
        try clear eD eR eF eX
        clear HF FD FE SA SE sa se s8 s10 hd5 hg5 hgr5 ho5 hk5 f10 r8 g8
        replace HF := HG
        clear HG
        generalize hds : hd.take j = hdj at *
        generalize (w10.setCell ⟨g, 2, none⟩ (.slice A5 j c5)) = wq at *
        go_upto_region 11 with (fail)
        have FD := Lib.hid HF.out.drew
        have SA := Lib.hid FD.out.cells
        have HNG : Hid (g ≠ w.heap.size) := by show _ ≠ _; omega
        go_region_held3 (fun w' => w'.cell? ⟨g, 0, none⟩ = some (.int .i64 f) ∧ w'.cell? ⟨g, 1, none⟩ = some (.int .i64 el) ∧ w'.cell? ⟨g, 2, none⟩ = some (.slice A5 j c5) ∧ w'.cell? ⟨g, 3, none⟩ = some (.int .i64 tag))
          (first | with_reducible exact SA.out | with_reducible exact s8 | with_reducible exact ⟨(far03 HNG.out _ _ _ _).trans s8.1, (far03 HNG.out _ _ _ _).trans s8.2.1, (far03 HNG.out _ _ _ _).trans s8.2.2.1, (far03 HNG.out _ _ _ _).trans s8.2.2.2⟩ | (trace_state; fail))
          (first
          | (go_at_call 71; refine (l91ListAt _ _ 4 4 _ rfl FD.out.rd (by omega) (by omega)).mono ?_; rintro e w8 ⟨A8, c8, ls, rfl, hl8, hb8, ho8, r8, g8⟩; have f8 := FD.out.step g8 r8; have s8 := f8.cells; obtain ⟨y0, y1, y2, y3, yf⟩ := four_cells f8.1)
          | fail)
        all_goals
          have hsd : wq.drew.heap.size = wq.heap.size := rfl
          have hlw := FD.out.2.2.2.2.1.size
          have hgl := (Array.getElem?_eq_some_iff.1 FD.out.2.1).1
          have HP := Lib.hid (fill_fin f8 ho8 (by omega) (by omega) (.int .i64 f) (.int .i64 el) (.slice A5 j c5) (.int .i64 tag))
          clear s8 f8 ho8 r8 g8 hb8 SA FD HF
          go_wp2
          refine bodyPost_ret (v := .tuple #[.agg #[.int .i64 f, .int .i64 el, .slice A5 j c5, .int .i64 tag], .slice A8 ls.length c8]) ?_ rfl ?_
          · rw [results_cell_tmp rfl]
            go_simp
          · exact HP.out
    | some ad =>
      have sa := SA.out
      have se := SE.out
      go_upto_region 8 with (fail)
      go_region_law (first
        | (refine step_appD elInt _ _ _ _ _ (by with_reducible exact eD) _ _ _ _ _ _ (by with_reducible exact eR) (ints_one_cell _) (by omega) (.tmp 38) (.tmp 47) rfl rfl (by go_simp) (by go_simp) ?_; intro g5 v5 w10 hd5 hg5 hgr5; rw [List.nil_append, Nat.zero_add] at hd5; obtain ⟨A5, c5, b5, rfl, ho5, hk5⟩ := dest_ints hd5; have f10 := eF.stepO hgr5 (by have := HGL.out; omega) eL eX; have s10 := f10.cells.2.2.1; have zz := four_cells f10.2.1; obtain ⟨y0, y1, y2, y3, yf⟩ := zz; have HG : Hid (FRel _ g w (w10.setCell ⟨g, 2, none⟩ (.slice A5 j c5)) f el tag A5 j c5 (hd.take j)) := f10.set2 (by omega) ho5 (fun hj => by have := dest_at hd5 hk5 hg5 hj; have := HGL.out; omega))
        | (refine step_appD elInt _ _ _ _ _ (by with_reducible exact dD) _ _ _ _ _ _ (by with_reducible exact dR) (ints_one_cell _) (by omega) (.tmp 38) (.tmp 47) rfl rfl (by go_simp) (by go_simp) ?_; intro g5 v5 w10 hd5 hg5 hgr5; rw [List.nil_append, Nat.zero_add] at hd5; obtain ⟨A5, c5, b5, rfl, ho5, hk5⟩ := dest_ints hd5; have f10 := dF.stepO hgr5 (by have := HGL.out; omega) dL dX; have s10 := f10.cells.2.2.1; have zz := four_cells f10.2.1; obtain ⟨y0, y1, y2, y3, yf⟩ := zz; have HG : Hid (FRel _ g w (w10.setCell ⟨g, 2, none⟩ (.slice A5 j c5)) f el tag A5 j c5 (hd.take j)) := f10.set2 (by omega) ho5 (fun hj => by have := dest_at hd5 hk5 hg5 hj; have := HGL.out; omega))
        | (go_simp; go_at_call 52; refine (pick _ _ _ _ (by with_reducible exact FD.out.rd) (by omega) (by omega) (by omega)).mono ?_; rintro e w8 ⟨j0, rfl, hj0, hj1, r8, g8, z8⟩; obtain ⟨j, rfl⟩ := Int.eq_ofNat_of_zero_le hj0; have hjn : j ≤ n := (by omega); have hjc : (j : Int) ≤ (c : Int) := (by omega); have hwd := HWD.out; have hgs := g8.size; have f8 := FD.out.step g8 r8; have s8 := f8.cells.2.2.1; have dF := f8.alloc (.cells #[] 3); have s9 := dF.cells.2.2.1; have dD : Dest 3 1 (some w8.heap.size) (w8.alloc (.cells #[] 3)) (.slice (some ⟨w8.heap.size, 0, none⟩) 0 0) 0 [] := .inr ⟨_, rfl, accV_new w8 _ _⟩; have q9 : Ints l0 hh0 (w8.alloc (.cells #[] 3)) (some ad) n c hd := ((show Ints l0 hh0 w7.drew _ n c hd from HQ.out.2.2).grown g8 (fun k e => by cases e; have := HQ.out.1; omega)).keep (by simp) (fun b _ _ hb => Below.heap_alloc _ _ _ (by omega)); have dX : ∃ l hh, w.heap.size + 1 < l ∧ (hh ≤ g ∨ g < l) ∧ hh ≤ w8.heap.size ∧ Ints l hh (w8.alloc (.cells #[] 3)) (some ad) n c hd := ⟨l0, hh0, HQ.out.1, HQ.out.2.1.1, (by have := HQ.out.2.1.2; omega), q9⟩; have dL : w8.heap.size < (w8.alloc (.cells #[] 3)).heap.size := (by simp); have dR := ints_row (q9.take hjn))
        | (go_simp; go_at_call 52; refine (pick _ _ _ _ (by with_reducible exact FE.out.rd) (by omega) (by omega) (by omega)).mono ?_; rintro e w8 ⟨j0, rfl, hj0, hj1, r8, g8, z8⟩; obtain ⟨j, rfl⟩ := Int.eq_ofNat_of_zero_le hj0; have hjn : j ≤ n := (by omega); have hjc : (j : Int) ≤ (c : Int) := (by omega); have hwe := HWE.out; have hgs := g8.size; have eF := FE.out.step g8 r8; have s8 := eF.cells.2.2.1; have eD : Dest 3 1 (some w7.heap.size) w8 (.slice (some ⟨w7.heap.size, 0, none⟩) 0 0) 0 [] := .inr ⟨_, rfl, (accV_new w7.drew 3 1).block (g8.block w7.heap.size (by rw [hwe]; omega) (by simp; omega))⟩; have q9 : Ints l0 hh0 w8 (some ad) n c hd := (((show Ints l0 hh0 w7.drew _ n c hd from HQ.out.2.2).keep (w' := (w7.alloc (.cells #[] 3)).drew) (by rw [hwe, HWD.out]; omega) (fun b _ _ hb => Below.heap_alloc w7 _ _ hb))).grown g8 (fun k e => by cases e; have := HQ.out.1; omega); have eX : ∃ l hh, w.heap.size + 1 < l ∧ (hh ≤ g ∨ g < l) ∧ hh ≤ w7.heap.size ∧ Ints l hh w8 (some ad) n c hd := ⟨l0, hh0, HQ.out.1, HQ.out.2.1.1, HQ.out.2.1.2, q9⟩; have eL : w7.heap.size < w8.heap.size := (by omega); have eR := ints_row (q9.take hjn))
        | fail)
      all_goals
        try clear dD dR dF dX
        try clear eD eR eF eX
        clear HF FD FE SA SE sa se s8 s10 hd5 hg5 hgr5 ho5 hk5 f10 r8 g8
        replace HF := HG
        clear HG
        generalize hds : hd.take j = hdj at *
        generalize (w10.setCell ⟨g, 2, none⟩ (.slice A5 j c5)) = wq at *
        go_upto_region 11 with (fail)
        have FD := Lib.hid HF.out.drew
        have SA := Lib.hid FD.out.cells
        have HNG : Hid (g ≠ w.heap.size) := by show _ ≠ _; omega
        go_region_held3 (fun w' => w'.cell? ⟨g, 0, none⟩ = some (.int .i64 f) ∧ w'.cell? ⟨g, 1, none⟩ = some (.int .i64 el) ∧ w'.cell? ⟨g, 2, none⟩ = some (.slice A5 j c5) ∧ w'.cell? ⟨g, 3, none⟩ = some (.int .i64 tag))
          (first | with_reducible exact SA.out | with_reducible exact s8 | with_reducible exact ⟨(far03 HNG.out _ _ _ _).trans s8.1, (far03 HNG.out _ _ _ _).trans s8.2.1, (far03 HNG.out _ _ _ _).trans s8.2.2.1, (far03 HNG.out _ _ _ _).trans s8.2.2.2⟩ | (trace_state; fail))
          (first
          | (go_at_call 71; refine (l91ListAt _ _ 4 4 _ rfl FD.out.rd (by omega) (by omega)).mono ?_; rintro e w8 ⟨A8, c8, ls, rfl, hl8, hb8, ho8, r8, g8⟩; have f8 := FD.out.step g8 r8; have s8 := f8.cells; obtain ⟨y0, y1, y2, y3, yf⟩ := four_cells f8.1)
          | fail)
        all_goals
          have hsd : wq.drew.heap.size = wq.heap.size := rfl
          have hlw := FD.out.2.2.2.2.1.size
          have hgl := (Array.getElem?_eq_some_iff.1 FD.out.2.1).1
          have HP := Lib.hid (fill_fin f8 ho8 (by omega) (by omega) (.int .i64 f) (.int .i64 el) (.slice A5 j c5) (.int .i64 tag))
          clear s8 f8 ho8 r8 g8 hb8 SA FD HF
          go_wp2
          refine bodyPost_ret (v := .tuple #[.agg #[.int .i64 f, .int .i64 el, .slice A5 j c5, .int .i64 tag], .slice A8 ls.length c8]) ?_ rfl ?_
          · rw [results_cell_tmp rfl]
            go_simp
          · exact HP.out
  have e1 : (s == 1) = false := by simpa using h1
  by_cases h2 : s = 2
  · subst h2
    go_wp2_with fail
    ((with_reducible refine (l91Is _ _ _ HF.out.rd (by omega)).mono ?_); rintro e w8 ⟨y, rfl, hy0, hy1, r8, g8⟩)
    have H8 := HF.out.step g8 r8
    obtain ⟨k0, k1, k2, k3, kf⟩ := four_cells H8.2.1
    replace HF := Lib.hid (H8.set1 y)
    clear r8 g8 H8
    go_upto_region 11 with (fail)
    clear k0 k1 k2 k3 kf
    generalize w8.setCell ⟨g, 1, none⟩ (.int .i64 y) = wq at *
    go_upto_region 11 with (fail)
    have FD := Lib.hid HF.out.drew
    have SA := Lib.hid FD.out.cells
    have HNG : Hid (g ≠ w.heap.size) := by show _ ≠ _; omega
    go_region_held3 (fun w' => w'.cell? ⟨g, 0, none⟩ = some (.int .i64 f) ∧ w'.cell? ⟨g, 1, none⟩ = some (.int .i64 y) ∧ w'.cell? ⟨g, 2, none⟩ = some (.slice A n c) ∧ w'.cell? ⟨g, 3, none⟩ = some (.int .i64 tag))
      (first | with_reducible exact SA.out | with_reducible exact s8 | with_reducible exact ⟨(far03 HNG.out _ _ _ _).trans s8.1, (far03 HNG.out _ _ _ _).trans s8.2.1, (far03 HNG.out _ _ _ _).trans s8.2.2.1, (far03 HNG.out _ _ _ _).trans s8.2.2.2⟩ | (trace_state; fail))
      (first
      | (go_at_call 71; refine (l91ListAt _ _ 4 4 _ rfl FD.out.rd (by omega) (by omega)).mono ?_; rintro e w8 ⟨A8, c8, ls, rfl, hl8, hb8, ho8, r8, g8⟩; have f8 := FD.out.step g8 r8; have s8 := f8.cells; obtain ⟨y0, y1, y2, y3, yf⟩ := four_cells f8.1)
      | fail)
    all_goals
      have hsd : wq.drew.heap.size = wq.heap.size := rfl
      have hlw := FD.out.2.2.2.2.1.size
      have hgl := (Array.getElem?_eq_some_iff.1 FD.out.2.1).1
      have HP := Lib.hid (fill_fin f8 ho8 (by omega) (by omega) (.int .i64 f) (.int .i64 y) (.slice A n c) (.int .i64 tag))
      clear s8 f8 ho8 r8 g8 hb8 SA FD HF
      go_wp2
      refine bodyPost_ret (v := .tuple #[.agg #[.int .i64 f, .int .i64 y, .slice A n c, .int .i64 tag], .slice A8 ls.length c8]) ?_ rfl ?_
      · rw [results_cell_tmp rfl]
        go_simp
      · exact HP.out
  have e2 : (s == 2) = false := by simpa using h2
  clear h0 h1 h2
  go_upto_region 11 with (fail)
  have FD := Lib.hid HF.out.drew
  have SA := Lib.hid FD.out.cells
  have HNG : Hid (g ≠ w.heap.size) := by show _ ≠ _; omega
  go_region_held3 (fun w' => w'.cell? ⟨g, 0, none⟩ = some (.int .i64 f) ∧ w'.cell? ⟨g, 1, none⟩ = some (.int .i64 el) ∧ w'.cell? ⟨g, 2, none⟩ = some (.slice A n c) ∧ w'.cell? ⟨g, 3, none⟩ = some (.int .i64 tag))
    (first | with_reducible exact SA.out | with_reducible exact s8 | with_reducible exact ⟨(far03 HNG.out _ _ _ _).trans s8.1, (far03 HNG.out _ _ _ _).trans s8.2.1, (far03 HNG.out _ _ _ _).trans s8.2.2.1, (far03 HNG.out _ _ _ _).trans s8.2.2.2⟩ | (trace_state; fail))
    (first
    | (go_at_call 71; refine (l91ListAt _ _ 4 4 _ rfl FD.out.rd (by omega) (by omega)).mono ?_; rintro e w8 ⟨A8, c8, ls, rfl, hl8, hb8, ho8, r8, g8⟩; have f8 := FD.out.step g8 r8; have s8 := f8.cells; obtain ⟨y0, y1, y2, y3, yf⟩ := four_cells f8.1)
    | fail)
  all_goals
    have hsd : w7.drew.heap.size = w7.heap.size := rfl
    have hlw := FD.out.2.2.2.2.1.size
    have hgl := (Array.getElem?_eq_some_iff.1 FD.out.2.1).1
    have HP := Lib.hid (fill_fin f8 ho8 (by omega) (by omega) (.int .i64 f) (.int .i64 el) (.slice A n c) (.int .i64 tag))
    clear s8 f8 ho8 r8 g8 hb8 SA FD HF
    go_wp2
    refine bodyPost_ret (v := .tuple #[.agg #[.int .i64 f, .int .i64 el, .slice A n c, .int .i64 tag], .slice A8 ls.length c8]) ?_ rfl ?_
    · rw [results_cell_tmp rfl]
      go_simp
    · exact HP.out

end Rd
end Go.Proofs.Ytljfhddgifacnaa
