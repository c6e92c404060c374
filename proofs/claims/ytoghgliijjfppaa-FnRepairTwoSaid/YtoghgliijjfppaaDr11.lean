/-
  Draws of chapter 23: a long letter, pieces.
-/
import Derived.Test.YtoghgliijjfppaaRda
import Derived.Test.YtoghgliijjfppaaSp11c
import Derived.Test.YtoghgliijjfppaaSp11d
import Derived.Deep.RegionLaw
import Derived.Deep.Cut
namespace Go.Proofs.Ytoghgliijjfppaa
open Go.RowKit
namespace Rd
open Il Sl Fo Cm Cs Gm Pc
open Sp11 (NewG)

/-- Pieces are drawn. -/
def PcPost (rb N : Nat) (w : World) (e : Ending) (w' : World) : Prop :=
  ∃ A n c ps, e = .returned (.slice A n c) ∧ n ≤ 6 ∧ Sts w.heap.size w'.heap.size w' A n c ps ∧ Reader w' rb N ∧ w.grownBy w' (some rb)
/-- Pieces while they are spoilt. -/
def PcR (rb N : Nat) (w wr : World) (A : Option Addr) (n c : Nat) (ps : List (List Int)) : Prop :=
  Reader wr rb N ∧ w.grownBy wr (some rb) ∧ ∃ G, StsO wr A n c ps G ∧ Within w.heap.size wr.heap.size G
theorem PcR.drew {rb N : Nat} {w wr : World} {A : Option Addr} {n c : Nat} {ps : List (List Int)} (h : PcR rb N w wr A n c ps) : PcR rb N w wr.drew A n c ps := by
  obtain ⟨h1, h2, G, h3, h4⟩ := h
  exact ⟨h1, ⟨h2.os, h2.tape, h2.output, h2.size, h2.block⟩, G, h3.drewN 1, h4⟩
theorem PcR.grown {rb N N' : Nat} {w wr w' : World} {A : Option Addr} {n c : Nat} {ps : List (List Int)} (h : PcR rb N w wr A n c ps) (hg : wr.grownBy w' (some rb)) (hr : Reader w' rb N') (hlt : rb < w.heap.size) : PcR rb N' w w' A n c ps := by
  obtain ⟨_, h2, G, h3, h4⟩ := h
  exact ⟨hr, grown_trans h2 hg, G, h3.keep hg.size fun f hf x hx => hg.block x (h3.lt_ f hf x hx).2 (by have := h4 f hf x hx; simp; omega), h4.mono (Nat.le_refl _) hg.size⟩
theorem PcR.done {rb N : Nat} {w wr : World} {A : Option Addr} {n c : Nat} {ps : List (List Int)} (h : PcR rb N w wr A n c ps) (hn : n ≤ 6) : PcPost rb N w (.returned (.slice A n c)) wr := by
  obtain ⟨h1, h2, G, h3, h4⟩ := h
  exact ⟨A, n, c, ps, rfl, hn, h3.sts h4, h1, h2⟩
/-- The pieces of a cut. -/
theorem pcR_of {rb N : Nat} {w w1 w2 : World} {v : Value} {ss : List Sk} {ps : List (List Int)} (hr : Reader w1 rb N) (hg : w.grownBy w1 (some rb)) (hlt : rb < w.heap.size) (hk : GatK w1.heap.size w2.heap.size w2 v ss) (hs : ss.map (·.xs) = ps) (hb : Below w1.heap.size w1 w2) : ∃ A c, v = .slice A ps.length c ∧ PcR rb N w w2 A ps.length c ps := by
  obtain ⟨A, c, G, rfl, ho, hw⟩ := hk.own
  have hl : ss.length = ps.length := by rw [← hs, List.length_map]
  rw [hs, hl] at ho
  rw [hl]
  have hg1 := hg.size
  exact ⟨A, c, rfl, hr.below hb (by omega), ⟨hb.os.trans hg.os, hb.tape.trans hg.tape, hb.output.trans hg.output, by have := hb.size; omega, fun i hi hne => (hb.block i (by omega)).trans (hg.block i hi hne)⟩, G, ho, hw.mono hg1 (Nat.le_refl _)⟩
/-- One number of one piece is stored. -/
theorem PcR.poke {rb N : Nat} {w wr : World} {A : Option Addr} {n c k i : Nat} {ps : List (List Int)} (h : PcR rb N w wr A n c ps) (hlt : rb < w.heap.size) (hk : k < n) (hi : i < (slAt ps k).length) :
    ∃ b off b2 off2 e, A = some ⟨b, off, none⟩ ∧ b < wr.heap.size ∧ w.heap.size ≤ b ∧ wr.cell? ⟨b, off + k, none⟩ = some (.slice (some ⟨b2, off2, none⟩) (slAt ps k).length e) ∧ (∃ y, wr.cell? ⟨b2, off2 + i, none⟩ = some (.int .i64 y)) ∧ wr.frozen? ⟨b2, off2 + i, none⟩ = false ∧
      ∀ x, PcR rb N w (wr.setCell ⟨b2, off2 + i, none⟩ (.int .i64 x)) A n c (ps.set k ((slAt ps k).set i x)) := by
  obtain ⟨h1, h2, G, h3, h4⟩ := h
  obtain ⟨b, off, B, e, l, u, rfl, hc, ho, hm⟩ := h3.mark hk
  obtain ⟨b1, off1, H1, e1, q0, q1, q2, q3, _⟩ := (h3.sts h4).at_ hk
  simp only [Option.some.injEq, Addr.mk.injEq, and_true] at q0
  obtain ⟨rfl, rfl⟩ := q0
  obtain ⟨b2, off2, rfl, r1, r2, r3, r4⟩ := ho.1.2.2.2 (by omega)
  refine ⟨b, off, b2, off2, e, rfl, q3, q1, hc, ⟨_, r4 i hi⟩, ho.2 _ _ (by omega) rfl i hi, fun x => ?_⟩
  have hk2 : Kept l u wr (wr.setCell ⟨b2, off2 + i, none⟩ (.int .i64 x)) := (Kept.refl l u wr).set r1 r2 _
  obtain ⟨s1, s2⟩ := hm _ _ (by rw [List.length_set]) (ho.set_ hi x) hk2
  have hsz : (wr.setCell ⟨b2, off2 + i, none⟩ (.int .i64 x)).heap.size = wr.heap.size := by simp [World.setCell]
  have hfar : ∀ y, y < w.heap.size → (wr.setCell ⟨b2, off2 + i, none⟩ (.int .i64 x)).heap[y]? = wr.heap[y]? := fun y hy => s2.block y (by have := h2.size; omega) fun f hf hx => by have := h4 f hf y hx; omega
  exact ⟨h1.keep fun y hy => hfar y (by omega), ⟨h2.os, h2.tape, h2.output, by rw [hsz]; exact h2.size, fun y hy hne => (hfar y hy).trans (h2.block y hy hne)⟩, G, s1, by rw [hsz]; exact h4⟩
theorem PcR.mono {rb N N' : Nat} {w wr : World} {A : Option Addr} {n c : Nat} {ps : List (List Int)} (h : PcR rb N w wr A n c ps) (hN : N ≤ N') : PcR rb N' w wr A n c ps := ⟨h.1.mono hN, h.2⟩
theorem PcR.sts {rb N : Nat} {w wr : World} {A : Option Addr} {n c : Nat} {ps : List (List Int)} (h : PcR rb N w wr A n c ps) : Sts w.heap.size wr.heap.size wr A n c ps := by
  obtain ⟨_, _, G, h3, h4⟩ := h
  exact h3.sts h4
/-- One piece is taken away. -/
theorem PcR.lose {rb N : Nat} {w wr : World} {A : Option Addr} {n c k : Nat} {ps : List (List Int)} (h : PcR rb N w wr A n c ps) (hlt : rb < w.heap.size) (hk : k < n) :
    ∃ b off H e, A = some ⟨b, off, none⟩ ∧ (wr.alloc (.cells #[] 3)).cell? ⟨b, off + k, none⟩ = some (.slice H (slAt ps k).length e) ∧ (wr.alloc (.cells #[] 3)).frozen? ⟨b, off + k, none⟩ = false ∧
      PcR rb N w ((wr.alloc (.cells #[] 3)).setCell ⟨b, off + k, none⟩ (.slice (some ⟨wr.heap.size, 0, none⟩) 0 0)) A n c (ps.set k []) := by
  obtain ⟨h1, h2, G, h3, h4⟩ := h
  obtain ⟨b, off, H, e, rfl, hbz, ⟨f, hf, hbf⟩, hc, hfz, hset⟩ := Ck.setN h3 hk
  have hbw := h4 f hf b hbf
  have hal : Below wr.heap.size wr (wr.alloc (.cells #[] 3)) := (Below.refl _ _).alloc (Nat.le_refl _) _
  have hsz : ((wr.alloc (.cells #[] 3)).setCell ⟨b, off + k, none⟩ (.slice (some ⟨wr.heap.size, 0, none⟩) 0 0)).heap.size = (wr.alloc (.cells #[] 3)).heap.size := by simp [World.setCell]
  have hs2 := hal.size
  obtain ⟨G', hG, hG2⟩ := hset (wr.alloc (.cells #[] 3)) ⟨[], some ⟨wr.heap.size, 0, none⟩, 0, 0⟩ hs2 (fun f hf y hy => hal.block y (h3.lt_ f hf y hy).2) (Own.nil_ (Nat.zero_le _)) (fun y hy => by simp [fpk, fp] at hy)
  have hfar : ∀ y, y < w.heap.size → ((wr.alloc (.cells #[] 3)).setCell ⟨b, off + k, none⟩ (.slice (some ⟨wr.heap.size, 0, none⟩) 0 0)).heap[y]? = wr.heap[y]? := fun y hy => (Below.heap_setCell _ _ _ _ (show y ≠ b by omega)).trans (hal.block y (by have := h2.size; omega))
  have hblk := hal.block b hbz
  refine ⟨b, off, H, e, rfl, (World.cell?_of_block (a := ⟨b, off + k, none⟩) hblk).trans hc, (World.frozen?_of_block (a := ⟨b, off + k, none⟩) hblk).trans hfz, h1.keep fun y hy => hfar y (by omega), ⟨h2.os, h2.tape, h2.output, by rw [hsz]; have := h2.size; omega, fun y hy hne => (hfar y hy).trans (h2.block y hy hne)⟩, G', hG, fun f hf y hy => ?_⟩
  rcases hG2 f hf y hy with ⟨g, hg, hy2⟩ | hy2
  · have := h4 g hg y hy2; omega
  · simp [fpk, fp] at hy2
theorem PcR.rd {rb N : Nat} {w wr : World} {A : Option Addr} {n c : Nat} {ps : List (List Int)} (h : PcR rb N w wr A n c ps) : Reader wr rb N := h.1
theorem PcR.poke3 {rb N : Nat} {w wr : World} {A : Option Addr} {n c k : Nat} {ps : List (List Int)} (h : PcR rb N w wr A n c ps) (hlt : rb < w.heap.size) (hk : k < n) (h3 : (slAt ps k).length = 3) :
    ∃ b off b2 off2 e, A = some ⟨b, off, none⟩ ∧ ∀ w' N', wr.grownBy w' (some rb) → Reader w' rb N' → w'.cell? ⟨b, off + k, none⟩ = some (.slice (some ⟨b2, off2, none⟩) 3 e) ∧
      ∀ i, i < 3 → (∃ y, w'.cell? ⟨b2, off2 + i, none⟩ = some (.int .i64 y)) ∧ w'.frozen? ⟨b2, off2 + i, none⟩ = false ∧ ∀ x, PcR rb N' w (w'.setCell ⟨b2, off2 + i, none⟩ (.int .i64 x)) A n c (ps.set k ((slAt ps k).set i x)) := by
  obtain ⟨b, off, b2, off2, e, rfl, hbz, hbw, hc, _, _, _⟩ := h.poke hlt hk (i := 0) (by omega)
  rw [h3] at hc
  refine ⟨b, off, b2, off2, e, rfl, fun w' N' hg hr => ?_⟩
  have hc2 : w'.cell? ⟨b, off + k, none⟩ = some (.slice (some ⟨b2, off2, none⟩) 3 e) := (World.cell?_of_block (a := ⟨b, off + k, none⟩) (hg.block b hbz (by simp; omega))).trans hc
  refine ⟨hc2, fun i hi => ?_⟩
  obtain ⟨b', off', b2', off2', e', ea, _, _, hc', hy, hf, hs⟩ := (h.grown hg hr hlt).poke hlt hk (i := i) (by omega)
  simp only [Option.some.injEq, Addr.mk.injEq, and_true] at ea
  obtain ⟨rfl, rfl⟩ := ea
  rw [hc2] at hc'
  simp only [Option.some.injEq, Value.slice.injEq, Addr.mk.injEq, and_true] at hc'
  obtain ⟨⟨rfl, rfl⟩, _, _⟩ := hc'
  exact ⟨hy, hf, hs⟩
/-- A long letter is drawn. -/
def LongP (w : World) (e : Ending) (w' : World) : Prop :=
  ∃ A c xs, e = .returned (.slice A xs.length c) ∧ xs.length ≤ 16 ∧ Il.Own w.heap.size w'.heap.size w' A xs.length c xs ∧ Below w.heap.size w w'
theorem DrawPiecesCut (A : Option Addr) (n c : Nat) (w : World) (h : CodeIs w A n c) : Calls Try.prog 11 #[.slice A n c] w (LongP w) := by
  go_enter Try.func11, Try.ntmps11
  go_wp2_with fail
  ((with_reducible refine (l6Open A n c w h).mono ?_); rintro e w1 ⟨rfl, hr1, hb1, hs1⟩)
  have HB1 := Lib.hid hb1
  have HR1 := Lib.hid hr1
  clear hb1 hr1
  go_wp2_with fail
  ((with_reducible refine (l91ListAt _ 0 14 14 _ rfl HR1.out (by omega) (by omega)).mono ?_); rintro e w2 ⟨A2, c2, xs, rfl, hl2, _, ho2, hr2, hg2⟩)
  have HP : Hid (LongP w (.returned (.slice A2 xs.length c2)) w2) := by
    have hs := HB1.out.size
    refine ⟨A2, c2, xs, rfl, by omega, ho2.mono hs (Nat.le_refl _), HB1.out.grown hg2 hs fun k e => ?_⟩
    cases e
    exact Nat.le_refl _
  clear ho2 hr2 hg2
  go_wp2
  go_ret
  exact HP.out


/-- Pieces are drawn from a code. -/
def PiecesP (w : World) (e : Ending) (w' : World) : Prop :=
  ∃ A n c ps, e = .returned (.slice A n c) ∧ n ≤ 6 ∧ Sts w.heap.size w'.heap.size w' A n c ps ∧ Below w.heap.size w w'

end Rd
end Go.Proofs.Ytoghgliijjfppaa
