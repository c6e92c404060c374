/-
  Draws of chapter 13: a cache.
-/
import Derived.Test.YtmmnpmfkpieoiaaRda
import Derived.Test.YtmmnpmfkpieoiaaSp8f
import Derived.Test.YtmmnpmfkpieoiaaSp8c
import Derived.Deep.RegionLaw
import Derived.Deep.Cut
namespace Go.Proofs.Ytmmnpmfkpieoiaa
open Go.RowKit
namespace Rd
open Il Sl Fo Cm Cs Sg Gm

def maxI (u v : Int) : Int := if v > u then v else u
theorem step_max {o : Oper} {a : Act} {w : World} {Q : Exit → Act → World → Prop} {K : Act → World → Prop} {ops : Array Oper} {E : Prop} (x y : Operand) (u v : Int)
    (hgd : o.guard = none) (ho : o.op = .call { callee := .builtin .max, args := #[x, y], argTypes := #[3, 3] }) (hx : a.eval x = .int .i64 u) (hy : a.eval y = .int .i64 v)
    (h : K (a.put o.dst (.int .i64 (maxI u v))) w) : if Region.wanted o (yielded ops a.tmps) = true then Oper.wp Try.prog o a w K Q else E := by
  have hw : Region.wanted o (yielded ops a.tmps) = true := by simp [Region.wanted, hgd]
  rw [if_pos hw]
  unfold Oper.wp execOp
  simp only [ho, resolve, invoke, builtin, Sem.run_bind, Sem.run_pure, Result.andThen_ok, List.map_toArray, List.map_cons, List.map_nil, hx, hy, run_max_int2]
  exact h

/-- A cache is drawn. -/
def CaPost (rb N : Nat) (w : World) (e : Ending) (w' : World) : Prop :=
  ∃ A k c, e = .returned (.agg #[.int .i64 (Ch.ep c), .slice A c.sl.length k]) ∧ (-1 ≤ c.ep ∧ c.ep ≤ 100) ∧ c.sl.length ≤ 3 ∧ (∀ x ∈ c.sl, x.length ≤ 9) ∧ Sts w.heap.size w'.heap.size w' A c.sl.length k c.sl ∧ Reader w' rb N ∧ w.grownBy w' (some rb)
/-- Between two rounds of l91Cache. -/
def DcRel (rb N bc : Nat) (w wr : World) (c : Ch) (A : Option Addr) (k : Nat) : Prop :=
  Blk wr w.heap.size #[.int .i64 0, .slice none 0 0] 26 ∧ Blk wr bc #[.int .i64 c.ep, .slice A 3 k] 26 ∧ w.heap.size < bc ∧ chOk c = true ∧ Reader wr rb N ∧ w.grownBy wr (some rb) ∧
    ∃ G, StsO wr A 3 k c.sl G ∧ Within (w.heap.size + 1) wr.heap.size G ∧ ∀ f ∈ G, bc ∉ f
theorem sts_grownG {w w' : World} {A : Option Addr} {n k r lo hi : Nat} {sl : List (List Int)} {G : List (List Nat)} (h : StsO w A n k sl G) (hw : Within lo hi G) (hg : w.grownBy w' (some r)) (hr : r < lo) : StsO w' A n k sl G :=
  h.keep hg.size fun f hf x hx => hg.block x (h.lt_ f hf x hx).2 (by have := hw f hf x hx; simp; omega)
theorem blk_grown {w w' : World} {b r : Nat} {cs : Array Value} {t : TypeId} (h : Blk w b cs t) (hg : w.grownBy w' (some r)) (hr : b ≠ r) : Blk w' b cs t := h.same (hg.block b h.lt (by simp; exact hr))
theorem DcRel.grown {rb N N' bc : Nat} {w wr w' : World} {c : Ch} {A : Option Addr} {k : Nat} (h : DcRel rb N bc w wr c A k) (hg : wr.grownBy w' (some rb)) (hr : Reader w' rb N') (hlt : rb < w.heap.size) : DcRel rb N' bc w w' c A k := by
  obtain ⟨h1, h2, h3, h4, _, h6, G, h7, h8, h9⟩ := h
  exact ⟨blk_grown h1 hg (by omega), blk_grown h2 hg (by omega), h3, h4, hr, grown_trans h6 hg, G, sts_grownG h7 h8 hg (by omega), h8.mono (Nat.le_refl _) hg.size, h9⟩
theorem DcRel.len {rb N bc : Nat} {w wr : World} {c : Ch} {A : Option Addr} {k : Nat} (h : DcRel rb N bc w wr c A k) : c.sl.length = 3 := (chOk_iff.1 h.2.2.2.1).2.2
theorem DcRel.rd {rb N bc : Nat} {w wr : World} {c : Ch} {A : Option Addr} {k : Nat} (h : DcRel rb N bc w wr c A k) : Reader wr rb N := h.2.2.2.2.1
theorem DcRel.sts {rb N bc : Nat} {w wr : World} {c : Ch} {A : Option Addr} {k : Nat} (h : DcRel rb N bc w wr c A k) : Sts (w.heap.size + 1) wr.heap.size wr A 3 k c.sl := by
  obtain ⟨_, _, _, _, _, _, G, h7, h8, _⟩ := h
  exact h7.sts h8
theorem DcRel.mono {rb N N' bc : Nat} {w wr : World} {c : Ch} {A : Option Addr} {k : Nat} (h : DcRel rb N bc w wr c A k) (hN : N ≤ N') : DcRel rb N' bc w wr c A k :=
  ⟨h.1, h.2.1, h.2.2.1, h.2.2.2.1, h.2.2.2.2.1.mono hN, h.2.2.2.2.2⟩
theorem DcRel.drew {rb N bc : Nat} {w wr : World} {c : Ch} {A : Option Addr} {k : Nat} (h : DcRel rb N bc w wr c A k) : DcRel rb N bc w wr.drew c A k := by
  obtain ⟨h1, h2, h3, h4, h5, h6, G, h7, h8, h9⟩ := h
  exact ⟨h1, h2, h3, h4, h5, ⟨h6.os, h6.tape, h6.output, h6.size, h6.block⟩, G, h7.drewN 1, h8, h9⟩
/-- Another cache is stored. -/
theorem DcRel.step {rb N bc : Nat} {w wr w' : World} {c c' : Ch} {A A' : Option Addr} {k k' : Nat} {G : List (List Nat)} (h : DcRel rb N bc w wr c A k) (hb : Below wr.heap.size wr w') (ho : StsO w' A' 3 k' c'.sl G) (hG : Within wr.heap.size w'.heap.size G) (hok : chOk c' = true) (hlt : rb < w.heap.size) :
    DcRel rb N bc w ((w'.setCell ⟨bc, 0, none⟩ (.int .i64 c'.ep)).setCell ⟨bc, 1, none⟩ (.slice A' 3 k')) c' A' k' := by
  obtain ⟨h1, h2, h3, _, h5, h6, _, _, _, _⟩ := h
  have hbc := h2.lt
  have hw := h6.size
  have hsz : ((w'.setCell ⟨bc, 0, none⟩ (.int .i64 c'.ep)).setCell ⟨bc, 1, none⟩ (.slice A' 3 k')).heap.size = w'.heap.size := by simp [World.setCell]
  have hoth : ∀ x, x ≠ bc → ((w'.setCell ⟨bc, 0, none⟩ (.int .i64 c'.ep)).setCell ⟨bc, 1, none⟩ (.slice A' 3 k')).heap[x]? = w'.heap[x]? := fun x hx => (Below.heap_setCell _ _ _ _ hx).trans (Below.heap_setCell _ _ _ _ hx)
  have hb2 := blk_set1 (v := .slice A' 3 k') (blk_set0 (v := .int .i64 c'.ep) (Blk.below h2 hb (Nat.le_refl _)))
  have hgr : w.grownBy ((w'.setCell ⟨bc, 0, none⟩ (.int .i64 c'.ep)).setCell ⟨bc, 1, none⟩ (.slice A' 3 k')) (some rb) :=
    ⟨hb.os.trans h6.os, hb.tape.trans h6.tape, hb.output.trans h6.output, by have := hb.size; omega, fun i hi hne => (hoth i (by omega)).trans ((hb.block i (by omega)).trans (h6.block i hi hne))⟩
  have hrd := h5.below hb (by have := h5.lt; omega)
  generalize (w'.setCell ⟨bc, 0, none⟩ (.int .i64 c'.ep)).setCell ⟨bc, 1, none⟩ (.slice A' 3 k') = w2 at *
  refine ⟨(Blk.below h1 hb (Nat.le_refl _)).same (hoth _ (by omega)), hb2, h3, hok, hrd.keep fun i hi => hoth i (by omega), hgr, G, ho.keep (by omega) fun f hf x hx => hoth x (by have := hG f hf x hx; omega), fun f hf x hx => by have := hG f hf x hx; omega, fun f hf hx => by have := hG f hf bc hx; omega⟩
theorem DcRel.put {rb N bc b off i : Nat} {w wr : World} {c : Ch} {k : Nat} (h : DcRel rb N bc w wr c (some ⟨b, off, none⟩) k) (hi : i < 3) :
    b ≠ bc ∧ w.heap.size < b ∧ b < wr.heap.size ∧ (∃ H e, wr.cell? ⟨b, off + i, none⟩ = some (.slice H (slAt c.sl i).length e)) ∧ wr.frozen? ⟨b, off + i, none⟩ = false ∧
      ∀ B d ys K, Il.Own K wr.heap.size wr B (List.length ys) d ys → b < K → w.heap.size + 1 ≤ K → Sts (w.heap.size + 1) (wr.setCell ⟨b, off + i, none⟩ (.slice B ys.length d)).heap.size (wr.setCell ⟨b, off + i, none⟩ (.slice B ys.length d)) (some ⟨b, off, none⟩) 3 k (c.sl.set i ys) := by
  obtain ⟨_, _, _, _, _, _, G, h7, h8, h9⟩ := h
  obtain ⟨_, _, _, _, e1, _, ⟨f, hf, hbf⟩, _, _, _⟩ := Sp8.StsO.setN h7 hi
  simp only [Option.some.injEq, Addr.mk.injEq, and_true] at e1
  obtain ⟨rfl, rfl⟩ := e1
  obtain ⟨b1, off1, H, e, e2, q1, q2, q3, q4, q5, q6⟩ := h7.store h8 hi
  simp only [Option.some.injEq, Addr.mk.injEq, and_true] at e2
  obtain ⟨rfl, rfl⟩ := e2
  have hsz : ∀ v, (wr.setCell ⟨b, off + i, none⟩ v).heap.size = wr.heap.size := fun v => by simp [World.setCell]
  refine ⟨fun e => h9 f hf (e ▸ hbf), by omega, q3, ⟨H, e, q4⟩, q5, fun B d ys K ho hK1 hK2 => ?_⟩
  rw [hsz]
  refine q6 B d ys (ho.ints.mono hK2 (Nat.le_refl _)) fun hn b' o' e => ?_
  obtain ⟨b2, o2, e2, r1, _⟩ := ho.1.2.2.2 hn
  rw [e2] at e
  simp only [Option.some.injEq, Addr.mk.injEq, and_true] at e
  omega
/-- The drawn cache, whichever way it was spoilt. -/
theorem ca_done {rb N : Nat} {w wF : World} {A : Option Addr} {k : Nat} {e' : Int} {n' : Nat} {sl' : List (List Int)} (hb : w.grownBy wF (some rb)) (hr : Reader wF rb N) (hs : Sts (w.heap.size + 1) wF.heap.size wF A n' k sl') (hn : sl'.length = n') (hn3 : n' ≤ 3) (he : -1 ≤ e' ∧ e' ≤ 100) (hl : ∀ x ∈ sl', x.length ≤ 9) (u0 u1 : Value) (hlt : rb < w.heap.size) :
    CaPost rb N w (.returned (.agg #[.int .i64 e', .slice A n' k])) ((wF.setCell ⟨w.heap.size, 0, none⟩ u0).setCell ⟨w.heap.size, 1, none⟩ u1) := by
  subst hn
  have hsz : ((wF.setCell ⟨w.heap.size, 0, none⟩ u0).setCell ⟨w.heap.size, 1, none⟩ u1).heap.size = wF.heap.size := by simp [World.setCell]
  have hoth : ∀ x, x ≠ w.heap.size → ((wF.setCell ⟨w.heap.size, 0, none⟩ u0).setCell ⟨w.heap.size, 1, none⟩ u1).heap[x]? = wF.heap[x]? := fun x hx => (Below.heap_setCell _ _ _ _ hx).trans (Below.heap_setCell _ _ _ _ hx)
  have hgr : w.grownBy ((wF.setCell ⟨w.heap.size, 0, none⟩ u0).setCell ⟨w.heap.size, 1, none⟩ u1) (some rb) := ⟨hb.os, hb.tape, hb.output, by rw [hsz]; exact hb.size, fun i hi hne => (hoth i (by omega)).trans (hb.block i hi hne)⟩
  generalize (wF.setCell ⟨w.heap.size, 0, none⟩ u0).setCell ⟨w.heap.size, 1, none⟩ u1 = w2 at *
  exact ⟨A, k, ⟨e', sl'⟩, rfl, he, hn3, hl, (hs.keep (Nat.le_of_eq hsz.symm) fun b h1 _ _ => hoth b (by omega)).mono (Nat.le_succ _) (Nat.le_of_eq hsz.symm), hr.keep fun i hi => hoth i (by omega), hgr⟩
theorem lit5 {w : World} {j : Nat} {x : Int} (hj : j < 5) (hx : 0 ≤ x ∧ x < 20) : ∃ y : Int, epOk y = true ∧ (w.alloc (.cells #[.int .i64 0, .int .i64 0, .int .i64 1, .int .i64 x, .int .i64 97] 3)).cell? ⟨w.heap.size, j, none⟩ = some (.int .i64 y) := by
  have hh : (w.alloc (.cells #[.int .i64 0, .int .i64 0, .int .i64 1, .int .i64 x, .int .i64 97] 3)).heap[w.heap.size]? = some (.cells #[.int .i64 0, .int .i64 0, .int .i64 1, .int .i64 x, .int .i64 97] 3 (0, 0)) := heap_alloc_new _ _
  have hq : epOk x = true := decide_eq_true ⟨hx.1, by omega⟩
  obtain rfl | rfl | rfl | rfl | rfl : j = 0 ∨ j = 1 ∨ j = 2 ∨ j = 3 ∨ j = 4 := by omega
  · exact ⟨0, rfl, by rw [cell_of_row _ _ _ _ _ _ hh]; rfl⟩
  · exact ⟨0, rfl, by rw [cell_of_row _ _ _ _ _ _ hh]; rfl⟩
  · exact ⟨1, rfl, by rw [cell_of_row _ _ _ _ _ _ hh]; rfl⟩
  · exact ⟨x, hq, by rw [cell_of_row _ _ _ _ _ _ hh]; rfl⟩
  · exact ⟨97, rfl, by rw [cell_of_row _ _ _ _ _ _ hh]; rfl⟩
theorem lit3 {w : World} {j : Nat} (hj : j < 3) : ∃ y : Int, (-1 ≤ y ∧ y ≤ 100) ∧ (w.alloc (.cells #[.int .i64 (-1), .int .i64 99, .int .i64 100] 3)).cell? ⟨w.heap.size, j, none⟩ = some (.int .i64 y) := by
  have hh : (w.alloc (.cells #[.int .i64 (-1), .int .i64 99, .int .i64 100] 3)).heap[w.heap.size]? = some (.cells #[.int .i64 (-1), .int .i64 99, .int .i64 100] 3 (0, 0)) := heap_alloc_new _ _
  obtain rfl | rfl | rfl : j = 0 ∨ j = 1 ∨ j = 2 := by omega
  · exact ⟨-1, by omega, by rw [cell_of_row _ _ _ _ _ _ hh]; rfl⟩
  · exact ⟨99, by omega, by rw [cell_of_row _ _ _ _ _ _ hh]; rfl⟩
  · exact ⟨100, by omega, by rw [cell_of_row _ _ _ _ _ _ hh]; rfl⟩
set_option maxRecDepth 20000 in
set_option maxHeartbeats 2000000 in
theorem l91Cache (rb N : Nat) (w : World) (hr : Reader w rb N) (hN : N ≤ 70000) :
    Calls Try.prog 49 #[.pointer (some ⟨rb, 0, none⟩)] w (CaPost rb (N + 120) w) := by
  have HR := Lib.hid (hr.alloc (.cells #[.int .i64 0, .slice none 0 0] 26))
  have hlt := hr.lt
  have K0 := Lib.hid (blk_new w #[.int .i64 0, .slice none 0 0] 26)
  have HG0 := Lib.hid (grown_alloc (World.grownBy.refl (row := some rb) w) (.cells #[.int .i64 0, .slice none 0 0] 26))
  clear hr
  go_enter Try.func49, Try.ntmps49
  go_wp2_with fail
  ((with_reducible refine (pick rb N 20 _ HR.out (by omega) (by omega) (by omega)).mono ?_); rintro e w1 ⟨v1, rfl, hv0, hv1, r1, g1, s1⟩)
  have HL1 : Hid (∀ j : Nat, j < 5 → ∃ y : Int, epOk y = true ∧ (w1.alloc (.cells #[.int .i64 0, .int .i64 0, .int .i64 1, .int .i64 v1, .int .i64 97] 3)).cell? ⟨w1.heap.size, j, none⟩ = some (.int .i64 y)) := fun j hj => lit5 hj ⟨hv0, hv1⟩
  have HR1 := Lib.hid (r1.alloc (.cells #[.int .i64 0, .int .i64 0, .int .i64 1, .int .i64 v1, .int .i64 97] 3))
  have HG1 := Lib.hid (grown_alloc (grown_trans HG0.out g1) (.cells #[.int .i64 0, .int .i64 0, .int .i64 1, .int .i64 v1, .int .i64 97] 3))
  have hw1 : w.heap.size < w1.heap.size := (Blk.lt (blk_grown K0.out g1 (by omega)))
  have hal : Below w1.heap.size w1 (w1.alloc (.cells #[.int .i64 0, .int .i64 0, .int .i64 1, .int .i64 v1, .int .i64 97] 3)) := (Below.refl _ _).alloc (Nat.le_refl _) _
  have K1 := Lib.hid (Blk.below (blk_grown K0.out g1 (by omega)) hal (Nat.le_refl _))
  clear r1 g1 s1 HR HG0 K0 hal
  go_wp2_with fail
  ((with_reducible refine (pick rb _ 5 _ HR1.out (by omega) (by omega) (by omega)).mono ?_); rintro e w2 ⟨v2, rfl, hu0, hu1, r2, g2, s2⟩)
  obtain ⟨j, rfl⟩ := Int.eq_ofNat_of_zero_le hu0
  have hj5 : j < 5 := by omega
  have hj5i : (j : Int) < 5 := by omega
  obtain ⟨y, hy, cy⟩ := HL1.out j hj5
  have cy2 := (World.cell?_of_block (a := ⟨w1.heap.size, j, none⟩) (g2.block w1.heap.size (by simp) (by simp; omega))).trans cy
  have HR2 := Lib.hid r2
  have HG2 := Lib.hid (grown_trans HG1.out g2)
  have K2 := Lib.hid (blk_grown K1.out g2 (by omega))
  have HY := Lib.hid hy
  clear r2 g2 s2 HL1 HR1 HG1 K1 cy
  go_wp2_with fail
  ((with_reducible refine (Sp8.CacheNew y _).mono ?_); rintro e w3 ⟨A3, k3, G3, rfl, ho3, hw3, hb3⟩)
  have hok0 : chOk (newF y) = true := newF_ok HY.out
  have hl0 : (newF y).sl.length = 3 := (chOk_iff.1 hok0).2.2
  rw [hl0] at ho3 ⊢
  generalize newF y = c0 at *
  have HD0 : Hid (DcRel rb (N + 2) w3.heap.size w (w3.alloc (.cells #[.int .i64 c0.ep, .slice A3 3 k3] 26)) c0 A3 k3) := by
    have hal : Below w3.heap.size w3 (w3.alloc (.cells #[.int .i64 c0.ep, .slice A3 3 k3] 26)) := (Below.refl _ _).alloc (Nat.le_refl _) _
    have k3' := Blk.below K2.out hb3 (Nat.le_refl _)
    have hs3 := hb3.size
    refine ⟨Blk.below k3' hal (Nat.le_refl _), blk_new _ _ _, k3'.lt, hok0, (HR2.out.below hb3 (by have := HG2.out.size; omega)).alloc _, grown_alloc (grown_trans HG2.out (grown_of_below hb3)) _, G3, ho3.below hal (Nat.le_refl _), fun f hf x hx => ?_, fun f hf hx => ?_⟩
    · have h1 := hw3 f hf x hx
      have h2 := K2.out.lt
      simp
      omega
    · have := hw3 f hf _ hx
      omega
  clear ho3 hw3 hb3 K2 HG2 HR2 cy2 hok0 hl0 HY
  go_upto_region 2 with (fail)
  generalize w3.alloc (.cells #[.int .i64 c0.ep, .slice A3 3 k3] 26) = w4 at *
  generalize w3.heap.size = bc at *
  go_wp2_with fail
  ((with_reducible refine (pick rb (N + 2) 20 _ HD0.out.rd (by omega) (by omega) (by omega)).mono ?_); rintro e w5 ⟨v5, rfl, hx0, hx1, r5, g5, s5⟩)
  have HD1 := Lib.hid (HD0.out.grown g5 r5 hlt)
  obtain ⟨m, rfl⟩ := Int.eq_ofNat_of_zero_le hx0
  have hm : m ≤ 19 := by omega
  clear r5 g5 s5 HD0 hx0 hx1
  go_wp2
  go_loopw [6] (fun i wr => ∃ (q : Nat) (c : Ch) (A : Option Addr) (k : Nat), q ≤ m ∧ i = .int .i64 (q : Nat) ∧ Hid (DcRel rb (N + 3 + 3 * q) bc w wr c A k)) (fun i _ => m - (intOf i).toNat)
  case atStart => exact ⟨0, c0, A3, k3, Nat.zero_le _, rfl, HD1.out⟩
  case round =>
    obtain ⟨q, c, A, k, hq, rfl, hT⟩ := hrel
    clear HD1
    by_cases hlq : q < m
    · have HT := Lib.hid hT.out
      clear hT
      go_wp2_with fail
      ((with_reducible refine (pick rb (N + 3 + 3 * q) 8 _ HT.out.rd (by omega) (by omega) (by omega)).mono ?_); rintro e w6 ⟨v6, rfl, hy0, hy1, r6, g6, s6⟩)
      have HD := Lib.hid (HT.out.grown g6 r6 hlt)
      have HL3 := Lib.hid HD.out.len
      have HST := Lib.hid HD.out.sts
      have hbcz := HD.out.2.1.lt
      have hbw := HD.out.2.2.1
      obtain ⟨z0, z1, zf⟩ := two_cells HD.out.2.1
      clear r6 g6 s6 HT
      by_cases hv : v6 = 0
      · subst hv
        go_wp2_with fail
        ((with_reducible refine (Sp8.CacheTurn c A 3 k _ _ _ HST.out).mono ?_); rintro e w7 ⟨A7, k7, G7, rfl, ho7, hw7, hb7⟩)
        have hok7 : chOk (turnF c) = true := turnF_ok HD.out.2.2.2.1
        have hl7 : (turnF c).sl.length = 3 := (chOk_iff.1 hok7).2.2
        rw [hl7] at ho7 ⊢
        generalize turnF c = c7 at *
        have HS := Lib.hid (DcRel.step HD.out hb7 ho7 hw7 hok7 hlt)
        obtain ⟨x0, x1, xf⟩ := two_cells (Blk.below HD.out.2.1 hb7 (Nat.le_refl _))
        clear ho7 hw7 hb7 hok7 hl7 z0 z1 zf
        go_wp2
        go_roundw
        case rel => exact ⟨q + 1, c7, A7, k7, by omega, by go_num, HS.out.mono (by omega)⟩
        case measure => simp [intOf]; omega
      · have hv' : (v6 == 0) = false := by simpa using hv
        have HRD : Hid (Reader w6.drew rb (N + 3 + 3 * q + 1)) := HD.out.rd
        have hep : 0 ≤ c.ep ∧ c.ep ≤ 99 := (chOk_iff.1 HD.out.2.2.2.1).2.1
        have hn1 : N + 3 + 3 * q + 1 ≤ 100000 := by omega
        have hn2 : N + 3 + 3 * q + 1 + 1 ≤ 100000 := by omega
        have HDD : Hid (DcRel rb (N + 3 + 3 * q + 1) bc w w6.drew c A k) := HD.out.drew
        obtain ⟨hep0, hep1⟩ := hep
        clear hv
        go_upto_region 8 with (fail)
        go_region_law (first
          | (go_simp; go_at_call 43; refine (pick rb (N + 3 + 3 * q + 1 + 1) 40 _ HD7.out.rd hn2 (by decide) (by decide)).mono ?_; rintro e w8 ⟨v8, rfl, hy80, hy81, r8, g8, s8⟩
             have HD8 := Lib.hid (HD7.out.grown g8 r8 hlt)
             have HST8 := Lib.hid HD8.out.sts
             have e8 : IntKind.i64.wrap (1 + v8) = 1 + v8 := IntWalk.i64_in _ (by omega)
             obtain ⟨z80, z81, z8f⟩ := two_cells HD8.out.2.1)
          | (go_simp; go_at_call 43; refine (pick rb (N + 3 + 3 * q + 1) 3 _ HRD.out hn1 (by decide) (by decide)).mono ?_; rintro e w7 ⟨v7, rfl, hy70, hy71, r7, g7, s7⟩
             have HD7 := Lib.hid (HDD.out.grown g7 r7 hlt)
             have e7 : IntKind.i64.wrap (c.ep - v7) = c.ep - v7 := IntWalk.i64_in _ (by omega)
             obtain ⟨z70, z71, z7f⟩ := two_cells HD7.out.2.1)
          | (refine step_max (.tmp 39) (.const (.int .i64 0)) (c.ep - v7) 0 rfl rfl (by go_simp) rfl ?_)
          | (go_simp; go_at_call 25; refine (Sp8.CacheAdd c (maxI (c.ep - v7) 0) (1 + v8) A 3 k _ _ _ HST8.out).mono ?_; rintro e w9 ⟨A9, k9, G9, rfl, ho9, hw9, hb9⟩
             have hok9 : chOk (addF c (maxI (c.ep - v7) 0) (1 + v8)) = true := addF_ok HD8.out.2.2.2.1 (inG_iff.2 (by omega)) _
             have hl9 : (addF c (maxI (c.ep - v7) 0) (1 + v8)).sl.length = 3 := (chOk_iff.1 hok9).2.2
             rw [hl9] at ho9 ⊢
             generalize addF c (maxI (c.ep - v7) 0) (1 + v8) = c9 at *
             have HS := Lib.hid (DcRel.step HD8.out hb9 ho9 hw9 hok9 hlt)
             obtain ⟨x0, x1, xf⟩ := two_cells (Blk.below HD8.out.2.1 hb9 (Nat.le_refl _)))
          | fail)
        all_goals
          clear ho9 hw9 hb9 hok9 hl9
          go_wp2
          go_roundw
          case rel => exact ⟨q + 1, c9, A9, k9, by omega, by go_num, HS.out.mono (by omega)⟩
          case measure => simp [intOf]; omega
    · obtain rfl : q = m := by omega
      have HT := Lib.hid hT.out
      clear hT hlq
      go_wp2_with fail
      ((with_reducible refine (pick rb (N + 3 + 3 * q) 20 _ HT.out.rd (by omega) (by omega) (by omega)).mono ?_); rintro e w6 ⟨v6, rfl, hy0, hy1, r6, g6, s6⟩)
      have HD := Lib.hid (HT.out.grown g6 r6 hlt)
      have HL3 := Lib.hid HD.out.len
      have HST := Lib.hid HD.out.sts
      have HEP := Lib.hid (chOk_iff.1 HD.out.2.2.2.1).2.1
      have HSM : Hid (∀ x ∈ c.sl, x.length ≤ 9) := fun x hx => by
        have := (slotOk_iff.1 ((chOk_iff.1 HD.out.2.2.2.1).1 x hx)).1
        omega
      have hbcz := HD.out.2.1.lt
      have hbw := HD.out.2.2.1
      have K0 := Lib.hid HD.out.1
      have K1 := Lib.hid HD.out.2.1
      clear r6 g6 s6 HT
      by_cases hv0 : v6 = 0
      · subst hv0
        have hal : Below w6.heap.size w6 (w6.alloc (.cells #[.int .i64 (-1), .int .i64 99, .int .i64 100] 3)) := (Below.refl _ _).alloc (Nat.le_refl _) _
        have HL : Hid (∀ j : Nat, j < 3 → ∃ y : Int, (-1 ≤ y ∧ y ≤ 100) ∧ (w6.alloc (.cells #[.int .i64 (-1), .int .i64 99, .int .i64 100] 3)).cell? ⟨w6.heap.size, j, none⟩ = some (.int .i64 y)) := fun j hj => lit3 hj
        have HDA := Lib.hid (HD.out.grown (grown_of_below hal) (HD.out.rd.alloc _) hlt)
        clear hal HD
        go_wp2_with fail
        ((with_reducible refine (pick rb (N + 3 + 3 * q + 1) 3 _ HDA.out.rd (by omega) (by omega) (by omega)).mono ?_); rintro e w7 ⟨v7, rfl, hz0, hz1, r7, g7, s7⟩)
        obtain ⟨i, rfl⟩ := Int.eq_ofNat_of_zero_le hz0
        have hi3 : i < 3 := by omega
        have hi3i : (i : Int) < 3 := by omega
        obtain ⟨y2, hy2, cy2⟩ := HL.out i hi3
        have cy3 := (World.cell?_of_block (a := ⟨w6.heap.size, i, none⟩) (g7.block w6.heap.size (by simp) (by simp; omega))).trans cy2
        have HD7 := Lib.hid (HDA.out.grown g7 r7 hlt)
        have HY2 := Lib.hid hy2
        obtain ⟨z0, z1, zf⟩ := two_cells HD7.out.2.1
        clear r7 g7 s7 HDA HL cy2 hy2
        go_upto_region 16 with (fail)
        have hk8 := blk_set0 (v := .int .i64 y2) HD7.out.2.1
        have k08 := HD7.out.1.same (Below.heap_setCell w7 ⟨bc, 0, none⟩ (.int .i64 y2) _ (show w.heap.size ≠ bc by omega))
        have hs8 : (w7.setCell ⟨bc, 0, none⟩ (.int .i64 y2)).heap.size = w7.heap.size := by simp [World.setCell]
        have hgr8 : w.grownBy (w7.setCell ⟨bc, 0, none⟩ (.int .i64 y2)) (some rb) := by
          have h := HD7.out.2.2.2.2.2.1
          exact ⟨h.os, h.tape, h.output, by rw [hs8]; exact h.size, fun i hi hne => (Below.heap_setCell _ _ _ _ (show i ≠ bc by omega)).trans (h.block i hi hne)⟩
        have hrd8 : Reader (w7.setCell ⟨bc, 0, none⟩ (.int .i64 y2)) rb (N + 120) := (HD7.out.rd.keep fun i hi => Below.heap_setCell _ _ _ _ (show i ≠ bc by omega)).mono (by omega)
        have hst8 : Sts (w.heap.size + 1) (w7.setCell ⟨bc, 0, none⟩ (.int .i64 y2)).heap.size (w7.setCell ⟨bc, 0, none⟩ (.int .i64 y2)) A 3 k c.sl := by
          obtain ⟨_, _, _, _, _, _, G, h7, h8, h9⟩ := HD7.out
          exact (h7.keep (Nat.le_of_eq hs8.symm) fun f hf x hx => Below.heap_setCell _ _ _ _ (show x ≠ bc from fun e => h9 f hf (e ▸ hx))).sts (h8.mono (Nat.le_refl _) (Nat.le_of_eq hs8.symm))
        have HP := Lib.hid (ca_done hgr8 hrd8 hst8 HL3.out (Nat.le_refl _) HY2.out HSM.out (.int .i64 y2) (.slice A 3 k) hlt)
        obtain ⟨x0, x1, xf⟩ := two_cells hk8
        obtain ⟨u0, u1, uf⟩ := two_cells k08
        clear hk8 k08 hs8 hgr8 hrd8 hst8 z0 z1 zf cy3
        generalize w7.setCell ⟨bc, 0, none⟩ (.int .i64 y2) = w8 at *
        go_wp2
        refine bodyPost_ret (v := .agg #[.int .i64 y2, .slice A 3 k]) ?_ rfl ?_
        · rw [results_cell1 rfl]
          go_simp
        · exact HP.out
      · have hv0' : (v6 == 0) = false := by simpa using hv0
        by_cases hv1 : v6 = 1
        · subst hv1
          clear hv0
          have HRD : Hid (Reader w6.drew rb (N + 3 + 3 * q + 1)) := HD.out.rd
          have hn1 : N + 3 + 3 * q + 1 ≤ 100000 := by omega
          have hn2 : N + 3 + 3 * q + 1 + 1 ≤ 80000 := by omega
          have HDD : Hid (DcRel rb (N + 3 + 3 * q + 1) bc w w6.drew c A k) := HD.out.drew
          obtain ⟨bA, oA, _, _, rfl, _, _, _, _, _⟩ := HST.out.at_ (k := 0) (by omega)
          obtain ⟨z0, z1, zf⟩ := two_cells HD.out.2.1
          have hk1 := HST.out.max_
          have hk2 := HST.out.cap_
          unfold maxLen at hk1
          go_upto_region 13 with (fail)
          go_region_law (first
            | (go_simp; go_at_call 43; refine (pick rb (N + 3 + 3 * q + 1) 3 _ HRD.out hn1 (by decide) (by decide)).mono ?_; rintro e w7 ⟨v7, rfl, hy70, hy71, r7, g7, s7⟩
               have HD7 := Lib.hid (HDD.out.grown g7 r7 hlt)
               obtain ⟨i, rfl⟩ := Int.eq_ofNat_of_zero_le hy70
               have hi3 : i < 3 := by omega
               obtain ⟨z70, z71, z7f⟩ := two_cells HD7.out.2.1)
            | (go_simp; go_at_call 65; refine (l91ListAt rb (N + 3 + 3 * q + 1 + 1) 7 7 _ rfl HD7.out.rd hn2 (by decide)).mono ?_; rintro e w8 ⟨L8, c8, ys, rfl, hl8, hb8, ho8, r8, g8⟩
               have HD8 := Lib.hid (HD7.out.grown g8 r8 hlt)
               obtain ⟨p1, p2, p3, ⟨p4, p5, p6⟩, p7, p8⟩ := DcRel.put HD8.out hi3
               obtain ⟨z80, z81, z8f⟩ := two_cells HD8.out.2.1)
            | fail)
          all_goals
            have hb7 := (DcRel.put HD7.out hi3).2.2.1
            have hst8 := p8 L8 c8 ys w7.heap.size ho8 hb7 (by have := HD7.out.1.lt; omega)
            have hs8 : (w8.setCell ⟨bA, oA + i, none⟩ (.slice L8 ys.length c8)).heap.size = w8.heap.size := by simp [World.setCell]
            have hk8 := HD8.out.2.1.same (Below.heap_setCell w8 ⟨bA, oA + i, none⟩ (.slice L8 ys.length c8) _ (show bc ≠ bA from fun e => p1 e.symm))
            have k08 := HD8.out.1.same (Below.heap_setCell w8 ⟨bA, oA + i, none⟩ (.slice L8 ys.length c8) _ (show w.heap.size ≠ bA by omega))
            have hgr8 : w.grownBy (w8.setCell ⟨bA, oA + i, none⟩ (.slice L8 ys.length c8)) (some rb) := by
              have h := HD8.out.2.2.2.2.2.1
              exact ⟨h.os, h.tape, h.output, by rw [hs8]; exact h.size, fun i hi hne => (Below.heap_setCell _ _ _ _ (show i ≠ bA by omega)).trans (h.block i hi hne)⟩
            have hrd8 : Reader (w8.setCell ⟨bA, oA + i, none⟩ (.slice L8 ys.length c8)) rb (N + 120) := (HD8.out.rd.keep fun i hi => Below.heap_setCell _ _ _ _ (show i ≠ bA by omega)).mono (by omega)
            have hln : (c.sl.set i ys).length = 3 := by rw [List.length_set]; exact HL3.out
            have hsm : ∀ x ∈ c.sl.set i ys, x.length ≤ 9 := fun x hx => by
              rcases List.mem_or_eq_of_mem_set hx with h | rfl
              · exact HSM.out x h
              · omega
            have HP := Lib.hid (ca_done (e' := c.ep) hgr8 hrd8 hst8 hln (Nat.le_refl _) ⟨by have := HEP.out.1; omega, by have := HEP.out.2; omega⟩ hsm (.int .i64 c.ep) (.slice (some ⟨bA, oA, none⟩) 3 k) hlt)
            obtain ⟨x0, x1, xf⟩ := two_cells hk8
            obtain ⟨u0, u1, uf⟩ := two_cells k08
            clear hk8 k08 hs8 hgr8 hrd8 hst8 z0 z1 zf z70 z71 z7f z80 z81 z8f p6 p7 p8 ho8 r8 g8 r7 g7 hb8 hln hsm
            generalize w8.setCell ⟨bA, oA + i, none⟩ (.slice L8 ys.length c8) = w9 at *
            go_wp2
            refine bodyPost_ret (v := .agg #[.int .i64 c.ep, .slice (some ⟨bA, oA, none⟩) 3 k]) ?_ rfl ?_
            · rw [results_cell1 rfl]
              go_simp
            · exact HP.out
        · have hv1' : (v6 == 1) = false := by simpa using hv1
          by_cases hv2 : v6 = 2
          · subst hv2
            obtain ⟨bA, oA, _, _, rfl, _, _, _, _, _⟩ := HST.out.at_ (k := 0) (by omega)
            have hk1 := HST.out.max_
            have hk2 := HST.out.cap_
            unfold maxLen at hk1
            have hk3 : (2 : Int) ≤ (k : Int) := by omega
            have hk4 : 2 ≤ k := by omega
            obtain ⟨z0, z1, zf⟩ := two_cells HD.out.2.1
            go_upto_region 16 with (fail)
            have hk8 := blk_set1 (v := .slice (some ⟨bA, oA, none⟩) 2 k) HD.out.2.1
            have k08 := HD.out.1.same (Below.heap_setCell w6 ⟨bc, 1, none⟩ (.slice (some ⟨bA, oA, none⟩) 2 k) _ (show w.heap.size ≠ bc by omega))
            have hs8 : (w6.setCell ⟨bc, 1, none⟩ (.slice (some ⟨bA, oA, none⟩) 2 k)).heap.size = w6.heap.size := by simp [World.setCell]
            have hgr8 : w.grownBy (w6.setCell ⟨bc, 1, none⟩ (.slice (some ⟨bA, oA, none⟩) 2 k)) (some rb) := by
              have h := HD.out.2.2.2.2.2.1
              exact ⟨h.os, h.tape, h.output, by rw [hs8]; exact h.size, fun i hi hne => (Below.heap_setCell _ _ _ _ (show i ≠ bc by omega)).trans (h.block i hi hne)⟩
            have hrd8 : Reader (w6.setCell ⟨bc, 1, none⟩ (.slice (some ⟨bA, oA, none⟩) 2 k)) rb (N + 120) := (HD.out.rd.keep fun i hi => Below.heap_setCell _ _ _ _ (show i ≠ bc by omega)).mono (by omega)
            have hst8 : Sts (w.heap.size + 1) (w6.setCell ⟨bc, 1, none⟩ (.slice (some ⟨bA, oA, none⟩) 2 k)).heap.size (w6.setCell ⟨bc, 1, none⟩ (.slice (some ⟨bA, oA, none⟩) 2 k)) (some ⟨bA, oA, none⟩) 3 k c.sl := by
              obtain ⟨_, _, _, _, _, _, G, h7, h8, h9⟩ := HD.out
              exact (h7.keep (Nat.le_of_eq hs8.symm) fun f hf x hx => Below.heap_setCell _ _ _ _ (show x ≠ bc from fun e => h9 f hf (e ▸ hx))).sts (h8.mono (Nat.le_refl _) (Nat.le_of_eq hs8.symm))
            have hst9 := hst8.take (k := 2) (by omega)
            have hln : (c.sl.take 2).length = 2 := by rw [List.length_take, HL3.out]; rfl
            have HP := Lib.hid (ca_done (e' := c.ep) hgr8 hrd8 hst9 hln (by omega) ⟨by have := HEP.out.1; omega, by have := HEP.out.2; omega⟩ (fun x hx => HSM.out x (List.mem_of_mem_take hx)) (.int .i64 c.ep) (.slice (some ⟨bA, oA, none⟩) 2 k) hlt)
            obtain ⟨x0, x1, xf⟩ := two_cells hk8
            obtain ⟨u0, u1, uf⟩ := two_cells k08
            clear hk8 k08 hs8 hgr8 hrd8 hst8 hst9 z0 z1 zf
            generalize w6.setCell ⟨bc, 1, none⟩ (.slice (some ⟨bA, oA, none⟩) 2 k) = w8 at *
            go_wp2
            refine bodyPost_ret (v := .agg #[.int .i64 c.ep, .slice (some ⟨bA, oA, none⟩) 2 k]) ?_ rfl ?_
            · rw [results_cell1 rfl]
              go_simp
            · exact HP.out
          · have hv2' : (v6 == 2) = false := by simpa using hv2
            have HP := Lib.hid (ca_done (e' := c.ep) HD.out.2.2.2.2.2.1 (HD.out.rd.mono (show N + 3 + 3 * q + 1 ≤ N + 120 by omega)) HST.out HL3.out (Nat.le_refl _) ⟨by have := HEP.out.1; omega, by have := HEP.out.2; omega⟩ HSM.out (.int .i64 c.ep) (.slice A 3 k) hlt)
            obtain ⟨x0, x1, xf⟩ := two_cells HD.out.2.1
            obtain ⟨u0, u1, uf⟩ := two_cells HD.out.1
            clear HD
            go_wp2
            refine bodyPost_ret (v := .agg #[.int .i64 c.ep, .slice A 3 k]) ?_ rfl ?_
            · rw [results_cell1 rfl]
              go_simp
            · exact HP.out

end Rd
end Go.Proofs.Ytmmnpmfkpieoiaa
