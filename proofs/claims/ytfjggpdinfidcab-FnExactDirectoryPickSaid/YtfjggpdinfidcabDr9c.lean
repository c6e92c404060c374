/-
  Draws of chapter 21: public keys, a directory, signatures.
-/
import Derived.Test.YtfjggpdinfidcabDr9b
import Derived.Test.YtfjggpdinfidcabGrp
namespace Go.Proofs.Ytfjggpdinfidcab
open Go.RowKit
namespace Rd
open Il Sl Ec Dm Sp9 Gm

/-- Public keys, a directory and signatures are drawn. -/
def DirCk (w : World) (e : Ending) (w' : World) : Prop :=
  ∃ P p A k ep es G g ps gs, e = .returned (.tuple #[.slice P (List.length ps) p, .agg #[.int .i64 ep, .slice A (List.length es) k], .slice G (List.length gs) g]) ∧ Good es ∧ DirHas w w' es A k ∧ Ints w.heap.size w'.heap.size w' P ps.length p ps ∧ Ints w.heap.size w'.heap.size w' G gs.length g gs ∧ ps.length ≤ 3 ∧ gs.length ≤ 3
/-- While they are drawn. -/
def CkRel (N bv : Nat) (w wr : World) (ep : Int) (A : Option Addr) (k : Nat) (es : List En) (v7 v8 : Value) (ps gs : List Int) : Prop :=
  DBox wr w.heap.size 0 none 0 0 ∧ DBox wr bv ep A es.length k ∧ EnsO (w.heap.size + 2) bv wr A es.length k es ∧ Reader wr (w.heap.size + 1) N ∧ Below w.heap.size w wr ∧ w.heap.size + 2 ≤ bv ∧
    ∃ g1 g2, AccB g1 wr v7 ps ∧ AccB g2 wr v8 gs ∧ g1 ≠ g2 ∧ bv < g1 ∧ bv < g2
section
variable {N N' bv : Nat} {w wr w' : World} {ep : Int} {A : Option Addr} {k : Nat} {es : List En} {v7 v8 : Value} {ps gs : List Int}
theorem CkRel.rd (h : CkRel N bv w wr ep A k es v7 v8 ps gs) : Reader wr (w.heap.size + 1) N := h.2.2.2.1
theorem CkRel.box (h : CkRel N bv w wr ep A k es v7 v8 ps gs) : DBox wr bv ep A es.length k := h.2.1
theorem CkRel.ens (h : CkRel N bv w wr ep A k es v7 v8 ps gs) : Ens (w.heap.size + 2) bv wr A es.length k es := h.2.2.1.row_
theorem CkRel.mono (h : CkRel N bv w wr ep A k es v7 v8 ps gs) (hN : N ≤ N') : CkRel N' bv w wr ep A k es v7 v8 ps gs := ⟨h.1, h.2.1, h.2.2.1, h.2.2.2.1.mono hN, h.2.2.2.2⟩
theorem CkRel.grown (h : CkRel N bv w wr ep A k es v7 v8 ps gs) (hg : wr.grownBy w' (some (w.heap.size + 1))) (hr : Reader w' (w.heap.size + 1) N') : CkRel N' bv w w' ep A k es v7 v8 ps gs := by
  obtain ⟨h1, h2, h3, h4, h5, h6, g1, g2, h7, h8, h9, ha, hb⟩ := h
  exact ⟨dbox_same h1 (hg.block _ h1.lt (by simp)), dbox_same h2 (hg.block _ h2.lt (by simp; omega)), h3.grown hg (fun b e => by cases e; omega), hr, h5.grown hg h5.size (fun b e => by cases e; omega), h6,
    g1, g2, h7.keep hg (by simp; omega), h8.keep hg (by simp; omega), h9, ha, hb⟩
theorem CkRel.drew (h : CkRel N bv w wr ep A k es v7 v8 ps gs) : CkRel N bv w wr.drew ep A k es v7 v8 ps gs := by
  obtain ⟨h1, h2, h3, h4, h5, h6, g1, g2, h7, h8, h9⟩ := h
  exact ⟨h1, h2, h3.drewN 1, h4, ⟨h5.os, h5.tape, h5.output, h5.size, h5.block⟩, h6, g1, g2, h7, h8, h9⟩
theorem CkRel.below (h : CkRel N bv w wr ep A k es v7 v8 ps gs) (hb : Below wr.heap.size wr w') : CkRel N bv w w' ep A k es v7 v8 ps gs := by
  obtain ⟨h1, h2, h3, h4, h5, h6, g1, g2, h7, h8, h9⟩ := h
  exact ⟨h1.below hb (Nat.le_refl _), h2.below hb (Nat.le_refl _), h3.below hb (Nat.le_refl _), h4.below hb h4.lt, h5.trans (hb.mono h5.size), h6, g1, g2, AccB.below_ h7 hb (Nat.le_refl _), AccB.below_ h8 hb (Nat.le_refl _), h9⟩
/-- A public key is appended. -/
theorem CkRel.app7 {g1 g2 g' : Nat} {v' : Value} {x : Int} (h : CkRel N bv w wr ep A k es v7 v8 ps gs) (h8 : AccB g2 wr v8 gs) (h9 : g1 ≠ g2) (ha : bv < g1) (hb : bv < g2) (hN : AccB g' w' v' (ps ++ [x])) (hW : g' = g1 ∨ wr.heap.size < g') (hG : wr.grownBy w' (some g1)) : CkRel N bv w w' ep A k es v' v8 (ps ++ [x]) gs := by
  obtain ⟨h1, h2, h3, h4, h5, h6, _⟩ := h
  have := h8.lt
  exact ⟨dbox_same h1 (hG.block _ h1.lt (by simp; omega)), dbox_same h2 (hG.block _ h2.lt (by simp; omega)), h3.grown hG (fun b e => by cases e; omega), h4.keep fun i hi => hG.block i (by have := h4.lt; omega) (by simp; omega), h5.grown hG h5.size (fun b e => by cases e; omega), h6,
    g', g2, hN, h8.keep hG (by simp; omega), by omega, by omega, hb⟩
/-- A signature is appended. -/
theorem CkRel.app8 {g1 g2 g' : Nat} {v' : Value} {x : Int} (h : CkRel N bv w wr ep A k es v7 v8 ps gs) (h7 : AccB g1 wr v7 ps) (h9 : g1 ≠ g2) (ha : bv < g1) (hb : bv < g2) (hN : AccB g' w' v' (gs ++ [x])) (hW : g' = g2 ∨ wr.heap.size < g') (hG : wr.grownBy w' (some g2)) : CkRel N bv w w' ep A k es v7 v' ps (gs ++ [x]) := by
  obtain ⟨h1, h2, h3, h4, h5, h6, _⟩ := h
  have := h7.lt
  exact ⟨dbox_same h1 (hG.block _ h1.lt (by simp; omega)), dbox_same h2 (hG.block _ h2.lt (by simp; omega)), h3.grown hG (fun b e => by cases e; omega), h4.keep fun i hi => hG.block i (by have := h4.lt; omega) (by simp; omega), h5.grown hG h5.size (fun b e => by cases e; omega), h6,
    g1, g', h7.keep hG (by simp; omega), hN, by omega, ha, by omega⟩
end
/-- All is drawn, but not yet returned. -/
def CkEnd (bv : Nat) (w wF : World) (ep : Int) (A : Option Addr) (k : Nat) (es : List En) (P : Option Addr) (n1 p : Nat) (G : Option Addr) (n2 g : Nat) (ps gs : List Int) : Prop :=
  DBox wF w.heap.size 0 none 0 0 ∧ DBox wF bv ep A es.length k ∧ EnsO (w.heap.size + 2) bv wF A es.length k es ∧ Below w.heap.size w wF ∧ w.heap.size + 2 ≤ bv ∧ Ints (bv + 1) wF.heap.size wF P n1 p ps ∧ Ints (bv + 1) wF.heap.size wF G n2 g gs
theorem ck_done {bv : Nat} {w wF : World} {ep : Int} {A : Option Addr} {k : Nat} {es : List En} {P : Option Addr} {n1 p : Nat} {G : Option Addr} {n2 g : Nat} {ps gs : List Int} (h : CkEnd bv w wF ep A k es P n1 p G n2 g ps gs) (hgd : Good es) (h1 : n1 ≤ 3) (h2 : n2 ≤ 3) (u0 u1 : Value) :
    DirCk w (.returned (.tuple #[.slice P n1 p, .agg #[.int .i64 ep, .slice A es.length k], .slice G n2 g])) ((wF.setCell ⟨w.heap.size, 0, none⟩ u0).setCell ⟨w.heap.size, 1, none⟩ u1) := by
  obtain ⟨q1, q2, q3, q4, q5, q6, q7⟩ := h
  obtain rfl := q6.len_
  obtain rfl := q7.len_
  have hsz : ((wF.setCell ⟨w.heap.size, 0, none⟩ u0).setCell ⟨w.heap.size, 1, none⟩ u1).heap.size = wF.heap.size := by simp [World.setCell]
  have hf : ∀ b, b ≠ w.heap.size → ((wF.setCell ⟨w.heap.size, 0, none⟩ u0).setCell ⟨w.heap.size, 1, none⟩ u1).heap[b]? = wF.heap[b]? := fun b hb => (Below.heap_setCell _ _ _ _ (show b ≠ w.heap.size by omega)).trans (Below.heap_setCell _ _ _ _ (show b ≠ w.heap.size by omega))
  have hbz := q2.lt
  refine ⟨P, p, A, k, ep, es, G, g, ps, gs, rfl, hgd, ⟨EnsO.mono (q3.keep (Nat.le_of_eq hsz.symm) fun b r1 _ _ => hf b (by omega)) (by omega) (by omega), (q4.setCell (p := ⟨w.heap.size, 0, none⟩) (Nat.le_refl _) _).setCell (p := ⟨w.heap.size, 1, none⟩) (Nat.le_refl _) _⟩,
    (q6.keep (Nat.le_of_eq hsz.symm) fun b r1 _ _ => hf b (by omega)).mono (by omega) (Nat.le_of_eq hsz.symm), (q7.keep (Nat.le_of_eq hsz.symm) fun b r1 _ _ => hf b (by omega)).mono (by omega) (Nat.le_of_eq hsz.symm), h1, h2⟩
theorem CkRel.parts {N bv : Nat} {w wr : World} {ep : Int} {A : Option Addr} {k : Nat} {es : List En} {v7 v8 : Value} {ps gs : List Int} (h : CkRel N bv w wr ep A k es v7 v8 ps gs) :
    ∃ b1 c1 b2 c2, v7 = .slice (some ⟨b1, 0, none⟩) ps.length c1 ∧ v8 = .slice (some ⟨b2, 0, none⟩) gs.length c2 ∧ Own b1 (b1 + 1) wr (some ⟨b1, 0, none⟩) ps.length c1 ps ∧ Own b2 (b2 + 1) wr (some ⟨b2, 0, none⟩) gs.length c2 gs ∧ b1 ≠ b2 ∧ bv < b1 ∧ bv < b2 ∧ b1 < wr.heap.size ∧ b2 < wr.heap.size := by
  obtain ⟨h1, h2, h3, h4, h5, h6, g1, g2, h7, h8, h9, ha, hb⟩ := h
  have l1 := h7.lt
  have l2 := h8.lt
  obtain ⟨c1, rfl, o1⟩ := h7.own
  obtain ⟨c2, rfl, o2⟩ := h8.own
  exact ⟨g1, c1, g2, c2, rfl, rfl, o1, o2, h9, ha, hb, l1, l2⟩
section
variable {N bv b1 c1 b2 c2 : Nat} {w wr : World} {ep : Int} {A : Option Addr} {k : Nat} {es : List En} {v7 v8 : Value} {ps gs : List Int}
theorem ck_fin (h : CkRel N bv w wr ep A k es v7 v8 ps gs) (o1 : Own b1 (b1 + 1) wr (some ⟨b1, 0, none⟩) ps.length c1 ps) (o2 : Own b2 (b2 + 1) wr (some ⟨b2, 0, none⟩) gs.length c2 gs) (q1 : bv < b1) (q2 : bv < b2) (l1 : b1 < wr.heap.size) (l2 : b2 < wr.heap.size) :
    CkEnd bv w wr ep A k es (some ⟨b1, 0, none⟩) ps.length c1 (some ⟨b2, 0, none⟩) gs.length c2 ps gs :=
  ⟨h.1, h.2.1, h.2.2.1, h.2.2.2.2.1, h.2.2.2.2.2.1, o1.ints.mono (by omega) (by omega), o2.ints.mono (by omega) (by omega)⟩
theorem ck_set {q : Nat} (h : CkRel N bv w wr ep A k es v7 v8 ps gs) (hq : bv < q) (u : Value) (i : Nat) {P G : Option Addr} {n1 p n2 g : Nat} {ps' gs' : List Int}
    (i1 : Ints (bv + 1) wr.heap.size (wr.setCell ⟨q, i, none⟩ u) P n1 p ps') (i2 : Ints (bv + 1) wr.heap.size (wr.setCell ⟨q, i, none⟩ u) G n2 g gs') : CkEnd bv w (wr.setCell ⟨q, i, none⟩ u) ep A k es P n1 p G n2 g ps' gs' := by
  obtain ⟨h1, h2, h3, h4, h5, h6, _⟩ := h
  have hsz : (wr.setCell ⟨q, i, none⟩ u).heap.size = wr.heap.size := by simp [World.setCell]
  exact ⟨dbox_same h1 (Below.heap_setCell _ _ _ _ (show w.heap.size ≠ q by omega)), dbox_same h2 (Below.heap_setCell _ _ _ _ (show bv ≠ q by omega)), h3.keep (Nat.le_of_eq hsz.symm) fun b _ r2 _ => Below.heap_setCell _ _ _ _ (show b ≠ q by omega), h5.setCell (p := ⟨q, i, none⟩) (show w.heap.size ≤ q by omega) _, h6, i1.mono (Nat.le_refl _) (Nat.le_of_eq hsz.symm), i2.mono (Nat.le_refl _) (Nat.le_of_eq hsz.symm)⟩
theorem set_this {lo hi b n c i : Nat} {xs : List Int} (h : Own lo hi wr (some ⟨b, 0, none⟩) n c xs) (hi' : i < n) (v : Int) : Ints lo hi (wr.setCell ⟨b, i, none⟩ (.int .i64 v)) (some ⟨b, 0, none⟩) n c (xs.set i v) := by
  have := (h.set_ hi' v).ints
  rwa [Nat.zero_add] at this
theorem set_that {lo hi b q n c i : Nat} {xs : List Int} (h : Ints lo hi wr (some ⟨b, 0, none⟩) n c xs) (h1 : lo = b) (h2 : hi = b + 1) (hq : b ≠ q) (u : Value) : Ints lo hi (wr.setCell ⟨q, i, none⟩ u) (some ⟨b, 0, none⟩) n c xs :=
  h.keep (Nat.le_of_eq (by simp [World.setCell])) fun x r1 r2 _ => Below.heap_setCell _ _ _ _ (show x ≠ q by omega)
end
theorem ck_dr {w w' : World} {e : Ending} (h : DirCk w e w') : DirCk w e w'.drew := by
  obtain ⟨P, p, A, k, ep, es, G, g, ps, gs, h1, h2, ⟨h3, h4⟩, h5⟩ := h
  exact ⟨P, p, A, k, ep, es, G, g, ps, gs, h1, h2, ⟨h3, below_dr h4⟩, h5⟩
theorem results_tct {fn : Func} {p u v : Tmp} {ty : TypeId} (h : fn.results = #[.tmp u, .cell p ty, .tmp v]) (tmps : Array Value) (P : Program) (w : World) :
    (results fn tmps).run P w = ((asAddr (tmps.getD p undef)).run P w).andThen fun a w₁ => ((loadVar ty a).run P w₁).andThen fun x w₂ => .ok (.tuple #[tmps.getD u undef, x, tmps.getD v undef]) w₂ := by
  simp only [results, h]
  simp [Sem.run_bind, Result.andThen]

end Rd
end Go.Proofs.Ytfjggpdinfidcab
