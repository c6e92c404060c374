/-
  Draws of chapter 21: public keys, a directory, signatures.
-/
import Derived.Test.YtfnbjojaflloaabDr9b
import Derived.Test.YtfnbjojaflloaabGrp
namespace Go.Proofs.Ytfnbjojaflloaab
open Go.RowKit
namespace Rd
open Il Sl Ec Dm Sp9 Gm

/-- Public keys, a directory and signatures are drawn. -/
def DirCk (w : World) (e : Ending) (w' : World) : Prop :=
  ∃ P p A k ep es G g ps gs, e = .returned (.tuple #[.slice P (List.length ps) p, .agg #[.int .i64 ep, .slice A (List.length es) k], .slice G (List.length gs) g]) ∧ Good es ∧ DirHas w w' es A k ∧ Ints w.heap.size w'.heap.size w' P ps.length p ps ∧ Ints w.heap.size w'.heap.size w' G gs.length g gs ∧ ps.length ≤ 3 ∧ gs.length ≤ 3
/-- While they are drawn. -/
def CkRel (N bv : Nat) (w wr : World) (ep : Int) (A : Option Addr) (k : Nat) (es : List En) (v7 v8 : Value) (ps gs : List Int) : Prop :=
  DBox wr w.heap.size 0 none 0 0 ∧ DBox wr bv ep A es.length k ∧ EnsO (w.heap.size + 2) bv wr A es.length k es ∧ Reader wr (w.heap.size + 1) N ∧ Below w.heap.size w wr ∧ w.heap.size + 2 ≤ bv ∧
    ∃ g1 g2, AccB g1 wr v7 ps ∧ AccB g2 wr v8 gs ∧ g1 ≠ g2 ∧ bv < g1 ∧ bv < g2
section
variable {N N' bv : Nat} {w wr w' : World} {ep : Int} {A : Option Addr} {k : Nat} {es : List En} {v7 v8 : Value} {ps gs : List Int}
theorem CkRel.rd (h : CkRel N bv w wr ep A k es v7 v8 ps gs) : Reader wr (w.heap.size + 1) N := h.2.2.2.1
theorem CkRel.box (h : CkRel N bv w wr ep A k es v7 v8 ps gs) : DBox wr bv ep A es.length k := h.2.1
theorem CkRel.ens (h : CkRel N bv w wr ep A k es v7 v8 ps gs) : Ens (w.heap.size + 2) bv wr A es.length k es := h.2.2.1.row_
theorem CkRel.mono (h : CkRel N bv w wr ep A k es v7 v8 ps gs) (hN : N ≤ N') : CkRel N' bv w wr ep A k es v7 v8 ps gs := ⟨h.1, h.2.1, h.2.2.1, h.2.2.2.1.mono hN, h.2.2.2.2⟩
theorem CkRel.grown (h : CkRel N bv w wr ep A k es v7 v8 ps gs) (hg : wr.grownBy w' (some (w.heap.size + 1))) (hr : Reader w' (w.heap.size + 1) N') : CkRel N' bv w w' ep A k es v7 v8 ps gs := by
  obtain ⟨h1, h2, h3, h4, h5, h6, g1, g2, h7, h8, h9, ha, hb⟩ := h
  exact ⟨dbox_same h1 (hg.block _ h1.lt (by simp)), dbox_same h2 (hg.block _ h2.lt (by simp; omega)), h3.grown hg (fun b e => by cases e; omega), hr, h5.grown hg h5.size (fun b e => by cases e; omega), h6,
    g1, g2, h7.keep hg (by simp; omega), h8.keep hg (by simp; omega), h9, ha, hb⟩
theorem CkRel.drew (h : CkRel N bv w wr ep A k es v7 v8 ps gs) : CkRel N bv w wr.drew ep A k es v7 v8 ps gs := by
  obtain ⟨h1, h2, h3, h4, h5, h6, g1, g2, h7, h8, h9⟩ := h
  exact ⟨h1, h2, h3.drewN 1, h4, ⟨h5.os, h5.tape, h5.output, h5.size, h5.block⟩, h6, g1, g2, h7, h8, h9⟩
theorem CkRel.below (h : CkRel N bv w wr ep A k es v7 v8 ps gs) (hb : Below wr.heap.size wr w') : CkRel N bv w w' ep A k es v7 v8 ps gs := by
  obtain ⟨h1, h2, h3, h4, h5, h6, g1, g2, h7, h8, h9⟩ := h
  exact ⟨h1.below hb (Nat.le_refl _), h2.below hb (Nat.le_refl _), h3.below hb (Nat.le_refl _), h4.below hb h4.lt, h5.trans (hb.mono h5.size), h6, g1, g2, AccB.below_ h7 hb (Nat.le_refl _), AccB.below_ h8 hb (Nat.le_refl _), h9⟩
/-- A public key is appended. -/
theorem CkRel.app7 {g1 g2 g' : Nat} {v' : Value} {x : Int} (h : CkRel N bv w wr ep A k es v7 v8 ps gs) (h8 : AccB g2 wr v8 gs) (h9 : g1 ≠ g2) (ha : bv < g1) (hb : bv < g2) (hN : AccB g' w' v' (ps ++ [x])) (hW : g' = g1 ∨ wr.heap.size < g') (hG : wr.grownBy w' (some g1)) : CkRel N bv w w' ep A k es v' v8 (ps ++ [x]) gs := by
  obtain ⟨h1, h2, h3, h4, h5, h6, _⟩ := h
  have := h8.lt
  exact ⟨dbox_same h1 (hG.block _ h1.lt (by simp; omega)), dbox_same h2 (hG.block _ h2.lt (by simp; omega)), h3.grown hG (fun b e => by cases e; omega), h4.keep fun i hi => hG.block i (by have := h4.lt; omega) (by simp; omega), h5.grown hG h5.size (fun b e => by cases e; omega), h6,
    g', g2, hN, h8.keep hG (by simp; omega), by omega, by omega, hb⟩
/-- A signature is appended. -/
theorem CkRel.app8 {g1 g2 g' : Nat} {v' : Value} {x : Int} (h : CkRel N bv w wr ep A k es v7 v8 ps gs) (h7 : AccB g1 wr v7 ps) (h9 : g1 ≠ g2) (ha : bv < g1) (hb : bv < g2) (hN : AccB g' w' v' (gs ++ [x])) (hW : g' = g2 ∨ wr.heap.size < g') (hG : wr.grownBy w' (some g2)) : CkRel N bv w w' ep A k es v7 v' ps (gs ++ [x]) := by
  obtain ⟨h1, h2, h3, h4, h5, h6, _⟩ := h
  have := h7.lt
  exact ⟨dbox_same h1 (hG.block _ h1.lt (by simp; omega)), dbox_same h2 (hG.block _ h2.lt (by simp; omega)), h3.grown hG (fun b e => by cases e; omega), h4.keep fun i hi => hG.block i (by have := h4.lt; omega) (by simp; omega), h5.grown hG h5.size (fun b e => by cases e; omega), h6,
    g1, g', h7.keep hG (by simp; omega), hN, by omega, ha, by omega⟩
end
/-- All is drawn, but not yet returned. -/
def CkEnd (bv : Nat) (w wF : World) (ep : Int) (A : Option Addr) (k : Nat) (es : List En) (P : Option Addr) (n1 p : Nat) (G : Option Addr) (n2 g : Nat) (ps gs : List Int) : Prop :=
  DBox wF w.heap.size 0 none 0 0 ∧ DBox wF bv ep A es.length k ∧ EnsO (w.heap.size + 2) bv wF A es.length k es ∧ Below w.heap.size w wF ∧ w.heap.size + 2 ≤ bv ∧ Ints (bv + 1) wF.heap.size wF P n1 p ps ∧ Ints (bv + 1) wF.heap.size wF G n2 g gs
theorem ck_done {bv : Nat} {w wF : World} {ep : Int} {A : Option Addr} {k : Nat} {es : List En} {P : Option Addr} {n1 p : Nat} {G : Option Addr} {n2 g : Nat} {ps gs : List Int} (h : CkEnd bv w wF ep A k es P n1 p G n2 g ps gs) (hgd : Good es) (h1 : n1 ≤ 3) (h2 : n2 ≤ 3) (u0 u1 : Value) :
    DirCk w (.returned (.tuple #[.slice P n1 p, .agg #[.int .i64 ep, .slice A es.length k], .slice G n2 g])) ((wF.setCell ⟨w.heap.size, 0, none⟩ u0).setCell ⟨w.heap.size, 1, none⟩ u1) := by
  obtain ⟨q1, q2, q3, q4, q5, q6, q7⟩ := h
  obtain rfl := q6.len_
  obtain rfl := q7.len_
  have hsz : ((wF.setCell ⟨w.heap.size, 0, none⟩ u0).setCell ⟨w.heap.size, 1, none⟩ u1).heap.size = wF.heap.size := by simp [World.setCell]
  have hf : ∀ b, b ≠ w.heap.size → ((wF.setCell ⟨w.heap.size, 0, none⟩ u0).setCell ⟨w.heap.size, 1, none⟩ u1).heap[b]? = wF.heap[b]? := fun b hb => (Below.heap_setCell _ _ _ _ (show b ≠ w.heap.size by omega)).trans (Below.heap_setCell _ _ _ _ (show b ≠ w.heap.size by omega))
  have hbz := q2.lt
  refine ⟨P, p, A, k, ep, es, G, g, ps, gs, rfl, hgd, ⟨EnsO.mono (q3.keep (Nat.le_of_eq hsz.symm) fun b r1 _ _ => hf b (by omega)) (by omega) (by omega), (q4.setCell (p := ⟨w.heap.size, 0, none⟩) (Nat.le_refl _) _).setCell (p := ⟨w.heap.size, 1, none⟩) (Nat.le_refl _) _⟩,
    (q6.keep (Nat.le_of_eq hsz.symm) fun b r1 _ _ => hf b (by omega)).mono (by omega) (Nat.le_of_eq hsz.symm), (q7.keep (Nat.le_of_eq hsz.symm) fun b r1 _ _ => hf b (by omega)).mono (by omega) (Nat.le_of_eq hsz.symm), h1, h2⟩
theorem CkRel.parts {N bv : Nat} {w wr : World} {ep : Int} {A : Option Addr} {k : Nat} {es : List En} {v7 v8 : Value} {ps gs : List Int} (h : CkRel N bv w wr ep A k es v7 v8 ps gs) :
    ∃ b1 c1 b2 c2, v7 = .slice (some ⟨b1, 0, none⟩) ps.length c1 ∧ v8 = .slice (some ⟨b2, 0, none⟩) gs.length c2 ∧ Own b1 (b1 + 1) wr (some ⟨b1, 0, none⟩) ps.length c1 ps ∧ Own b2 (b2 + 1) wr (some ⟨b2, 0, none⟩) gs.length c2 gs ∧ b1 ≠ b2 ∧ bv < b1 ∧ bv < b2 ∧ b1 < wr.heap.size ∧ b2 < wr.heap.size := by
  obtain ⟨h1, h2, h3, h4, h5, h6, g1, g2, h7, h8, h9, ha, hb⟩ := h
  have l1 := h7.lt
  have l2 := h8.lt
  obtain ⟨c1, rfl, o1⟩ := h7.own
  obtain ⟨c2, rfl, o2⟩ := h8.own
  exact ⟨g1, c1, g2, c2, rfl, rfl, o1, o2, h9, ha, hb, l1, l2⟩
section
variable {N bv b1 c1 b2 c2 : Nat} {w wr : World} {ep : Int} {A : Option Addr} {k : Nat} {es : List En} {v7 v8 : Value} {ps gs : List Int}
theorem ck_fin (h : CkRel N bv w wr ep A k es v7 v8 ps gs) (o1 : Own b1 (b1 + 1) wr (some ⟨b1, 0, none⟩) ps.length c1 ps) (o2 : Own b2 (b2 + 1) wr (some ⟨b2, 0, none⟩) gs.length c2 gs) (q1 : bv < b1) (q2 : bv < b2) (l1 : b1 < wr.heap.size) (l2 : b2 < wr.heap.size) :
    CkEnd bv w wr ep A k es (some ⟨b1, 0, none⟩) ps.length c1 (some ⟨b2, 0, none⟩) gs.length c2 ps gs :=
  ⟨h.1, h.2.1, h.2.2.1, h.2.2.2.2.1, h.2.2.2.2.2.1, o1.ints.mono (by omega) (by omega), o2.ints.mono (by omega) (by omega)⟩
theorem ck_set {q : Nat} (h : CkRel N bv w wr ep A k es v7 v8 ps gs) (hq : bv < q) (u : Value) (i : Nat) {P G : Option Addr} {n1 p n2 g : Nat} {ps' gs' : List Int}
    (i1 : Ints (bv + 1) wr.heap.size (wr.setCell ⟨q, i, none⟩ u) P n1 p ps') (i2 : Ints (bv + 1) wr.heap.size (wr.setCell ⟨q, i, none⟩ u) G n2 g gs') : CkEnd bv w (wr.setCell ⟨q, i, none⟩ u) ep A k es P n1 p G n2 g ps' gs' := by
  obtain ⟨h1, h2, h3, h4, h5, h6, _⟩ := h
  have hsz : (wr.setCell ⟨q, i, none⟩ u).heap.size = wr.heap.size := by simp [World.setCell]
  exact ⟨dbox_same h1 (Below.heap_setCell _ _ _ _ (show w.heap.size ≠ q by omega)), dbox_same h2 (Below.heap_setCell _ _ _ _ (show bv ≠ q by omega)), h3.keep (Nat.le_of_eq hsz.symm) fun b _ r2 _ => Below.heap_setCell _ _ _ _ (show b ≠ q by omega), h5.setCell (p := ⟨q, i, none⟩) (show w.heap.size ≤ q by omega) _, h6, i1.mono (Nat.le_refl _) (Nat.le_of_eq hsz.symm), i2.mono (Nat.le_refl _) (Nat.le_of_eq hsz.symm)⟩
theorem set_this {lo hi b n c i : Nat} {xs : List Int} (h : Own lo hi wr (some ⟨b, 0, none⟩) n c xs) (hi' : i < n) (v : Int) : Ints lo hi (wr.setCell ⟨b, i, none⟩ (.int .i64 v)) (some ⟨b, 0, none⟩) n c (xs.set i v) := by
  have := (h.set_ hi' v).ints
  rwa [Nat.zero_add] at this
theorem set_that {lo hi b q n c i : Nat} {xs : List Int} (h : Ints lo hi wr (some ⟨b, 0, none⟩) n c xs) (h1 : lo = b) (h2 : hi = b + 1) (hq : b ≠ q) (u : Value) : Ints lo hi (wr.setCell ⟨q, i, none⟩ u) (some ⟨b, 0, none⟩) n c xs :=
  h.keep (Nat.le_of_eq (by simp [World.setCell])) fun x r1 r2 _ => Below.heap_setCell _ _ _ _ (show x ≠ q by omega)
end
theorem ck_dr {w w' : World} {e : Ending} (h : DirCk w e w') : DirCk w e w'.drew := by
  obtain ⟨P, p, A, k, ep, es, G, g, ps, gs, h1, h2, ⟨h3, h4⟩, h5⟩ := h
  exact ⟨P, p, A, k, ep, es, G, g, ps, gs, h1, h2, ⟨h3, below_dr h4⟩, h5⟩
theorem results_tct {fn : Func} {p u v : Tmp} {ty : TypeId} (h : fn.results = #[.tmp u, .cell p ty, .tmp v]) (tmps : Array Value) (P : Program) (w : World) :
    (results fn tmps).run P w = ((asAddr (tmps.getD p undef)).run P w).andThen fun a w₁ => ((loadVar ty a).run P w₁).andThen fun x w₂ => .ok (.tuple #[tmps.getD u undef, x, tmps.getD v undef]) w₂ := by
  simp only [results, h]
  simp [Sem.run_bind, Result.andThen]
set_option maxRecDepth 20000 in
set_option maxHeartbeats 2000000 in
theorem DrawDirectoryCheck (A0 : Option Addr) (n0 c0 : Nat) (w : World) (h : CodeIs w A0 n0 c0) : Calls Try.prog 29 #[.slice A0 n0 c0] w (DirCk w) := by
  have HC := Lib.hid (code_al9 h (.cells #[.int .i64 0, .slice none 0 0] 40))
  have hsz : (w.alloc (.cells #[.int .i64 0, .slice none 0 0] 40)).heap.size = w.heap.size + 1 := by simp
  have HSZ := Lib.hid hsz
  clear h hsz
  go_enter Try.func29, Try.ntmps29
  go_wp2_with fail
  ((with_reducible refine (l6Open _ _ _ _ HC.out).mono ?_); rintro e w1 ⟨rfl, r1, b1, s1⟩)
  rw [HSZ.out] at r1 b1 s1 ⊢
  have R1 := Lib.hid r1
  have B1 := Lib.hid b1
  have S1 := Lib.hid s1
  clear r1 b1 s1 HC HSZ
  go_wp2_with fail
  ((with_reducible refine (l92Directory _ _ _ R1.out (by omega)).mono ?_); rintro e w2 ⟨A, k, ep, es, rfl, hgd, hx, r2, g2⟩)
  obtain ⟨q1, q2, q3, q4⟩ := dp_first (ep := ep) B1.out S1.out hgd hx r2 g2
  have GD := Lib.hid hgd
  have HD0 : Hid (CkRel (0 + 60) w2.heap.size w (((w2.alloc (.cells #[.int .i64 ep, .slice A es.length k] 40)).alloc (.cells #[] 3)).alloc (.cells #[] 3)) ep A k es (.slice (some ⟨w2.heap.size + 1, 0, none⟩) 0 0) (.slice (some ⟨w2.heap.size + 1 + 1, 0, none⟩) 0 0) [] []) := by
    have q5 := (q4.alloc (.cells #[] 3)).alloc (.cells #[] 3)
    have hx3 : EnsO (w.heap.size + 2) w2.heap.size (((w2.alloc (.cells #[.int .i64 ep, .slice A es.length k] 40)).alloc (.cells #[] 3)).alloc (.cells #[] 3)) A es.length k es :=
      ((q2.below ((Below.refl _ _).alloc (Nat.le_refl _) _) (Nat.le_refl _)).below ((Below.refl _ _).alloc (Nat.le_refl _) _) (Nat.le_refl _)).below ((Below.refl _ _).alloc (Nat.le_refl _) _) (Nat.le_refl _)
    have s0 : (w2.alloc (.cells #[.int .i64 ep, .slice A es.length k] 40)).heap.size = w2.heap.size + 1 := by simp
    generalize w2.alloc (.cells #[.int .i64 ep, .slice A es.length k] 40) = w3 at *
    have a1 := accB_new w3
    have s1 : (w3.alloc (.cells #[] 3)).heap.size = w2.heap.size + 1 + 1 := by simp [s0]
    rw [s0] at a1
    generalize w3.alloc (.cells #[] 3) = w4 at *
    have a2 := accB_new w4
    rw [s1] at a2
    obtain ⟨h1, h2, _, h4, h5, h6, _⟩ := q5
    exact ⟨h1, h2, hx3, h4, h5, h6, _, _, a1.alloc _, a2, by omega, by omega, by omega⟩
  clear q1 q2 q3 q4 hgd hx r2 g2 R1 B1 S1
  go_wp2
  generalize w2.heap.size = bv at *
  go_loopw [7, 8, 9, 10, 11] (fun v7 v8 i _ _ wr => ∃ (q : Nat) (ps gs : List Int), q ≤ 3 ∧ i = .int .i64 (q : Nat) ∧ ps.length = q ∧ gs.length = q ∧ Hid (CkRel (0 + 60 + 6 * q) bv w wr ep A k es v7 v8 ps gs)) (fun _ _ i _ _ _ => 3 - (intOf i).toNat)
  case atStart => exact ⟨0, [], [], by omega, rfl, rfl, rfl, HD0.out⟩
  case round =>
    obtain ⟨q, ps, gs, hq, rfl, hl1, hl2, hT⟩ := hrel
    clear HD0
    by_cases hlq : q < 3
    · have hq1 : decide ((q : Int) < 3) = true := by simp; omega
      go_wp2_with fail
      ((with_reducible refine (l91Good _ (0 + 60 + 6 * q) _ hT.out.rd (by omega)).mono ?_); rintro e w3 ⟨s, rfl, hs0, hs1, r3, g3⟩)
      have HD3 := Lib.hid (hT.out.grown g3 r3)
      clear r3 g3 hT
      go_wp2_with fail
      ((with_reducible refine (Grp.sPublic s _).mono ?_); rintro e w4 ⟨rfl, rfl⟩)
      obtain ⟨g1, g2, a7, a8, a9, a10, a11⟩ := HD3.out.2.2.2.2.2.2
      have A7 := Lib.hid a7
      have hl1' : ps.length ≤ 10000000 := by omega
      clear a7
      go_upto_region 10 with (at_builtin; refine wpList_app1B g1 _ _ ps (mulG s 5) A7.out hl1' (.tmp 24) (.tmp 27) rfl rfl rfl rfl ?_; intro g1' v7' w5 hN5 hW5 hG5)
      have HD5 := Lib.hid (CkRel.app7 HD3.out a8 a9 a10 a11 hN5 hW5 hG5)
      clear HD3 A7 a8 a9 a10 a11 hN5 hW5 hG5 g1 g2 g1'
      obtain ⟨z0, z1, zf⟩ := HD5.out.box.cells
      go_wp2_with fail
      ((with_reducible refine (DirectorySign s ep es _ _ _ _ _ _ HD5.out.ens).mono ?_); rintro e w6 ⟨rfl, hb6⟩)
      have HD6 := Lib.hid (HD5.out.below hb6)
      clear hb6 HD5 z0 z1 zf
      go_wp2_with fail
      ((with_reducible refine (pick _ (0 + 60 + 6 * q + 2) 5 _ HD6.out.rd (by omega) (by omega) (by omega)).mono ?_); rintro e w7 ⟨v7x, rfl, hv0, hv1, r7, g7, s7⟩)
      have HD7 := Lib.hid (HD6.out.grown g7 r7)
      clear r7 g7 s7 HD6
      generalize signF s ep es = x at *
      by_cases h0 : v7x = 0
      · subst h0
        obtain ⟨g1, g2, a7, a8, a9, a10, a11⟩ := HD7.out.2.2.2.2.2.2
        have A8 := Lib.hid a8
        have hl2' : gs.length ≤ 10000000 := by omega
        clear a8
        go_wp2_with (at_builtin; refine wpList_app1B g2 _ _ gs 0 A8.out hl2' (.tmp 40) (.tmp 42) rfl rfl rfl rfl ?_; intro g2' v8' w9 hN9 hW9 hG9)
        have HN := Lib.hid (CkRel.app8 HD7.out a7 a9 a10 a11 hN9 hW9 hG9)
        go_roundw
        case rel => exact ⟨q + 1, _, _, by omega, by go_num, by rw [List.length_append, hl1]; rfl, by rw [List.length_append, hl2]; rfl, HN.out.mono (by omega)⟩
        case measure => simp [intOf]; omega
      · have h0' : (v7x == 0) = false := by simpa using h0
        by_cases h1 : v7x = 1
        · subst h1
          clear h0 h0'
          go_wp2_with fail
          ((with_reducible refine (l91Good _ (0 + 60 + 6 * q + 2 + 1) _ HD7.out.rd (by omega)).mono ?_); rintro e w8 ⟨y, rfl, hy0, hy1, r8, g8⟩)
          have HD8 := Lib.hid (HD7.out.grown g8 r8)
          clear r8 g8 HD7
          obtain ⟨g1, g2, a7, a8, a9, a10, a11⟩ := HD8.out.2.2.2.2.2.2
          have A8 := Lib.hid a8
          have hl2' : gs.length ≤ 10000000 := by omega
          clear a8
          go_wp2_with (at_builtin; refine wpList_app1B g2 _ _ gs y A8.out hl2' (.tmp 40) (.tmp 42) rfl rfl rfl rfl ?_; intro g2' v8' w9 hN9 hW9 hG9)
          have HN := Lib.hid (CkRel.app8 HD8.out a7 a9 a10 a11 hN9 hW9 hG9)
          go_roundw
          case rel => exact ⟨q + 1, _, _, by omega, by go_num, by rw [List.length_append, hl1]; rfl, by rw [List.length_append, hl2]; rfl, HN.out.mono (by omega)⟩
          case measure => simp [intOf]; omega
        · have h1' : (v7x == 1) = false := by simpa using h1
          clear h0 h1
          obtain ⟨g1, g2, a7, a8, a9, a10, a11⟩ := HD7.out.2.2.2.2.2.2
          have A8 := Lib.hid a8
          have hl2' : gs.length ≤ 10000000 := by omega
          clear a8
          go_wp2_with (at_builtin; refine wpList_app1B g2 _ _ gs x A8.out hl2' (.tmp 40) (.tmp 42) rfl rfl rfl rfl ?_; intro g2' v8' w9 hN9 hW9 hG9)
          have HN := Lib.hid (CkRel.app8 HD7.out a7 a9 a10 a11 hN9 hW9 hG9)
          go_roundw
          case rel => exact ⟨q + 1, _, _, by omega, by go_num, by rw [List.length_append, hl1]; rfl, by rw [List.length_append, hl2]; rfl, HN.out.mono (by omega)⟩
          case measure => simp [intOf]; omega
    · obtain rfl : q = 3 := by omega
      have hl3 : ps.length = 3 := hl1
      have hl4 : gs.length = 3 := hl2
      go_wp2_with fail
      ((with_reducible refine (pick _ (0 + 60 + 6 * 3) 24 _ hT.out.rd (by omega) (by omega) (by omega)).mono ?_); rintro e w3 ⟨v, rfl, hv0, hv1, r3, g3, s3⟩)
      have HD := Lib.hid (hT.out.grown g3 r3)
      clear r3 g3 s3 hT
      obtain ⟨b1, c1, b2, c2, rfl, rfl, o1, o2, hb12, hb1, hb2, l1, l2⟩ := HD.out.parts
      have O1 := Lib.hid o1
      have O2 := Lib.hid o2
      have hc1 := o1.ints.cap_
      have hc2 := o2.ints.cap_
      have hc1m := o1.ints.2.2.1
      have hc2m := o2.ints.2.2.1
      unfold maxLen at hc1m hc2m
      clear o1 o2
      by_cases h0 : v = 0
      · subst h0
        have hc1i : (2 : Int) ≤ (c1 : Int) := by omega
        have HE : Hid (CkEnd bv w w3 ep A k es (some ⟨b1, 0, none⟩) 2 c1 (some ⟨b2, 0, none⟩) gs.length c2 (ps.take 2) gs) := by
          obtain ⟨e1, e2, e3, e4, e5, e6, e7⟩ := ck_fin HD.out O1.out O2.out hb1 hb2 l1 l2
          exact ⟨e1, e2, e3, e4, e5, e6.take (by omega), e7⟩
        have HP := Lib.hid (ck_done HE.out GD.out (show 2 ≤ 3 by omega) (show gs.length ≤ 3 by omega) (.int .i64 ep) (.slice A es.length k))
        obtain ⟨x0, x1, xf⟩ := HE.out.2.1.cells
        obtain ⟨u0, u1, uf⟩ := HE.out.1.cells
        have hbv : ¬ bv = w.heap.size := by have := HE.out.2.2.2.2.1; omega
        have hbv2 : ¬ w.heap.size = bv := fun e => hbv e.symm
        have kE := (dbox_same (dbox_same HE.out.2.1 (Below.heap_setCell _ ⟨w.heap.size, 0, none⟩ (.int .i64 ep) _ hbv)) (Below.heap_setCell _ ⟨w.heap.size, 1, none⟩ (.slice A es.length k) _ hbv)).cells
        clear HE HD O1 O2
        go_upto_region 24 with (fail)
        go_region_law (fail)
        all_goals
          go_wp2
          refine bodyPost_ret (v := ?_) ?_ rfl ?_
          rotate_left
          · rw [results_tct rfl]
            go_simp
            try rfl
          · have hz := HP.out
            simp only [hl4] at hz
            exact ck_dr hz
      have h0' : (v == 0) = false := by simpa using h0
      by_cases h1 : v = 1
      · subst h1
        go_wp2_with fail
        ((with_reducible refine (pick _ (0 + 60 + 6 * 3 + 1) 3 _ HD.out.rd (by omega) (by omega) (by omega)).mono ?_); rintro e w4 ⟨v4, rfl, h40, h41, r4, g4, s4⟩)
        obtain ⟨i, rfl⟩ := Int.eq_ofNat_of_zero_le h40
        have hi3 : i < gs.length := by omega
        have hi3i : (i : Int) < (gs.length : Int) := by omega
        have HD4 := Lib.hid (HD.out.grown g4 r4)
        have O14 := Lib.hid (O1.out.grown g4 (fun b e => by cases e; have := HD.out.2.2.2.2.2.1; omega))
        have O24 := Lib.hid (O2.out.grown g4 (fun b e => by cases e; have := HD.out.2.2.2.2.2.1; omega))
        have l14 : b1 < w4.heap.size := Nat.lt_of_lt_of_le l1 g4.size
        have l24 : b2 < w4.heap.size := Nat.lt_of_lt_of_le l2 g4.size
        clear r4 g4 s4 HD O1 O2 l1 l2
        go_wp2_with fail
        ((with_reducible refine (pick _ (0 + 60 + 6 * 3 + 1 + 1) 2 _ HD4.out.rd (by omega) (by omega) (by omega)).mono ?_); rintro e w5 ⟨v5, rfl, h50, h51, r5, g5, s5⟩)
        have HD := Lib.hid (HD4.out.grown g5 r5)
        have O1 := Lib.hid (O14.out.grown g5 (fun b e => by cases e; have := HD4.out.2.2.2.2.2.1; omega))
        have O2 := Lib.hid (O24.out.grown g5 (fun b e => by cases e; have := HD4.out.2.2.2.2.2.1; omega))
        have l1 : b1 < w5.heap.size := Nat.lt_of_lt_of_le l14 g5.size
        have l2 : b2 < w5.heap.size := Nat.lt_of_lt_of_le l24 g5.size
        clear r5 g5 s5 HD4 O14 O24 l14 l24
        have hw5 : IntKind.i64.wrap (v5 * 998) = v5 * 998 := IntWalk.i64_in _ (by omega)
        have hw6 : IntKind.i64.wrap (v5 * 998 - 1) = v5 * 998 - 1 := IntWalk.i64_in _ (by omega)
        have HE : Hid (CkEnd bv w (w5.setCell ⟨b2, i, none⟩ (.int .i64 (v5 * 998 - 1))) ep A k es (some ⟨b1, 0, none⟩) ps.length c1 (some ⟨b2, 0, none⟩) gs.length c2 ps (gs.set i (v5 * 998 - 1))) :=
          ck_set HD.out hb2 _ _ ((set_that O1.out.ints rfl rfl hb12 _).mono (by omega) (by omega)) ((set_this O2.out hi3 _).mono (by omega) (by omega))
        obtain ⟨_, _, e2, _, _, cg⟩ := O2.out.ints.at_ hi3
        simp only [Option.some.injEq, Addr.mk.injEq, and_true] at e2
        obtain ⟨rfl, rfl⟩ := e2
        rw [Nat.zero_add] at cg
        have fg := O2.out.2 b2 0 (by omega) rfl i hi3
        rw [Nat.zero_add] at fg
        have HP := Lib.hid (ck_done HE.out GD.out (show ps.length ≤ 3 by omega) (show gs.length ≤ 3 by omega) (.int .i64 ep) (.slice A es.length k))
        obtain ⟨x0, x1, xf⟩ := HE.out.2.1.cells
        obtain ⟨u0, u1, uf⟩ := HE.out.1.cells
        have hbv : ¬ bv = w.heap.size := by have := HE.out.2.2.2.2.1; omega
        have hbv2 : ¬ w.heap.size = bv := fun e => hbv e.symm
        have kE := (dbox_same (dbox_same HE.out.2.1 (Below.heap_setCell _ ⟨w.heap.size, 0, none⟩ (.int .i64 ep) _ hbv)) (Below.heap_setCell _ ⟨w.heap.size, 1, none⟩ (.slice A es.length k) _ hbv)).cells
        clear HD O1 O2
        go_upto_region 24 with (fail)
        go_region_law (fail)
        all_goals
          go_wp2
          refine bodyPost_ret (v := ?_) ?_ rfl ?_
          rotate_left
          · rw [results_tct rfl]
            go_simp
            try rfl
          · have hz := HP.out
            simp only [hl3, hl4] at hz
            exact ck_dr hz
      have h1' : (v == 1) = false := by simpa using h1
      by_cases h2 : v = 2
      · subst h2
        go_wp2_with fail
        ((with_reducible refine (pick _ (0 + 60 + 6 * 3 + 1) 3 _ HD.out.rd (by omega) (by omega) (by omega)).mono ?_); rintro e w4 ⟨v4, rfl, h40, h41, r4, g4, s4⟩)
        obtain ⟨i, rfl⟩ := Int.eq_ofNat_of_zero_le h40
        have hi3 : i < ps.length := by omega
        have hi3i : (i : Int) < (ps.length : Int) := by omega
        have HD4 := Lib.hid (HD.out.grown g4 r4)
        have O14 := Lib.hid (O1.out.grown g4 (fun b e => by cases e; have := HD.out.2.2.2.2.2.1; omega))
        have O24 := Lib.hid (O2.out.grown g4 (fun b e => by cases e; have := HD.out.2.2.2.2.2.1; omega))
        have l14 : b1 < w4.heap.size := Nat.lt_of_lt_of_le l1 g4.size
        have l24 : b2 < w4.heap.size := Nat.lt_of_lt_of_le l2 g4.size
        clear r4 g4 s4 HD O1 O2 l1 l2
        go_wp2_with fail
        ((with_reducible refine (l91Is _ (0 + 60 + 6 * 3 + 1 + 1) _ HD4.out.rd (by omega)).mono ?_); rintro e w5 ⟨v5, rfl, h50, h51, r5, g5⟩)
        have HD := Lib.hid (HD4.out.grown g5 r5)
        have O1 := Lib.hid (O14.out.grown g5 (fun b e => by cases e; have := HD4.out.2.2.2.2.2.1; omega))
        have O2 := Lib.hid (O24.out.grown g5 (fun b e => by cases e; have := HD4.out.2.2.2.2.2.1; omega))
        have l1 : b1 < w5.heap.size := Nat.lt_of_lt_of_le l14 g5.size
        have l2 : b2 < w5.heap.size := Nat.lt_of_lt_of_le l24 g5.size
        clear r5 g5 HD4 O14 O24 l14 l24
        have HE : Hid (CkEnd bv w (w5.setCell ⟨b1, i, none⟩ (.int .i64 v5)) ep A k es (some ⟨b1, 0, none⟩) ps.length c1 (some ⟨b2, 0, none⟩) gs.length c2 (ps.set i v5) gs) :=
          ck_set HD.out hb1 _ _ ((set_this O1.out hi3 _).mono (by omega) (by omega)) ((set_that O2.out.ints rfl rfl (Ne.symm hb12) _).mono (by omega) (by omega))
        obtain ⟨_, _, e2, _, _, cg⟩ := O1.out.ints.at_ hi3
        simp only [Option.some.injEq, Addr.mk.injEq, and_true] at e2
        obtain ⟨rfl, rfl⟩ := e2
        rw [Nat.zero_add] at cg
        have fg := O1.out.2 b1 0 (by omega) rfl i hi3
        rw [Nat.zero_add] at fg
        have HP := Lib.hid (ck_done HE.out GD.out (show ps.length ≤ 3 by omega) (show gs.length ≤ 3 by omega) (.int .i64 ep) (.slice A es.length k))
        obtain ⟨x0, x1, xf⟩ := HE.out.2.1.cells
        obtain ⟨u0, u1, uf⟩ := HE.out.1.cells
        have hbv : ¬ bv = w.heap.size := by have := HE.out.2.2.2.2.1; omega
        have hbv2 : ¬ w.heap.size = bv := fun e => hbv e.symm
        have kE := (dbox_same (dbox_same HE.out.2.1 (Below.heap_setCell _ ⟨w.heap.size, 0, none⟩ (.int .i64 ep) _ hbv)) (Below.heap_setCell _ ⟨w.heap.size, 1, none⟩ (.slice A es.length k) _ hbv)).cells
        clear HD O1 O2
        go_upto_region 24 with (fail)
        go_region_law (fail)
        all_goals
          go_wp2
          refine bodyPost_ret (v := ?_) ?_ rfl ?_
          rotate_left
          · rw [results_tct rfl]
            go_simp
            try rfl
          · have hz := HP.out
            simp only [hl3, hl4] at hz
            exact ck_dr hz
      have h2' : (v == 2) = false := by simpa using h2
      have HE := Lib.hid (ck_fin HD.out O1.out O2.out hb1 hb2 l1 l2)
      have HP := Lib.hid (ck_done HE.out GD.out (show ps.length ≤ 3 by omega) (show gs.length ≤ 3 by omega) (.int .i64 ep) (.slice A es.length k))
      obtain ⟨x0, x1, xf⟩ := HE.out.2.1.cells
      obtain ⟨u0, u1, uf⟩ := HE.out.1.cells
      have hbv : ¬ bv = w.heap.size := by have := HE.out.2.2.2.2.1; omega
      have hbv2 : ¬ w.heap.size = bv := fun e => hbv e.symm
      have kE := (dbox_same (dbox_same HE.out.2.1 (Below.heap_setCell _ ⟨w.heap.size, 0, none⟩ (.int .i64 ep) _ hbv)) (Below.heap_setCell _ ⟨w.heap.size, 1, none⟩ (.slice A es.length k) _ hbv)).cells
      clear HE HD O1 O2 h0 h1 h2
      go_upto_region 24 with (fail)
      go_region_law (fail)
      all_goals
        go_wp2
        refine bodyPost_ret (v := ?_) ?_ rfl ?_
        rotate_left
        · rw [results_tct rfl]
          go_simp
          try rfl
        · have hz := HP.out
          simp only [hl3, hl4] at hz
          exact ck_dr hz

end Rd
end Go.Proofs.Ytfnbjojaflloaab
