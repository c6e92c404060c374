/-
  A copy of a packet, and what its proof needs (split off from Dr5p: no code, no reader).
-/
import Derived.Test.YtnjcpbkpcmemeacIla
import Derived.Test.YtnjcpbkpcmemeacHlp5
import Derived.Test.YtnjcpbkpcmemeacSp5c
import Derived.Deep.RegionHeld3
import Derived.BigRegion
import Derived.Deep.Cut
namespace Go.Proofs.Ytnjcpbkpcmemeac
open Go.RowKit
namespace Rd
open Il Pm Pq Hlp5

theorem ints_top {lo hi : Nat} {w : World} {A : Option Addr} {n c : Nat} {xs : List Int} (h : Ints lo hi w A n c xs) : Ints lo w.heap.size w A n c xs :=
  ⟨h.1, h.2.1, h.2.2.1, fun hn => by
    obtain ⟨b, off, e, h1, _, hz, hc⟩ := h.2.2.2 hn
    exact ⟨b, off, e, h1, hz, hz, hc⟩⟩
theorem results_cell1 {fn : Func} {p : Tmp} {ty : TypeId} (h : fn.results = #[.cell p ty]) (tmps : Array Value) (P : Program) (w : World) :
    (results fn tmps).run P w = ((asAddr (tmps.getD p undef)).run P w).andThen fun a w₁ => (loadVar ty a).run P w₁ := by
  simp only [results, h]
  simp [Sem.run_bind, Result.andThen]
theorem accB_own {g : Nat} {w : World} {A : Option Addr} {n c : Nat} {ys : List Int} (h : AccB g w (.slice A n c) ys) : Il.Own g (g + 1) w A n c ys := by
  obtain ⟨cap, e, ho⟩ := h.own
  simp only [Value.slice.injEq] at e
  obtain ⟨rfl, rfl, rfl⟩ := e
  exact ho
theorem far1 {w : World} {g b o i : Nat} (h : b ≠ g) (v : Value) : (w.setCell ⟨g, o, none⟩ v).cell? ⟨b, i, none⟩ = w.cell? ⟨b, i, none⟩ := World.cell?_of_block (Below.heap_setCell _ _ _ _ h)
theorem set6 {w : World} {g : Nat} {u0 u1 u2 u3 u4 u5 v0 v1 v2 v3 v4 v5 : Value} {t : TypeId} (h : w.heap[g]? = some (.cells #[u0, u1, u2, u3, u4, u5] t (0, 0))) :
    ((((((w.setCell ⟨g, 0, none⟩ v0).setCell ⟨g, 1, none⟩ v1).setCell ⟨g, 2, none⟩ v2).setCell ⟨g, 3, none⟩ v3).setCell ⟨g, 4, none⟩ v4).setCell ⟨g, 5, none⟩ v5).heap[g]? = some (.cells #[v0, v1, v2, v3, v4, v5] t (0, 0)) ∧
    ∀ B, B ≤ g → Below B w ((((((w.setCell ⟨g, 0, none⟩ v0).setCell ⟨g, 1, none⟩ v1).setCell ⟨g, 2, none⟩ v2).setCell ⟨g, 3, none⟩ v3).setCell ⟨g, 4, none⟩ v4).setCell ⟨g, 5, none⟩ v5) := by
  refine ⟨?_, fun B hB => ((((((Below.refl B w).setCell hB _).setCell hB _).setCell hB _).setCell hB _).setCell hB _).setCell hB _⟩
  simp [World.setCell, Array.getElem?_modify, h]
theorem lies_far {w w' : World} {b1 b2 g : Nat} {A B : Option Addr} {c d : Nat} {p : Pkt} (h : Lies w b1 b2 A c B d p) (hs : w.heap.size ≤ w'.heap.size) (hf : ∀ i, i ≠ g → w'.heap[i]? = w.heap[i]?) (h1 : b1 ≠ g) (h2 : b2 ≠ g) : Lies w' b1 b2 A c B d p :=
  h.keep hs fun b hb _ => hf b (by rcases hb with rfl | rfl; exact h1; exact h2)
theorem set6_far (w : World) (g : Nat) (v0 v1 v2 v3 v4 v5 : Value) : ∀ i, i ≠ g → ((((((w.setCell ⟨g, 0, none⟩ v0).setCell ⟨g, 1, none⟩ v1).setCell ⟨g, 2, none⟩ v2).setCell ⟨g, 3, none⟩ v3).setCell ⟨g, 4, none⟩ v4).setCell ⟨g, 5, none⟩ v5).heap[i]? = w.heap[i]? := fun _ hi =>
  (Below.heap_setCell _ _ _ _ hi).trans ((Below.heap_setCell _ _ _ _ hi).trans ((Below.heap_setCell _ _ _ _ hi).trans ((Below.heap_setCell _ _ _ _ hi).trans ((Below.heap_setCell _ _ _ _ hi).trans (Below.heap_setCell _ _ _ _ hi)))))
theorem set4_far (w : World) (g : Nat) (v0 v1 v2 v3 : Value) : ∀ i, i ≠ g → ((((w.setCell ⟨g, 0, none⟩ v0).setCell ⟨g, 1, none⟩ v1).setCell ⟨g, 2, none⟩ v2).setCell ⟨g, 3, none⟩ v3).heap[i]? = w.heap[i]? := fun _ hi =>
  (Below.heap_setCell _ _ _ _ hi).trans ((Below.heap_setCell _ _ _ _ hi).trans ((Below.heap_setCell _ _ _ _ hi).trans (Below.heap_setCell _ _ _ _ hi)))
theorem grown_set (w : World) (p : Addr) (v : Value) : w.grownBy (w.setCell p v) (some p.block) :=
  ⟨rfl, rfl, rfl, by simp [World.setCell], fun i _ hne => Below.heap_setCell w p v i (fun e => hne (by rw [e]))⟩
theorem accB_set4 {w : World} {g b : Nat} {v : Value} {ys : List Int} (h : AccB g w v ys) (hne : b ≠ g) (u0 u1 u2 u3 : Value) :
    AccB g ((((w.setCell ⟨b, 0, none⟩ u0).setCell ⟨b, 1, none⟩ u1).setCell ⟨b, 2, none⟩ u2).setCell ⟨b, 3, none⟩ u3) v ys :=
  (((h.keep (grown_set _ _ _) (by simpa using hne)).keep (grown_set _ _ _) (by simpa using hne)).keep (grown_set _ _ _) (by simpa using hne)).keep (grown_set _ _ _) (by simpa using hne)
theorem below_set4 {w0 w : World} {B b : Nat} (h : Below B w0 w) (hb : B ≤ b) (u0 u1 u2 u3 : Value) :
    Below B w0 ((((w.setCell ⟨b, 0, none⟩ u0).setCell ⟨b, 1, none⟩ u1).setCell ⟨b, 2, none⟩ u2).setCell ⟨b, 3, none⟩ u3) :=
  (((h.setCell hb _).setCell hb _).setCell hb _).setCell hb _
theorem blk_grown {w w' : World} {b : Nat} {cs : Array Value} {t : TypeId} {row : Option Nat} (h : Blk w b cs t) (hg : w.grownBy w' row) (hr : row ≠ some b) : Blk w' b cs t :=
  (hg.block b (Array.getElem?_eq_some_iff.1 h).1 (fun e => hr e.symm)).trans h
theorem blk_set {w : World} {b i : Nat} {cs : Array Value} {t : TypeId} (h : Blk w b cs t) (v : Value) : Blk (w.setCell ⟨b, i, none⟩ v) b (cs.setIfInBounds i v) t := by
  unfold Blk at *
  simp [World.setCell, Array.getElem?_modify, h]
theorem blk_lt {w : World} {b : Nat} {cs : Array Value} {t : TypeId} (h : Blk w b cs t) : b < w.heap.size := (Array.getElem?_eq_some_iff.1 h).1
theorem below_g {B : Nat} {w0 w w' : World} {row : Option Nat} (h : Below B w0 w) (hg : w.grownBy w' row) (hs : B ≤ w.heap.size) (hr : ∀ k, row = some k → B ≤ k) : Below B w0 w' := h.grown hg hs hr

def CopyPost (p : Pkt) (w : World) (e : Ending) (w' : World) : Prop :=
  ∃ g1 c g2 d, e = .returned (.agg #[.int .i64 p.el, .slice (some ⟨g1, 0, none⟩) p.hd.length c, .int .i64 p.tag, .slice (some ⟨g2, 0, none⟩) p.bd.length d]) ∧ AccB g1 w' (.slice (some ⟨g1, 0, none⟩) p.hd.length c) p.hd ∧ AccB g2 w' (.slice (some ⟨g2, 0, none⟩) p.bd.length d) p.bd ∧ g1 ≠ g2 ∧ w.heap.size ≤ g1 ∧ w.heap.size ≤ g2 ∧ Below w.heap.size w w'
set_option maxHeartbeats 1000000 in
set_option maxRecDepth 20000 in
theorem l11Packet (p : Pkt) (A B : Option Addr) (c d l1 h1 l2 h2 : Nat) (w : World) (i1 : Ints l1 h1 w A p.hd.length c p.hd) (i2 : Ints l2 h2 w B p.bd.length d p.bd) (hn : p.hd.length ≤ 1000) (hm : p.bd.length ≤ 1000) :
    Calls Try.prog 96 #[.agg #[.int .i64 p.el, .slice A p.hd.length c, .int .i64 p.tag, .slice B p.bd.length d]] w (CopyPost p w) := by
  replace i1 := ints_top i1
  replace i2 := ints_top i2
  obtain ⟨el, hd, tag, bd⟩ := p
  dsimp only at *
  have h0a : Below w.heap.size w (w.alloc (.cells #[.int .i64 el, .slice A hd.length c, .int .i64 tag, .slice B bd.length d] 37)) := (Below.refl _ _).alloc (Nat.le_refl _) _
  have h0 : Below w.heap.size w ((w.alloc (.cells #[.int .i64 el, .slice A hd.length c, .int .i64 tag, .slice B bd.length d] 37)).alloc (.cells #[.int .i64 0, .slice none 0 0, .int .i64 0, .slice none 0 0] 37)) := h0a.alloc h0a.size (.cells #[.int .i64 0, .slice none 0 0, .int .i64 0, .slice none 0 0] 37)
  have hz0 : Blk ((w.alloc (.cells #[.int .i64 el, .slice A hd.length c, .int .i64 tag, .slice B bd.length d] 37)).alloc (.cells #[.int .i64 0, .slice none 0 0, .int .i64 0, .slice none 0 0] 37)) w.heap.size #[.int .i64 el, .slice A hd.length c, .int .i64 tag, .slice B bd.length d] 37 := (Below.heap_alloc _ _ _ (by simp)).trans (heap_alloc_new w _)
  have hz1 : Blk ((w.alloc (.cells #[.int .i64 el, .slice A hd.length c, .int .i64 tag, .slice B bd.length d] 37)).alloc (.cells #[.int .i64 0, .slice none 0 0, .int .i64 0, .slice none 0 0] 37)) (w.heap.size + 1) #[.int .i64 0, .slice none 0 0, .int .i64 0, .slice none 0 0] 37 := by
    have := heap_alloc_new (w.alloc (.cells #[.int .i64 el, .slice A hd.length c, .int .i64 tag, .slice B bd.length d] 37)) (.cells #[.int .i64 0, .slice none 0 0, .int .i64 0, .slice none 0 0] 37)
    simpa [Blk] using this
  have hsW : ((w.alloc (.cells #[.int .i64 el, .slice A hd.length c, .int .i64 tag, .slice B bd.length d] 37)).alloc (.cells #[.int .i64 0, .slice none 0 0, .int .i64 0, .slice none 0 0] 37)).heap.size = w.heap.size + 1 + 1 := by simp
  have ha0 : Below ((w.alloc (.cells #[.int .i64 el, .slice A hd.length c, .int .i64 tag, .slice B bd.length d] 37)).alloc (.cells #[.int .i64 0, .slice none 0 0, .int .i64 0, .slice none 0 0] 37)).heap.size ((w.alloc (.cells #[.int .i64 el, .slice A hd.length c, .int .i64 tag, .slice B bd.length d] 37)).alloc (.cells #[.int .i64 0, .slice none 0 0, .int .i64 0, .slice none 0 0] 37)) (((w.alloc (.cells #[.int .i64 el, .slice A hd.length c, .int .i64 tag, .slice B bd.length d] 37)).alloc (.cells #[.int .i64 0, .slice none 0 0, .int .i64 0, .slice none 0 0] 37)).alloc (.cells #[] 3)) := (Below.refl _ _).alloc (Nat.le_refl _) _
  have ha := accB_new ((w.alloc (.cells #[.int .i64 el, .slice A hd.length c, .int .i64 tag, .slice B bd.length d] 37)).alloc (.cells #[.int .i64 0, .slice none 0 0, .int .i64 0, .slice none 0 0] 37))
  have hsA : (((w.alloc (.cells #[.int .i64 el, .slice A hd.length c, .int .i64 tag, .slice B bd.length d] 37)).alloc (.cells #[.int .i64 0, .slice none 0 0, .int .i64 0, .slice none 0 0] 37)).alloc (.cells #[] 3)).heap.size = w.heap.size + 1 + 1 + 1 := by simp
  have I1 := Lib.hid ((i1.below h0 (Nat.le_refl _)).below ha0 (Nat.le_refl _))
  have I2 := Lib.hid ((i2.below h0 (Nat.le_refl _)).below ha0 (Nat.le_refl _))
  have Z0 := Lib.hid (hz0.below ha0 (Nat.le_refl _))
  have Z1 := Lib.hid (hz1.below ha0 (Nat.le_refl _))
  have B0 := Lib.hid (h0.trans (ha0.mono h0.size))
  rw [hsW] at ha
  have HA := Lib.hid ha
  have HSA := Lib.hid hsA
  clear i1 i2 h0a h0 hz0 hz1 hsW ha0 ha hsA
  go_enter Try.func96, Try.ntmps96
  go_upto_region 2 with (at_builtin; refine wpList_appLB _ _ _ _ HA.out _ _ _ _ _ _ I1.out (by simp <;> omega) (.tmp 3) (.tmp 5) rfl rfl rfl rfl ?_; intro g1 v1 w1 hN1 hW1 hG1; rw [List.nil_append] at hN1; have hN1' := hN1; obtain ⟨c1, rfl, _⟩ := hN1'; obtain ⟨k0, k1, k2, k3, kf⟩ := four_cells (blk_grown Z0.out hG1 (by simp <;> omega)))
  have hs1 := hG1.size
  rw [HSA.out] at hs1
  rw [HSA.out] at hW1
  have hlt1 := hN1.lt
  have hgs := grown_set w1 ⟨w.heap.size, 1, none⟩ (.slice (some ⟨g1, 0, none⟩) hd.length c1)
  have hss : (w1.setCell ⟨w.heap.size, 1, none⟩ (.slice (some ⟨g1, 0, none⟩) hd.length c1)).heap.size = w1.heap.size := by simp [World.setCell]
  have A1 := Lib.hid (hN1.keep hgs (by simp <;> omega))
  have J2 := Lib.hid ((I2.out.grown hG1 (by simp <;> omega)).grown hgs (by simp))
  have Y0 := Lib.hid (blk_set (i := 1) (blk_grown Z0.out hG1 (by simp <;> omega)) (.slice (some ⟨g1, 0, none⟩) hd.length c1))
  have Y1 := Lib.hid (blk_grown (blk_grown Z1.out hG1 (by simp <;> omega)) hgs (by simp))
  have B1 := Lib.hid (below_g (below_g B0.out hG1 (by rw [HSA.out]; omega) (by simp <;> omega)) hgs (by omega) (by simp))
  clear k0 k1 k2 k3 kf hN1 hG1 hgs HA I1 I2 Z0 Z1 B0 HSA
  generalize (w1.setCell ⟨w.heap.size, 1, none⟩ (.slice (some ⟨g1, 0, none⟩) hd.length c1)) = w2 at *
  have hs2 : w1.heap.size ≤ w2.heap.size := Nat.le_of_eq hss.symm
  clear hss
  have hal : Below w2.heap.size w2 (w2.alloc (.cells #[] 3)) := (Below.refl _ _).alloc (Nat.le_refl _) _
  have HA2 := Lib.hid (accB_new w2)
  have A1' := Lib.hid (A1.out.alloc (.cells #[] 3))
  have J2' := Lib.hid (J2.out.below hal (Nat.le_refl _))
  have X0 := Lib.hid (Y0.out.below hal (Nat.le_refl _))
  have X1 := Lib.hid (Y1.out.below hal (Nat.le_refl _))
  have B2 := Lib.hid (B1.out.trans (hal.mono (by omega)))
  have hz : (w2.alloc (.cells #[] 3)).heap.size = w2.heap.size + 1 := by simp
  have HSZ := Lib.hid hz
  obtain ⟨k0, k1, k2, k3, kf⟩ := four_cells X0.out
  clear hal A1 J2 Y0 Y1 B1 hz
  go_upto_region 3 with (at_builtin; refine wpList_appLB _ _ _ _ HA2.out _ _ _ _ _ _ J2'.out (by simp <;> omega) (.tmp 8) (.tmp 10) rfl rfl rfl rfl ?_; intro g2 v2 w3 hN2 hW2 hG2; rw [List.nil_append] at hN2; have hN2' := hN2; obtain ⟨d2, rfl, _⟩ := hN2'; obtain ⟨q0, q1, q2, q3, qf⟩ := four_cells (blk_grown X0.out hG2 (by simp <;> omega)))
  have hs3 := hG2.size
  rw [HSZ.out] at hs3
  rw [HSZ.out] at hW2
  have hlt2 := hN2.lt
  have hgs := grown_set w3 ⟨w.heap.size, 3, none⟩ (.slice (some ⟨g2, 0, none⟩) bd.length d2)
  have hss : (w3.setCell ⟨w.heap.size, 3, none⟩ (.slice (some ⟨g2, 0, none⟩) bd.length d2)).heap.size = w3.heap.size := by simp [World.setCell]
  have A2 := Lib.hid (hN2.keep hgs (by simp <;> omega))
  have A1b := Lib.hid ((A1'.out.keep hG2 (by simp <;> omega)).keep hgs (by simp <;> omega))
  have Y0 := Lib.hid (blk_set (i := 3) (blk_grown X0.out hG2 (by simp <;> omega)) (.slice (some ⟨g2, 0, none⟩) bd.length d2))
  have Y1 := Lib.hid (blk_grown (blk_grown X1.out hG2 (by simp <;> omega)) hgs (by simp))
  have B3 := Lib.hid (below_g (below_g B2.out hG2 (by rw [HSZ.out]; omega) (by simp <;> omega)) hgs (by omega) (by simp))
  clear k0 k1 k2 k3 kf q0 q1 q2 q3 qf hN2 hG2 hgs HA2 A1' J2' X0 X1 B2 HSZ
  generalize (w3.setCell ⟨w.heap.size, 3, none⟩ (.slice (some ⟨g2, 0, none⟩) bd.length d2)) = w4 at *
  have hs4 : w3.heap.size ≤ w4.heap.size := Nat.le_of_eq hss.symm
  clear hss
  obtain ⟨k0, k1, k2, k3, kf⟩ := four_cells Y0.out
  obtain ⟨z0, z1, z2, z3, zf⟩ := four_cells Y1.out
  go_wp2
  refine bodyPost_ret (v := .agg #[.int .i64 el, .slice (some ⟨g1, 0, none⟩) hd.length c1, .int .i64 tag, .slice (some ⟨g2, 0, none⟩) bd.length d2]) ?_ rfl ?_
  · rw [results_cell1 rfl]
    go_simp
  · exact ⟨g1, c1, g2, d2, rfl, accB_set4 A1b.out (by omega) _ _ _ _, accB_set4 A2.out (by omega) _ _ _ _, by omega, by omega, by omega, below_set4 B3.out (by omega) _ _ _ _⟩


end Rd
end Go.Proofs.Ytnjcpbkpcmemeac
