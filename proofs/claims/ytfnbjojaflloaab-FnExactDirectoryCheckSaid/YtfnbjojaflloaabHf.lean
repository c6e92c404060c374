/-
  Contracts of the laws' helpers on directories: sizes, copies, equality, marks.
-/
import Derived.Test.YtfnbjojaflloaabHed
namespace Go.Proofs.Ytfnbjojaflloaab
open Go.RowKit
namespace Hf
open Il Sl Ec Dm Sp9 He

theorem results_cell1 {fn : Func} {p : Tmp} {ty : TypeId} (h : fn.results = #[.cell p ty]) (tmps : Array Value) (P : Program) (w : World) :
    (results fn tmps).run P w = ((asAddr (tmps.getD p undef)).run P w).andThen fun a w₁ => (loadVar ty a).run P w₁ := by
  simp only [results, h]
  simp [Sem.run_bind]
/-- Two cells in a block of their own. -/
def Blk2 (w : World) (b : Nat) (u v : Value) (t : TypeId) : Prop := w.heap[b]? = some (.cells #[u, v] t (0, 0))
theorem Blk2.cells {w : World} {b : Nat} {u v : Value} {t : TypeId} (h : Blk2 w b u v t) : w.cell? ⟨b, 0, none⟩ = some u ∧ w.cell? ⟨b, 1, none⟩ = some v ∧ ∀ j, w.frozen? ⟨b, j, none⟩ = false := by
  refine ⟨?_, ?_, fun j => by unfold Blk2 at h; simp [World.frozen?, h]⟩
  all_goals rw [cell_of_row _ _ _ _ _ _ h]; rfl
theorem Blk2.lt {w : World} {b : Nat} {u v : Value} {t : TypeId} (h : Blk2 w b u v t) : b < w.heap.size := (Array.getElem?_eq_some_iff.1 h).1
theorem Blk2.below {w w' : World} {b : Nat} {u v : Value} {t : TypeId} (h : Blk2 w b u v t) (hb : Below w.heap.size w w') : Blk2 w' b u v t := (hb.block b h.lt).trans h
theorem blk2_new (w : World) (u v : Value) (t : TypeId) : Blk2 (w.alloc (.cells #[u, v] t)) w.heap.size u v t := heap_alloc_new _ _
theorem Blk2.alloc {w : World} {b : Nat} {u v : Value} {t : TypeId} (h : Blk2 w b u v t) (o : Obj) : Blk2 (w.alloc o) b u v t := h.below ((Below.refl _ _).alloc (Nat.le_refl _) o)

theorem szDirectory (ep : Int) (n c : Nat) (A : Option Addr) (w : World) (hc : c ≤ 9223372036854775807) (hn : n ≤ c) :
    Calls Try.prog 31 #[.agg #[.int .i64 ep, .slice A n c], .int .i64 1048576] w fun e w' => (∃ v : Int, e = .returned (.int .i64 v) ∧ (v < 0 ∨ (0 ≤ v ∧ n ≤ 1048576))) ∧ Below w.heap.size w w' := by
  have HAL : Hid (Below w.heap.size w (w.alloc (.cells #[.int .i64 ep, .slice A n c] 51))) := (Below.refl _ _).alloc (Nat.le_refl _) _
  by_cases h : n ≤ 1048576
  · have e0 : decide (1048576 - (n : Int) < 0) = false := by simp; omega
    go_enter Try.func31, Try.ntmps31
    go_wp2_with fail
    ((with_reducible refine (sz_yes A n c _ h).mono ?_); rintro e w1 ⟨rfl, rfl⟩)
    go_wp2
    go_ret
    exact ⟨⟨1048576 - (n : Int), rfl, .inr ⟨by omega, h⟩⟩, HAL.out⟩
  · go_enter Try.func31, Try.ntmps31
    go_wp2_with fail
    ((with_reducible refine (sz_no A n c _ hc hn (by omega)).mono ?_); rintro e w1 ⟨rfl, rfl⟩)
    go_wp2
    go_ret
    exact ⟨⟨-1, rfl, .inl (by omega)⟩, HAL.out⟩
/-- A directory of the call's own is returned. -/
def DirO (ep : Int) (es : List En) (w : World) (e : Ending) (w' : World) : Prop := ∃ A k, e = .returned (.agg #[.int .i64 ep, .slice A es.length k]) ∧ EnsO w.heap.size w'.heap.size w' A es.length k es ∧ Below w.heap.size w w'
set_option maxRecDepth 20000 in
theorem toDirectory (ep : Int) (es : List En) (A : Option Addr) (k lo hi : Nat) (w : World) (hx : Ens lo hi w A es.length k es) (hn : es.length ≤ 1048576) :
    Calls Try.prog 32 #[.agg #[.int .i64 ep, .slice A es.length k]] w (DirO ep es w) := by
  have hs1 : (w.alloc (.cells #[.int .i64 ep, .slice A es.length k] 51)).heap.size = w.heap.size + 1 := by simp
  have hs2 : ((w.alloc (.cells #[.int .i64 ep, .slice A es.length k] 51)).alloc (.cells #[.int .i64 0, .slice none 0 0] 40)).heap.size = w.heap.size + 1 + 1 := by simp
  have z0 := ((blk2_new w (.int .i64 ep) (.slice A es.length k) 51).alloc (.cells #[.int .i64 0, .slice none 0 0] 40)).alloc (.cells #[.int .i64 ep, .slice none 0 0] 40)
  have z1 := (blk2_new (w.alloc (.cells #[.int .i64 ep, .slice A es.length k] 51)) (.int .i64 0) (.slice none 0 0) 40).alloc (.cells #[.int .i64 ep, .slice none 0 0] 40)
  have z2 := blk2_new ((w.alloc (.cells #[.int .i64 ep, .slice A es.length k] 51)).alloc (.cells #[.int .i64 0, .slice none 0 0] 40)) (.int .i64 ep) (.slice none 0 0) 40
  rw [hs1] at z1
  rw [hs2] at z2
  have hb3 : Below w.heap.size w (((w.alloc (.cells #[.int .i64 ep, .slice A es.length k] 51)).alloc (.cells #[.int .i64 0, .slice none 0 0] 40)).alloc (.cells #[.int .i64 ep, .slice none 0 0] 40)) :=
    (((Below.refl _ _).alloc (Nat.le_refl _) _).alloc (by omega) _).alloc (by omega) _
  have HX := Lib.hid ((hx.top (Nat.zero_le _)).below hb3 (Nat.le_refl _))
  have HB := Lib.hid hb3
  have K1 := Lib.hid z1
  have K2 := Lib.hid z2
  obtain ⟨p0, p1, pf⟩ := z0.cells
  clear hx z0 z1 z2 hb3 hs1 hs2
  go_enter Try.func32, Try.ntmps32
  go_wp2_with fail
  ((with_reducible refine (toEntryS _ _ _ _ _ es _ HX.out hn).mono ?_); rintro e w1 ⟨A9, k9, rfl, ho, hb⟩)
  replace HB := Lib.hid (HB.out.trans (hb.mono HB.out.size))
  replace K1 := Lib.hid (K1.out.below hb)
  replace K2 := Lib.hid (K2.out.below hb)
  have hlo : w.heap.size + 1 + 1 < (((w.alloc (.cells #[.int .i64 ep, .slice A es.length k] 51)).alloc (.cells #[.int .i64 0, .slice none 0 0] 40)).alloc (.cells #[.int .i64 ep, .slice none 0 0] 40)).heap.size := by simp
  have HP : Hid (DirO ep es w (.returned (.agg #[.int .i64 ep, .slice A9 es.length k9])) (((w1.setCell ⟨w.heap.size + 1 + 1, 1, none⟩ (.slice A9 es.length k9)).setCell ⟨w.heap.size + 1, 0, none⟩ (.int .i64 ep)).setCell ⟨w.heap.size + 1, 1, none⟩ (.slice A9 es.length k9))) := by
    have hsz : (((w1.setCell ⟨w.heap.size + 1 + 1, 1, none⟩ (.slice A9 es.length k9)).setCell ⟨w.heap.size + 1, 0, none⟩ (.int .i64 ep)).setCell ⟨w.heap.size + 1, 1, none⟩ (.slice A9 es.length k9)).heap.size = w1.heap.size := by simp [World.setCell]
    have hs := hb.size
    refine ⟨A9, k9, rfl, EnsO.mono (ho.keep (by omega) fun x hx1 hx2 _ => ?_) (by omega) (by omega), ((HB.out.setCell (p := ⟨w.heap.size + 1 + 1, 1, none⟩) (show w.heap.size ≤ w.heap.size + 1 + 1 by omega) _).setCell (p := ⟨w.heap.size + 1, 0, none⟩) (show w.heap.size ≤ w.heap.size + 1 by omega) _).setCell (p := ⟨w.heap.size + 1, 1, none⟩) (show w.heap.size ≤ w.heap.size + 1 by omega) _⟩
    exact ((Below.heap_setCell _ _ _ _ (show x ≠ w.heap.size + 1 by omega)).trans (Below.heap_setCell _ _ _ _ (show x ≠ w.heap.size + 1 by omega))).trans (Below.heap_setCell _ _ _ _ (show x ≠ w.heap.size + 1 + 1 by omega))
  obtain ⟨q0, q1, qf⟩ := K2.out.cells
  obtain ⟨u0, u1, uf⟩ := K1.out.cells
  clear ho hb p0 p1 pf hlo
  go_wp2
  refine bodyPost_ret (v := .agg #[.int .i64 ep, .slice A9 es.length k9]) ?_ rfl ?_
  · rw [results_cell1 rfl]
    go_simp
  · exact HP.out
theorem eqDirectory (ep : Int) (es : List En) (A B : Option Addr) (n k d l1 h1 l2 h2 : Nat) (w : World) (i1 : Ens l1 h1 w A n k es) (i2 : Ens l2 h2 w B n d es) :
    Calls Try.prog 33 #[.agg #[.int .i64 ep, .slice A n k], .agg #[.int .i64 ep, .slice B n d]] w (BoolB true w) := by
  have hb : Below w.heap.size w ((w.alloc (.cells #[.int .i64 ep, .slice A n k] 40)).alloc (.cells #[.int .i64 ep, .slice B n d] 40)) := ((Below.refl _ _).alloc (Nat.le_refl _) _).alloc (by simp) _
  have I1 := Lib.hid (i1.below hb (Nat.le_refl _))
  have I2 := Lib.hid (i2.below hb (Nat.le_refl _))
  have B0 := Lib.hid hb
  clear i1 i2 hb
  go_enter Try.func33, Try.ntmps33
  go_wp2_with fail
  ((with_reducible refine (eqEntryS _ _ _ _ _ _ _ _ _ es _ I1.out I2.out).mono ?_); rintro e w1 ⟨rfl, hb⟩)
  have B1 := Lib.hid (B0.out.trans (hb.mono B0.out.size))
  clear B0 hb
  go_wp2
  go_ret
  exact ⟨rfl, B1.out⟩
/-- All that was there is as it was, but for the blocks from lo on below hi. -/
structure KeptA (lo hi : Nat) (w w' : World) : Prop where
  os : w'.os = w.os
  tape : w'.tape = w.tape
  output : w'.output = w.output
  size : w.heap.size ≤ w'.heap.size
  block : ∀ b, b < w.heap.size → (b < lo ∨ hi ≤ b) → w'.heap[b]? = w.heap[b]?
theorem KeptA.below {lo hi B : Nat} {w w' : World} (h : KeptA lo hi w w') (hB : B ≤ lo) (hw : B ≤ w.heap.size) : Below B w w' := ⟨h.os, h.tape, h.output, h.size, fun b hb => h.block b (by omega) (by omega)⟩
theorem ints_kepta {lo hi l2 h2 : Nat} {w w' : World} {A : Option Addr} {n c : Nat} {xs : List Int} (h : Ints lo hi w A n c xs) (hk : KeptA l2 h2 w w') (hd : hi ≤ l2 ∨ h2 ≤ lo) : Ints lo hi w' A n c xs := h.keep hk.size fun b q1 q2 q3 => hk.block b q3 (by omega)
theorem own_kepta {lo hi l2 h2 : Nat} {w w' : World} {A : Option Addr} {n c : Nat} {xs : List Int} (h : Il.Own lo hi w A n c xs) (hk : KeptA l2 h2 w w') (hd : hi ≤ l2 ∨ h2 ≤ lo) : Il.Own lo hi w' A n c xs := h.keep hk.size fun b q1 q2 q3 => hk.block b q3 (by omega)
theorem ens_kepta {lo hi l2 h2 : Nat} {w w' : World} {A : Option Addr} {n c : Nat} {xs : List En} (h : Ens lo hi w A n c xs) (hk : KeptA l2 h2 w w') (hd : hi ≤ l2 ∨ h2 ≤ lo) : Ens lo hi w' A n c xs := h.keep hk.size fun b q1 q2 q3 => hk.block b q3 (by omega)
theorem blk2_kepta {l2 h2 b : Nat} {w w' : World} {u v : Value} {t : TypeId} (h : Blk2 w b u v t) (hk : KeptA l2 h2 w w') (hd : b < l2 ∨ h2 ≤ b) : Blk2 w' b u v t := (hk.block b h.lt hd).trans h

end Hf
end Go.Proofs.Ytfnbjojaflloaab
