/-
  A clone of a slice of ints; two blocks laid one behind the other; four cells of a block written.
-/
import Derived.Test.YtljfhddgifacnaaAv
import Derived.Test.YtljfhddgifacnaaHlp5
import Derived.Lib.SliceRun
namespace Go.Proofs.Ytljfhddgifacnaa
open Go.RowKit
namespace Cl
open Il Sl Hlp5

theorem two_blk (w : World) (a b : Array Value) (t1 t2 : TypeId) :
    Blk ((w.alloc (.cells a t1)).alloc (.cells b t2)) w.heap.size a t1 ∧ Blk ((w.alloc (.cells a t1)).alloc (.cells b t2)) (w.heap.size + 1) b t2 ∧ ((w.alloc (.cells a t1)).alloc (.cells b t2)).heap.size = w.heap.size + 2 ∧ Below w.heap.size w ((w.alloc (.cells a t1)).alloc (.cells b t2)) := by
  have h1 := (Below.refl w.heap.size w).alloc (Nat.le_refl _) (.cells a t1)
  have h2 := h1.alloc h1.size (.cells b t2)
  have e1 : (w.alloc (.cells a t1)).heap.size = w.heap.size + 1 := by simp
  refine ⟨(Below.heap_alloc _ _ _ (by omega)).trans (heap_alloc_new _ _), ?_, by simp, h2⟩
  have := heap_alloc_new (w.alloc (.cells a t1)) (.cells b t2)
  rw [e1] at this
  exact this
theorem one_blk (w : World) (a : Array Value) (t : TypeId) : Blk (w.alloc (.cells a t)) w.heap.size a t ∧ (w.alloc (.cells a t)).heap.size = w.heap.size + 1 ∧ Below w.heap.size w (w.alloc (.cells a t)) :=
  ⟨heap_alloc_new _ _, by simp, (Below.refl w.heap.size w).alloc (Nat.le_refl _) (.cells a t)⟩
theorem far03b {w : World} {g b : Nat} (h : b ≠ g) (v0 v1 v2 v3 : Value) : ((((w.setCell ⟨g, 0, none⟩ v0).setCell ⟨g, 1, none⟩ v1).setCell ⟨g, 2, none⟩ v2).setCell ⟨g, 3, none⟩ v3).heap[b]? = w.heap[b]? :=
  (Below.heap_setCell _ _ _ _ h).trans ((Below.heap_setCell _ _ _ _ h).trans ((Below.heap_setCell _ _ _ _ h).trans (Below.heap_setCell _ _ _ _ h)))
theorem far03 {w : World} {g b o : Nat} (h : b ≠ g) (v0 v1 v2 v3 : Value) : ((((w.setCell ⟨g, 0, none⟩ v0).setCell ⟨g, 1, none⟩ v1).setCell ⟨g, 2, none⟩ v2).setCell ⟨g, 3, none⟩ v3).cell? ⟨b, o, none⟩ = w.cell? ⟨b, o, none⟩ :=
  World.cell?_of_block (far03b h _ _ _ _)
theorem below03 {w0 w : World} {B g : Nat} (h : Below B w0 w) (hg : B ≤ g) (v0 v1 v2 v3 : Value) : Below B w0 ((((w.setCell ⟨g, 0, none⟩ v0).setCell ⟨g, 1, none⟩ v1).setCell ⟨g, 2, none⟩ v2).setCell ⟨g, 3, none⟩ v3) :=
  (((h.setCell hg _).setCell hg _).setCell hg _).setCell hg _
theorem size03 (w : World) (g : Nat) (v0 v1 v2 v3 : Value) : ((((w.setCell ⟨g, 0, none⟩ v0).setCell ⟨g, 1, none⟩ v1).setCell ⟨g, 2, none⟩ v2).setCell ⟨g, 3, none⟩ v3).heap.size = w.heap.size := by simp [World.setCell]
theorem three_cl {w : World} {b : Nat} {v0 v1 v2 : Value} {t : TypeId} (h : Blk w b #[v0, v1, v2] t) :
    w.cell? ⟨b, 0, none⟩ = some v0 ∧ w.cell? ⟨b, 1, none⟩ = some v1 ∧ w.cell? ⟨b, 2, none⟩ = some v2 ∧ ∀ j, w.frozen? ⟨b, j, none⟩ = false := by
  have h' : w.heap[b]? = some (.cells #[v0, v1, v2] t (0, 0)) := h
  refine ⟨?_, ?_, ?_, fun j => by simp [World.frozen?, h']⟩
  all_goals rw [cell_of_row _ _ _ _ _ _ h']; rfl
theorem results_cell2 {fn : Func} {p u v : Tmp} {ty : TypeId} (h : fn.results = #[.cell p ty, .tmp u, .tmp v]) (tmps : Array Value) (P : Program) (w : World) :
    (results fn tmps).run P w =
      ((asAddr (tmps.getD p undef)).run P w).andThen fun a w₁ => ((loadVar ty a).run P w₁).andThen fun x w₂ => .ok (.tuple #[x, tmps.getD u undef, tmps.getD v undef]) w₂ := by
  simp only [results, h]
  simp [Sem.run_bind, Result.andThen]
theorem results_cell1 {fn : Func} {p : Tmp} {ty : TypeId} (h : fn.results = #[.cell p ty]) (tmps : Array Value) (P : Program) (w : World) :
    (results fn tmps).run P w = ((asAddr (tmps.getD p undef)).run P w).andThen fun a w₁ => (loadVar ty a).run P w₁ := by
  simp only [results, h]
  simp [Sem.run_bind, Result.andThen]

theorem dest_blk {g : Option Nat} {w : World} {v : Value} {n : Nat} {xs : List Int} (h : Dest 3 1 g w v n (xs.map (Value.int .i64))) (hn : 0 < n) : ∃ k, g = some k ∧ k < w.heap.size := by
  rcases h with ⟨_, e, _⟩ | ⟨k, rfl, ha⟩
  · omega
  · exact ⟨k, rfl, ha.lt⟩
/-- A clone of a slice of ints. -/
def ClonI (xs : List Int) (w : World) (e : Ending) (w' : World) : Prop :=
  ∃ A c b, e = .returned (.slice A xs.length c) ∧ Il.Own b (b + 1) w' A xs.length c xs ∧ (0 < xs.length → w.heap.size ≤ b ∧ b < w'.heap.size) ∧ Below w.heap.size w w'
theorem clonI_of {xs : List Int} {w w' : World} {A : Option Addr} {c : Nat} {g : Option Nat} (hd : Dest 3 1 g w' (.slice A xs.length c) xs.length (xs.map (Value.int .i64))) (hg : ∀ k, g = some k → w.heap.size ≤ k) (hb : Below w.heap.size w w') :
    ClonI xs w (.returned (.slice A xs.length c)) w' := by
  obtain ⟨A', c', b, e, ho, hk⟩ := dest_ints hd
  simp only [Value.slice.injEq, true_and] at e
  obtain ⟨rfl, rfl⟩ := e
  refine ⟨_, _, b, rfl, ho, fun hn => ?_, hb⟩
  obtain ⟨k, q, hlt⟩ := dest_blk hd hn
  have h1 := hk k q
  have h2 := hg k q
  omega

set_option maxRecDepth 20000 in
theorem cloneI (lo hi : Nat) (A : Option Addr) (c : Nat) (xs : List Int) (w : World) (hx : Ints lo hi w A xs.length c xs) (hn : xs.length ≤ 2000000) :
    Calls Try.prog 102 #[.slice A xs.length c] w (ClonI xs w) := by
  cases A with
  | none =>
    have hz : xs.length = 0 := by
      rcases Nat.eq_zero_or_pos xs.length with h | h
      · exact h
      · obtain ⟨b, off, e, _⟩ := hx.2.2.2 h
        cases e
    have hxs : xs = [] := List.eq_nil_of_length_eq_zero hz
    subst hxs
    have HP : Hid (ClonI [] w (.returned (.slice none 0 0)) w) := clonI_of (.inl ⟨rfl, rfl, rfl, none, rfl⟩) (fun k h => by cases h) (Below.refl _ _)
    clear hx hz hn
    have hnil : ∀ w, (binOp .eql 23 (.slice none 0 c) (.slice none 0 0)).run Try.prog w = .ok (.bool true) w := fun w => Lib.run_eql_slice_nil w _ _ _ _ _ _ _ Try.underlying23
    go_enter Try.func102, Try.ntmps102
    go_wp2
    go_ret
    exact HP.out
  | some ad =>
    have hal : Below w.heap.size w (w.alloc (.cells #[] 3)) := (Below.refl _ _).alloc (Nat.le_refl _) _
    have HD : Hid (Dest 3 1 (some w.heap.size) (w.alloc (.cells #[] 3)) (.slice (some ⟨w.heap.size, 0, none⟩) 0 0) 0 []) := .inr ⟨_, rfl, accV_new w _ _⟩
    have HR := Lib.hid (ints_row (hx.below hal (Nat.le_refl _)))
    have HAL := Lib.hid hal
    clear hx hal
    have hnil : ∀ w, (binOp .eql 23 (.slice (some ad) xs.length c) (.slice none 0 0)).run Try.prog w = .ok (.bool false) w := fun w => Lib.run_eql_slice_nil w _ _ _ _ _ _ _ Try.underlying23
    go_enter Try.func102, Try.ntmps102
    go_wp2_with (at_builtin; refine wpList_appDL elInt _ _ _ _ _ HD.out _ _ _ _ _ _ HR.out (ints_one_cell _) (by omega) _ _ rfl rfl rfl rfl ?_; intro g5 v5 w5 hd5 hg5 hgr5; rw [List.nil_append, Nat.zero_add] at hd5)
    obtain ⟨A5, c5, b5, rfl, ho5, hk5⟩ := dest_ints hd5
    have HP : Hid (ClonI xs w (.returned (.slice A5 xs.length c5)) w5) := by
      refine clonI_of hd5 (fun k e => ?_) (HAL.out.grown hgr5 (by simp) fun k e => by simp at e; omega)
      rcases hg5 with q | ⟨k', q, hk⟩
      · rw [q] at e; simp at e; omega
      · rw [q] at e; simp at e hk; omega
    clear hd5 hg5 hgr5 ho5 hk5
    go_wp2
    go_ret
    exact HP.out

end Cl
end Go.Proofs.Ytljfhddgifacnaa
