/-
  A copy of a packet, and what its proof needs (split off from Dr5p: no code, no reader).
-/
import Derived.Test.YtljfhddgifacnaaIla
import Derived.Test.YtljfhddgifacnaaHlp5
import Derived.Test.YtljfhddgifacnaaSp5c
import Derived.Deep.RegionHeld3
import Derived.BigRegion
import Derived.Deep.Cut
namespace Go.Proofs.Ytljfhddgifacnaa
open Go.RowKit
namespace Rd
open Il Pm Pq Hlp5

theorem ints_top {lo hi : Nat} {w : World} {A : Option Addr} {n c : Nat} {xs : List Int} (h : Ints lo hi w A n c xs) : Ints lo w.heap.size w A n c xs :=
  ⟨h.1, h.2.1, h.2.2.1, fun hn => by
    obtain ⟨b, off, e, h1, _, hz, hc⟩ := h.2.2.2 hn
    exact ⟨b, off, e, h1, hz, hz, hc⟩⟩
theorem results_cell1 {fn : Func} {p : Tmp} {ty : TypeId} (h : fn.results = #[.cell p ty]) (tmps : Array Value) (P : Program) (w : World) :
    (results fn tmps).run P w = ((asAddr (tmps.getD p undef)).run P w).andThen fun a w₁ => (loadVar ty a).run P w₁ := by
  simp only [results, h]
  simp [Sem.run_bind, Result.andThen]
theorem accB_own {g : Nat} {w : World} {A : Option Addr} {n c : Nat} {ys : List Int} (h : AccB g w (.slice A n c) ys) : Il.Own g (g + 1) w A n c ys := by
  obtain ⟨cap, e, ho⟩ := h.own
  simp only [Value.slice.injEq] at e
  obtain ⟨rfl, rfl, rfl⟩ := e
  exact ho
theorem far1 {w : World} {g b o i : Nat} (h : b ≠ g) (v : Value) : (w.setCell ⟨g, o, none⟩ v).cell? ⟨b, i, none⟩ = w.cell? ⟨b, i, none⟩ := World.cell?_of_block (Below.heap_setCell _ _ _ _ h)
theorem set6 {w : World} {g : Nat} {u0 u1 u2 u3 u4 u5 v0 v1 v2 v3 v4 v5 : Value} {t : TypeId} (h : w.heap[g]? = some (.cells #[u0, u1, u2, u3, u4, u5] t (0, 0))) :
    ((((((w.setCell ⟨g, 0, none⟩ v0).setCell ⟨g, 1, none⟩ v1).setCell ⟨g, 2, none⟩ v2).setCell ⟨g, 3, none⟩ v3).setCell ⟨g, 4, none⟩ v4).setCell ⟨g, 5, none⟩ v5).heap[g]? = some (.cells #[v0, v1, v2, v3, v4, v5] t (0, 0)) ∧
    ∀ B, B ≤ g → Below B w ((((((w.setCell ⟨g, 0, none⟩ v0).setCell ⟨g, 1, none⟩ v1).setCell ⟨g, 2, none⟩ v2).setCell ⟨g, 3, none⟩ v3).setCell ⟨g, 4, none⟩ v4).setCell ⟨g, 5, none⟩ v5) := by
  refine ⟨?_, fun B hB => ((((((Below.refl B w).setCell hB _).setCell hB _).setCell hB _).setCell hB _).setCell hB _).setCell hB _⟩
  simp [World.setCell, Array.getElem?_modify, h]
theorem lies_far {w w' : World} {b1 b2 g : Nat} {A B : Option Addr} {c d : Nat} {p : Pkt} (h : Lies w b1 b2 A c B d p) (hs : w.heap.size ≤ w'.heap.size) (hf : ∀ i, i ≠ g → w'.heap[i]? = w.heap[i]?) (h1 : b1 ≠ g) (h2 : b2 ≠ g) : Lies w' b1 b2 A c B d p :=
  h.keep hs fun b hb _ => hf b (by rcases hb with rfl | rfl; exact h1; exact h2)
theorem set6_far (w : World) (g : Nat) (v0 v1 v2 v3 v4 v5 : Value) : ∀ i, i ≠ g → ((((((w.setCell ⟨g, 0, none⟩ v0).setCell ⟨g, 1, none⟩ v1).setCell ⟨g, 2, none⟩ v2).setCell ⟨g, 3, none⟩ v3).setCell ⟨g, 4, none⟩ v4).setCell ⟨g, 5, none⟩ v5).heap[i]? = w.heap[i]? := fun _ hi =>
  (Below.heap_setCell _ _ _ _ hi).trans ((Below.heap_setCell _ _ _ _ hi).trans ((Below.heap_setCell _ _ _ _ hi).trans ((Below.heap_setCell _ _ _ _ hi).trans ((Below.heap_setCell _ _ _ _ hi).trans (Below.heap_setCell _ _ _ _ hi)))))
theorem set4_far (w : World) (g : Nat) (v0 v1 v2 v3 : Value) : ∀ i, i ≠ g → ((((w.setCell ⟨g, 0, none⟩ v0).setCell ⟨g, 1, none⟩ v1).setCell ⟨g, 2, none⟩ v2).setCell ⟨g, 3, none⟩ v3).heap[i]? = w.heap[i]? := fun _ hi =>
  (Below.heap_setCell _ _ _ _ hi).trans ((Below.heap_setCell _ _ _ _ hi).trans ((Below.heap_setCell _ _ _ _ hi).trans (Below.heap_setCell _ _ _ _ hi)))
theorem grown_set (w : World) (p : Addr) (v : Value) : w.grownBy (w.setCell p v) (some p.block) :=
  ⟨rfl, rfl, rfl, by simp [World.setCell], fun i _ hne => Below.heap_setCell w p v i (fun e => hne (by rw [e]))⟩
theorem accB_set4 {w : World} {g b : Nat} {v : Value} {ys : List Int} (h : AccB g w v ys) (hne : b ≠ g) (u0 u1 u2 u3 : Value) :
    AccB g ((((w.setCell ⟨b, 0, none⟩ u0).setCell ⟨b, 1, none⟩ u1).setCell ⟨b, 2, none⟩ u2).setCell ⟨b, 3, none⟩ u3) v ys :=
  (((h.keep (grown_set _ _ _) (by simpa using hne)).keep (grown_set _ _ _) (by simpa using hne)).keep (grown_set _ _ _) (by simpa using hne)).keep (grown_set _ _ _) (by simpa using hne)
theorem below_set4 {w0 w : World} {B b : Nat} (h : Below B w0 w) (hb : B ≤ b) (u0 u1 u2 u3 : Value) :
    Below B w0 ((((w.setCell ⟨b, 0, none⟩ u0).setCell ⟨b, 1, none⟩ u1).setCell ⟨b, 2, none⟩ u2).setCell ⟨b, 3, none⟩ u3) :=
  (((h.setCell hb _).setCell hb _).setCell hb _).setCell hb _
theorem blk_grown {w w' : World} {b : Nat} {cs : Array Value} {t : TypeId} {row : Option Nat} (h : Blk w b cs t) (hg : w.grownBy w' row) (hr : row ≠ some b) : Blk w' b cs t :=
  (hg.block b (Array.getElem?_eq_some_iff.1 h).1 (fun e => hr e.symm)).trans h
theorem blk_set {w : World} {b i : Nat} {cs : Array Value} {t : TypeId} (h : Blk w b cs t) (v : Value) : Blk (w.setCell ⟨b, i, none⟩ v) b (cs.setIfInBounds i v) t := by
  unfold Blk at *
  simp [World.setCell, Array.getElem?_modify, h]
theorem blk_lt {w : World} {b : Nat} {cs : Array Value} {t : TypeId} (h : Blk w b cs t) : b < w.heap.size := (Array.getElem?_eq_some_iff.1 h).1
theorem below_g {B : Nat} {w0 w w' : World} {row : Option Nat} (h : Below B w0 w) (hg : w.grownBy w' row) (hs : B ≤ w.heap.size) (hr : ∀ k, row = some k → B ≤ k) : Below B w0 w' := h.grown hg hs hr



end Rd
end Go.Proofs.Ytljfhddgifacnaa
