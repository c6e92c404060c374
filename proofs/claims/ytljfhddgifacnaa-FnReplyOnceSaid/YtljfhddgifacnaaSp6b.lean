/-
  Contracts of the model's chapter 11: copies of pools and mixes, taking a packet, a new epoch.
-/
import Derived.Test.YtljfhddgifacnaaSp6a
import Derived.Test.YtljfhddgifacnaaGt
import Derived.Test.YtljfhddgifacnaaPk5
import Derived.Test.YtljfhddgifacnaaHlp6
import Derived.Deep.Cut
import Derived.Deep.RegionLaw
import Derived.Deep.RegionHeld3
namespace Go.Proofs.Ytljfhddgifacnaa
open Go.RowKit
namespace Sp6
open Il Gm Mm Tm Lm Pm Pq Hlp5 Sl Mm6 Sp2

/-- Four cells of a block of six are written. -/
theorem blk_set25 {w : World} {b : Nat} {v0 v1 u2 u3 u4 u5 v2 v3 v4 v5 : Value} {t : TypeId} (h : Blk w b #[v0, v1, u2, u3, u4, u5] t) :
    Blk ((((w.setCell ⟨b, 2, none⟩ v2).setCell ⟨b, 3, none⟩ v3).setCell ⟨b, 4, none⟩ v4).setCell ⟨b, 5, none⟩ v5) b #[v0, v1, v2, v3, v4, v5] t := (set4b h).1
theorem far25 (w : World) (b : Nat) (v2 v3 v4 v5 : Value) (x : Nat) (hx : x ≠ b) : ((((w.setCell ⟨b, 2, none⟩ v2).setCell ⟨b, 3, none⟩ v3).setCell ⟨b, 4, none⟩ v4).setCell ⟨b, 5, none⟩ v5).heap[x]? = w.heap[x]? :=
  (Below.heap_setCell _ _ _ _ hx).trans ((Below.heap_setCell _ _ _ _ hx).trans ((Below.heap_setCell _ _ _ _ hx).trans (Below.heap_setCell _ _ _ _ hx)))
theorem size25 (w : World) (b : Nat) (v2 v3 v4 v5 : Value) : ((((w.setCell ⟨b, 2, none⟩ v2).setCell ⟨b, 3, none⟩ v3).setCell ⟨b, 4, none⟩ v4).setCell ⟨b, 5, none⟩ v5).heap.size = w.heap.size := by simp [World.setCell]

/-- A pool of the caller's own is returned. -/
def PoolP (ps : List Pld) (w : World) (e : Ending) (w' : World) : Prop :=
  ∃ A c, e = .returned (.slice A ps.length c) ∧ GatP w.heap.size w'.heap.size w' (.slice A ps.length c) ps ∧ Below w.heap.size w w'

theorem slot_nodup (s : Slot) (h : s.h ≠ s.g) : (fpS s).Nodup := by
  unfold fpS fp
  split <;> split <;> simp [h]


/-- A mix of the caller's own, alone. -/
def MixC (x : Mx) (w : World) (e : Ending) (w' : World) : Prop :=
  ∃ A c B d mid, e = .returned (.agg #[.int .i64 x.sec, .slice A x.seen.length c, .slice B x.pool.length d]) ∧ MixG w.heap.size mid w'.heap.size w' (.slice A x.seen.length c) (.slice B x.pool.length d) x ∧ Below w.heap.size w w'
/-- Two blocks, one behind the other. -/
theorem two_blocks (w : World) (a b : Array Value) (t1 t2 : TypeId) :
    Blk ((w.alloc (.cells a t1)).alloc (.cells b t2)) w.heap.size a t1 ∧ Blk ((w.alloc (.cells a t1)).alloc (.cells b t2)) (w.heap.size + 1) b t2 ∧ ((w.alloc (.cells a t1)).alloc (.cells b t2)).heap.size = w.heap.size + 1 + 1 ∧ Below w.heap.size w ((w.alloc (.cells a t1)).alloc (.cells b t2)) := by
  have h1 := (Below.refl w.heap.size w).alloc (Nat.le_refl _) (.cells a t1)
  have h2 := h1.alloc h1.size (.cells b t2)
  have e1 : (w.alloc (.cells a t1)).heap.size = w.heap.size + 1 := by simp
  refine ⟨(Below.heap_alloc _ _ _ (by omega)).trans (heap_alloc_new _ _), ?_, by simp, h2⟩
  have := heap_alloc_new (w.alloc (.cells a t1)) (.cells b t2)
  rw [e1] at this
  exact this
theorem far3 {w : World} {g b o : Nat} (h : b ≠ g) (v0 v1 v2 : Value) : (((w.setCell ⟨g, 0, none⟩ v0).setCell ⟨g, 1, none⟩ v1).setCell ⟨g, 2, none⟩ v2).cell? ⟨b, o, none⟩ = w.cell? ⟨b, o, none⟩ :=
  World.cell?_of_block ((Below.heap_setCell _ _ _ _ h).trans ((Below.heap_setCell _ _ _ _ h).trans (Below.heap_setCell _ _ _ _ h)))
theorem farb3 {w : World} {g b : Nat} (h : b ≠ g) (v0 v1 v2 : Value) : (((w.setCell ⟨g, 0, none⟩ v0).setCell ⟨g, 1, none⟩ v1).setCell ⟨g, 2, none⟩ v2).heap[b]? = w.heap[b]? :=
  (Below.heap_setCell _ _ _ _ h).trans ((Below.heap_setCell _ _ _ _ h).trans (Below.heap_setCell _ _ _ _ h))

theorem mixB_fin {lo mid hi b : Nat} {w wF : World} {A B : Option Addr} {c d : Nat} {y : Mx} (hm : MixG lo mid hi wF (.slice A y.seen.length c) (.slice B y.pool.length d) y) (hhi : hi ≤ wF.heap.size) (hb : b < lo) (hwb : w.heap.size ≤ b) (hbw : Below w.heap.size w wF) (v v0 v1 v2 : Value) :
    MixB y v w (.returned (.tuple #[.agg #[.int .i64 y.sec, .slice A y.seen.length c, .slice B y.pool.length d], v])) (((wF.setCell ⟨b, 0, none⟩ v0).setCell ⟨b, 1, none⟩ v1).setCell ⟨b, 2, none⟩ v2) := by
  obtain ⟨G, h1, h2⟩ := mixG_fin hm hb v0 v1 v2
  have hs : (((wF.setCell ⟨b, 0, none⟩ v0).setCell ⟨b, 1, none⟩ v1).setCell ⟨b, 2, none⟩ v2).heap.size = wF.heap.size := by simp [World.setCell]
  exact ⟨A, c, B, d, rfl, h1.mix fun f hf x hx => by have := h2 f hf x hx; omega, ((hbw.setCell hwb _).setCell hwb _).setCell hwb _⟩
theorem mixS_fin {lo mid hi b : Nat} {w wF : World} {A B : Option Addr} {c d : Nat} {y : Mx} (hm : MixG lo mid hi wF (.slice A y.seen.length c) (.slice B y.pool.length d) y) (hlo : w.heap.size ≤ lo) (hhi : hi ≤ wF.heap.size) (hb : b < lo) (hwb : w.heap.size ≤ b) (hbw : Below w.heap.size w wF) (v v0 v1 v2 : Value) :
    MixS y v w (.returned (.tuple #[.agg #[.int .i64 y.sec, .slice A y.seen.length c, .slice B y.pool.length d], v])) (((wF.setCell ⟨b, 0, none⟩ v0).setCell ⟨b, 1, none⟩ v1).setCell ⟨b, 2, none⟩ v2) :=
  ⟨A, c, B, d, rfl, ((hm.dst hhi).fin hb v0 v1 v2).lower hlo, ((hbw.setCell hwb _).setCell hwb _).setCell hwb _⟩
theorem blk3_set1 {w : World} {b : Nat} {v0 v1 v2 v : Value} {t : TypeId} (h : Blk w b #[v0, v1, v2] t) : Blk (w.setCell ⟨b, 1, none⟩ v) b #[v0, v, v2] t := by
  unfold Blk at h ⊢
  simp [World.setCell, Array.getElem?_modify, h]
theorem blk3_set2 {w : World} {b : Nat} {v0 v1 v2 v : Value} {t : TypeId} (h : Blk w b #[v0, v1, v2] t) : Blk (w.setCell ⟨b, 2, none⟩ v) b #[v0, v1, v] t := by
  unfold Blk at h ⊢
  simp [World.setCell, Array.getElem?_modify, h]
theorem blk3_set0 {w : World} {b : Nat} {v0 v1 v2 v : Value} {t : TypeId} (h : Blk w b #[v0, v1, v2] t) : Blk (w.setCell ⟨b, 0, none⟩ v) b #[v, v1, v2] t := by
  unfold Blk at h ⊢
  simp [World.setCell, Array.getElem?_modify, h]


end Sp6
end Go.Proofs.Ytljfhddgifacnaa
