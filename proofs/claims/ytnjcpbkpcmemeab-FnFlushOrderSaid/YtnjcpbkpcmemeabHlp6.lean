/-
  Contracts of the exact laws' helpers on packets that came in: their size, their copies; helpers on peeled packets.
-/
import Derived.Test.YtnjcpbkpcmemeabHlp5
import Derived.Deep.Cut
namespace Go.Proofs.Ytnjcpbkpcmemeab
open Go.RowKit
namespace Hlp6
open Il Pm Pq LawB Hlp5

/-- Header and body in ranges of blocks that follow each other, each perhaps empty. -/
theorem lies_new {w : World} {l1 h1 l2 h2 n c m d : Nat} {A B : Option Addr} {el tag : Int} {hd bd : List Int} (oh : Il.Own l1 h1 w A n c hd) (ob : Il.Own l2 h2 w B m d bd) (hne : h1 ≤ l2) {lo : Nat} (e1 : lo ≤ l1) (e2 : lo ≤ l2) :
    ∃ b1 b2, Lies w b1 b2 A c B d ⟨el, hd, tag, bd⟩ ∧ lo ≤ b1 ∧ lo ≤ b2 ∧ (0 < n → l1 ≤ b1 ∧ b1 < h1) ∧ (0 < m → l2 ≤ b2 ∧ b2 < h2) := by
  have f1 := oh.1.1
  have f2 := ob.1.1
  subst f1
  subst f2
  have nil : ∀ (k c : Nat) (A : Option Addr) (xs : List Int) (l h : Nat), Il.Own l h w A xs.length c xs → xs.length = 0 → Il.Own k (k + 1) w A xs.length c xs := fun k c A xs l h o e =>
    ⟨⟨rfl, o.1.2.1, o.1.2.2.1, fun q => absurd q (by omega)⟩, fun _ _ q => absurd q (by omega)⟩
  rcases Nat.eq_zero_or_pos hd.length with z1 | z1
  · rcases Nat.eq_zero_or_pos bd.length with z2 | z2
    · exact ⟨lo, lo + 1, ⟨nil _ _ _ _ _ _ oh z1, nil _ _ _ _ _ _ ob z2, by omega⟩, by omega, by omega, fun q => absurd q (by omega), fun q => absurd q (by omega)⟩
    · obtain ⟨b2, q3, q4, k2⟩ := own_one ob z2
      exact ⟨h2, b2, ⟨nil _ _ _ _ _ _ oh z1, k2, by omega⟩, by omega, by omega, fun q => absurd q (by omega), fun _ => ⟨q3, q4⟩⟩
  · obtain ⟨b1, q1, q2, k1⟩ := own_one oh z1
    rcases Nat.eq_zero_or_pos bd.length with z2 | z2
    · exact ⟨b1, h1, ⟨k1, nil _ _ _ _ _ _ ob z2, by omega⟩, by omega, by omega, fun _ => ⟨q1, q2⟩, fun q => absurd q (by omega)⟩
    · obtain ⟨b2, q3, q4, k2⟩ := own_one ob z2
      exact ⟨b1, b2, ⟨k1, k2, by omega⟩, by omega, by omega, fun _ => ⟨q1, q2⟩, fun _ => ⟨q3, q4⟩⟩

theorem three_blocks (w : World) (a b c : Array Value) (t1 t2 t3 : TypeId) :
    Blk (((w.alloc (.cells a t1)).alloc (.cells b t2)).alloc (.cells c t3)) w.heap.size a t1 ∧ Blk (((w.alloc (.cells a t1)).alloc (.cells b t2)).alloc (.cells c t3)) (w.heap.size + 1) b t2 ∧ Blk (((w.alloc (.cells a t1)).alloc (.cells b t2)).alloc (.cells c t3)) (w.heap.size + 1 + 1) c t3 ∧
    (((w.alloc (.cells a t1)).alloc (.cells b t2)).alloc (.cells c t3)).heap.size = w.heap.size + 1 + 1 + 1 ∧ Below w.heap.size w (((w.alloc (.cells a t1)).alloc (.cells b t2)).alloc (.cells c t3)) := by
  have h1 := (Below.refl w.heap.size w).alloc (Nat.le_refl _) (.cells a t1)
  have h2 := h1.alloc h1.size (.cells b t2)
  have h3 := h2.alloc h2.size (.cells c t3)
  have e1 : (w.alloc (.cells a t1)).heap.size = w.heap.size + 1 := by simp
  have e2 : ((w.alloc (.cells a t1)).alloc (.cells b t2)).heap.size = w.heap.size + 1 + 1 := by simp
  refine ⟨?_, ?_, ?_, by simp, h3⟩
  · exact (Below.heap_alloc _ _ _ (by omega)).trans ((Below.heap_alloc _ _ _ (by omega)).trans (heap_alloc_new _ _))
  · have := heap_alloc_new (w.alloc (.cells a t1)) (.cells b t2)
    rw [e1] at this
    exact (Below.heap_alloc _ _ _ (by omega)).trans this
  · have := heap_alloc_new ((w.alloc (.cells a t1)).alloc (.cells b t2)) (.cells c t3)
    rw [e2] at this
    exact this
theorem lies_set4 {w : World} {b b1 b2 : Nat} {A B : Option Addr} {c d : Nat} {p : Pkt} (h : Lies w b1 b2 A c B d p) (h1 : b ≠ b1) (h2 : b ≠ b2) (u0 u1 u2 u3 : Value) :
    Lies ((((w.setCell ⟨b, 0, none⟩ u0).setCell ⟨b, 1, none⟩ u1).setCell ⟨b, 2, none⟩ u2).setCell ⟨b, 3, none⟩ u3) b1 b2 A c B d p :=
  (((h.set (q := ⟨b, 0, none⟩) h1 h2 u0).set (q := ⟨b, 1, none⟩) h1 h2 u1).set (q := ⟨b, 2, none⟩) h1 h2 u2).set (q := ⟨b, 3, none⟩) h1 h2 u3
theorem below_set4 {B b : Nat} {w0 w : World} (h : Below B w0 w) (hb : B ≤ b) (u0 u1 u2 u3 : Value) :
    Below B w0 ((((w.setCell ⟨b, 0, none⟩ u0).setCell ⟨b, 1, none⟩ u1).setCell ⟨b, 2, none⟩ u2).setCell ⟨b, 3, none⟩ u3) :=
  (((h.setCell hb _).setCell hb _).setCell hb _).setCell hb _
theorem ints_top {lo hi : Nat} {w : World} {A : Option Addr} {n c : Nat} {xs : List Int} (h : Ints lo hi w A n c xs) : Ints 0 w.heap.size w A n c xs :=
  ⟨h.1, h.2.1, h.2.2.1, fun hn => by
    obtain ⟨b, off, e, h1, _, hz, hc⟩ := h.2.2.2 hn
    exact ⟨b, off, e, Nat.zero_le _, hz, hz, hc⟩⟩
theorem results_cell1 {fn : Func} {p : Tmp} {ty : TypeId} (h : fn.results = #[.cell p ty]) (tmps : Array Value) (P : Program) (w : World) :
    (results fn tmps).run P w = ((asAddr (tmps.getD p undef)).run P w).andThen fun a w₁ => (loadVar ty a).run P w₁ := by
  simp only [results, h]
  simp [Sem.run_bind, Result.andThen]







end Hlp6
end Go.Proofs.Ytnjcpbkpcmemeab
