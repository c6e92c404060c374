/-
  Contract of the model's DirectoryPath.
-/
import Derived.Test.YtfnbjojaflloaabSp9c
namespace Go.Proofs.Ytfnbjojaflloaab
open Go.RowKit
namespace Sp9
open Il Sl Ec Dm Gm

theorem AccB.below_ {g B : Nat} {u u2 : World} {v : Value} {ys : List Int} (h : AccB g u v ys) (hb : Below B u u2) (hB : u.heap.size ≤ B) : AccB g u2 v ys := by
  have hlt := h.lt
  have hs := hb.block g (by omega)
  obtain ⟨cap, rfl, ho⟩ := h
  refine ⟨cap, rfl, ho.1, ?_⟩
  cases ho.2 with
  | inl h => exact .inl h
  | inr h =>
    obtain ⟨g1, cap1, cur, e, h1, h2, h3, h4, h5, h6⟩ := h
    have hg : g1 = g := by
      simp only [Value.slice.injEq, Option.some.injEq, Addr.mk.injEq, and_true] at e
      exact e.1.symm
    subst hg
    exact .inr ⟨g1, cap1, cur, e, h1, hs.trans h2, h3, h4, h5, h6⟩
/-- What has been gathered of a path: the names (out) and the places (ch), beside the directory's box. -/
def PRel (lo hi : Nat) (w wr : World) (A : Option Addr) (n k : Nat) (ep : Int) (es : List En) (v7 v8 : Value) (out ch : List Int) : Prop :=
  ∃ g1 g2, AccB g1 wr v7 out ∧ AccB g2 wr v8 ch ∧ g1 ≠ g2 ∧ w.heap.size < g1 ∧ w.heap.size < g2 ∧ DRel w.heap.size lo hi w wr A n k ep es
theorem drel_grown {lo hi g : Nat} {w wr w2 : World} {A : Option Addr} {n k : Nat} {ep : Int} {es : List En} (h : DRel w.heap.size lo hi w wr A n k ep es) (hhi : hi ≤ w.heap.size) (hg : wr.grownBy w2 (some g)) (hlt : w.heap.size < g) : DRel w.heap.size lo hi w w2 A n k ep es := by
  obtain ⟨h1, h2, h3⟩ := h
  have hsz := h3.size
  refine ⟨?_, h2.grown hg fun q e => by simp at e; omega, hg.os.trans h3.os, hg.tape.trans h3.tape, hg.output.trans h3.output, Nat.le_trans h3.size hg.size, fun b hb => ?_⟩
  · exact (hg.block w.heap.size h1.lt (by simp; omega)).trans h1
  · exact (hg.block b (by omega) (by simp; omega)).trans (h3.block b hb)
section
variable {lo hi : Nat} {w wr w2 : World} {A : Option Addr} {n k : Nat} {ep : Int} {es : List En} {v7 v8 : Value} {out ch : List Int}
theorem PRel.rel (h : PRel lo hi w wr A n k ep es v7 v8 out ch) : DRel w.heap.size lo hi w wr A n k ep es := by obtain ⟨_, _, _, _, _, _, _, h⟩ := h; exact h
theorem PRel.below (h : PRel lo hi w wr A n k ep es v7 v8 out ch) (hb : Below wr.heap.size wr w2) : PRel lo hi w w2 A n k ep es v7 v8 out ch := by
  obtain ⟨g1, g2, h1, h2, h3, h4, h5, h6⟩ := h
  exact ⟨g1, g2, AccB.below_ h1 hb (Nat.le_refl _), AccB.below_ h2 hb (Nat.le_refl _), h3, h4, h5, h6.below hb⟩
theorem PRel.post (h : PRel lo hi w wr A n k ep es v7 v8 out ch) : NewInts w out (.returned v7) wr := by
  obtain ⟨g1, g2, h1, h2, h3, h4, h5, h6⟩ := h
  obtain ⟨cap, rfl, ho⟩ := h1.own
  exact ⟨_, cap, rfl, ho.mono (by omega) (by have := h1.lt; omega), h6.bel⟩
theorem PRel.ints8 (h : PRel lo hi w wr A n k ep es v7 v8 out ch) : ∃ g c, v8 = .slice (some ⟨g, 0, none⟩) ch.length c ∧ AccB g wr v8 ch ∧ w.heap.size < g ∧ Ints g (g + 1) wr (some ⟨g, 0, none⟩) ch.length c ch := by
  obtain ⟨g1, g2, h1, h2, h3, h4, h5, h6⟩ := h
  have h2' := h2
  obtain ⟨cap, rfl, ho⟩ := h2.own
  exact ⟨g2, cap, rfl, h2', h5, ho.ints⟩
theorem PRel.is7 (h : PRel lo hi w wr A n k ep es v7 v8 out ch) : ∃ g c, v7 = .slice (some ⟨g, 0, none⟩) out.length c := by
  obtain ⟨g1, g2, h1, h2, h3, h4, h5, h6⟩ := h
  obtain ⟨cap, rfl, ho⟩ := h1.own
  exact ⟨g1, cap, rfl⟩
end
theorem prel_new {lo : Nat} {w : World} {A : Option Addr} {n k : Nat} {es : List En} (ep : Int) (hx : Ens lo w.heap.size w A n k es) :
    PRel lo w.heap.size w (((w.alloc (.cells #[.int .i64 ep, .slice A n k] 40)).alloc (.cells #[] 3)).alloc (.cells #[] 3)) A n k ep es (.slice (some ⟨w.heap.size + 1, 0, none⟩) 0 0) (.slice (some ⟨w.heap.size + 1 + 1, 0, none⟩) 0 0) [] [] := by
  have h0 := drel_new hx ep
  have s0 : (w.alloc (.cells #[.int .i64 ep, .slice A n k] 40)).heap.size = w.heap.size + 1 := by simp
  generalize w.alloc (.cells #[.int .i64 ep, .slice A n k] 40) = w0 at *
  have a1 := accB_new w0
  have s1 : (w0.alloc (.cells #[] 3)).heap.size = w.heap.size + 1 + 1 := by simp [s0]
  have h1 := h0.alloc (.cells #[] 3)
  rw [s0] at a1
  generalize w0.alloc (.cells #[] 3) = w1 at *
  have a2 := accB_new w1
  rw [s1] at a2
  exact ⟨_, _, a1.alloc _, a2, by omega, by omega, by omega, h1.alloc _⟩

end Sp9
end Go.Proofs.Ytfnbjojaflloaab
