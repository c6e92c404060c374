/-
  A list of counts that came in, opened.
-/
import Derived.Test.YtbhafchdcofceaaLc
import Derived.ProofKit
import Derived.OpenShut
import Derived.ShutString
import Derived.ChangeOld
import Derived.Below
import Derived.Lib.SmallJoins
import Derived.Deep.Slices
import Derived.Deep.Fields
namespace Go.Proofs.Ytbhafchdcofceaa
open Go.ChangeShapes Go.WideShapes Go.ChangeAt Go.RowKit Go.Deep
namespace Opc
open Il Sl Lc

theorem list4 {α : Type} {l : List α} (h : l.length = 4) : ∃ a b c d, l = [a, b, c, d] := by
  match l, h with
  | [a, b, c, d], _ => exact ⟨a, b, c, d, rfl⟩
def CntWf (x : Cnt) : Prop := (Lit.int .i64 x.fr).wf = true ∧ (Lit.int .i64 x.to_).wf = true
section
variable {H : Type} {enc : TypeId × Value → H} {w : World} {spare : Nat → Bool} {held : Bool}
set_option maxRecDepth 20000 in
theorem open_cnt {n : Nat} {cs : List Value} {y : DataW H × List MemPlace} (h : DataW.trod enc Try.prog w 0 spare held n 70 cs = some y) : ∃ x : Cnt, cs = x.cells ∧ CntWf x := by
  obtain ⟨xs, m, _, _, hcl, hxl, hf⟩ := DataW.trod_struct Try.underlying70 h
  have k4 : Try.prog.cellsOf 70 = 4 := by kernel_rfl
  have k1 : Try.prog.cellsOf 3 = 1 := by kernel_rfl
  rw [k4] at hcl
  obtain ⟨c0, c1, c2, c3, rfl⟩ := list4 hcl
  obtain ⟨y0, y1, y2, y3, rfl⟩ := list4 hxl
  have h0 : DataW.trod enc Try.prog w 0 spare held m 3 [c0] = some y0 := by
    have q : DataW.trod enc Try.prog w 0 spare held m 3 (List.take (Try.prog.cellsOf 3) (List.drop 0 [c0, c1, c2, c3])) = some y0 := hf 0 _ rfl
    rw [k1] at q
    exact q
  have h1 : DataW.trod enc Try.prog w 0 spare held m 3 [c1] = some y1 := by
    have q : DataW.trod enc Try.prog w 0 spare held m 3 (List.take (Try.prog.cellsOf 3) (List.drop 1 [c0, c1, c2, c3])) = some y1 := hf 1 _ rfl
    rw [k1] at q
    exact q
  have h2 : DataW.trod enc Try.prog w 0 spare held m 3 [c2] = some y2 := by
    have q : DataW.trod enc Try.prog w 0 spare held m 3 (List.take (Try.prog.cellsOf 3) (List.drop 2 [c0, c1, c2, c3])) = some y2 := hf 2 _ rfl
    rw [k1] at q
    exact q
  have h3 : DataW.trod enc Try.prog w 0 spare held m 3 [c3] = some y3 := by
    have q : DataW.trod enc Try.prog w 0 spare held m 3 (List.take (Try.prog.cellsOf 3) (List.drop 3 [c0, c1, c2, c3])) = some y3 := hf 3 _ rfl
    rw [k1] at q
    exact q
  obtain ⟨v0, e0, _, w0⟩ := DataW.trod_int Try.underlying3 h0
  obtain ⟨v1, e1, _, w1⟩ := DataW.trod_int Try.underlying3 h1
  obtain ⟨v2, e2, _, _⟩ := DataW.trod_int Try.underlying3 h2
  obtain ⟨v3, e3, _, _⟩ := DataW.trod_int Try.underlying3 h3
  simp only [List.cons.injEq, and_true] at e0 e1 e2 e3
  subst e0 e1 e2 e3
  exact ⟨⟨v0, v1, v2, v3⟩, rfl, w0, w1⟩
theorem open_cnts {n : Nat} {u : Value} {y : DataW H × List MemPlace} (h : DataW.trod enc Try.prog w 0 spare held n 40 [u] = some y) (hsp : ∀ b, spare b = true) : ∃ A k c xs, u = .slice A k c ∧ Cnts 0 w.heap.size w A k c xs ∧ ∀ x ∈ xs, CntWf x := by
  have k4 : Try.prog.cellsOf 70 = 4 := by kernel_rfl
  rcases open_slice Try.underlying40 h with ⟨hcs, _⟩ | ⟨a, len, cap, m, n2, D, Pl, hcs, _, hl, hm, hmm, _, hi⟩
  · exact ⟨none, 0, 0, [], by simpa using hcs, Cnts.nil_ (Nat.zero_le _), fun x h => by simp at h⟩
  · have hml : len ≤ m := by rw [hmm, hsp]; exact hl
    have hel : ∀ i, i < len → ∃ s : Cnt, (∀ r v, s.cells[r]? = some v → w.cell? ((a.add (i * 4)).add r) = some v) ∧ CntWf s := fun i him => by
      obtain ⟨cs, hc, ht⟩ := hi i (by omega)
      rw [k4] at hc
      obtain ⟨_, hcl, hat⟩ := World.cells?_some hc
      obtain ⟨s, rfl, hs⟩ := open_cnt ht
      exact ⟨s, fun r v hr => by rw [hat r (by have := (List.getElem?_eq_some_iff.1 hr).1; rw [cells_len] at this; exact this)]; exact hr, hs⟩
    have hall : ∀ k, k ≤ len → ∃ ss : List Cnt, ss.length = k ∧ ∀ i s, ss[i]? = some s → (∀ r v, s.cells[r]? = some v → w.cell? ((a.add (i * 4)).add r) = some v) ∧ CntWf s := fun k => by
      induction k with
      | zero => exact fun _ => ⟨[], rfl, fun i s h => by simp at h⟩
      | succ k ih =>
        intro hk
        obtain ⟨ss, h1, h2⟩ := ih (by omega)
        obtain ⟨s, hs⟩ := hel k (by omega)
        refine ⟨ss ++ [s], by simp [h1], fun i t ht => ?_⟩
        by_cases e : i < ss.length
        · rw [List.getElem?_append_left e] at ht
          exact h2 i t ht
        · rw [List.getElem?_append_right (by omega)] at ht
          have : i - ss.length = 0 := by
            have := (List.getElem?_eq_some_iff.1 ht).1
            simp at this; omega
          rw [this] at ht
          simp only [List.getElem?_cons_zero, Option.some.injEq] at ht
          subst ht
          rw [show i = k by omega]
          exact hs
    obtain ⟨ss, h1, h2⟩ := hall len (Nat.le_refl _)
    refine ⟨some a, len, cap, ss, by simpa using hcs, ⟨by rw [flat_len cells_len, h1], hl, hm, fun hn => ?_⟩, fun s hs => ?_⟩
    · obtain ⟨b, off, spot⟩ := a
      have hx : ss[0]? = some (ss[0]'(by omega)) := List.getElem?_eq_getElem (by omega)
      have h0 := (h2 0 _ hx).1 0 _ rfl
      have hs : spot = none := by simpa [Addr.add] using World.cell?_spot h0
      subst hs
      have hb : b < w.heap.size := by
        have := World.block_lt_of_cell? w _ h0
        simpa [Addr.add] using this
      refine ⟨b, off, rfl, Nat.zero_le _, hb, hb, fun j v hj => ?_⟩
      have hjl := (List.getElem?_eq_some_iff.1 hj).1
      rw [flat_len cells_len, h1] at hjl
      have hq : j / 4 < ss.length := by omega
      have hx : ss[j / 4]? = some (ss[j / 4]'hq) := List.getElem?_eq_getElem hq
      have hf := flat_at cells_len hx (show j % 4 < 4 by omega)
      rw [show j / 4 * 4 + j % 4 = j by omega, hj] at hf
      have hc := (h2 _ _ hx).1 (j % 4) v hf.symm
      have e6 : j / 4 * 4 + j % 4 = j := by omega
      have : (Addr.add (Addr.add ⟨b, off, none⟩ (j / 4 * 4)) (j % 4)) = ⟨b, off + j, none⟩ := by
        have ea : (Addr.add (Addr.add ⟨b, off, none⟩ (j / 4 * 4)) (j % 4)) = Addr.add ⟨b, off, none⟩ (j / 4 * 4 + j % 4) := by
          unfold Addr.add
          by_cases hi : j / 4 * 4 = 0 <;> by_cases hj : j % 4 = 0 <;> simp [hi, hj, Nat.add_assoc]
        rw [ea, e6]
        unfold Addr.add
        split <;> simp_all
      rwa [this] at hc
    · obtain ⟨i, hi2, rfl⟩ := List.getElem_of_mem hs
      exact (h2 i _ (List.getElem?_eq_getElem hi2)).2
end

end Opc
end Go.Proofs.Ytbhafchdcofceaa
