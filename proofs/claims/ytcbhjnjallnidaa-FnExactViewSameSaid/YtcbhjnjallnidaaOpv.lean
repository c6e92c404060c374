/-
  A list of flows that came in, opened.
-/
import Derived.Test.YtcbhjnjallnidaaFc
import Derived.ProofKit
import Derived.OpenShut
import Derived.ShutString
import Derived.ChangeOld
import Derived.Below
import Derived.Lib.SmallJoins
import Derived.Deep.Slices
import Derived.Deep.Fields
namespace Go.Proofs.Ytcbhjnjallnidaa
open Go.ChangeShapes Go.WideShapes Go.ChangeAt Go.RowKit Go.Deep
namespace Opv
open Il Sl Fc

theorem list3 {α : Type} {l : List α} (h : l.length = 3) : ∃ a b c, l = [a, b, c] := by
  match l, h with
  | [a, b, c], _ => exact ⟨a, b, c, rfl⟩
section
variable {H : Type} {enc : TypeId × Value → H} {w : World} {spare : Nat → Bool} {held : Bool}
set_option maxRecDepth 20000 in
theorem open_fl {n : Nat} {cs : List Value} {y : DataW H × List MemPlace} (h : DataW.trod enc Try.prog w 0 spare held n 48 cs = some y) : ∃ x : Fl, cs = x.cells := by
  obtain ⟨xs, m, _, _, hcl, hxl, hf⟩ := DataW.trod_struct Try.underlying48 h
  have k4 : Try.prog.cellsOf 48 = 3 := by kernel_rfl
  have k1 : Try.prog.cellsOf 3 = 1 := by kernel_rfl
  rw [k4] at hcl
  obtain ⟨c0, c1, c2, rfl⟩ := list3 hcl
  obtain ⟨y0, y1, y2, rfl⟩ := list3 hxl
  have h0 : DataW.trod enc Try.prog w 0 spare held m 3 [c0] = some y0 := by
    have q : DataW.trod enc Try.prog w 0 spare held m 3 (List.take (Try.prog.cellsOf 3) (List.drop 0 [c0, c1, c2])) = some y0 := hf 0 _ rfl
    rw [k1] at q
    exact q
  have h1 : DataW.trod enc Try.prog w 0 spare held m 3 [c1] = some y1 := by
    have q : DataW.trod enc Try.prog w 0 spare held m 3 (List.take (Try.prog.cellsOf 3) (List.drop 1 [c0, c1, c2])) = some y1 := hf 1 _ rfl
    rw [k1] at q
    exact q
  have h2 : DataW.trod enc Try.prog w 0 spare held m 3 [c2] = some y2 := by
    have q : DataW.trod enc Try.prog w 0 spare held m 3 (List.take (Try.prog.cellsOf 3) (List.drop 2 [c0, c1, c2])) = some y2 := hf 2 _ rfl
    rw [k1] at q
    exact q
  obtain ⟨v0, e0, _, _⟩ := DataW.trod_int Try.underlying3 h0
  obtain ⟨v1, e1, _, _⟩ := DataW.trod_int Try.underlying3 h1
  obtain ⟨v2, e2, _, _⟩ := DataW.trod_int Try.underlying3 h2
  simp only [List.cons.injEq, and_true] at e0 e1 e2
  subst e0 e1 e2
  exact ⟨⟨v0, v1, v2⟩, rfl⟩
theorem open_fls {n : Nat} {u : Value} {y : DataW H × List MemPlace} (h : DataW.trod enc Try.prog w 0 spare held n 33 [u] = some y) (hsp : ∀ b, spare b = true) : ∃ A k c xs, u = .slice A k c ∧ Fls 0 w.heap.size w A k c xs := by
  have k4 : Try.prog.cellsOf 48 = 3 := by kernel_rfl
  rcases open_slice Try.underlying33 h with ⟨hcs, _⟩ | ⟨a, len, cap, m, n2, D, Pl, hcs, _, hl, hm, hmm, _, hi⟩
  · exact ⟨none, 0, 0, [], by simpa using hcs, Fls.nil_ (Nat.zero_le _)⟩
  · have hml : len ≤ m := by rw [hmm, hsp]; exact hl
    have hel : ∀ i, i < len → ∃ s : Fl, (∀ r v, s.cells[r]? = some v → w.cell? ((a.add (i * 3)).add r) = some v) := fun i him => by
      obtain ⟨cs, hc, ht⟩ := hi i (by omega)
      rw [k4] at hc
      obtain ⟨_, hcl, hat⟩ := World.cells?_some hc
      obtain ⟨s, rfl⟩ := open_fl ht
      exact ⟨s, fun r v hr => by rw [hat r (by have := (List.getElem?_eq_some_iff.1 hr).1; rw [cells_len] at this; exact this)]; exact hr⟩
    have hall : ∀ k, k ≤ len → ∃ ss : List Fl, ss.length = k ∧ ∀ i s, ss[i]? = some s → (∀ r v, s.cells[r]? = some v → w.cell? ((a.add (i * 3)).add r) = some v) := fun k => by
      induction k with
      | zero => exact fun _ => ⟨[], rfl, fun i s h => by simp at h⟩
      | succ k ih =>
        intro hk
        obtain ⟨ss, h1, h2⟩ := ih (by omega)
        obtain ⟨s, hs⟩ := hel k (by omega)
        refine ⟨ss ++ [s], by simp [h1], fun i t ht => ?_⟩
        by_cases e : i < ss.length
        · rw [List.getElem?_append_left e] at ht
          exact h2 i t ht
        · rw [List.getElem?_append_right (by omega)] at ht
          have : i - ss.length = 0 := by
            have := (List.getElem?_eq_some_iff.1 ht).1
            simp at this; omega
          rw [this] at ht
          simp only [List.getElem?_cons_zero, Option.some.injEq] at ht
          subst ht
          rw [show i = k by omega]
          exact hs
    obtain ⟨ss, h1, h2⟩ := hall len (Nat.le_refl _)
    refine ⟨some a, len, cap, ss, by simpa using hcs, ⟨by rw [flat_len cells_len, h1], hl, hm, fun hn => ?_⟩⟩
    · obtain ⟨b, off, spot⟩ := a
      have hx : ss[0]? = some (ss[0]'(by omega)) := List.getElem?_eq_getElem (by omega)
      have h0 := h2 0 _ hx 0 _ rfl
      have hs : spot = none := by simpa [Addr.add] using World.cell?_spot h0
      subst hs
      have hb : b < w.heap.size := by
        have := World.block_lt_of_cell? w _ h0
        simpa [Addr.add] using this
      refine ⟨b, off, rfl, Nat.zero_le _, hb, hb, fun j v hj => ?_⟩
      have hjl := (List.getElem?_eq_some_iff.1 hj).1
      rw [flat_len cells_len, h1] at hjl
      have hq : j / 3 < ss.length := by omega
      have hx : ss[j / 3]? = some (ss[j / 3]'hq) := List.getElem?_eq_getElem hq
      have hf := flat_at cells_len hx (show j % 3 < 3 by omega)
      rw [show j / 3 * 3 + j % 3 = j by omega, hj] at hf
      have hc := h2 _ _ hx (j % 3) v hf.symm
      have e6 : j / 3 * 3 + j % 3 = j := by omega
      have : (Addr.add (Addr.add ⟨b, off, none⟩ (j / 3 * 3)) (j % 3)) = ⟨b, off + j, none⟩ := by
        have ea : (Addr.add (Addr.add ⟨b, off, none⟩ (j / 3 * 3)) (j % 3)) = Addr.add ⟨b, off, none⟩ (j / 3 * 3 + j % 3) := by
          unfold Addr.add
          by_cases hi : j / 3 * 3 = 0 <;> by_cases hj : j % 3 = 0 <;> simp [hi, hj, Nat.add_assoc]
        rw [ea, e6]
        unfold Addr.add
        split <;> simp_all
      rwa [this] at hc
end

end Opv
end Go.Proofs.Ytcbhjnjallnidaa
