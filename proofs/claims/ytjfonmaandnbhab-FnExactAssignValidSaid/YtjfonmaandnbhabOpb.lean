/-
  A table of bools that came in, opened.
-/
import Derived.Test.YtjfonmaandnbhabCb
import Derived.ProofKit
import Derived.OpenShut
import Derived.ShutString
import Derived.ChangeOld
import Derived.Below
import Derived.Lib.SmallJoins
import Derived.Deep.Slices
import Derived.Deep.Fields
namespace Go.Proofs.Ytjfonmaandnbhab
open Go.ChangeShapes Go.WideShapes Go.ChangeAt Go.RowKit Go.Deep
namespace Opb
open Il Bi Cb

theorem list1 {α : Type} {l : List α} (h : l.length = 1) : ∃ a, l = [a] := by
  match l, h with
  | [a], _ => exact ⟨a, rfl⟩
section
variable {H : Type} {enc : TypeId × Value → H} {w : World} {spare : Nat → Bool} {held : Bool}
theorem open_blist {n : Nat} {u : Value} {y : DataW H × List MemPlace} (h : DataW.trod enc Try.prog w 0 spare held n 52 [u] = some y) (hsp : ∀ b, spare b = true) : ∃ A k c xs, u = .slice A k c ∧ Bls 0 w.heap.size w A k c xs := by
  rcases open_slice1 Try.underlying52 (by kernel_rfl) h with ⟨hcs, _⟩ | ⟨a, len, cap, m, n2, V, D, Pl, hcs, _, hl, hm, hmm, _, hi⟩
  · exact ⟨none, 0, 0, [], by simpa using hcs, Bls.nil_ (Nat.zero_le _)⟩
  · have hml : len ≤ m := by rw [hmm, hsp]; exact hl
    have hel : ∀ i, i < len → ∃ b : Bool, w.cell? (a.add i) = some (.bool b) := fun i him => by
      obtain ⟨h1, h2⟩ := hi i (by omega)
      obtain ⟨b, hb, _⟩ := DataW.trod_bool Try.underlying4 h2
      obtain hb : V i = .bool b := by simpa using hb
      exact ⟨b, by rw [h1, hb]⟩
    have hall : ∀ k, k ≤ len → ∃ xs : List Bool, xs.length = k ∧ ∀ i, i < k → w.cell? (a.add i) = some (.bool (xs.getD i false)) := fun k => by
      induction k with
      | zero => exact fun _ => ⟨[], rfl, fun i h => by omega⟩
      | succ k ih =>
        intro hk
        obtain ⟨xs, h1, h2⟩ := ih (by omega)
        obtain ⟨b, hb⟩ := hel k (by omega)
        refine ⟨xs ++ [b], by simp [h1], fun i hi => ?_⟩
        rw [List.getD_eq_getElem?_getD]
        by_cases e : i < k
        · rw [List.getElem?_append_left (by omega), ← List.getD_eq_getElem?_getD]
          exact h2 i e
        · obtain rfl : i = k := by omega
          rw [List.getElem?_append_right (by omega), h1, Nat.sub_self]
          exact hb
    obtain ⟨xs, h1, h2⟩ := hall len (Nat.le_refl _)
    refine ⟨some a, len, cap, xs, by simpa using hcs, h1, hl, hm, fun hn => ?_⟩
    obtain ⟨b, off, spot⟩ := a
    have h0 := h2 0 hn
    have hs : spot = none := by simpa [Addr.add] using World.cell?_spot h0
    subst hs
    have hb : b < w.heap.size := by
      have := World.block_lt_of_cell? w _ h0
      simpa [Addr.add] using this
    refine ⟨b, off, rfl, Nat.zero_le _, hb, hb, fun j hj => ?_⟩
    have hc := h2 j hj
    have : Addr.add ⟨b, off, none⟩ j = ⟨b, off + j, none⟩ := by
      unfold Addr.add
      split <;> simp_all
    rwa [this] at hc
theorem open_bts {n : Nat} {u : Value} {y : DataW H × List MemPlace} (h : DataW.trod enc Try.prog w 0 spare held n 23 [u] = some y) (hsp : ∀ b, spare b = true) : ∃ A k c xss, u = .slice A k c ∧ Bts 0 w.heap.size w A k c xss := by
  have k1 : Try.prog.cellsOf 52 = 1 := by kernel_rfl
  rcases open_slice Try.underlying23 h with ⟨hcs, _⟩ | ⟨a, len, cap, m, n2, D, Pl, hcs, _, hl, hm, hmm, _, hi⟩
  · exact ⟨none, 0, 0, [], by simpa using hcs, Bts.nil_ (Nat.zero_le _)⟩
  · have hml : len ≤ m := by rw [hmm, hsp]; exact hl
    have hel : ∀ i, i < len → ∃ s : Bk, w.cell? (a.add i) = some s.cell ∧ Bls 0 w.heap.size w s.A s.xs.length s.c s.xs := fun i him => by
      obtain ⟨cs, hc, ht⟩ := hi i (by omega)
      rw [k1] at hc
      obtain ⟨_, hcl, hat⟩ := World.cells?_some hc
      obtain ⟨v, rfl⟩ := list1 hcl
      obtain ⟨A, nA, cA, xs, rfl, iA⟩ := open_blist ht hsp
      obtain rfl := iA.1
      have h0 := hat 0 (by omega)
      rw [Nat.mul_one] at h0
      have e0 : (a.add i).add 0 = a.add i := by unfold Addr.add; simp
      rw [e0] at h0
      exact ⟨⟨xs, A, cA, 0⟩, h0, iA⟩
    have hall : ∀ k, k ≤ len → ∃ ss : List Bk, ss.length = k ∧ ∀ i s, ss[i]? = some s → w.cell? (a.add i) = some s.cell ∧ Bls 0 w.heap.size w s.A s.xs.length s.c s.xs := fun k => by
      induction k with
      | zero => exact fun _ => ⟨[], rfl, fun i s h => by simp at h⟩
      | succ k ih =>
        intro hk
        obtain ⟨ss, h1, h2⟩ := ih (by omega)
        obtain ⟨s, hs⟩ := hel k (by omega)
        refine ⟨ss ++ [s], by simp [h1], fun i t ht => ?_⟩
        by_cases e : i < ss.length
        · rw [List.getElem?_append_left e] at ht
          exact h2 i t ht
        · rw [List.getElem?_append_right (by omega)] at ht
          have : i - ss.length = 0 := by
            have := (List.getElem?_eq_some_iff.1 ht).1
            simp at this; omega
          rw [this] at ht
          simp only [List.getElem?_cons_zero, Option.some.injEq] at ht
          subst ht
          rw [show i = k by omega]
          exact hs
    obtain ⟨ss, h1, h2⟩ := hall len (Nat.le_refl _)
    refine ⟨some a, len, cap, ss.map (·.xs), by simpa using hcs, ss, rfl, ⟨by rw [List.length_map, h1, Nat.mul_one], hl, hm, fun hn => ?_⟩, fun s hs => ?_⟩
    · obtain ⟨b, off, spot⟩ := a
      have hx : ss[0]? = some (ss[0]'(by omega)) := List.getElem?_eq_getElem (by omega)
      have h0 := (h2 0 _ hx).1
      have hs : spot = none := by simpa [Addr.add] using World.cell?_spot h0
      subst hs
      have hb : b < w.heap.size := by
        have := World.block_lt_of_cell? w _ h0
        simpa [Addr.add] using this
      refine ⟨b, off, rfl, Nat.zero_le _, hb, hb, fun j v hj => ?_⟩
      rw [List.getElem?_map] at hj
      cases hsj : ss[j]? with
      | none => rw [hsj] at hj; simp at hj
      | some t =>
        rw [hsj] at hj
        simp only [Option.map_some, Option.some.injEq] at hj
        subst hj
        have hc := (h2 j t hsj).1
        have : Addr.add ⟨b, off, none⟩ j = ⟨b, off + j, none⟩ := by
          unfold Addr.add
          split <;> simp_all
        rwa [this] at hc
    · obtain ⟨i, hi2, rfl⟩ := List.getElem_of_mem hs
      exact (h2 i _ (List.getElem?_eq_getElem hi2)).2
end

end Opb
end Go.Proofs.Ytjfonmaandnbhab
