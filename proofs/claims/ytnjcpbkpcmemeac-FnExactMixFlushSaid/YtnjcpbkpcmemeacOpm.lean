/-
  A list of peeled packets that came in, opened: a pool that can be read.
-/
import Derived.Test.YtnjcpbkpcmemeacSl
import Derived.ProofKit
import Derived.OpenShut
import Derived.ShutString
import Derived.ChangeOld
import Derived.Below
import Derived.Lib.SmallJoins
import Derived.Deep.Slices
import Derived.Deep.Fields
namespace Go.Proofs.Ytnjcpbkpcmemeac
open Go.ChangeShapes Go.WideShapes Go.ChangeAt Go.RowKit Go.Deep
namespace Opm
open Il Pm Pq Hlp5 Sl

theorem list6 {α : Type} {l : List α} (h : l.length = 6) : ∃ a b c d e f, l = [a, b, c, d, e, f] := by
  match l, h with
  | [a, b, c, d, e, f], _ => exact ⟨a, b, c, d, e, f, rfl⟩
theorem list4 {α : Type} {l : List α} (h : l.length = 4) : ∃ a b c d, l = [a, b, c, d] := by
  match l, h with
  | [a, b, c, d], _ => exact ⟨a, b, c, d, rfl⟩
theorem list3 {α : Type} {l : List α} (h : l.length = 3) : ∃ a b c, l = [a, b, c] := by
  match l, h with
  | [a, b, c], _ => exact ⟨a, b, c, rfl⟩
section
variable {H : Type} {enc : TypeId × Value → H} {w : World} {spare : Nat → Bool} {held : Bool}
theorem open_list {n : Nat} {u : Value} {y : DataW H × List MemPlace} (h : DataW.trod enc Try.prog w 0 spare held n 23 [u] = some y) (hsp : ∀ b, spare b = true) : ∃ A k c xs, u = .slice A k c ∧ Ints 0 w.heap.size w A k c xs := by
  rcases open_ints Try.underlying23 Try.underlying3 (by kernel_rfl) h with ⟨hcs, _⟩ | ⟨x, l, c, zs, hcs, _, hl, hm, hz, _, hcell, hwz⟩
  · exact ⟨none, 0, 0, _, by simpa using hcs, ints_of_row (.inl ⟨rfl, rfl, rfl, rfl⟩)⟩
  · exact ⟨some x, l, c, _, by simpa using hcs, ints_of_row (.inr ⟨_, rfl, hl, hm, by rw [hz, hsp]; rfl, hcell, hwz⟩)⟩
set_option maxRecDepth 20000 in
theorem open_pld {n : Nat} {cs : List Value} {y : DataW H × List MemPlace} (h : DataW.trod enc Try.prog w 0 spare held n 103 cs = some y) (hsp : ∀ b, spare b = true) : ∃ s : Slot, cs = s.cells ∧ SlotR 0 w.heap.size w s := by
  obtain ⟨xs, m, _, _, hcl, hxl, hf⟩ := DataW.trod_struct Try.underlying103 h
  have k6 : Try.prog.cellsOf 103 = 6 := by kernel_rfl
  have k4 : Try.prog.cellsOf 46 = 4 := by kernel_rfl
  have k1 : Try.prog.cellsOf 3 = 1 := by kernel_rfl
  have k2 : Try.prog.cellsOf 23 = 1 := by kernel_rfl
  rw [k6] at hcl
  obtain ⟨c0, c1, c2, c3, c4, c5, rfl⟩ := list6 hcl
  obtain ⟨y0, y1, y2, rfl⟩ := list3 hxl
  have h0 : DataW.trod enc Try.prog w 0 spare held m 3 [c0] = some y0 := by
    have q : DataW.trod enc Try.prog w 0 spare held m 3 (List.take (Try.prog.cellsOf 3) (List.drop 0 [c0, c1, c2, c3, c4, c5])) = some y0 := hf 0 _ rfl
    rw [k1] at q
    exact q
  have h1 : DataW.trod enc Try.prog w 0 spare held m 3 [c1] = some y1 := by
    have q : DataW.trod enc Try.prog w 0 spare held m 3 (List.take (Try.prog.cellsOf 3) (List.drop 1 [c0, c1, c2, c3, c4, c5])) = some y1 := hf 1 _ rfl
    rw [k1] at q
    exact q
  have h2 : DataW.trod enc Try.prog w 0 spare held m 46 [c2, c3, c4, c5] = some y2 := by
    have q : DataW.trod enc Try.prog w 0 spare held m 46 (List.take (Try.prog.cellsOf 46) (List.drop 2 [c0, c1, c2, c3, c4, c5])) = some y2 := hf 2 _ rfl
    rw [k4] at q
    exact q
  obtain ⟨zs, m2, _, _, _, hzl, hg⟩ := DataW.trod_struct Try.underlying46 h2
  obtain ⟨z0, z1, z2, z3, rfl⟩ := list4 hzl
  have g0 : DataW.trod enc Try.prog w 0 spare held m2 3 [c2] = some z0 := by
    have q : DataW.trod enc Try.prog w 0 spare held m2 3 (List.take (Try.prog.cellsOf 3) (List.drop 0 [c2, c3, c4, c5])) = some z0 := hg 0 _ rfl
    rw [k1] at q
    exact q
  have g1 : DataW.trod enc Try.prog w 0 spare held m2 23 [c3] = some z1 := by
    have q : DataW.trod enc Try.prog w 0 spare held m2 23 (List.take (Try.prog.cellsOf 23) (List.drop 1 [c2, c3, c4, c5])) = some z1 := hg 1 _ rfl
    rw [k2] at q
    exact q
  have g2 : DataW.trod enc Try.prog w 0 spare held m2 3 [c4] = some z2 := by
    have q : DataW.trod enc Try.prog w 0 spare held m2 3 (List.take (Try.prog.cellsOf 3) (List.drop 2 [c2, c3, c4, c5])) = some z2 := hg 2 _ rfl
    rw [k1] at q
    exact q
  have g3 : DataW.trod enc Try.prog w 0 spare held m2 23 [c5] = some z3 := by
    have q : DataW.trod enc Try.prog w 0 spare held m2 23 (List.take (Try.prog.cellsOf 23) (List.drop 3 [c2, c3, c4, c5])) = some z3 := hg 3 _ rfl
    rw [k2] at q
    exact q
  obtain ⟨v0, e0, _, _⟩ := DataW.trod_int Try.underlying3 h0
  obtain ⟨v1, e1, _, _⟩ := DataW.trod_int Try.underlying3 h1
  obtain ⟨v2, e2, _, _⟩ := DataW.trod_int Try.underlying3 g0
  obtain ⟨v4, e4, _, _⟩ := DataW.trod_int Try.underlying3 g2
  obtain ⟨A, nA, cA, xs, rfl, iA⟩ := open_list g1 hsp
  obtain ⟨B, nB, cB, ys, rfl, iB⟩ := open_list g3 hsp
  simp only [List.cons.injEq, and_true] at e0 e1 e2 e4
  subst e0 e1 e2 e4
  obtain rfl := iA.1
  obtain rfl := iB.1
  exact ⟨⟨⟨v0, v1, ⟨v2, xs, v4, ys⟩⟩, A, cA, B, cB, 0, 0⟩, rfl, iA, iB⟩
theorem open_pool {n : Nat} {u : Value} {y : DataW H × List MemPlace} (h : DataW.trod enc Try.prog w 0 spare held n 40 [u] = some y) (hsp : ∀ b, spare b = true) : ∃ A k c ps, u = .slice A k c ∧ Pool 0 w.heap.size w A k c ps := by
  have k6 : Try.prog.cellsOf 103 = 6 := by kernel_rfl
  rcases open_slice Try.underlying40 h with ⟨hcs, _⟩ | ⟨a, len, cap, m, n2, D, Pl, hcs, _, hl, hm, hmm, _, hi⟩
  · exact ⟨none, 0, 0, [], by simpa using hcs, Pool.nil_ (Nat.zero_le _)⟩
  · have hml : len ≤ m := by rw [hmm, hsp]; exact hl
    have hel : ∀ i, i < len → ∃ s : Slot, (∀ r v, s.cells[r]? = some v → w.cell? ((a.add (i * 6)).add r) = some v) ∧ SlotR 0 w.heap.size w s := fun i him => by
      obtain ⟨cs, hc, ht⟩ := hi i (by omega)
      rw [k6] at hc
      obtain ⟨_, hcl, hat⟩ := World.cells?_some hc
      obtain ⟨s, rfl, hs⟩ := open_pld ht hsp
      exact ⟨s, fun r v hr => by rw [hat r (by have := (List.getElem?_eq_some_iff.1 hr).1; rw [cells_len] at this; exact this)]; exact hr, hs⟩
    have hall : ∀ k, k ≤ len → ∃ ss : List Slot, ss.length = k ∧ ∀ i s, ss[i]? = some s → (∀ r v, s.cells[r]? = some v → w.cell? ((a.add (i * 6)).add r) = some v) ∧ SlotR 0 w.heap.size w s := fun k => by
      induction k with
      | zero => exact fun _ => ⟨[], rfl, fun i s h => by simp at h⟩
      | succ k ih =>
        intro hk
        obtain ⟨ss, h1, h2⟩ := ih (by omega)
        obtain ⟨s, hs⟩ := hel k (by omega)
        refine ⟨ss ++ [s], by simp [h1], fun i t ht => ?_⟩
        by_cases e : i < ss.length
        · rw [List.getElem?_append_left e] at ht
          exact h2 i t ht
        · rw [List.getElem?_append_right (by omega)] at ht
          have : i - ss.length = 0 := by
            have := (List.getElem?_eq_some_iff.1 ht).1
            simp at this; omega
          rw [this] at ht
          simp only [List.getElem?_cons_zero, Option.some.injEq] at ht
          subst ht
          rw [show i = k by omega]
          exact hs
    obtain ⟨ss, h1, h2⟩ := hall len (Nat.le_refl _)
    refine ⟨some a, len, cap, ss.map (·.p), by simpa using hcs, ss, rfl, ⟨by rw [flat_len cells_len, h1], hl, hm, fun hn => ?_⟩, fun s hs => ?_⟩
    · obtain ⟨b, off, spot⟩ := a
      have hx : ss[0]? = some (ss[0]'(by omega)) := List.getElem?_eq_getElem (by omega)
      have h0 := (h2 0 _ hx).1 0 _ rfl
      have hs : spot = none := by simpa [Addr.add] using World.cell?_spot h0
      subst hs
      have hb : b < w.heap.size := by
        have := World.block_lt_of_cell? w _ h0
        simpa [Addr.add] using this
      refine ⟨b, off, rfl, Nat.zero_le _, hb, hb, fun j v hj => ?_⟩
      have hjl := (List.getElem?_eq_some_iff.1 hj).1
      rw [flat_len cells_len, h1] at hjl
      have hq : j / 6 < ss.length := by omega
      have hx : ss[j / 6]? = some (ss[j / 6]'hq) := List.getElem?_eq_getElem hq
      have hf := flat_at cells_len hx (show j % 6 < 6 by omega)
      rw [show j / 6 * 6 + j % 6 = j by omega, hj] at hf
      have hc := (h2 _ _ hx).1 (j % 6) v hf.symm
      have e6 : j / 6 * 6 + j % 6 = j := by omega
      have : (Addr.add (Addr.add ⟨b, off, none⟩ (j / 6 * 6)) (j % 6)) = ⟨b, off + j, none⟩ := by
        have ea : (Addr.add (Addr.add ⟨b, off, none⟩ (j / 6 * 6)) (j % 6)) = Addr.add ⟨b, off, none⟩ (j / 6 * 6 + j % 6) := by
          unfold Addr.add
          by_cases hi : j / 6 * 6 = 0 <;> by_cases hj : j % 6 = 0 <;> simp [hi, hj, Nat.add_assoc]
        rw [ea, e6]
        unfold Addr.add
        split <;> simp_all
      rwa [this] at hc
    · obtain ⟨i, hi2, rfl⟩ := List.getElem_of_mem hs
      exact (h2 i _ (List.getElem?_eq_getElem hi2)).2
end

end Opm
end Go.Proofs.Ytnjcpbkpcmemeac
