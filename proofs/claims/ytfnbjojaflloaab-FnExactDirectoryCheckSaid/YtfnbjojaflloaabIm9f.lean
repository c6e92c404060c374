/-
  Contracts of the library's Clone and Delete over entries.
-/
import Derived.Test.YtfnbjojaflloaabIm9d
import Derived.Deep.RegionLaw
import Derived.Laws.IdiomCopy
namespace Go.Proofs.Ytfnbjojaflloaab
open Go.RowKit Go.Shelf
namespace Im9
open Il Sl Gm Cm Ec Dm Sp9 Sg
attribute [local go_sem] Oper.semAt_some


theorem kept_setCells {lo hi b : Nat} {w : World} (h1 : lo ≤ b) (h2 : b < hi) : ∀ (vs : List Value) (o : Nat) {w' : World}, Kept lo hi w w' → Kept lo hi w (w'.setCells b o vs)
  | [], _, _, h => h
  | v :: r, o, _, h => kept_setCells h1 h2 r (o + 1) (h.set (p := ⟨b, o, none⟩) h1 h2 v)

/-- clear(s), s a slice of one entry. -/
theorem clear_one (w : World) (ty : TypeId) (b o c : Nat) (hc : ∀ j, j < 3 → (w.cell? ⟨b, o + j, none⟩).isSome = true) (hf : ∀ j, j < 3 → w.frozen? ⟨b, o + j, none⟩ = false) :
    (Builtin.clear_ #[38] ty #[.slice (some ⟨b, o, none⟩) 1 c]).run Try.prog w = .ok (.tuple #[]) (w.setCells b o [.int .i64 0, .int .i64 0, .int .i64 0]) := by
  have hzc : (Builtin.zeroCells (Value.cells (.agg #[.int .i64 0, .int .i64 0, .int .i64 0])) 1).toList = [.int .i64 0, .int .i64 0, .int .i64 0] := by kernel_rfl
  have hst := run_storeCells_cells (P := Try.prog) b o [.int .i64 0, .int .i64 0, .int .i64 0] 0 w (by simpa using hc) (by simpa using hf) (by intro v hv; simp at hv; rw [hv]; rfl)
  simp only [Nat.add_zero] at hst
  simp [Builtin.clear_, run_underlying Try.underlying38, hzc, hst]

/-- What Delete leaves: the row without place i. -/
def DelPost (lo hi b off n cap i : Nat) (es : List En) (w : World) (e : Ending) (w' : World) : Prop :=
  e = .returned (.slice (some ⟨b, off, none⟩) (n - 1) cap) ∧ EnsO lo hi w' (some ⟨b, off, none⟩) (n - 1) cap (es.eraseIdx i) ∧ Kept lo hi w w'
theorem del_row {lo hi b off n cap i : Nat} {es : List En} {w : World} (hx : EnsO lo hi w (some ⟨b, off, none⟩) n cap es) (hin : i < n) (zs : List Value) :
    EnsO lo hi ((w.drew.setCells b (off + i * 3) ((es.drop (i + 1)).flatMap En.cells)).setCells b (off + (n - 1) * 3) zs) (some ⟨b, off, none⟩) (n - 1) cap (es.eraseIdx i) ∧ (zs.length = 3 → Kept lo hi w ((w.drew.setCells b (off + i * 3) ((es.drop (i + 1)).flatMap En.cells)).setCells b (off + (n - 1) * 3) zs)) := by
  have hl := hx.row_.len_
  obtain ⟨b', off', e, hb1, hb2, hbz, hc⟩ := hx.1.2.2.2 (by omega)
  simp only [Option.some.injEq, Addr.mk.injEq, and_true] at e
  obtain ⟨rfl, rfl⟩ := e
  have hel : (es.eraseIdx i).length = n - 1 := by rw [List.length_eraseIdx_of_lt (by omega)]; omega
  have hnl : ((es.drop (i + 1)).flatMap En.cells).length = (n - 1 - i) * 3 := by rw [flat_len cells_len, List.length_drop]; congr 1; omega
  have hK : Kept lo hi w ((w.drew.setCells b (off + i * 3) ((es.drop (i + 1)).flatMap En.cells)).setCells b (off + (n - 1) * 3) zs) :=
    kept_setCells hb1 hb2 _ _ (kept_setCells hb1 hb2 _ _ ((Kept.refl lo hi w).drewN 1))
  have hsome : ∀ j, j < n * 3 → (w.cell? ⟨b, off + j, none⟩).isSome = true := fun j hj => by
    rw [hc j _ (List.getElem?_eq_getElem (by rw [flat_len cells_len]; omega))]; rfl
  refine ⟨⟨⟨by rw [flat_len cells_len, hel], by have := hx.1.2.1; omega, hx.1.2.2.1, fun _ => ⟨b, off, rfl, hb1, hb2, by rw [hK.size]; exact hbz, fun j v hj => ?_⟩⟩, fun b2 off2 hn2 e j hj => ?_⟩, fun _ => hK⟩
  · have hjl : j < (n - 1) * 3 := by
      have := (List.getElem?_eq_some_iff.1 hj).1
      rwa [flat_len cells_len, hel] at this
    rw [World.cell?_setCells_out b zs _ _ _ (fun _ _ => .inl (by show off + j < _; omega))]
    rw [List.eraseIdx_eq_take_drop_succ, List.flatMap_append] at hj
    have htl : ((es.take i).flatMap En.cells).length = i * 3 := by rw [flat_len cells_len, List.length_take]; congr 1; omega
    by_cases h1 : j < i * 3
    · rw [List.getElem?_append_left (by omega)] at hj
      rw [World.cell?_setCells_out b _ _ _ _ (fun _ _ => .inl (by show off + j < _; omega))]
      refine hc j v ?_
      have hsp : es.flatMap En.cells = (es.take i).flatMap En.cells ++ (es.drop i).flatMap En.cells := by rw [← List.flatMap_append, List.take_append_drop]
      rw [hsp, List.getElem?_append_left (by omega)]
      exact hj
    · rw [List.getElem?_append_right (by omega), htl] at hj
      obtain ⟨hjx, hjv⟩ := List.getElem?_eq_some_iff.1 hj
      have := World.cell?_setCells_in b ((es.drop (i + 1)).flatMap En.cells) (off + i * 3) w.drew (fun q hq => by
        rw [hnl] at hq
        rw [Nat.add_assoc]
        exact hsome _ (by omega)) (j - i * 3) hjx
      rw [show off + i * 3 + (j - i * 3) = off + j by omega] at this
      rw [this, hjv]
  · simp only [Option.some.injEq, Addr.mk.injEq, and_true] at e
    obtain ⟨rfl, rfl⟩ := e
    rw [World.frozen?_setCells, World.frozen?_setCells]
    exact hx.2 b off (by omega) rfl j (by omega)

end Im9
end Go.Proofs.Ytfnbjojaflloaab
