/-
  Contract of the program's DirectoryPath.
-/
import Derived.Test.YtfnbjojaflloaabIm9f
namespace Go.Proofs.Ytfnbjojaflloaab
open Go.RowKit Go.Shelf
namespace Im9
open Il Sl Gm Cm Ec Dm Sp9 Sg
attribute [local go_sem] Oper.semAt_some

theorem nil_new {w w1 : World} (h : Below w.heap.size w w1) : NewInts w [] (.returned (.slice (some ⟨w1.heap.size, 0, none⟩) 0 0)) (w1.alloc (.cells #[] 3)) :=
  ⟨_, 0, rfl, ⟨Ints.nil_ (Nat.zero_le _), fun _ _ h => absurd h (Nat.lt_irrefl 0)⟩, h.alloc h.size _⟩
/-- What stands in the path's row once the places ch are chosen. -/
def rowP (es : List En) (ch : List Int) (H : Nat) : List Int := ch.map (nmI es) ++ List.replicate (H - ch.length) 0
theorem rowP_nil (es : List En) (H : Nat) : rowP es [] H = List.replicate H 0 := rfl
theorem rowP_all (es : List En) {ch : List Int} {H : Nat} (h : ch.length = H) : rowP es ch H = ch.map (nmI es) := by
  unfold rowP
  rw [h, Nat.sub_self, List.replicate_zero, List.append_nil]
theorem rowP_set (es : List En) {ch : List Int} {g H j : Nat} (h : ch.length = g) (hg : g < H) : (rowP es ch H).set g (enAt es j).nm = rowP es (ch ++ [(j : Int)]) H := by
  unfold rowP
  have hl : (ch.map (nmI es)).length = g := by rw [List.length_map, h]
  rw [List.set_append_right _ _ (by omega), hl, Nat.sub_self, h, List.length_append, List.length_singleton, h, List.map_append, List.append_assoc]
  obtain ⟨r, hr⟩ : ∃ r, H - g = r + 1 := ⟨H - g - 1, by omega⟩
  rw [hr, show H - (g + 1) = r by omega, List.replicate_succ, List.set_cons_zero]
  rfl
/-- .. the rest of the entries below it, and all else as it was. -/
def QRel (w wr : World) (es : List En) (ch : List Int) (A : Option Addr) (c gp H : Nat) : Prop :=
  EnsO w.heap.size gp wr A (restOf es ch).length c (restOf es ch) ∧ Il.Own gp (gp + 1) wr (some ⟨gp, 0, none⟩) H H (rowP es ch H) ∧ Below w.heap.size w wr ∧ gp < wr.heap.size ∧ w.heap.size ≤ gp
section
variable {w wr w2 : World} {es : List En} {ch : List Int} {A : Option Addr} {c gp H : Nat}
theorem QRel.bel (h : QRel w wr es ch A c gp H) : Below w.heap.size w wr := h.2.2.1
theorem QRel.ens (h : QRel w wr es ch A c gp H) : Ens w.heap.size gp wr A (restOf es ch).length c (restOf es ch) := h.1.row_
theorem QRel.below (h : QRel w wr es ch A c gp H) (hb : Below wr.heap.size wr w2) : QRel w w2 es ch A c gp H :=
  ⟨h.1.below hb (Nat.le_refl _), h.2.1.below hb (Nat.le_refl _), h.2.2.1.trans (hb.mono h.2.2.1.size), Nat.lt_of_lt_of_le h.2.2.2.1 hb.size, h.2.2.2.2⟩
theorem QRel.drew (h : QRel w wr es ch A c gp H) (d : Nat) : QRel w (wr.drewN d) es ch A c gp H := ⟨h.1, h.2.1, below_dr h.2.2.1, h.2.2.2⟩
/-- The path's next place is written. -/
theorem QRel.put (h : QRel w wr es ch A c gp H) {g j : Nat} (hl : ch.length = g) (hg : g < H) :
    EnsO w.heap.size gp (wr.setCell ⟨gp, g, none⟩ (.int .i64 (enAt es j).nm)) A (restOf es ch).length c (restOf es ch) ∧ Il.Own gp (gp + 1) (wr.setCell ⟨gp, g, none⟩ (.int .i64 (enAt es j).nm)) (some ⟨gp, 0, none⟩) H H (rowP es (ch ++ [(j : Int)]) H) ∧ Below w.heap.size w (wr.setCell ⟨gp, g, none⟩ (.int .i64 (enAt es j).nm)) ∧ gp < (wr.setCell ⟨gp, g, none⟩ (.int .i64 (enAt es j).nm)).heap.size := by
  obtain ⟨h1, h2, h3, h4, h5⟩ := h
  have hk : Kept gp (gp + 1) wr (wr.setCell ⟨gp, g, none⟩ (.int .i64 (enAt es j).nm)) := (Kept.refl gp (gp + 1) wr).set (p := ⟨gp, g, none⟩) (Nat.le_refl _) (Nat.lt_succ_self _) _
  have ho := h2.set_ hg (enAt es j).nm
  rw [rowP_set es hl hg, Nat.zero_add] at ho
  exact ⟨h1.kept hk (by omega), ho, h3.trans (hk.below h5), by rw [hk.size]; exact h4⟩
theorem QRel.next {w3 : World} {off i n b : Nat} {j : Int} (h2 : Il.Own gp (gp + 1) w2 (some ⟨gp, 0, none⟩) H H (rowP es (ch ++ [j]) H)) (h3 : Below w.heap.size w w2) (h4 : gp < w2.heap.size) (h5 : w.heap.size ≤ gp)
    (hd : EnsO w.heap.size gp w3 (some ⟨b, off, none⟩) n c ((restOf es ch).eraseIdx i)) (hn : n = (restOf es (ch ++ [j])).length) (hk : Kept w.heap.size gp w2 w3) (he : restOf es (ch ++ [j]) = (restOf es ch).eraseIdx i) : QRel w w3 es (ch ++ [j]) (some ⟨b, off, none⟩) c gp H :=
  ⟨by rw [← hn, he]; exact hd, h2.kept hk (by omega), h3.trans (hk.below (Nat.le_refl _)), by rw [hk.size]; exact h4, h5⟩
theorem QRel.post (h : QRel w wr es ch A c gp H) (hl : ch.length = H) : NewInts w (ch.map (nmI es)) (.returned (.slice (some ⟨gp, 0, none⟩) H H)) wr := by
  obtain ⟨h1, h2, h3, h4, h5⟩ := h
  rw [rowP_all es hl] at h2
  have he : (ch.map (nmI es)).length = H := by rw [List.length_map, hl]
  exact ⟨_, H, by rw [he], by rw [he]; exact h2.mono h5 (by omega), h3⟩
end

end Im9
end Go.Proofs.Ytfnbjojaflloaab
