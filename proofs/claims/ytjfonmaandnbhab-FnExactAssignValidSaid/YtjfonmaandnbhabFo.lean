/-
  Where owned slices lie: footprints, each slice in a block of its own. Nothing of any program.
-/
import Derived.Test.YtjfonmaandnbhabRw
namespace Go.Proofs.Ytjfonmaandnbhab
open Go.RowKit
namespace Fo
open Il Sl

def fp (n b : Nat) : List Nat := if n = 0 then [] else [b]
theorem mem_fp {n b x : Nat} : x ∈ fp n b ↔ 0 < n ∧ x = b := by
  unfold fp
  by_cases h : n = 0
  · simp [h]
  · simp [h]; omega
theorem fp_nodup (n b : Nat) : (fp n b).Nodup := by unfold fp; split <;> simp
def Disj (f g : List Nat) : Prop := ∀ x, x ∈ f → x ∈ g → False
def Foot (G : List (List Nat)) : Prop := G.Pairwise Disj
def Within (lo hi : Nat) (G : List (List Nat)) : Prop := ∀ f ∈ G, ∀ x ∈ f, lo ≤ x ∧ x < hi
theorem Within.mono {lo hi lo' hi' : Nat} {G : List (List Nat)} (h : Within lo hi G) (h1 : lo' ≤ lo) (h2 : hi ≤ hi') : Within lo' hi' G := fun f hf x hx => by have := h f hf x hx; omega
/-- Of the blocks that were there, only those of G may have turned. -/
structure KeptG (G : List (List Nat)) (w w' : World) : Prop where
  os : w'.os = w.os
  tape : w'.tape = w.tape
  output : w'.output = w.output
  size : w.heap.size ≤ w'.heap.size
  block : ∀ b, b < w.heap.size → (∀ f ∈ G, b ∉ f) → w'.heap[b]? = w.heap[b]?
theorem KeptG.refl (G : List (List Nat)) (w : World) : KeptG G w w := ⟨rfl, rfl, rfl, Nat.le_refl _, fun _ _ _ => rfl⟩
theorem KeptG.trans {G : List (List Nat)} {a b c : World} (h : KeptG G a b) (k : KeptG G b c) : KeptG G a c :=
  ⟨k.os.trans h.os, k.tape.trans h.tape, k.output.trans h.output, Nat.le_trans h.size k.size, fun x hx hf => (k.block x (Nat.lt_of_lt_of_le hx h.size) hf).trans (h.block x hx hf)⟩
theorem keptG_at {G : List (List Nat)} {w w' : World} {lo hi : Nat} (hk : KeptG G w w') (hw : Within lo hi G) (b : Nat) (hb : b < w.heap.size) (hd : b < lo ∨ hi ≤ b) : w'.heap[b]? = w.heap[b]? :=
  hk.block b hb fun f hf hm => by have := hw f hf b hm; omega
theorem below_keptG {G : List (List Nat)} {w w' : World} {lo hi K : Nat} {w0 : World} (h : Below K w0 w) (hk : KeptG G w w') (hw : Within lo hi G) (hs : K ≤ w.heap.size) (hd : K ≤ lo) : Below K w0 w' :=
  ⟨hk.os.trans h.os, hk.tape.trans h.tape, hk.output.trans h.output, Nat.le_trans h.size hk.size, fun b hb => (keptG_at hk hw b (by omega) (by omega)).trans (h.block b hb)⟩
theorem keptG_below {G : List (List Nat)} {w w' : World} {lo hi : Nat} (hk : KeptG G w w') (hw : Within lo hi G) (hd : lo ≤ w.heap.size) : Below lo w w' :=
  ⟨hk.os, hk.tape, hk.output, hk.size, fun b hb => keptG_at hk hw b (by omega) (by omega)⟩
theorem ints_keptG {G : List (List Nat)} {w w' : World} {lo hi lo2 hi2 n c : Nat} {A : Option Addr} {xs : List Int} (h : Ints lo hi w A n c xs) (hk : KeptG G w w') (hw : Within lo2 hi2 G) (hd : hi ≤ lo2 ∨ hi2 ≤ lo) : Ints lo hi w' A n c xs :=
  h.keep hk.size fun b h1 h2 h3 => keptG_at hk hw b h3 (by omega)

theorem own_keepC {b n c : Nat} {w w' : World} {A : Option Addr} {xs : List Int} (h : Il.Own b (b + 1) w A n c xs) (hs : w.heap.size ≤ w'.heap.size) (hk : 0 < n → w'.heap[b]? = w.heap[b]?) : Il.Own b (b + 1) w' A n c xs := by
  rcases Nat.eq_zero_or_pos n with rfl | hn
  · exact ⟨⟨h.1.1, h.1.2.1, h.1.2.2.1, fun h => absurd h (by omega)⟩, fun _ _ h => absurd h (by omega)⟩
  · exact h.keep hs fun b' q1 q2 _ => by obtain rfl : b' = b := by omega
                                         exact hk hn
theorem rowO_keepC {b n c sz : Nat} {w w' : World} {A : Option Addr} {vs : List Value} (h : RowO b (b + 1) w A n c sz vs) (hs : w.heap.size ≤ w'.heap.size) (hk : 0 < n → w'.heap[b]? = w.heap[b]?) : RowO b (b + 1) w' A n c sz vs := by
  rcases Nat.eq_zero_or_pos n with rfl | hn
  · exact ⟨⟨h.1.1, h.1.2.1, h.1.2.2.1, fun h => absurd h (by omega)⟩, fun _ _ h => absurd h (by omega)⟩
  · exact h.keep hs fun b' q1 q2 _ => by obtain rfl : b' = b := by omega
                                         exact hk hn
theorem own_ltC {b n c : Nat} {w : World} {A : Option Addr} {xs : List Int} (h : Il.Own b (b + 1) w A n c xs) (hn : 0 < n) : b < w.heap.size := by
  obtain ⟨b', off, e, q1, q2, q3, q4⟩ := h.1.2.2.2 hn
  omega
theorem rowO_ltC {b n c sz : Nat} {w : World} {A : Option Addr} {vs : List Value} (h : RowO b (b + 1) w A n c sz vs) (hn : 0 < n) : b < w.heap.size := by
  obtain ⟨b', off, e, q1, q2, q3, q4⟩ := h.1.2.2.2 hn
  omega
theorem ints_in {b lo hi n c : Nat} {w : World} {A : Option Addr} {xs : List Int} (h : Ints b (b + 1) w A n c xs) (hr : 0 < n → lo ≤ b ∧ b < hi) : Ints lo hi w A n c xs :=
  ⟨h.1, h.2.1, h.2.2.1, fun hn => by
    obtain ⟨b', off, e, h1, h2, hz, hc⟩ := h.2.2.2 hn
    have := hr hn
    exact ⟨b', off, e, by omega, by omega, hz, hc⟩⟩
theorem row_in {b lo hi n c sz : Nat} {w : World} {A : Option Addr} {vs : List Value} (h : Row b (b + 1) w A n c sz vs) (hr : 0 < n → lo ≤ b ∧ b < hi) : Row lo hi w A n c sz vs :=
  ⟨h.1, h.2.1, h.2.2.1, fun hn => by
    obtain ⟨b', off, e, h1, h2, hz, hc⟩ := h.2.2.2 hn
    have := hr hn
    exact ⟨b', off, e, by omega, by omega, hz, hc⟩⟩
theorem rowO_put {lo hi b off n c sz i : Nat} {w : World} {vs : List Value} (h : RowO lo hi w (some ⟨b, off, none⟩) n c sz vs) (hi' : i < n * sz) (v : Value) :
    RowO lo hi (w.setCell ⟨b, off + i, none⟩ v) (some ⟨b, off, none⟩) n c sz (vs.set i v) := by
  have hl := h.1.1
  have hn : 0 < n := by
    rcases Nat.eq_zero_or_pos n with rfl | h
    · omega
    · exact h
  obtain ⟨b', off', e, hb, hb', hz, hc⟩ := h.1.2.2.2 hn
  simp only [Option.some.injEq, Addr.mk.injEq, and_true] at e
  obtain ⟨rfl, rfl⟩ := e
  refine ⟨⟨by rw [List.length_set]; exact hl, h.1.2.1, h.1.2.2.1, fun _ => ⟨b, off, rfl, hb, hb', by simpa [World.setCell] using hz, fun j u hj => ?_⟩⟩, fun b2 off2 hn e j hj => ?_⟩
  · have hjl : j < vs.length := by
      have := (List.getElem?_eq_some_iff.1 hj).1
      rwa [List.length_set] at this
    by_cases hji : j = i
    · subst hji
      rw [List.getElem?_set_self hjl] at hj
      rw [World.cell?_setCell_same _ _ _ (hc j _ (List.getElem?_eq_getElem hjl))]
      exact hj
    · rw [List.getElem?_set_ne (by omega)] at hj
      rw [World.cell?_setCell_other w _ _ _ (by simp only [ne_eq, Addr.mk.injEq, true_and, and_true]; omega)]
      exact hc j u hj
  · simp only [Option.some.injEq, Addr.mk.injEq, and_true] at e
    obtain ⟨rfl, rfl⟩ := e
    rw [World.frozen?_setCell]
    exact h.2 b off hn rfl j hj

end Fo
end Go.Proofs.Ytjfonmaandnbhab
