/-
  Contracts of the program's MixTake and MixEpoch.
-/
import Derived.Test.YtbdjclfkajlmdacIm6b
import Derived.Deep.Cut
namespace Go.Proofs.Ytbdjclfkajlmdac
open Go.RowKit
namespace Im6
open Il Gm Mm Tm Lm Pm Pq Hlp5 Sl Mm6 Im2 Im5
open Sp6 (three_cells MixB mix_zero lacksTo newM mix_no)

theorem mixP_fin {lo mid hi b : Nat} {w wF : World} {A B : Option Addr} {c d : Nat} {y : Mx} (hm : MixG lo mid hi wF (.slice A y.seen.length c) (.slice B y.pool.length d) y) (hhi : hi ≤ wF.heap.size) (hb : b < lo) (hwb : w.heap.size ≤ b) (hbw : Below w.heap.size w wF) (v v0 v1 v2 : Value) :
    MixP y v w (.returned (.tuple #[.agg #[.int .i64 y.sec, .slice A y.seen.length c, .slice B y.pool.length d], v])) (((wF.setCell ⟨b, 0, none⟩ v0).setCell ⟨b, 1, none⟩ v1).setCell ⟨b, 2, none⟩ v2) := by
  obtain ⟨G, h1, h2⟩ := mixG_fin hm hb v0 v1 v2
  have hs : (((wF.setCell ⟨b, 0, none⟩ v0).setCell ⟨b, 1, none⟩ v1).setCell ⟨b, 2, none⟩ v2).heap.size = wF.heap.size := by simp [World.setCell]
  exact ⟨A, c, B, d, G, rfl, h1, fun f hf x hx => by have := h2 f hf x hx; omega, ((hbw.setCell hwb _).setCell hwb _).setCell hwb _⟩


theorem mixO_noSeen {w : World} {A B : Option Addr} {c d m : Nat} {s : Int} {ps : List Pld} {G : List (List Nat)} (hc : c ≤ maxLen) (hp : PoolO w B m d ps G) : MixO w A 0 c B m d ⟨s, [], ps⟩ ([] :: G) :=
  ⟨0, G, Own.nil_ hc, hp, rfl, foot_cons hp.foot (by simp) fun g _ x h => by simp at h⟩

end Im6
end Go.Proofs.Ytbdjclfkajlmdac
