/-
  Contracts of the model's MixTake and MixEpoch.
-/
import Derived.Test.YtljfhddgifacnaaSp6b
namespace Go.Proofs.Ytljfhddgifacnaa
open Go.RowKit
namespace Sp6
open Il Gm Mm Tm Lm Pm Pq Hlp5 Sl Mm6 Sp2

/-- What a valid mix's sizes are. -/
theorem mix_sizes {x : Mx} (h : mixOk x = true) : x.seen.length ≤ 12 ∧ x.pool.length ≤ 5 ∧ ∀ p ∈ x.pool, p.pk.hd.length = 9 ∧ p.pk.bd.length = 6 := by
  obtain ⟨h1, h2, h3, h4, h5⟩ := mixOk_iff.1 h
  refine ⟨h3, h5, fun p hp => ?_⟩
  unfold poolOk at h4
  rw [List.all_eq_true] at h4
  obtain ⟨q1, q2, q3⟩ := pldOk_iff.1 (h4 p hp)
  obtain ⟨r1, r2, r3, r4, r5, r6⟩ := pktOk_iff.1 q3
  exact ⟨r3, r6⟩
/-- The mix that is returned is handed on, by way of a block. -/
theorem mixB_on {lo hi b : Nat} {w wF : World} {A B : Option Addr} {c d : Nat} {y : Mx} (hm : MixR lo hi wF A y.seen.length c B y.pool.length d y) (hlo : w.heap.size ≤ lo) (hhi : hi ≤ wF.heap.size) (hb : b < lo) (hwb : w.heap.size ≤ b) (hbw : Below w.heap.size w wF) (v v0 v1 v2 : Value) :
    MixB y v w (.returned (.tuple #[.agg #[.int .i64 y.sec, .slice A y.seen.length c, .slice B y.pool.length d], v])) (((wF.setCell ⟨b, 0, none⟩ v0).setCell ⟨b, 1, none⟩ v1).setCell ⟨b, 2, none⟩ v2) := by
  have hs : (((wF.setCell ⟨b, 0, none⟩ v0).setCell ⟨b, 1, none⟩ v1).setCell ⟨b, 2, none⟩ v2).heap.size = wF.heap.size := by simp [World.setCell]
  have hk : ∀ x, lo ≤ x → x < hi → x < wF.heap.size → (((wF.setCell ⟨b, 0, none⟩ v0).setCell ⟨b, 1, none⟩ v1).setCell ⟨b, 2, none⟩ v2).heap[x]? = wF.heap[x]? := fun x q1 _ _ => farb3 (by omega) _ _ _
  exact ⟨A, c, B, d, rfl, ⟨(hm.1.keep (Nat.le_of_eq hs.symm) hk).mono hlo (by omega), (hm.2.keep (Nat.le_of_eq hs.symm) hk).mono hlo (by omega)⟩, ((hbw.setCell hwb _).setCell hwb _).setCell hwb _⟩



end Sp6
end Go.Proofs.Ytljfhddgifacnaa
