/-
  Contracts of the functions that draw packets out of a code: a packet on its way, what peeling is tried at.
-/
import Derived.Test.YtljfhddgifacnaaDr5p
import Derived.Test.YtljfhddgifacnaaGrp
import Derived.Test.YtljfhddgifacnaaPo2
namespace Go.Proofs.Ytljfhddgifacnaa
open Go.RowKit
namespace Rd
open Il Pm Pq Hlp5

theorem make_len (x r : Int) (ps ns ls : List Int) : (makeF x ps ns r ls).hd.length ≤ 9 ∧ (makeF x ps ns r ls).bd.length ≤ 6 := by
  cases h : makeOk x ps ns r ls
  · rw [makeF_no h]
    exact ⟨Nat.zero_le _, Nat.zero_le _⟩
  · obtain ⟨_, _, h3, _, _, h6⟩ := pktOk_iff.1 (Po.make_valid h).1
    omega

/-- A packet, which is right if the secret is. -/
def GoodPost (sec : Int) (K rb N : Nat) (w : World) (e : Ending) (w' : World) : Prop :=
  ∃ (p : Pkt) (A : Option Addr) (c : Nat) (B : Option Addr) (d : Nat), e = .returned (.agg #[.int .i64 p.el, .slice A p.hd.length c, .int .i64 p.tag, .slice B p.bd.length d]) ∧ Ints w.heap.size w'.heap.size w' A p.hd.length c p.hd ∧ Ints w.heap.size w'.heap.size w' B p.bd.length d p.bd ∧ p.hd.length ≤ K ∧ p.bd.length ≤ K ∧ Reader w' rb N ∧ w.grownBy w' (some rb) ∧ (Gm.inG sec = true → pktOk p = true)
theorem good_end {sec : Int} {K rb N b n c m d l1 h1 l2 h2 : Nat} {w w' : World} {A B : Option Addr} {el tag : Int} {hd bd : List Int} (hv : Gm.inG sec = true → pktOk ⟨el, hd, tag, bd⟩ = true) (u0 u1 u2 u3 : Value) (i1 : Ints l1 h1 w' A n c hd) (i2 : Ints l2 h2 w' B m d bd) (hn : n ≤ K) (hm : m ≤ K) (e1 : w.heap.size ≤ l1) (e2 : w.heap.size ≤ l2) (f1 : h1 ≤ b ∨ b < l1) (f2 : h2 ≤ b ∨ b < l2) (hb : w.heap.size ≤ b) (hrb : rb < w.heap.size) (hr : Reader w' rb N) (hg : w.grownBy w' (some rb)) :
    GoodPost sec K rb N w (.returned (.agg #[.int .i64 el, .slice A n c, .int .i64 tag, .slice B m d])) ((((w'.setCell ⟨b, 0, none⟩ u0).setCell ⟨b, 1, none⟩ u1).setCell ⟨b, 2, none⟩ u2).setCell ⟨b, 3, none⟩ u3) := by
  have hbel := below_set4 (B := b) (Below.refl b w') (Nat.le_refl _) u0 u1 u2 u3
  have hfar : ∀ i, i ≠ b → ((((w'.setCell ⟨b, 0, none⟩ u0).setCell ⟨b, 1, none⟩ u1).setCell ⟨b, 2, none⟩ u2).setCell ⟨b, 3, none⟩ u3).heap[i]? = w'.heap[i]? := fun i hi =>
    (Below.heap_setCell _ _ _ _ hi).trans ((Below.heap_setCell _ _ _ _ hi).trans ((Below.heap_setCell _ _ _ _ hi).trans (Below.heap_setCell _ _ _ _ hi)))
  have k1 := i1.keep hbel.size (fun i q1 q2 _ => hfar i (by omega))
  have k2 := i2.keep hbel.size (fun i q1 q2 _ => hfar i (by omega))
  have g1 := k1.1
  have g2 := k2.1
  subst g1
  subst g2
  refine ⟨⟨el, hd, tag, bd⟩, A, c, B, d, rfl, (ints_top k1).mono e1 (Nat.le_refl _), (ints_top k2).mono e2 (Nat.le_refl _), hn, hm, hr.keep (fun i hi => hfar i (by omega)), ?_, hv⟩
  exact ⟨hbel.os.trans hg.os, hbel.tape.trans hg.tape, hbel.output.trans hg.output, Nat.le_trans hg.size hbel.size, fun i hi hne => (hfar i (by omega)).trans (hg.block i hi hne)⟩
/-- What was drawn makes a packet. -/
theorem draw_ok {x r : Int} {ps ns ls : List Int} {k j : Nat} (hx : Gm.inG x = true) (hp : ∀ p ∈ ps, Gm.inG p = true) (hpl : ps.length = k) (hnl : ns.length = k) (h1 : 1 ≤ k) (h3 : k ≤ 3) (hn : ∀ z ∈ ns, inName z = true) (hr : inName r = true) (hl : ∀ y ∈ ls, 0 ≤ y ∧ y ≤ 99) (hll : ls.length = j) (hj : j ≤ 4) : makeOk x ps ns r ls = true := by
  refine makeOk_iff.2 ⟨Lm.packOk_iff.2 ⟨Mm.okL_iff.2 ⟨fun y hy => by have := hl y hy; omega, by omega⟩, by omega⟩, hx, ?_, by omega, ?_, hr⟩
  · unfold pubsOk
    rw [List.all_eq_true.2 hp, Bool.true_and, hpl]
    exact decide_eq_true ⟨h1, h3⟩
  · exact hn


end Rd
end Go.Proofs.Ytljfhddgifacnaa
